/- Own facts, put together: no statement of its own. -/
import Derived.Below
import Derived.Test.YtbokomeejmnnoaaDoorRows
import Derived.WalkKit
import Derived.WalkSpells
import Derived.WalkLawsBesides
import Derived.BigQuiet

namespace Go.Proofs.YtbokomeejmnnoaaDoor
open Go.RowKit
structure But (S:Nat → Prop) (w w':World):Prop where
 os:w'.os=w.os
 tape:w'.tape=w.tape
 output:w'.output=w.output
 size:w.heap.size ≤ w'.heap.size
 block:∀ k,k < w.heap.size → ¬ S k → w'.heap[k]? = w.heap[k]?
theorem But.refl (S:Nat → Prop) (w:World):But S w w:=⟨rfl,rfl,rfl,Nat.le_refl _,fun _ _ _=>rfl⟩
theorem But.trans {S:Nat → Prop} {a b c:World} (h:But S a b) (k:But S b c):But S a c:=
 ⟨k.os.trans h.os,k.tape.trans h.tape,k.output.trans h.output,Nat.le_trans h.size k.size,fun i hi hs=>(k.block i (Nat.lt_of_lt_of_le hi h.size) hs).trans (h.block i hi hs)⟩
theorem But.mono {S S':Nat → Prop} {w w':World} (h:But S w w') (hS:∀ k,S k → S' k):But S' w w':=⟨h.os,h.tape,h.output,h.size,fun k hk hs=>h.block k hk fun h'=>hs (hS k h')⟩
theorem But.ofBelow {S:Nat → Prop} {w w':World} (h:Below w.heap.size w w'):But S w w':=⟨h.os,h.tape,h.output,h.size,fun k hk _=>h.block k hk⟩
theorem But.below {S:Nat → Prop} {B:Nat} {w w':World} (h:But S w w') (hB:B ≤ w.heap.size) (hS:∀ k,S k → B ≤ k):Below B w w':=
 ⟨h.os,h.tape,h.output,h.size,fun k hk=>h.block k (Nat.lt_of_lt_of_le hk hB) fun h'=>by have:=hS k h';omega⟩
theorem But.alloc {S:Nat → Prop} {a w:World} (h:But S a w) (o:Obj):But S a (w.alloc o):=h.trans (.ofBelow ((Below.refl _ _).alloc (Nat.le_refl _) o))
theorem But.setCell {S:Nat → Prop} {a w:World} (h:But S a w) {p:Addr} (hp:S p.block) (u:Value):But S a (w.setCell p u):=
 h.trans ⟨rfl,rfl,rfl,by simp [World.setCell],fun k _ hs=>Below.heap_setCell _ _ _ _ fun e=>hs (by rw [e];exact hp)⟩
theorem But.cell {S:Nat → Prop} {w w':World} (h:But S w w') {p:Addr} (hp:p.block < w.heap.size) (hs:¬ S p.block):w'.cell? p=w.cell? p:=World.cell?_of_block (w:=w) (h.block p.block hp hs)
theorem But.frozen {S:Nat → Prop} {w w':World} (h:But S w w') {p:Addr} (hp:p.block < w.heap.size) (hs:¬ S p.block):w'.frozen? p=w.frozen? p:=World.frozen?_of_block (w:=w) (h.block p.block hp hs)
end Go.Proofs.YtbokomeejmnnoaaDoor

namespace Go.Proofs.YtbokomeejmnnoaaDoor
theorem cell_lt {w:World} {a:Addr} {v:Value} (h:w.cell? a=some v):a.block < w.heap.size:=by
 rcases Nat.lt_or_ge a.block w.heap.size with h' | h'
 · exact h'
 · simp [World.cell?,Array.getElem?_eq_none h'] at h
end Go.Proofs.YtbokomeejmnnoaaDoor

namespace Go.Proofs.YtbokomeejmnnoaaDoor
open Go.RowKit
theorem get_some {α:Type} (l:List α) (k:Nat) (h:k < l.length):∃ p,l[k]? = some p ∧ p ∈ l:=⟨l[k],by simp [h],List.getElem_mem h⟩
theorem ownsRow_mono {w:World} {base base':Nat} {e:TypeId} {size:Nat} {v:Value} {n:Nat} {xs:List Value} (h:w.ownsRow base e size v n xs) (hb:base' ≤ base):w.ownsRow base' e size v n xs:=by
 obtain ⟨h1,h2 | ⟨g,cap,cur,hv,hB,r⟩⟩:=h
 · exact ⟨h1,.inl h2⟩
 · exact ⟨h1,.inr ⟨g,cap,cur,hv,Nat.le_trans hb hB,r⟩⟩
theorem But.one {g:Nat} {B:Nat} {w w':World} (h:But (fun k=>k=g) w w') (hB:B ≤ w.heap.size) (hg:B ≤ g):Below B w w':=h.below hB (fun k hk=>by rw [hk];exact hg)
structure ErrsBO (w:World) (ad:Nat → Addr):Prop where
 c1:w.cell? ⟨2,0,none⟩=some (.iface 139 (.pointer (some (ad 1))))
 c4:w.cell? ⟨4,0,none⟩=some (.iface 139 (.pointer (some (ad 4))))
theorem ErrsBO.below {w w':World} {ad:Nat → Addr} (h:ErrsBO w ad) (hb:Below w.heap.size w w'):ErrsBO w' ad:=
 ⟨cell_later hb h.c1,cell_later hb h.c4⟩
def secondC:Code → Code
 | .seq _ b=>b
 | _=>.skip
def firstC:Code → Code
 | .seq a _=>a
 | _=>.skip
def innerC:Code → Code
 | .block _ c=>c
 | .loop c=>c
 | _=>.skip
def opsC:Code → Array Oper
 | .region _ ops _=>ops
 | _=>#[]
def bodyC (f:Func):Code:=f.body.getD .skip
def okLine (x y:Int):Bool:=decide (1 ≤ x ∧ x ≤ 20000 ∧ 0 ≤ y ∧ y ≤ 100000)
theorem okLine_true {x y:Int} (h:okLine x y=true):1 ≤ x ∧ x ≤ 20000 ∧ 0 ≤ y ∧ y ≤ 100000:=of_decide_eq_true h
def lineAt (t x y:Int):Int:=x+y * t / 1000
def leastAt (t:Int):Int → List (Int × Int) → Int
 | m,[]=>m
 | m,p :: r=>leastAt t (min m (lineAt t p.1 p.2)) r
def curveAt (t:Int):List (Int × Int) → Int
 | []=>0
 | p :: r=>leastAt t (lineAt t p.1 p.2) r
def okAll (ls:List (Int × Int)):Prop:=∀ p,p ∈ ls → okLine p.1 p.2=true
def okCurve (ls:List (Int × Int)):Prop:=1 ≤ ls.length ∧ ls.length ≤ 6 ∧ okAll ls
theorem min_if (a b:Int):(if b < a then b else a)=min a b:=by split <;> omega
theorem mul_bd {y t:Int} (h0:0 ≤ y) (h1:y ≤ 100000) (t0:0 ≤ t) (t1:t ≤ 1099511627776):0 ≤ y * t ∧ y * t ≤ 109951162777600000:=by
 refine ⟨Int.mul_nonneg h0 t0,?_⟩
 have a:y * t ≤ 100000 * t:=Int.mul_le_mul_of_nonneg_right h1 t0
 omega
end Go.Proofs.YtbokomeejmnnoaaDoor

namespace Go.Proofs.YtbokomeejmnnoaaDoor
theorem leastAt_le (t:Int) (l:List (Int × Int)):∀ m:Int,leastAt t m l ≤ m ∧ ∀ p,p ∈ l → leastAt t m l ≤ lineAt t p.1 p.2:=by
 induction l with
 | nil=>intro m;exact ⟨Int.le_refl _,fun p hp=>by cases hp⟩
 | cons q r ih=>
  intro m
  have:=ih (min m (lineAt t q.1 q.2))
  refine ⟨?_,fun p hp=>?_⟩
  ·
   show leastAt t (min m (lineAt t q.1 q.2)) r ≤ m
   have:=this.1;omega
  ·
   show leastAt t (min m (lineAt t q.1 q.2)) r ≤ _
   rcases List.mem_cons.1 hp with rfl | hp
   · have:=this.1;omega
   · exact this.2 p hp
theorem leastAt_is (t:Int) (l:List (Int × Int)):∀ m:Int,leastAt t m l=m ∨ ∃ p,p ∈ l ∧ leastAt t m l=lineAt t p.1 p.2:=by
 induction l with
 | nil=>intro m;exact .inl rfl
 | cons q r ih=>
  intro m
  show leastAt t (min m (lineAt t q.1 q.2)) r=m ∨ ∃ p,p ∈ q :: r ∧ leastAt t (min m (lineAt t q.1 q.2)) r=lineAt t p.1 p.2
  rcases ih (min m (lineAt t q.1 q.2)) with h | ⟨p,hp,h⟩
  ·
   rw [h]
   by_cases hm:m ≤ lineAt t q.1 q.2
   · exact .inl (by omega)
   · exact .inr ⟨q,List.mem_cons_self ..,by omega⟩
  · exact .inr ⟨p,List.mem_cons_of_mem _ hp,h⟩
theorem curveAt_le (t:Int) (ls:List (Int × Int)) (p:Int × Int) (hp:p ∈ ls):curveAt t ls ≤ lineAt t p.1 p.2:=by
 cases ls with
 | nil=>cases hp
 | cons q r=>
  have:=leastAt_le t r (lineAt t q.1 q.2)
  rcases List.mem_cons.1 hp with rfl | hp
  · exact this.1
  · exact this.2 p hp
theorem curveAt_is (t:Int) (ls:List (Int × Int)) (h:1 ≤ ls.length):∃ p,p ∈ ls ∧ curveAt t ls=lineAt t p.1 p.2:=by
 cases ls with
 | nil=>simp at h
 | cons q r=>
  rcases leastAt_is t r (lineAt t q.1 q.2) with h | ⟨p,hp,h⟩
  · exact ⟨q,List.mem_cons_self ..,h⟩
  · exact ⟨p,List.mem_cons_of_mem _ hp,h⟩
structure Bk where
 most:Int
 rate:Int
 has:Int
 last:Int
structure Bk.Ok (b:Bk):Prop where
 m0:1000 ≤ b.most
 m1:b.most ≤ 20000000
 r0:0 ≤ b.rate
 r1:b.rate ≤ 100000
 h0:0 ≤ b.has
 h1:b.has ≤ b.most
 l0:0 ≤ b.last
 l1:b.last ≤ 1099511627776
def Bk.lev (b:Bk) (t:Int):Int:=min b.most (b.has+b.rate * (t - b.last))
def Bk.take (b:Bk) (t n:Int):Bk:=if n * 1000 ≤ b.lev t then ⟨b.most,b.rate,b.lev t - n * 1000,t⟩ else ⟨b.most,b.rate,b.lev t,t⟩
def Bk.when (b:Bk) (t n:Int):Option Int:=
 if n * 1000 ≤ b.lev t then some t
 else if b.most < n * 1000 ∨ b.rate=0 then none
 else if 1099511627776 - t < (n * 1000 - b.lev t+b.rate - 1) / b.rate then none
 else some (t+(n * 1000 - b.lev t+b.rate - 1) / b.rate)
def bkOf (p:Int × Int):Bk:=⟨p.1 * 1000,p.2,p.1 * 1000,0⟩
theorem bkOf_ok {p:Int × Int} (h:okLine p.1 p.2=true):(bkOf p).Ok:=by
 obtain ⟨a,b,c,d⟩:=okLine_true h
 constructor <;> simp [bkOf] <;> omega
theorem mul_split (r a b c:Int):r * (a - c)=r * (b - c)+r * (a - b):=by
 simp only [Int.mul_sub];omega
theorem Bk.Ok.grow {b:Bk} (h:b.Ok) {t:Int} (ht:b.last ≤ t) (t1:t ≤ 1099511627776):0 ≤ b.rate * (t - b.last) ∧ b.rate * (t - b.last) ≤ 109951162777600000:=
 mul_bd h.r0 h.r1 (by omega) (by have:=h.l0;omega)
theorem Bk.Ok.lev_bd {b:Bk} (h:b.Ok) {t:Int} (ht:b.last ≤ t):0 ≤ b.lev t ∧ b.lev t ≤ b.most:=by
 have:=Int.mul_nonneg h.r0 (show 0 ≤ t - b.last by omega)
 have:=h.h0;have:=h.h1;have:=h.m0
 unfold Bk.lev;omega
theorem Bk.lev_mono {b:Bk} (h:0 ≤ b.rate) {s t:Int} (hs:s ≤ t):b.lev s ≤ b.lev t:=by
 have:=mul_split b.rate t s b.last
 have:=Int.mul_nonneg h (show 0 ≤ t - s by omega)
 unfold Bk.lev;omega
theorem Bk.Ok.take {b:Bk} (h:b.Ok) {t n:Int} (ht:b.last ≤ t) (t1:t ≤ 1099511627776) (hn:0 ≤ n):(b.take t n).Ok:=by
 have:=h.lev_bd ht
 have:=h.l0
 unfold Bk.take
 split <;> exact ⟨h.m0,h.m1,h.r0,h.r1,by simp;omega,by simp;omega,by simp;omega,by simp;omega⟩
theorem Bk.take_last (b:Bk) (t n:Int):(b.take t n).last=t:=by unfold Bk.take;split <;> rfl
theorem div_up {r x:Int} (hr:0 < r):x ≤ r * ((x+r - 1) / r) ∧ r * ((x+r - 1) / r) < x+r:=by
 have h1:=Int.mul_ediv_add_emod (x+r - 1) r
 have h2:=Int.emod_nonneg (x+r - 1) (show r ≠ 0 by omega)
 have h3:=Int.emod_lt_of_pos (x+r - 1) hr
 omega
theorem Bk.when_some {b:Bk} (h:b.Ok) {t n T:Int} (t1:t ≤ 1099511627776) (e:b.when t n=some T) :
  t ≤ T ∧ T ≤ 1099511627776 ∧ n * 1000 ≤ b.lev T ∧ ∀ s,t ≤ s → s < T → b.lev s < n * 1000:=by
 unfold Bk.when at e
 split at e
 ·
  rename_i h1
  cases e
  exact ⟨Int.le_refl _,t1,h1,fun s h2 h3=>by omega⟩
 ·
  rename_i h1
  split at e
  · cases e
  ·
   rename_i h2
   split at e
   · cases e
   ·
    rename_i h3
    have hr:0 < b.rate:=by have:=h.r0;omega
    have hd:=div_up (r:=b.rate) (x:=n * 1000 - b.lev t) hr
    have hm:¬ b.most < n * 1000:=fun h=>h2 (.inl h)
    generalize hk:(n * 1000 - b.lev t+b.rate - 1) / b.rate=k at e h3 hd
    cases e
    have hk0:0 < k:=by
     by_cases h0:0 < k
     · exact h0
     ·
      have:=Int.mul_le_mul_of_nonneg_left (show k ≤ 0 by omega) h.r0
      simp at this;omega
    have hlt:b.lev t=b.has+b.rate * (t - b.last):=by unfold Bk.lev at h1 ⊢;omega
    have hT:=mul_split b.rate (t+k) t b.last
    rw [show t+k - t=k by omega] at hT
    refine ⟨by omega,by omega,?_,fun s h4 h5=>?_⟩
    · unfold Bk.lev;omega
    ·
     have hS:=mul_split b.rate s t b.last
     have h6:b.rate * (s - t) ≤ b.rate * (k - 1):=Int.mul_le_mul_of_nonneg_left (by omega) h.r0
     have h7:b.rate * (k - 1)=b.rate * k - b.rate:=by simp [Int.mul_sub]
     unfold Bk.lev;omega
structure Pk where
 flow:Int
 size:Int
 tick:Int
def okPk (p:Pk):Bool:=decide (0 ≤ p.flow ∧ p.flow < 8 ∧ 1 ≤ p.size ∧ p.size ≤ 1500 ∧ 0 ≤ p.tick ∧ p.tick ≤ 1099511627776)
theorem okPk_true {p:Pk} (h:okPk p=true):0 ≤ p.flow ∧ p.flow < 8 ∧ 1 ≤ p.size ∧ p.size ≤ 1500 ∧ 0 ≤ p.tick ∧ p.tick ≤ 1099511627776:=of_decide_eq_true h
theorem okPk_mk {p:Pk} (h:0 ≤ p.flow ∧ p.flow < 8 ∧ 1 ≤ p.size ∧ p.size ≤ 1500 ∧ 0 ≤ p.tick ∧ p.tick ≤ 1099511627776):okPk p=true:=decide_eq_true h
def ahead (ps:List Pk):Nat → Int
 | 0=>0
 | i+1=>match ps[i]? with | some p=>p.tick | none=>0
structure OkPks (ps:List Pk):Prop where
 few:ps.length ≤ 300
 each:∀ i p,ps[i]? = some p → okPk p=true ∧ ahead ps i ≤ p.tick
theorem okPks_none:OkPks []:=⟨by simp,fun i p h=>by simp at h⟩
def total:List Pk → Int
 | []=>0
 | p :: r=>p.size+total r
theorem total_snoc (ps:List Pk) (p:Pk):total (ps ++ [p])=total ps+p.size:=by
 induction ps with
 | nil=>simp [total]
 | cons q r ih=>simp [total,ih];omega
def ends:List Pk → List (Int × Int)
 | []=>[]
 | p :: r=>(p.tick,total (p :: r)) :: ends r
theorem ends_snoc (ps:List Pk) (p:Pk) (a s:Int):(a,s) ∈ ends (ps ++ [p]) ↔ (a,s - p.size) ∈ ends ps ∨ (a=p.tick ∧ s=p.size):=by
 induction ps with
 | nil=>simp [ends,total]
 | cons q r ih=>
  show (a,s) ∈ (q.tick,total (q :: (r ++ [p]))) :: ends (r ++ [p]) ↔ (a,s - p.size) ∈ (q.tick,total (q :: r)) :: ends r ∨ _
  have ht:total (q :: (r ++ [p]))=total (q :: r)+p.size:=total_snoc (q :: r) p
  simp only [List.mem_cons,Prod.mk.injEq,ht,ih]
  constructor
  ·
   rintro (⟨h1,h2⟩ | h | h)
   · exact .inl (.inl ⟨h1,by omega⟩)
   · exact .inl (.inr h)
   · exact .inr h
  ·
   rintro ((⟨h1,h2⟩ | h) | h)
   · exact .inl ⟨h1,by omega⟩
   · exact .inr (.inl h)
   · exact .inr (.inr h)
def lastFits (ls:List (Int × Int)) (ps:List Pk) (p:Pk):Prop:=∀ a s,(a,s) ∈ ends (ps ++ [p]) → s ≤ curveAt (p.tick - a) ls
def startB (ls:List (Int × Int)) (a c:Int):List Pk → Bool
 | []=>true
 | p :: r=>decide (c+p.size ≤ curveAt (p.tick - a) ls) && startB ls a (c+p.size) r
def fitsB (ls:List (Int × Int)):List Pk → Bool
 | []=>true
 | p :: r=>startB ls p.tick 0 (p :: r) && fitsB ls r
theorem startB_snoc (ls:List (Int × Int)) (a:Int) (ps:List Pk) (p:Pk):∀ c,startB ls a c (ps ++ [p])=true ↔ startB ls a c ps=true ∧ c+total (ps ++ [p]) ≤ curveAt (p.tick - a) ls:=by
 induction ps with
 | nil=>intro c;simp [startB,total]
 | cons q r ih=>
  intro c
  have ht:total (q :: r ++ [p])=q.size+total (r ++ [p]):=rfl
  simp only [List.cons_append,startB,Bool.and_eq_true,ih] at *
  rw [ht,Int.add_assoc,and_assoc]
theorem fitsB_snoc (ls:List (Int × Int)) (ps:List Pk) (p:Pk):fitsB ls (ps ++ [p])=true ↔ fitsB ls ps=true ∧ lastFits ls ps p:=by
 induction ps with
 | nil=>simp [fitsB,startB,lastFits,ends,total]
 | cons q r ih=>
  have h1:=startB_snoc ls q.tick (q :: r) p 0
  simp only [List.cons_append] at h1
  simp only [List.cons_append,fitsB,Bool.and_eq_true,h1,ih]
  have h2:lastFits ls (q :: r) p ↔ 0+total (q :: (r ++ [p])) ≤ curveAt (p.tick - q.tick) ls ∧ lastFits ls r p:=by
   show (∀ a s,(a,s) ∈ (q.tick,total (q :: (r ++ [p]))) :: ends (r ++ [p]) → _) ↔ _
   simp only [List.mem_cons,Prod.mk.injEq,Int.zero_add]
   constructor
   ·
    intro h
    exact ⟨h _ _ (.inl ⟨rfl,rfl⟩),fun a s hm=>h a s (.inr hm)⟩
   ·
    rintro ⟨h,h'⟩ a s (⟨rfl,rfl⟩ | hm)
    · exact h
    · exact h' a s hm
  rw [h2]
  exact ⟨fun ⟨⟨a,b⟩,c,d⟩=>⟨⟨a,c⟩,b,d⟩,fun ⟨⟨a,c⟩,b,d⟩=>⟨⟨a,b⟩,c,d⟩⟩
theorem le_curveAt (t s:Int) (ls:List (Int × Int)) (h:1 ≤ ls.length):s ≤ curveAt t ls ↔ ∀ p,p ∈ ls → s ≤ lineAt t p.1 p.2:=by
 constructor
 ·
  intro hs p hp
  have:=curveAt_le t ls p hp
  omega
 ·
  intro hs
  obtain ⟨p,hp,e⟩:=curveAt_is t ls h
  rw [e]
  exact hs p hp
theorem lastFits_lines (ls:List (Int × Int)) (h:1 ≤ ls.length) (ps:List Pk) (p:Pk):lastFits ls ps p ↔ ∀ q,q ∈ ls → lastFits [q] ps p:=by
 have h1:∀ q:Int × Int,∀ t s,s ≤ curveAt t [q] ↔ s ≤ lineAt t q.1 q.2:=fun q t s=>by simp [curveAt,leastAt]
 simp only [lastFits,le_curveAt _ _ ls h,h1]
 exact ⟨fun H q hq a s hm=>H a s hm q hq,fun H a s hm q hq=>H q hq a s hm⟩
structure Passed (q:Int × Int) (ps:List Pk) (b:Bk):Prop where
 most:b.most=q.1 * 1000
 rate:b.rate=q.2
 lev:∀ t v,b.last ≤ t → (v ≤ b.lev t ↔ v ≤ q.1 * 1000 ∧ ∀ a s,(a,s) ∈ ends ps → v+s * 1000 ≤ q.1 * 1000+q.2 * (t - a))
theorem passed_none (q:Int × Int) (h:0 ≤ q.2):Passed q [] (bkOf q):=by
 refine ⟨rfl,rfl,fun t v ht=>?_⟩
 have:=Int.mul_nonneg h (show 0 ≤ t - 0 by simpa [bkOf] using ht)
 simp only [Bk.lev,bkOf,ends] at *
 constructor
 · intro hv;exact ⟨by omega,fun a s hm=>by cases hm⟩
 · intro hv;omega
theorem Passed.fits {q:Int × Int} {ps:List Pk} {b:Bk} (h:Passed q ps b) (p:Pk) (hp:b.last ≤ p.tick):p.size * 1000 ≤ b.lev p.tick ↔ lastFits [q] ps p:=by
 rw [h.lev _ _ hp]
 have h1:∀ t s,s ≤ curveAt t [q] ↔ s * 1000 ≤ q.1 * 1000+q.2 * t:=fun t s=>by simp [curveAt,leastAt,lineAt];omega
 simp only [lastFits,h1,ends_snoc]
 constructor
 ·
  rintro ⟨h2,h3⟩ a s (hm | ⟨rfl,rfl⟩)
  · have:=h3 a _ hm;omega
  · simp;omega
 ·
  intro H
  refine ⟨by have:=H p.tick p.size (.inr ⟨rfl,rfl⟩);simp at this;omega,fun a s hm=>?_⟩
  have:=H a (s+p.size) (.inl (by simpa using hm))
  omega
theorem Passed.pass {q:Int × Int} {ps:List Pk} {b:Bk} (h:Passed q ps b) (r0:0 ≤ b.rate) (p:Pk) (ht:b.last ≤ p.tick) (hn:p.size * 1000 ≤ b.lev p.tick):Passed q (ps ++ [p]) (b.take p.tick p.size):=by
 have e:b.take p.tick p.size=⟨b.most,b.rate,b.lev p.tick - p.size * 1000,p.tick⟩:=by unfold Bk.take;rw [if_pos hn]
 refine ⟨by rw [e];exact h.most,by rw [e];exact h.rate,fun s v hs=>?_⟩
 rw [e] at hs ⊢
 simp only at hs
 have h2:=Int.mul_nonneg r0 (show 0 ≤ s - p.tick by omega)
 have hl:=h.lev p.tick (v+p.size * 1000 - b.rate * (s - p.tick)) ht
 have hm:=h.most
 have hr:=h.rate
 have key:v ≤ (Bk.mk b.most b.rate (b.lev p.tick - p.size * 1000) p.tick).lev s ↔ v ≤ b.most ∧ v+p.size * 1000 - b.rate * (s - p.tick) ≤ b.lev p.tick:=by simp only [Bk.lev];omega
 rw [key,hl,hm,hr]
 simp only [ends_snoc]
 constructor
 ·
  rintro ⟨h3,h4,h5⟩
  refine ⟨h3,fun a z hz=>?_⟩
  rcases hz with hz | ⟨rfl,rfl⟩
  ·
   have:=h5 a _ hz
   have:=mul_split q.2 s p.tick a
   omega
  · omega
 ·
  rintro ⟨h3,h4⟩
  refine ⟨h3,?_,fun a z hz=>?_⟩
  · have:=h4 p.tick p.size (.inr ⟨rfl,rfl⟩);omega
  ·
   have:=h4 a (z+p.size) (.inl (by simpa using hz))
   have:=mul_split q.2 s p.tick a
   omega
structure Sn where
 num:Int
 beg:Int
 fin:Int
structure Que (σ:Type) where
 come:σ → Nat → σ
 pick:σ → Nat
 left:σ → σ
 rest:σ → Nat
 idle:σ → σ:=fun q=>q
structure St (σ:Type) where
 out:List Sn
 now:Int
 next:Nat
 q:σ
structure Steps {σ:Type} (Q:Que σ) (per:Int) (ps:List Pk) (q0:σ) (C:St σ → Prop):Prop where
 start:C ⟨[],0,0,q0⟩
 come:∀ s p,C s → ps[s.next]? = some p → p.tick ≤ s.now → C ⟨s.out,s.now,s.next+1,Q.come s.q s.next⟩
 send:∀ s p,C s → (∀ r,ps[s.next]? = some r → s.now < r.tick) → 0 < Q.rest s.q → ps[Q.pick s.q]? = some p → C ⟨s.out ++ [⟨Q.pick s.q,s.now,s.now+per * p.size⟩],s.now+per * p.size,s.next,Q.left s.q⟩
 idle:∀ s p,C s → ps[s.next]? = some p → s.now < p.tick → Q.rest s.q=0 → C ⟨s.out,p.tick,s.next,Q.idle s.q⟩
def Reaches {σ:Type} (Q:Que σ) (per:Int) (ps:List Pk) (q0:σ) (s:St σ):Prop:=∀ C:St σ → Prop,Steps Q per ps q0 C → C s
section
variable {σ:Type} {Q:Que σ} {per:Int} {ps:List Pk} {q0:σ}
theorem Reaches.start:Reaches Q per ps q0 ⟨[],0,0,q0⟩:=fun _ h=>h.start
theorem Reaches.come (s:St σ) (p:Pk) (hs:Reaches Q per ps q0 s) (h1:ps[s.next]? = some p) (h2:p.tick ≤ s.now):Reaches Q per ps q0 ⟨s.out,s.now,s.next+1,Q.come s.q s.next⟩:=
 fun C h=>h.come s p (hs C h) h1 h2
theorem Reaches.send (s:St σ) (p:Pk) (hs:Reaches Q per ps q0 s) (h1:∀ r,ps[s.next]? = some r → s.now < r.tick) (h2:0 < Q.rest s.q) (h3:ps[Q.pick s.q]? = some p):Reaches Q per ps q0 ⟨s.out ++ [⟨Q.pick s.q,s.now,s.now+per * p.size⟩],s.now+per * p.size,s.next,Q.left s.q⟩:=
 fun C h=>h.send s p (hs C h) h1 h2 h3
theorem Reaches.idle (s:St σ) (p:Pk) (hs:Reaches Q per ps q0 s) (h1:ps[s.next]? = some p) (h2:s.now < p.tick) (h3:Q.rest s.q=0):Reaches Q per ps q0 ⟨s.out,p.tick,s.next,Q.idle s.q⟩:=
 fun C h=>h.idle s p (hs C h) h1 h2 h3
theorem Reaches.by_steps {C:St σ → Prop} {s:St σ} (h:Reaches Q per ps q0 s) (h0:C ⟨[],0,0,q0⟩)
  (h1:∀ s p,Reaches Q per ps q0 s → ps[s.next]? = some p → p.tick ≤ s.now → C s → C ⟨s.out,s.now,s.next+1,Q.come s.q s.next⟩)
  (h2:∀ s p,Reaches Q per ps q0 s → (∀ r,ps[s.next]? = some r → s.now < r.tick) → 0 < Q.rest s.q → ps[Q.pick s.q]? = some p → C s → C ⟨s.out ++ [⟨Q.pick s.q,s.now,s.now+per * p.size⟩],s.now+per * p.size,s.next,Q.left s.q⟩)
  (h3:∀ s p,Reaches Q per ps q0 s → ps[s.next]? = some p → s.now < p.tick → Q.rest s.q=0 → C s → C ⟨s.out,p.tick,s.next,Q.idle s.q⟩):C s:=
 (h (fun s=>Reaches Q per ps q0 s ∧ C s) ⟨⟨.start,h0⟩,fun s p hs a b=>⟨.come s p hs.1 a b,h1 s p hs.1 a b hs.2⟩,fun s p hs a b c=>⟨.send s p hs.1 a b c,h2 s p hs.1 a b c hs.2⟩,fun s p hs a b c=>⟨.idle s p hs.1 a b c,h3 s p hs.1 a b c hs.2⟩⟩).2
end
theorem lt_of_get {α:Type} {l:List α} {k:Nat} {x:α} (h:l[k]? = some x):k < l.length:=by
 rcases Nat.lt_or_ge k l.length with h' | h'
 · exact h'
 · simp [List.getElem?_eq_none h'] at h
section
end
def tickOf (ps:List Pk) (j:Nat):Int:=match ps[j]? with | some p=>p.tick | none=>0
def bytesOf (ps:List Pk) (j:Nat):Int:=match ps[j]? with | some p=>p.size | none=>0
theorem tickOf_get {ps:List Pk} {j:Nat} {p:Pk} (h:ps[j]? = some p):tickOf ps j=p.tick:=by simp [tickOf,h]
theorem bytesOf_get {ps:List Pk} {j:Nat} {p:Pk} (h:ps[j]? = some p):bytesOf ps j=p.size:=by simp [bytesOf,h]
theorem ticks_rise {ps:List Pk} (ho:OkPks ps):∀ (d i:Nat),i+d < ps.length → tickOf ps i ≤ tickOf ps (i+d):=by
 intro d
 induction d with
 | zero=>intro i _;exact Int.le_refl _
 | succ d ih=>
  intro i h
  have h1:=ih i (by omega)
  have e1:ps[i+d]? = some ps[i+d]:=List.getElem?_eq_getElem (by omega)
  have e2:ps[i+d+1]? = some ps[i+d+1]:=List.getElem?_eq_getElem (by omega)
  have h2:=(ho.each (i+d+1) _ e2).2
  simp only [ahead,e1] at h2
  rw [tickOf_get e1] at h1
  rw [show i+(d+1)=i+d+1 by omega,tickOf_get e2]
  omega
theorem ticks_le {ps:List Pk} (ho:OkPks ps) {i k:Nat} (h:i ≤ k) (hk:k < ps.length):tickOf ps i ≤ tickOf ps k:=by
 have:=ticks_rise ho (k - i) i (by omega)
 rwa [show i+(k - i)=k by omega] at this
def Undone (n:Nat) (out:List Sn) (i:Nat):Prop:=i < n ∧ ∀ x ∈ out,x.num ≠ (i:Int)
def lastFin (out:List Sn):Int:=match out.getLast? with | some x=>x.fin | none=>0
theorem lastFin_snoc (out:List Sn) (x:Sn):lastFin (out ++ [x])=x.fin:=by simp [lastFin]
def Tick (ps:List Pk) (out:List Sn) (t:Int):Prop:=
 (t=lastFin out ∧ ∃ i,Undone ps.length out i ∧ tickOf ps i ≤ t) ∨
 ((∀ i,Undone ps.length out i → lastFin out < tickOf ps i) ∧ ∃ i,Undone ps.length out i ∧ t=tickOf ps i ∧ ∀ k,Undone ps.length out k → tickOf ps i ≤ tickOf ps k)
def isDone (out:List Sn) (i:Nat):Bool:=out.any fun x=>x.num == (i:Int)
theorem isDone_snoc (out:List Sn) (b i:Nat) (f t:Int):isDone (out ++ [⟨b,f,t⟩]) i=(isDone out i || b == i):=by
 simp only [isDone,List.any_append,List.any_cons,List.any_nil,Bool.or_false]
 have e:((b:Int) == (i:Int))=(b == i):=by
  by_cases h:b=i
  · subst h;rw [beq_self_eq_true,beq_self_eq_true]
  ·
   have h':(b:Int) ≠ (i:Int):=by omega
   rw [beq_eq_false_iff_ne.2 h',beq_eq_false_iff_ne.2 h]
 rw [e]
section
end
def firstLeast (key:Nat → Int) (q:List Nat):Nat → Nat
 | 0=>0
 | i+1=>if key (q.getD i 0) < key (q.getD (firstLeast key q i) 0) then i else firstLeast key q i
theorem firstLeast_le (key:Nat → Int) (q:List Nat):∀ i,firstLeast key q i ≤ i - 1
 | 0=>Nat.le_refl _
 | i+1=>by
  have:=firstLeast_le key q i
  simp only [firstLeast]
  split <;> omega
theorem firstLeast_lt (key:Nat → Int) {q:List Nat} {i:Nat} (h:0 < q.length) (hi:i ≤ q.length):firstLeast key q i < q.length:=by
 have:=firstLeast_le key q i
 omega
theorem firstLeast_min (key:Nat → Int) (q:List Nat):∀ i j,j < i → key (q.getD (firstLeast key q i) 0) < key (q.getD j 0) ∨ (key (q.getD (firstLeast key q i) 0)=key (q.getD j 0) ∧ firstLeast key q i ≤ j):=by
 intro i
 induction i with
 | zero=>intro j hj;omega
 | succ i ih=>
  intro j hj
  have hle:=firstLeast_le key q i
  simp only [firstLeast]
  by_cases hc:key (q.getD i 0) < key (q.getD (firstLeast key q i) 0)
  ·
   rw [if_pos hc]
   rcases Nat.lt_or_ge j i with h | h
   ·
    have:=ih j h
    omega
   ·
    obtain rfl:j=i:=by omega
    exact .inr ⟨rfl,Nat.le_refl _⟩
  ·
   rw [if_neg hc]
   rcases Nat.lt_or_ge j i with h | h
   · exact ih j h
   ·
    obtain rfl:j=i:=by omega
    omega
def pickAt (key:Nat → Int) (q:List Nat):Nat:=firstLeast key q q.length
theorem getD_lt {α:Type} {l:List α} {j:Nat} {d:α} (h:j < l.length):l.getD j d=l[j]:=by simp [List.getD,List.getElem?_eq_getElem h]
theorem pickAt_lt (key:Nat → Int) {q:List Nat} (h:0 < q.length):pickAt key q < q.length:=firstLeast_lt key h (Nat.le_refl _)
def flowOf (ps:List Pk) (j:Nat):Nat:=match ps[j]? with | some p=>p.flow.toNat | none=>0
theorem flowOf_get {ps:List Pk} {j:Nat} {p:Pk} (h:ps[j]? = some p):flowOf ps j=p.flow.toNat:=by simp [flowOf,h]
section
end
def Conv (per:Int) (ps:List Pk) (l:List Sn):Prop:=∀ (k:Nat) x,l[k]? = some x → ∃ t b,Tick ps (l.take k) t ∧ Undone ps.length (l.take k) b ∧ tickOf ps b ≤ t ∧ x=⟨(b:Nat),t,t+per * bytesOf ps b⟩
section
variable {per:Int} {ps:List Pk} {l:List Sn} {keys:List Int}
theorem lastFin_take {k:Nat} {x:Sn} (h:l[k]? = some x):lastFin (l.take (k+1))=x.fin:=by
 rw [List.take_add_one,h]
 exact lastFin_snoc _ _
theorem bytes_low (ho:OkPks ps) (hper:1 ≤ per) (i:Nat):0 ≤ per * bytesOf ps i:=by
 refine Int.mul_nonneg (by omega) ?_
 cases hx:ps[i]? with
 | none=>simp [bytesOf,hx]
 | some p=>
  obtain ⟨-,-,s1,-,-,-⟩:=okPk_true (ho.each _ _ hx).1
  rw [bytesOf_get hx]
  omega
theorem Conv.step (ho:OkPks ps) (hper:1 ≤ per) (h:Conv per ps l) {k:Nat} {x:Sn} (hx:l[k]? = some x):lastFin (l.take k) ≤ x.beg ∧ x.beg ≤ x.fin ∧ lastFin (l.take (k+1))=x.fin ∧ tickOf ps x.num.toNat ≤ x.beg ∧ x.fin=x.beg+per * bytesOf ps x.num.toNat ∧ x.num.toNat < ps.length:=by
 obtain ⟨t,b,ht,hu,hc,e⟩:=h k x hx
 have eb:x.num.toNat=b:=by rw [e];simp
 have:=bytes_low ho hper b
 rw [lastFin_take hx,eb,e]
 refine ⟨?_,by simp only;omega,rfl,hc,rfl,hu.1⟩
 rcases ht with ⟨rfl,-⟩ | ⟨h0,i,hi,rfl,-⟩
 · exact Int.le_refl _
 · exact Int.le_of_lt (h0 i hi)
theorem Conv.mono (ho:OkPks ps) (hper:1 ≤ per) (h:Conv per ps l) {m:Nat}:∀ d,m+d ≤ l.length → lastFin (l.take m) ≤ lastFin (l.take (m+d))
 | 0,_=>Int.le_refl _
 | d+1,hd=>by
  have ih:=Conv.mono ho hper h (m:=m) d (by omega)
  have hx:l[m+d]? = some l[m+d]:=List.getElem?_eq_getElem (by omega)
  obtain ⟨s1,s2,s3,-⟩:=h.step ho hper hx
  rw [← Nat.add_assoc,s3]
  omega
end
def Ahead (at_:Nat → Int) (a b:Nat):Prop:=at_ a < at_ b ∨ (at_ a=at_ b ∧ a < b)
structure IsOrder (at_:Nat → Int) (n:Nat) (L:List Nat):Prop where
 sorted:L.Pairwise (Ahead at_)
 mem:∀ j,j ∈ L ↔ j < n
section
variable {at_ bt:Nat → Int} {n:Nat} {L M:List Nat}
theorem Ahead.ne {a b:Nat} (h:Ahead at_ a b):a ≠ b:=fun e=>by subst e;rcases h with h | ⟨-,h⟩ <;> omega
theorem IsOrder.range (hm:∀ i j,i < j → j < n → at_ i ≤ at_ j):IsOrder at_ n (List.range n):=by
 refine ⟨List.pairwise_iff_getElem.2 fun i j hi hj hij=>?_,fun j=>List.mem_range⟩
 rw [List.length_range] at hi hj
 rw [List.getElem_range,List.getElem_range]
 have:=hm i j hij hj
 unfold Ahead
 omega
end
end Go.Proofs.YtbokomeejmnnoaaDoor
