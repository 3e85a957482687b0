/- Own facts, put together: no statement of its own. -/
import Derived.Test.YtipdclphpkgceaaGreatDoorS01
import Derived.Laws.MakeOwn
import Derived.Test.YtipdclphpkgceaaGreatDoorChecked
import Derived.WalkKit
import Derived.WalkSpells
import Derived.WalkLawsBesides
import Derived.BigQuiet
import Derived.LaidEql
import Derived.Stop.Asserts
import Derived.RowKitTokens
set_option maxHeartbeats 2000000

namespace Go.Proofs.YtipdclphpkgceaaGreatDoor
structure Pk where
 flow:Int
 size:Int
 tick:Int
def okPk (p:Pk):Bool:=decide (0 ≤ p.flow ∧ p.flow < 8 ∧ 1 ≤ p.size ∧ p.size ≤ 1500 ∧ 0 ≤ p.tick ∧ p.tick ≤ 1099511627776)
theorem okPk_true {p:Pk} (h:okPk p=true):0 ≤ p.flow ∧ p.flow < 8 ∧ 1 ≤ p.size ∧ p.size ≤ 1500 ∧ 0 ≤ p.tick ∧ p.tick ≤ 1099511627776:=of_decide_eq_true h
theorem okPk_mk {p:Pk} (h:0 ≤ p.flow ∧ p.flow < 8 ∧ 1 ≤ p.size ∧ p.size ≤ 1500 ∧ 0 ≤ p.tick ∧ p.tick ≤ 1099511627776):okPk p=true:=decide_eq_true h
def ahead (ps:List Pk):Nat → Int
 | 0=>0
 | i+1=>match ps[i]? with | some p=>p.tick | none=>0
structure OkPks (ps:List Pk):Prop where
 few:ps.length ≤ 300
 each:∀ i p,ps[i]? = some p → okPk p=true ∧ ahead ps i ≤ p.tick
theorem okPks_none:OkPks []:=⟨by simp,fun i p h=>by simp at h⟩
def total:List Pk → Int
 | []=>0
 | p :: r=>p.size+total r
theorem total_snoc (ps:List Pk) (p:Pk):total (ps ++ [p])=total ps+p.size:=by
 induction ps with
 | nil=>simp [total]
 | cons q r ih=>simp [total,ih];omega
def ends:List Pk → List (Int × Int)
 | []=>[]
 | p :: r=>(p.tick,total (p :: r)) :: ends r
theorem ends_snoc (ps:List Pk) (p:Pk) (a s:Int):(a,s) ∈ ends (ps ++ [p]) ↔ (a,s - p.size) ∈ ends ps ∨ (a=p.tick ∧ s=p.size):=by
 induction ps with
 | nil=>simp [ends,total]
 | cons q r ih=>
  show (a,s) ∈ (q.tick,total (q :: (r ++ [p]))) :: ends (r ++ [p]) ↔ (a,s - p.size) ∈ (q.tick,total (q :: r)) :: ends r ∨ _
  have ht:total (q :: (r ++ [p]))=total (q :: r)+p.size:=total_snoc (q :: r) p
  simp only [List.mem_cons,Prod.mk.injEq,ht,ih]
  constructor
  ·
   rintro (⟨h1,h2⟩ | h | h)
   · exact .inl (.inl ⟨h1,by omega⟩)
   · exact .inl (.inr h)
   · exact .inr h
  ·
   rintro ((⟨h1,h2⟩ | h) | h)
   · exact .inl ⟨h1,by omega⟩
   · exact .inr (.inl h)
   · exact .inr (.inr h)
def lastFits (ls:List (Int × Int)) (ps:List Pk) (p:Pk):Prop:=∀ a s,(a,s) ∈ ends (ps ++ [p]) → s ≤ curveAt (p.tick - a) ls
def startB (ls:List (Int × Int)) (a c:Int):List Pk → Bool
 | []=>true
 | p :: r=>decide (c+p.size ≤ curveAt (p.tick - a) ls) && startB ls a (c+p.size) r
def fitsB (ls:List (Int × Int)):List Pk → Bool
 | []=>true
 | p :: r=>startB ls p.tick 0 (p :: r) && fitsB ls r
theorem startB_snoc (ls:List (Int × Int)) (a:Int) (ps:List Pk) (p:Pk):∀ c,startB ls a c (ps ++ [p])=true ↔ startB ls a c ps=true ∧ c+total (ps ++ [p]) ≤ curveAt (p.tick - a) ls:=by
 induction ps with
 | nil=>intro c;simp [startB,total]
 | cons q r ih=>
  intro c
  have ht:total (q :: r ++ [p])=q.size+total (r ++ [p]):=rfl
  simp only [List.cons_append,startB,Bool.and_eq_true,ih] at *
  rw [ht,Int.add_assoc,and_assoc]
theorem fitsB_snoc (ls:List (Int × Int)) (ps:List Pk) (p:Pk):fitsB ls (ps ++ [p])=true ↔ fitsB ls ps=true ∧ lastFits ls ps p:=by
 induction ps with
 | nil=>simp [fitsB,startB,lastFits,ends,total]
 | cons q r ih=>
  have h1:=startB_snoc ls q.tick (q :: r) p 0
  simp only [List.cons_append] at h1
  simp only [List.cons_append,fitsB,Bool.and_eq_true,h1,ih]
  have h2:lastFits ls (q :: r) p ↔ 0+total (q :: (r ++ [p])) ≤ curveAt (p.tick - q.tick) ls ∧ lastFits ls r p:=by
   show (∀ a s,(a,s) ∈ (q.tick,total (q :: (r ++ [p]))) :: ends (r ++ [p]) → _) ↔ _
   simp only [List.mem_cons,Prod.mk.injEq,Int.zero_add]
   constructor
   ·
    intro h
    exact ⟨h _ _ (.inl ⟨rfl,rfl⟩),fun a s hm=>h a s (.inr hm)⟩
   ·
    rintro ⟨h,h'⟩ a s (⟨rfl,rfl⟩ | hm)
    · exact h
    · exact h' a s hm
  rw [h2]
  exact ⟨fun ⟨⟨a,b⟩,c,d⟩=>⟨⟨a,c⟩,b,d⟩,fun ⟨⟨a,c⟩,b,d⟩=>⟨⟨a,b⟩,c,d⟩⟩
theorem le_curveAt (t s:Int) (ls:List (Int × Int)) (h:1 ≤ ls.length):s ≤ curveAt t ls ↔ ∀ p,p ∈ ls → s ≤ lineAt t p.1 p.2:=by
 constructor
 ·
  intro hs p hp
  have:=curveAt_le t ls p hp
  omega
 ·
  intro hs
  obtain ⟨p,hp,e⟩:=curveAt_is t ls h
  rw [e]
  exact hs p hp
theorem lastFits_lines (ls:List (Int × Int)) (h:1 ≤ ls.length) (ps:List Pk) (p:Pk):lastFits ls ps p ↔ ∀ q,q ∈ ls → lastFits [q] ps p:=by
 have h1:∀ q:Int × Int,∀ t s,s ≤ curveAt t [q] ↔ s ≤ lineAt t q.1 q.2:=fun q t s=>by simp [curveAt,leastAt]
 simp only [lastFits,le_curveAt _ _ ls h,h1]
 exact ⟨fun H q hq a s hm=>H a s hm q hq,fun H a s hm q hq=>H q hq a s hm⟩
structure Passed (q:Int × Int) (ps:List Pk) (b:Bk):Prop where
 most:b.most=q.1 * 1000
 rate:b.rate=q.2
 lev:∀ t v,b.last ≤ t → (v ≤ b.lev t ↔ v ≤ q.1 * 1000 ∧ ∀ a s,(a,s) ∈ ends ps → v+s * 1000 ≤ q.1 * 1000+q.2 * (t - a))
theorem passed_none (q:Int × Int) (h:0 ≤ q.2):Passed q [] (bkOf q):=by
 refine ⟨rfl,rfl,fun t v ht=>?_⟩
 have:=Int.mul_nonneg h (show 0 ≤ t - 0 by simpa [bkOf] using ht)
 simp only [Bk.lev,bkOf,ends] at *
 constructor
 · intro hv;exact ⟨by omega,fun a s hm=>by cases hm⟩
 · intro hv;omega
theorem Passed.fits {q:Int × Int} {ps:List Pk} {b:Bk} (h:Passed q ps b) (p:Pk) (hp:b.last ≤ p.tick):p.size * 1000 ≤ b.lev p.tick ↔ lastFits [q] ps p:=by
 rw [h.lev _ _ hp]
 have h1:∀ t s,s ≤ curveAt t [q] ↔ s * 1000 ≤ q.1 * 1000+q.2 * t:=fun t s=>by simp [curveAt,leastAt,lineAt];omega
 simp only [lastFits,h1,ends_snoc]
 constructor
 ·
  rintro ⟨h2,h3⟩ a s (hm | ⟨rfl,rfl⟩)
  · have:=h3 a _ hm;omega
  · simp;omega
 ·
  intro H
  refine ⟨by have:=H p.tick p.size (.inr ⟨rfl,rfl⟩);simp at this;omega,fun a s hm=>?_⟩
  have:=H a (s+p.size) (.inl (by simpa using hm))
  omega
theorem Passed.pass {q:Int × Int} {ps:List Pk} {b:Bk} (h:Passed q ps b) (r0:0 ≤ b.rate) (p:Pk) (ht:b.last ≤ p.tick) (hn:p.size * 1000 ≤ b.lev p.tick):Passed q (ps ++ [p]) (b.take p.tick p.size):=by
 have e:b.take p.tick p.size=⟨b.most,b.rate,b.lev p.tick - p.size * 1000,p.tick⟩:=by unfold Bk.take;rw [if_pos hn]
 refine ⟨by rw [e];exact h.most,by rw [e];exact h.rate,fun s v hs=>?_⟩
 rw [e] at hs ⊢
 simp only at hs
 have h2:=Int.mul_nonneg r0 (show 0 ≤ s - p.tick by omega)
 have hl:=h.lev p.tick (v+p.size * 1000 - b.rate * (s - p.tick)) ht
 have hm:=h.most
 have hr:=h.rate
 have key:v ≤ (Bk.mk b.most b.rate (b.lev p.tick - p.size * 1000) p.tick).lev s ↔ v ≤ b.most ∧ v+p.size * 1000 - b.rate * (s - p.tick) ≤ b.lev p.tick:=by simp only [Bk.lev];omega
 rw [key,hl,hm,hr]
 simp only [ends_snoc]
 constructor
 ·
  rintro ⟨h3,h4,h5⟩
  refine ⟨h3,fun a z hz=>?_⟩
  rcases hz with hz | ⟨rfl,rfl⟩
  ·
   have:=h5 a _ hz
   have:=mul_split q.2 s p.tick a
   omega
  · omega
 ·
  rintro ⟨h3,h4⟩
  refine ⟨h3,?_,fun a z hz=>?_⟩
  · have:=h4 p.tick p.size (.inr ⟨rfl,rfl⟩);omega
  ·
   have:=h4 a (z+p.size) (.inl (by simpa using hz))
   have:=mul_split q.2 s p.tick a
   omega
structure Sn where
 num:Int
 beg:Int
 fin:Int
structure Que (σ:Type) where
 come:σ → Nat → σ
 pick:σ → Nat
 left:σ → σ
 rest:σ → Nat
 idle:σ → σ:=fun q=>q
structure St (σ:Type) where
 out:List Sn
 now:Int
 next:Nat
 q:σ
structure Steps {σ:Type} (Q:Que σ) (per:Int) (ps:List Pk) (q0:σ) (C:St σ → Prop):Prop where
 start:C ⟨[],0,0,q0⟩
 come:∀ s p,C s → ps[s.next]? = some p → p.tick ≤ s.now → C ⟨s.out,s.now,s.next+1,Q.come s.q s.next⟩
 send:∀ s p,C s → (∀ r,ps[s.next]? = some r → s.now < r.tick) → 0 < Q.rest s.q → ps[Q.pick s.q]? = some p → C ⟨s.out ++ [⟨Q.pick s.q,s.now,s.now+per * p.size⟩],s.now+per * p.size,s.next,Q.left s.q⟩
 idle:∀ s p,C s → ps[s.next]? = some p → s.now < p.tick → Q.rest s.q=0 → C ⟨s.out,p.tick,s.next,Q.idle s.q⟩
def Reaches {σ:Type} (Q:Que σ) (per:Int) (ps:List Pk) (q0:σ) (s:St σ):Prop:=∀ C:St σ → Prop,Steps Q per ps q0 C → C s
section
variable {σ:Type} {Q:Que σ} {per:Int} {ps:List Pk} {q0:σ}
theorem Reaches.start:Reaches Q per ps q0 ⟨[],0,0,q0⟩:=fun _ h=>h.start
theorem Reaches.come (s:St σ) (p:Pk) (hs:Reaches Q per ps q0 s) (h1:ps[s.next]? = some p) (h2:p.tick ≤ s.now):Reaches Q per ps q0 ⟨s.out,s.now,s.next+1,Q.come s.q s.next⟩:=
 fun C h=>h.come s p (hs C h) h1 h2
theorem Reaches.send (s:St σ) (p:Pk) (hs:Reaches Q per ps q0 s) (h1:∀ r,ps[s.next]? = some r → s.now < r.tick) (h2:0 < Q.rest s.q) (h3:ps[Q.pick s.q]? = some p):Reaches Q per ps q0 ⟨s.out ++ [⟨Q.pick s.q,s.now,s.now+per * p.size⟩],s.now+per * p.size,s.next,Q.left s.q⟩:=
 fun C h=>h.send s p (hs C h) h1 h2 h3
theorem Reaches.idle (s:St σ) (p:Pk) (hs:Reaches Q per ps q0 s) (h1:ps[s.next]? = some p) (h2:s.now < p.tick) (h3:Q.rest s.q=0):Reaches Q per ps q0 ⟨s.out,p.tick,s.next,Q.idle s.q⟩:=
 fun C h=>h.idle s p (hs C h) h1 h2 h3
theorem Reaches.by_steps {C:St σ → Prop} {s:St σ} (h:Reaches Q per ps q0 s) (h0:C ⟨[],0,0,q0⟩)
  (h1:∀ s p,Reaches Q per ps q0 s → ps[s.next]? = some p → p.tick ≤ s.now → C s → C ⟨s.out,s.now,s.next+1,Q.come s.q s.next⟩)
  (h2:∀ s p,Reaches Q per ps q0 s → (∀ r,ps[s.next]? = some r → s.now < r.tick) → 0 < Q.rest s.q → ps[Q.pick s.q]? = some p → C s → C ⟨s.out ++ [⟨Q.pick s.q,s.now,s.now+per * p.size⟩],s.now+per * p.size,s.next,Q.left s.q⟩)
  (h3:∀ s p,Reaches Q per ps q0 s → ps[s.next]? = some p → s.now < p.tick → Q.rest s.q=0 → C s → C ⟨s.out,p.tick,s.next,Q.idle s.q⟩):C s:=
 (h (fun s=>Reaches Q per ps q0 s ∧ C s) ⟨⟨.start,h0⟩,fun s p hs a b=>⟨.come s p hs.1 a b,h1 s p hs.1 a b hs.2⟩,fun s p hs a b c=>⟨.send s p hs.1 a b c,h2 s p hs.1 a b c hs.2⟩,fun s p hs a b c=>⟨.idle s p hs.1 a b c,h3 s p hs.1 a b c hs.2⟩⟩).2
end
structure QueLaw {σ:Type} (Q:Que σ) (per:Int) (ps:List Pk) (q0:σ):Prop where
 none:Q.rest q0=0
 come:∀ s,Reaches Q per ps q0 s → s.next < ps.length → Q.rest (Q.come s.q s.next)=Q.rest s.q+1
 left:∀ s,Reaches Q per ps q0 s → 0 < Q.rest s.q → Q.rest (Q.left s.q)+1=Q.rest s.q
 pick:∀ s,Reaches Q per ps q0 s → 0 < Q.rest s.q → Q.pick s.q < s.next
 idle:∀ s,Reaches Q per ps q0 s → Q.rest s.q=0 → Q.rest (Q.idle s.q)=0
def Que.asked {σ:Type} (Q:Que σ) (q:σ):σ:=if Q.rest q=0 then Q.idle q else q
theorem asked_same {σ:Type} (Q:Que σ) (h:∀ q,Q.idle q=q) (q:σ):Q.asked q=q:=by
 unfold Que.asked
 split
 · exact h q
 · rfl
theorem lt_of_get {α:Type} {l:List α} {k:Nat} {x:α} (h:l[k]? = some x):k < l.length:=by
 rcases Nat.lt_or_ge k l.length with h' | h'
 · exact h'
 · simp [List.getElem?_eq_none h'] at h
section
variable {σ:Type} {Q:Que σ} {per:Int} {ps:List Pk} {q0:σ} {s:St σ}
theorem Reaches.next_le (h:Reaches Q per ps q0 s):s.next ≤ ps.length:=by
 refine h.by_steps (C:=fun s=>s.next ≤ ps.length) (Nat.zero_le _) ?_ ?_ ?_
 ·
  intro s p _ hp _ _
  exact lt_of_get hp
 ·
  intro s p _ _ _ _ ih
  exact ih
 ·
  intro s p _ _ _ _ ih
  exact ih
theorem Reaches.count (hq:QueLaw Q per ps q0) (h:Reaches Q per ps q0 s):s.out.length+Q.rest s.q=s.next:=by
 refine h.by_steps (C:=fun s=>s.out.length+Q.rest s.q=s.next) (by simp [hq.none]) ?_ ?_ ?_
 ·
  intro s p hs hp _ ih
  have:=hq.come s hs (lt_of_get hp)
  simp only
  omega
 ·
  intro s p hs _ h0 _ ih
  have:=hq.left s hs h0
  simp only [List.length_append,List.length_cons,List.length_nil]
  omega
 ·
  intro s p hs _ _ h0 ih
  have:=hq.idle s hs h0
  simp only
  omega
theorem Reaches.now_in (hper:1 ≤ per ∧ per ≤ 1000) (ho:OkPks ps) (h:Reaches Q per ps q0 s):0 ≤ s.now ∧ s.now ≤ 1099511627776+1500000 * s.out.length:=by
 refine h.by_steps (C:=fun s=>0 ≤ s.now ∧ s.now ≤ 1099511627776+1500000 * s.out.length) ⟨Int.le_refl _,by simp⟩ ?_ ?_ ?_
 ·
  intro s p _ _ _ ih
  exact ih
 ·
  intro s p _ _ _ hp ih
  obtain ⟨-,-,h1,h2,-,-⟩:=okPk_true (ho.each _ p hp).1
  have a1:0 ≤ per * p.size:=Int.mul_nonneg (by omega) (by omega)
  have a2:per * p.size ≤ 1000 * 1500:=Int.mul_le_mul (by omega) h2 (by omega) (by omega)
  simp only [List.length_append,List.length_cons,List.length_nil]
  omega
 ·
  intro s p _ hp _ _ ih
  obtain ⟨-,-,-,-,h1,h2⟩:=okPk_true (ho.each _ p hp).1
  simp only
  omega
end
def tickOf (ps:List Pk) (j:Nat):Int:=match ps[j]? with | some p=>p.tick | none=>0
def bytesOf (ps:List Pk) (j:Nat):Int:=match ps[j]? with | some p=>p.size | none=>0
theorem tickOf_get {ps:List Pk} {j:Nat} {p:Pk} (h:ps[j]? = some p):tickOf ps j=p.tick:=by simp [tickOf,h]
theorem bytesOf_get {ps:List Pk} {j:Nat} {p:Pk} (h:ps[j]? = some p):bytesOf ps j=p.size:=by simp [bytesOf,h]
theorem ticks_rise {ps:List Pk} (ho:OkPks ps):∀ (d i:Nat),i+d < ps.length → tickOf ps i ≤ tickOf ps (i+d):=by
 intro d
 induction d with
 | zero=>intro i _;exact Int.le_refl _
 | succ d ih=>
  intro i h
  have h1:=ih i (by omega)
  have e1:ps[i+d]? = some ps[i+d]:=List.getElem?_eq_getElem (by omega)
  have e2:ps[i+d+1]? = some ps[i+d+1]:=List.getElem?_eq_getElem (by omega)
  have h2:=(ho.each (i+d+1) _ e2).2
  simp only [ahead,e1] at h2
  rw [tickOf_get e1] at h1
  rw [show i+(d+1)=i+d+1 by omega,tickOf_get e2]
  omega
theorem ticks_le {ps:List Pk} (ho:OkPks ps) {i k:Nat} (h:i ≤ k) (hk:k < ps.length):tickOf ps i ≤ tickOf ps k:=by
 have:=ticks_rise ho (k - i) i (by omega)
 rwa [show i+(k - i)=k by omega] at this
end Go.Proofs.YtipdclphpkgceaaGreatDoor

namespace Go.Proofs.YtipdclphpkgceaaGreatDoor
open Go.RowKit
section
variable (s:ByteArray) (w:World) (a0:Addr) (h0:w.cell? ⟨1,0,none⟩=some (.iface 312 (.pointer (some a0))))
theorem readDigit_is (s:ByteArray) (w:World) (a0:Addr) (h0:w.cell? ⟨1,0,none⟩=some (.iface 312 (.pointer (some a0)))) (hm:s.size ≤ 9223372036854775807) :
  Calls Tryz.prog 104 #[.string s] w fun e w'=>ReadEnd a0 (digitW s.data.toList) w e w':=by
 have hlen:s.data.toList.length=s.size:=by simp
 obtain ⟨n,hn⟩:∃ n,s.size=n:=⟨_,rfl⟩
 by_cases h1:n=1
 ·
  have e:digitW s.data.toList=numW s.data.toList:=by unfold digitW;rw [if_neg];rw [hlen,hn];exact fun h=>h h1
  rw [e]
  have HC:=(show Hid (Calls Tryz.prog 100 #[.string s] w fun e w'=>ReadEnd a0 (numW s.data.toList) w e w') from readNumber_is s w a0 h0 hm)
  have d1:((n:Int) == 1)=true:=by simp [h1]
  clear hlen e h1 hm
  go_enter Tryz.func104,Tryz.ntmps104
  go_wp2_with fail
  refine HC.out.mono ?_
  rintro e w1 ⟨hb,⟨ho,rfl⟩ | ⟨m,ho,rfl⟩⟩
  ·
   go_wp2_with fail
   go_ret2
   exact readEnd_none ho hb
  ·
   go_wp2_with fail
   go_ret2
   exact readEnd_some ho hb
 ·
  have HE:Hid (∀ q,ReadEnd a0 (digitW s.data.toList) w (.returned (.tuple #[.int .i64 0,.iface 312 (.pointer (some a0))])) (w.drewN q)):=fun q=>readEnd_none (by unfold digitW;rw [if_pos];rw [hlen,hn];exact h1) (below_drewN (Below.refl _ _) q)
  have d1:((n:Int) == 1)=false:=by simp;omega
  clear hlen hm
  go_enter Tryz.func104,Tryz.ntmps104
  go_wp2_with fail
  go_quiet (fail)
  go_wp2_with fail
  go_ret2
  exact HE.out nq
theorem readFlow_is (s:ByteArray) (w:World) (a0:Addr) (h0:w.cell? ⟨1,0,none⟩=some (.iface 312 (.pointer (some a0)))) (hm:s.size ≤ 9223372036854775807) :
  Calls Tryz.prog 98 #[.string s] w fun e w'=>ReadEnd a0 (flowW s.data.toList) w e w':=by
 have HC:=(show Hid (Calls Tryz.prog 104 #[.string s] w fun e w'=>ReadEnd a0 (digitW s.data.toList) w e w') from readDigit_is s w a0 h0 hm)
 have H0:Hid (w.cell? ⟨1,0,none⟩=some (.iface 312 (.pointer (some a0)))):=h0
 clear hm h0
 go_enter Tryz.func98,Tryz.ntmps98
 go_wp2_with fail
 refine HC.out.mono ?_
 rintro e w1 ⟨hb,⟨ho,rfl⟩ | ⟨m,ho,rfl⟩⟩
 ·
  go_wp2_with fail
  go_ret2
  exact readEnd_none (by unfold flowW;rw [ho];rfl) hb
 ·
  by_cases hf:0 ≤ m ∧ m < 8
  ·
   have HE:Hid (ReadEnd a0 (flowW s.data.toList) w (.returned (.tuple #[.int .i64 m,.nilIface])) w1):=readEnd_some (by unfold flowW;rw [ho];simp [hf]) hb
   clear ho hb
   go_wp2_with fail
   refine (isFlow_yes m w1 hf).mono ?_
   rintro e w2 ⟨rfl,rfl⟩
   go_wp2_with fail
   go_ret2
   exact HE.out
  ·
   have HE:Hid (∀ q,ReadEnd a0 (flowW s.data.toList) w (.returned (.tuple #[.int .i64 0,.iface 312 (.pointer (some a0))])) (w1.drewN q)):=fun q=>readEnd_none (by unfold flowW;rw [ho];simp only [Option.bind_some];rw [if_neg hf]) (below_drewN hb q)
   have c0:w1.cell? ⟨1,0,none⟩=some (.iface 312 (.pointer (some a0))):=cell_later hb H0.out
   clear ho hb
   go_wp2_with fail
   refine (isFlow_no m w1 hf).mono ?_
   rintro e w2 ⟨rfl,rfl⟩
   go_wp2_with fail
   go_quiet (fail)
   go_wp2_with fail
   go_ret2
   exact HE.out nq
end
def LiesW (w:World) (a:Option Addr) (ws:List (List UInt8)):Prop:=
 ws=[] ∨ ∃ b off,a=some ⟨b,off,none⟩ ∧ b < w.heap.size ∧ ∀ (i:Nat) x,ws[i]? = some x → w.cell? ⟨b,off+i,none⟩=some (.string ⟨x.toArray⟩)
theorem LiesW.below {w w':World} {a:Option Addr} {ws:List (List UInt8)} (h:LiesW w a ws) (hb:Below w.heap.size w w'):LiesW w' a ws:=by
 rcases h with rfl | ⟨b,off,rfl,hlt,hc⟩
 · exact .inl rfl
 · exact .inr ⟨b,off,rfl,Nat.lt_of_lt_of_le hlt hb.size,fun i x hi=>cell_later hb (hc i x hi)⟩
theorem LiesW.place {w:World} {a:Option Addr} {ws:List (List UInt8)} (h:LiesW w a ws) (h1:1 ≤ ws.length) :
  ∃ b off,a=some ⟨b,off,none⟩ ∧ b < w.heap.size ∧ ∀ (i:Nat) x,ws[i]? = some x → w.cell? ⟨b,off+i,none⟩=some (.string ⟨x.toArray⟩):=by
 rcases h with rfl | h
 · simp at h1
 · exact h
def ShortW (ws:List (List UInt8)):Prop:=ws.length ≤ 1000 ∧ ∀ x ∈ ws,x.length ≤ 1000
structure ValsAt (w:World) (g n:Nat) (f:Nat → Value):Prop where
 cell:∀ i,i < n → w.cell? ⟨g,i,none⟩=some (f i)
 frozen:∀ i,w.frozen? ⟨g,i,none⟩=false
 lt:g < w.heap.size
def putV (f:Nat → Value) (k:Nat) (u:Value):Nat → Value:=fun i=>if i=k then u else f i
section
variable {w w':World} {g n:Nat} {f:Nat → Value}
theorem vals_made (w:World) (n:Nat) (u:Value) (t:TypeId):ValsAt (w.alloc (.cells (madeCells #[u] n) t)) w.heap.size n (fun _=>u):=by
 refine ⟨fun i hi=>?_,fun i=>World.frozen?_alloc_new w _ _ i,by simp⟩
 rw [World.cell?_alloc_at _ _ _ _ rfl]
 exact made_get _ _ _ hi
theorem ValsAt.of_block (h:ValsAt w g n f) (hb:w'.heap[g]? = w.heap[g]?) (hs:w.heap.size ≤ w'.heap.size):ValsAt w' g n f:=
 ⟨fun i hi=>(World.cell?_of_block (a:=⟨g,i,none⟩) hb).trans (h.cell i hi),fun i=>(World.frozen?_of_block (a:=⟨g,i,none⟩) hb).trans (h.frozen i),Nat.lt_of_lt_of_le h.lt hs⟩
theorem ValsAt.but {S:Nat → Prop} (h:ValsAt w g n f) (hb:But S w w') (hs:¬ S g):ValsAt w' g n f:=h.of_block (hb.block g h.lt hs) hb.size
theorem ValsAt.below (h:ValsAt w g n f) (hb:Below w.heap.size w w'):ValsAt w' g n f:=h.of_block (hb.block g h.lt) hb.size
theorem ValsAt.put (h:ValsAt w g n f) {k:Nat} (hk:k < n) (u:Value):ValsAt (w.setCell ⟨g,k,none⟩ u) g n (putV f k u):=by
 refine ⟨fun i hi=>?_,fun i=>by rw [World.frozen?_setCell];exact h.frozen i,by simp [World.setCell];exact h.lt⟩
 by_cases e:k=i
 ·
  subst e
  rw [World.cell?_setCell_same' _ _ _ (by rw [h.cell k hk];rfl)]
  simp [putV]
 · rw [World.cell?_setCell_other _ _ _ _ (by intro e';cases e';exact e rfl),h.cell i hi,putV,if_neg (fun e'=>e e'.symm)]
theorem ValsAt.drew (h:ValsAt w g n f):ValsAt w.drew g n f:=⟨h.cell,h.frozen,h.lt⟩
theorem below_store {B:Nat} {w W:World} (h:Below B w W) {p:Addr} (hp:B ≤ p.block) (u:Value):Below B w (W.setCell p u):=
 ⟨h.os,h.tape,h.output,by simpa [World.setCell] using h.size,fun k hk=>by rw [heap_setCell_other _ _ _ _ (by omega)];exact h.block k hk⟩
end
theorem make_intsN (n:Nat) (hn:n ≤ 1000) (w':World):(Instr.makeSlice 32 (.int .i64 n) (.int .i64 n)).run Tryz.prog w'=.ok (.slice (some ⟨w'.heap.size,0,none⟩) n n) (w'.alloc (.cells (madeCells #[.int .i64 0] n) 3)):=by
 obtain ⟨i0,hi,hz0,hz1,hz2⟩:=info_parts Tryz.infoInt
 have:=run_make (P:=Tryz.prog) w' 32 3 i0 (.int .i64 0) Tryz.underlying32 hi hz0 .i64 .i64 n n (by omega) (by omega) (by rw [hz2];omega) (by omega)
 simpa [hz1,Value.cells] using this
def ReadsEnd (a0:Addr) (o:Option (List Int)) (w:World) (e:Ending) (w':World):Prop:=
 Below w.heap.size w w' ∧ ((o=none ∧ e=.returned (.tuple #[.slice none 0 0,.iface 312 (.pointer (some a0))])) ∨
  ∃ ns g,o=some ns ∧ e=.returned (.tuple #[.slice (some ⟨g,0,none⟩) ns.length ns.length,.nilIface]) ∧ w.heap.size ≤ g ∧ g < w'.heap.size ∧ LiesN w' (some ⟨g,0,none⟩) ns)
def numsF (ms:List Int) (j:Nat):Value:=.int .i64 (ms.getD j 0)
theorem numsF_put (ms:List Int) (m:Int):putV (numsF ms) ms.length (.int .i64 m)=numsF (ms ++ [m]):=by
 funext i
 unfold putV numsF
 by_cases h:i=ms.length
 · subst h;simp
 ·
  rw [if_neg h]
  rcases Nat.lt_or_ge i ms.length with h' | h'
  · simp [List.getElem?_append_left h']
  · simp [List.getElem?_eq_none h',List.getElem?_eq_none (show (ms ++ [m]).length ≤ i by simp;omega)]
theorem liesN_of_vals {w:World} {g:Nat} {ms:List Int} (h:ValsAt w g ms.length (numsF ms)):LiesN w (some ⟨g,0,none⟩) ms:=by
 refine .inr ⟨g,0,rfl,h.lt,fun i x hi=>?_⟩
 rw [Nat.zero_add,h.cell i (lt_of_get hi)]
 simp [numsF,hi]
theorem readNumbers_is (a:Option Addr) (cap:Nat) (ws:List (List UInt8)) (w:World) (a0:Addr) (h0:w.cell? ⟨1,0,none⟩=some (.iface 312 (.pointer (some a0)))) (hl:LiesW w a ws) (hs:ShortW ws) :
  Calls Tryz.prog 103 #[.slice a ws.length cap] w fun e w'=>ReadsEnd a0 (numsW ws) w e w':=by
 have HL:Hid (∀ (i:Nat) x,ws[i]? = some x → ∃ b off,a=some ⟨b,off,none⟩ ∧ w.cell? ⟨b,off+i,none⟩=some (.string ⟨x.toArray⟩)):=fun i x hi=>by
  obtain ⟨b,off,h1,-,h2⟩:=hl.place (by have:=lt_of_get hi;omega)
  exact ⟨b,off,h1,h2 i x hi⟩
 have HS:Hid (ShortW ws):=hs
 have H0:Hid (w.cell? ⟨1,0,none⟩=some (.iface 312 (.pointer (some a0)))):=h0
 obtain ⟨n,hn⟩:∃ n,ws.length=n:=⟨_,rfl⟩
 have HN:Hid (ws.length=n):=hn
 have hn1:n ≤ 1000:=by rw [← hn];exact hs.1
 rw [hn]
 have hmk:=make_intsN n hn1
 have hb1:Below w.heap.size w (w.alloc (.cells (madeCells #[.int .i64 0] n) 3)):=(Below.refl _ _).alloc (Nat.le_refl _) _
 have hv1:ValsAt (w.alloc (.cells (madeCells #[.int .i64 0] n) 3)) w.heap.size n (numsF []):=vals_made w n (.int .i64 0) 3
 obtain ⟨V,hV⟩:∃ V,w.alloc (.cells (madeCells #[.int .i64 0] n) 3)=V:=⟨_,rfl⟩
 rw [hV] at hb1 hv1
 have HV:Hid (Below w.heap.size w V ∧ ValsAt V w.heap.size n (numsF [])):=⟨hb1,hv1⟩
 obtain ⟨G,hG⟩:∃ G,w.heap.size=G:=⟨_,rfl⟩
 have HG:Hid (w.heap.size=G):=hG
 have hmk1:(Instr.makeSlice 32 (.int .i64 n) (.int .i64 n)).run Tryz.prog w=.ok (.slice (some ⟨G,0,none⟩) n n) V:=by rw [hmk w,hV,hG]
 clear hl hs h0 hn hb1 hv1 hV hmk hG
 go_enter Tryz.func103,Tryz.ntmps103
 go_wp2_with fail
 go_loopw [14] (fun i wr=>∃ k:Nat,∃ ms:List Int,k ≤ n ∧ i=.int .i64 k ∧ ms.length=k ∧ Below w.heap.size w wr ∧ ValsAt wr G n (numsF ms) ∧ ∀ (j:Nat) x m,ws[j]? = some x → ms[j]? = some m → numW x=some m) (fun i _=>n - (intOf i).toNat)
 case atStart=>exact ⟨0,[],Nat.zero_le _,rfl,rfl,HV.out.1,by rw [← HG.out];exact HV.out.2,fun j x m _ h=>by simp at h⟩
 case round=>
  obtain ⟨k,ms,hk,rfl,hms,hb,hv,hd⟩:=hrel
  have HB:Hid (Below w.heap.size w wr ∧ ValsAt wr G n (numsF ms) ∧ (∀ (j:Nat) x m,ws[j]? = some x → ms[j]? = some m → numW x=some m) ∧ ms.length=k):=⟨hb,hv,hd,hms⟩
  by_cases hkn:k < n
  ·
   obtain ⟨x,hx,hxm⟩:=get_some ws k (by rw [HN.out];exact hkn)
   obtain ⟨b,off,rfl,hc⟩:=HL.out k x hx
   have hc1:wr.cell? ⟨b,off+k,none⟩=some (.string ⟨x.toArray⟩):=cell_later hb hc
   have HC:=(show Hid (Calls Tryz.prog 100 #[.string ⟨x.toArray⟩] wr fun e w'=>ReadEnd a0 (numW x) wr e w') from readNumber_is ⟨x.toArray⟩ wr a0 (cell_later hb H0.out) (by have:=HS.out.2 x hxm;show x.toArray.size ≤ _;simp;omega))
   have HX:Hid (ws[k]? = some x):=hx
   clear hb hv hd hms hx hxm hc
   go_wp2_with fail
   refine HC.out.mono ?_
   rintro e w1 ⟨hb1,⟨ho,rfl⟩ | ⟨m,ho,rfl⟩⟩
   ·
    have HE:Hid (ReadsEnd a0 (numsW ws) w (.returned (.tuple #[.slice none 0 0,.iface 312 (.pointer (some a0))])) w1):=⟨HB.out.1.trans (hb1.mono HB.out.1.size),.inl ⟨numsW_none HX.out ho,rfl⟩⟩
    clear ho hb1
    go_wp2_with fail
    go_ret2
    exact HE.out
   ·
    have hv1:=HB.out.2.1.below hb1
    have c1:=hv1.cell k hkn
    have f1:=hv1.frozen k
    have HNx:Hid (Below w.heap.size w (w1.setCell ⟨G,k,none⟩ (.int .i64 m)) ∧ ValsAt (w1.setCell ⟨G,k,none⟩ (.int .i64 m)) G n (numsF (ms ++ [m])) ∧ (∀ (j:Nat) x z,ws[j]? = some x → (ms ++ [m])[j]? = some z → numW x=some z) ∧ (ms ++ [m]).length=k+1):=by
     obtain ⟨g1,g2,g3,g4⟩:=HB.out
     refine ⟨below_store (g1.trans (hb1.mono g1.size)) (by show w.heap.size ≤ G;rw [HG.out];exact Nat.le_refl _) _,?_,?_,by simp [g4]⟩
     ·
      rw [← numsF_put,g4]
      exact hv1.put hkn _
     ·
      intro j y z hy hz
      rcases Nat.lt_or_ge j ms.length with h' | h'
      ·
       rw [List.getElem?_append_left h'] at hz
       exact g3 j y z hy hz
      ·
       have hj:=lt_of_get hz
       simp at hj
       obtain rfl:j=ms.length:=by omega
       simp at hz
       subst hz
       rw [g4,HX.out] at hy
       obtain rfl:=Option.some.inj hy
       exact ho
    clear ho hb1 hv1
    go_wp2_with fail
    go_roundw
    case rel=>exact ⟨k+1,ms ++ [m],by omega,by go_num,HNx.out.2.2.2,HNx.out.1,HNx.out.2.1,HNx.out.2.2.1⟩
    case measure=>simp [intOf];omega
  ·
   obtain rfl:k=n:=by omega
   have HE:Hid (ReadsEnd a0 (numsW ws) w (.returned (.tuple #[.slice (some ⟨G,0,none⟩) k k,.nilIface])) wr):=by
    refine ⟨hb,.inr ⟨ms,G,numsW_some (by rw [hms,HN.out]) hd,by rw [hms],by rw [HG.out];exact Nat.le_refl _,hv.lt,liesN_of_vals (by rw [hms];exact hv)⟩⟩
   clear hb hv hd hms
   go_wp2_with fail
   go_ret2
   exact HE.out
end Go.Proofs.YtipdclphpkgceaaGreatDoor

namespace Go.Proofs.YtipdclphpkgceaaGreatDoor
open Go.RowKit Go.Extern.Stop Go.Stop Go.Extern
theorem Tryz.isTypeOf (v:Value) (w:World):(Extern.ReflectliteType.typeOf #[.iface 312 v]).run Tryz.prog w=.ok (.iface 151 (.agg #[.pointer (some ⟨16,312,none⟩)])) w:=by kernel_rfl
def cmpEntry:Array Value → Sem Value:=Extern.ReflectliteType.method fun t=>do Rtype.noPackHeld "Comparable" t;pure (.bool (← typeInfo t).comparable)
theorem Tryz.isComparable (w:World):(cmpEntry #[.agg #[.pointer (some ⟨16,312,none⟩)]]).run Tryz.prog w=.ok (.bool true) w:=by kernel_rfl
theorem Tryz.isMethodComparable (v:Value) (w:World):(Go.method 442 151 v "Comparable").run Tryz.prog w=.ok (274,v) w:=by kernel_rfl
theorem Tryz.isComp:(Tryz.prog.info? 312).map (·.comparable)=some true:=by kernel_rfl
theorem Tryz.isSize:(Tryz.prog.info? 330).map (·.size)=some 1:=by kernel_rfl
theorem Tryz.noIsE (v:Value) (xT:TypeId) (w:World):(Instr.typeAssert (.iface 312 v) xT 162 true).run Tryz.prog w=.ok (.tuple #[.nilIface,.bool false]) w:=run_typeAssert_lacksB Tryz.underlying162 (by kernel_rfl) (by kernel_rfl) v xT w
theorem Tryz.noAsE (v:Value) (xT:TypeId) (w:World):(Instr.typeAssert (.iface 312 v) xT 155 true).run Tryz.prog w=.ok (.tuple #[.nilIface,.bool false]) w:=run_typeAssert_lacksB Tryz.underlying155 (by kernel_rfl) (by kernel_rfl) v xT w
theorem Tryz.noUnwrapE (v:Value) (xT:TypeId) (w:World):(Instr.typeAssert (.iface 312 v) xT 158 true).run Tryz.prog w=.ok (.tuple #[.nilIface,.bool false]) w:=run_typeAssert_lacksB Tryz.underlying158 (by kernel_rfl) (by kernel_rfl) v xT w
theorem Tryz.noUnwrapsE (v:Value) (xT:TypeId) (w:World):(Instr.typeAssert (.iface 312 v) xT 160 true).run Tryz.prog w=.ok (.tuple #[.nilIface,.bool false]) w:=run_typeAssert_lacksB Tryz.underlying160 (by kernel_rfl) (by kernel_rfl) v xT w
theorem Tryz.noIsW (v:Value) (xT:TypeId) (w:World):(Instr.typeAssert (.iface 75 v) xT 162 true).run Tryz.prog w=.ok (.tuple #[.nilIface,.bool false]) w:=run_typeAssert_lacksB Tryz.underlying162 (by kernel_rfl) (by kernel_rfl) v xT w
theorem Tryz.hasUnwrapW (v:Value) (xT:TypeId) (w:World):(Instr.typeAssert (.iface 75 v) xT 158 true).run Tryz.prog w=.ok (.tuple #[.iface 75 v,.bool true]) w:=run_typeAssert_hasB Tryz.underlying158 (by kernel_rfl) v xT w
theorem Tryz.methodUnwrap (v:Value) (w:World):(Go.method 442 75 v "Unwrap").run Tryz.prog w=.ok (267,v) w:=by kernel_rfl
theorem is_same (a:Addr) (w:World) :
  Calls Tryz.prog 28 #[.iface 312 (.pointer (some a)),.iface 312 (.pointer (some a))] w fun e w'=>e=.returned (.bool true) ∧ w'=w:=by
 obtain ⟨i,hi,hcmp⟩:=Option.map_eq_some_iff.1 Tryz.isComp
 obtain ⟨j,hj,hjs⟩:=Option.map_eq_some_iff.1 Tryz.isSize
 have h8:=@run_callFunc_extern Tryz.prog 52 _ Extern.ReflectliteType.typeOf Tryz.func52 (by kernel_rfl) (by kernel_rfl) (by kernel_rfl) (by kernel_rfl)
 have h32:=@run_callFunc_extern Tryz.prog 274 _ cmpEntry Tryz.func274 (by kernel_rfl) (by kernel_rfl) (by kernel_rfl) (by kernel_rfl)
 have tT:=Tryz.isTypeOf
 have cT:=Tryz.isComparable
 have mR:=Tryz.isMethodComparable
 have heq:=run_eql_iface_ptr_same (P:=Tryz.prog) w a Tryz.underlying25 Tryz.underlying312 hi hcmp hj
 go_enter Tryz.func28,Tryz.ntmps28
 go_wp2
 refine wp_loop_rounds 1 ?_
 rw [rounds_succ]
 go_wp2
 go_ret
 exact ⟨rfl,rfl⟩
theorem is_other (a b:Addr) (ca cb:Array Value) (ta tb:TypeId) (w:World) (hne:a ≠ b) (ha:w.heap[a.block]? = some (.cells ca ta (0,0))) (hb:w.heap[b.block]? = some (.cells cb tb (0,0))) :
  Calls Tryz.prog 28 #[.iface 312 (.pointer (some a)),.iface 312 (.pointer (some b))] w fun e w'=>e=.returned (.bool false) ∧ w'=w:=by
 obtain ⟨i,hi,hcmp⟩:=Option.map_eq_some_iff.1 Tryz.isComp
 obtain ⟨j,hj,hjs⟩:=Option.map_eq_some_iff.1 Tryz.isSize
 have h8:=@run_callFunc_extern Tryz.prog 52 _ Extern.ReflectliteType.typeOf Tryz.func52 (by kernel_rfl) (by kernel_rfl) (by kernel_rfl) (by kernel_rfl)
 have h32:=@run_callFunc_extern Tryz.prog 274 _ cmpEntry Tryz.func274 (by kernel_rfl) (by kernel_rfl) (by kernel_rfl) (by kernel_rfl)
 have tT:=Tryz.isTypeOf
 have cT:=Tryz.isComparable
 have mR:=Tryz.isMethodComparable
 have nE:=Tryz.noIsE
 have uE:=Tryz.noUnwrapE
 have vE:=Tryz.noUnwrapsE
 have heq:=run_eql_iface_ptr_other (P:=Tryz.prog) w Tryz.underlying25 Tryz.underlying312 hi hcmp hj (by rw [hjs];decide) hne ha hb
 go_enter Tryz.func28,Tryz.ntmps28
 go_wp2
 refine wp_loop_rounds 1 ?_
 rw [rounds_succ]
 go_wp2
 go_ret
 exact ⟨rfl,rfl⟩
theorem is_fault_same (pb:Nat) (b:Addr) (w:World) (h1:w.cell? ⟨pb,1,none⟩=some (.iface 312 (.pointer (some b)))) :
  Calls Tryz.prog 28 #[.iface 75 (.pointer (some ⟨pb,0,none⟩)),.iface 312 (.pointer (some b))] w fun e w'=>e=.returned (.bool true) ∧ w'=w:=by
 obtain ⟨i,hi,hcmp⟩:=Option.map_eq_some_iff.1 Tryz.isComp
 obtain ⟨j,hj,hjs⟩:=Option.map_eq_some_iff.1 Tryz.isSize
 have h8:=@run_callFunc_extern Tryz.prog 52 _ Extern.ReflectliteType.typeOf Tryz.func52 (by kernel_rfl) (by kernel_rfl) (by kernel_rfl) (by kernel_rfl)
 have h32:=@run_callFunc_extern Tryz.prog 274 _ cmpEntry Tryz.func274 (by kernel_rfl) (by kernel_rfl) (by kernel_rfl) (by kernel_rfl)
 have tT:=Tryz.isTypeOf
 have cT:=Tryz.isComparable
 have mR:=Tryz.isMethodComparable
 have nW:=Tryz.noIsW
 have uW:=Tryz.hasUnwrapW
 have mU:=Tryz.methodUnwrap
 have heq:=run_eql_iface_ptr_same (P:=Tryz.prog) w b Tryz.underlying25 Tryz.underlying312 hi hcmp hj
 have hty:=run_eql_iface_types (P:=Tryz.prog) 75 312 (.pointer (some ⟨pb,0,none⟩)) (.pointer (some b)) Tryz.underlying25 (by decide) w
 go_enter Tryz.func28,Tryz.ntmps28
 go_wp2
 refine wp_loop_rounds 2 ?_
 rw [rounds_succ]
 go_wp2
 rw [rounds_succ]
 go_wp2
 go_ret
 exact ⟨rfl,rfl⟩
theorem is_fault_other (pb:Nat) (b a:Addr) (ca cb:Array Value) (ta tb:TypeId) (w:World) (h1:w.cell? ⟨pb,1,none⟩=some (.iface 312 (.pointer (some a)))) (hne:a ≠ b) (ha:w.heap[a.block]? = some (.cells ca ta (0,0))) (hb:w.heap[b.block]? = some (.cells cb tb (0,0))) :
  Calls Tryz.prog 28 #[.iface 75 (.pointer (some ⟨pb,0,none⟩)),.iface 312 (.pointer (some b))] w fun e w'=>e=.returned (.bool false) ∧ w'=w:=by
 obtain ⟨i,hi,hcmp⟩:=Option.map_eq_some_iff.1 Tryz.isComp
 obtain ⟨j,hj,hjs⟩:=Option.map_eq_some_iff.1 Tryz.isSize
 have h8:=@run_callFunc_extern Tryz.prog 52 _ Extern.ReflectliteType.typeOf Tryz.func52 (by kernel_rfl) (by kernel_rfl) (by kernel_rfl) (by kernel_rfl)
 have h32:=@run_callFunc_extern Tryz.prog 274 _ cmpEntry Tryz.func274 (by kernel_rfl) (by kernel_rfl) (by kernel_rfl) (by kernel_rfl)
 have tT:=Tryz.isTypeOf
 have cT:=Tryz.isComparable
 have mR:=Tryz.isMethodComparable
 have nE:=Tryz.noIsE
 have uE:=Tryz.noUnwrapE
 have vE:=Tryz.noUnwrapsE
 have nW:=Tryz.noIsW
 have uW:=Tryz.hasUnwrapW
 have mU:=Tryz.methodUnwrap
 have heq:=run_eql_iface_ptr_other (P:=Tryz.prog) w Tryz.underlying25 Tryz.underlying312 hi hcmp hj (by rw [hjs];decide) hne ha hb
 have hty:=run_eql_iface_types (P:=Tryz.prog) 75 312 (.pointer (some ⟨pb,0,none⟩)) (.pointer (some b)) Tryz.underlying25 (by decide) w
 go_enter Tryz.func28,Tryz.ntmps28
 go_wp2
 refine wp_loop_rounds 2 ?_
 rw [rounds_succ]
 go_wp2
 rw [rounds_succ]
 go_wp2
 go_ret
 exact ⟨rfl,rfl⟩
end Go.Proofs.YtipdclphpkgceaaGreatDoor
