/- Own facts, put together: no statement of its own. -/
import Derived.Test.YtipdclphpkgceaaGreatDoorA01

namespace Go.Proofs.YtipdclphpkgceaaGreatDoor
def Ce (n:Nat) (out:List Sn) (i:Nat):Prop:=i < n ∧ ∀ x ∈ out,x.num ≠ (i:Int)
def CK (out:List Sn):Int:=match out.getLast? with | some x=>x.fin | none=>0
theorem Li:CK []=0:=rfl
theorem FK (out:List Sn) (x:Sn):CK (out ++ [x])=x.fin:=by simp [CK]
structure Zf (ps:List Pk) (keys:List Int) (out:List Sn) (t:Int) (b:Nat):Prop where
 undone:Ce ps.length out b
 came:Ay ps b ≤ t
 least:∀ i,Ce ps.length out i → Ay ps i ≤ t → keys.getD b 0 < keys.getD i 0 ∨ (keys.getD b 0=keys.getD i 0 ∧ b ≤ i)
def Tick (ps:List Pk) (out:List Sn) (t:Int):Prop:=
 (t=CK out ∧ ∃ i,Ce ps.length out i ∧ Ay ps i ≤ t) ∨
 ((∀ i,Ce ps.length out i → CK out < Ay ps i) ∧ ∃ i,Ce ps.length out i ∧ t=Ay ps i ∧ ∀ k,Ce ps.length out k → Ay ps i ≤ Ay ps k)
theorem Tick.same {ps:List Pk} {out:List Sn} {t u:Int} (h:Tick ps out t) (k:Tick ps out u):t=u:=by
 rcases h with ⟨rfl,i,h1,h2⟩ | ⟨h0,i,h1,rfl,h2⟩
 ·
  rcases k with ⟨rfl,-⟩ | ⟨k0,-⟩
  · rfl
  · have:=k0 i h1;omega
 ·
  rcases k with ⟨rfl,j,k1,k2⟩ | ⟨-,j,k1,rfl,k2⟩
  · have:=h0 j k1;omega
  ·
   have:=h2 j k1
   have:=k2 i h1
   omega
theorem Zf.same {ps:List Pk} {keys:List Int} {out:List Sn} {t:Int} {b c:Nat} (h:Zf ps keys out t b) (k:Zf ps keys out t c):b=c:=by
 have h1:=h.least c k.undone k.came
 have k1:=k.least b h.undone h.came
 omega
def M4 (per:Int) (ps:List Pk) (keys:List Int) (out:List Sn) (x:Sn):Prop:=∃ t b,Tick ps out t ∧ Zf ps keys out t b ∧ x=⟨b,t,t+per * bytesOf ps b⟩
theorem M4.same {per:Int} {ps:List Pk} {keys:List Int} {out:List Sn} {x y:Sn} (h:M4 per ps keys out x) (k:M4 per ps keys out y):x=y:=by
 obtain ⟨t,b,h1,h2,rfl⟩:=h
 obtain ⟨u,c,k1,k2,rfl⟩:=k
 obtain rfl:=h1.same k1
 obtain rfl:=h2.same k2
 rfl
def DZ (per:Int) (ps:List Pk) (keys:List Int) (out:List Sn):Prop:=∀ k x,out[k]? = some x → M4 per ps keys (out.take k) x
theorem DZ.nil (per:Int) (ps:List Pk) (keys:List Int):DZ per ps keys []:=fun k x h=>by simp at h
theorem DZ.snoc {per:Int} {ps:List Pk} {keys:List Int} {out:List Sn} {x:Sn} (h:DZ per ps keys out) (hx:M4 per ps keys out x):DZ per ps keys (out ++ [x]):=by
 intro k y hk
 have hl:=Ad hk
 rw [List.length_append,List.length_cons,List.length_nil] at hl
 rcases Nat.lt_or_ge k out.length with h1 | h1
 ·
  rw [List.getElem?_append_left h1] at hk
  rw [List.take_append_of_le_length (by omega)]
  exact h k y hk
 ·
  obtain rfl:k=out.length:=by omega
  rw [List.getElem?_append_right (Nat.le_refl _)] at hk
  simp at hk
  subst hk
  rw [List.take_append_of_le_length (Nat.le_refl _),List.take_length]
  exact hx
theorem DZ.same {per:Int} {ps:List Pk} {keys:List Int} {a b:List Sn} (h:DZ per ps keys a) (k:DZ per ps keys b) (hl:a.length=b.length):a=b:=by
 have key:∀ n,n ≤ a.length → a.take n=b.take n:=by
  intro n
  induction n with
  | zero=>intro _;simp
  | succ n ih=>
   intro hn
   have e:=ih (by omega)
   have h1:a[n]? = some a[n]:=List.getElem?_eq_getElem (by omega)
   have h2:b[n]? = some (b[n]'(by omega)):=List.getElem?_eq_getElem (by omega)
   have g1:=h n _ h1
   have g2:=k n _ h2
   rw [← e] at g2
   have:=g1.same g2
   rw [List.take_add_one,List.take_add_one,e,h1,h2,this]
 have:=key a.length (Nat.le_refl _)
 rw [List.take_length,hl,List.take_length] at this
 exact this
theorem Ep {per:Int} {ps:List Pk} {j i:Nat}:Ce ps.length (BH per ps j) i ↔ i < ps.length ∧ j ≤ i:=by
 unfold Ce
 constructor
 ·
  rintro ⟨h1,h2⟩
  refine ⟨h1,?_⟩
  rcases Nat.lt_or_ge i j with h | h
  ·
   have hm:Vs per ps i ∈ BH per ps j:=List.mem_map.2 ⟨i,List.mem_range.2 h,rfl⟩
   exact absurd rfl (h2 _ hm)
  · exact h
 ·
  rintro ⟨h1,h2⟩
  refine ⟨h1,fun x hx=>?_⟩
  obtain ⟨k,hk,rfl⟩:=List.mem_map.1 hx
  have:=List.mem_range.1 hk
  simp only [Vs]
  omega
theorem Ky (per:Int) (ps:List Pk):∀ j,CK (BH per ps j)=lto per ps j
 | 0=>rfl
 | j+1=>by rw [J6,FK];rfl
theorem Vn {per:Int} {ps:List Pk} (ho:Aj ps) (keys:List Int) (hk:∀ i,keys.getD i 0=0):DZ per ps keys (BH per ps ps.length):=by
 intro k x hx
 have hkl:=Ad hx
 rw [Nn] at hkl
 rw [Ti hkl] at hx
 have hx:=Option.some.inj hx
 subst hx
 rw [Q8 (by omega)]
 refine ⟨max (lto per ps k) (Ay ps k),k,?_,⟨Ep.2 ⟨hkl,Nat.le_refl _⟩,by omega,fun i hi _=>.inr ⟨by rw [hk,hk],(Ep.1 hi).2⟩⟩,?_⟩
 ·
  by_cases h:Ay ps k ≤ lto per ps k
  · exact .inl ⟨by rw [Ky];omega,k,Ep.2 ⟨hkl,Nat.le_refl _⟩,by omega⟩
  ·
   refine .inr ⟨fun i hi=>?_,k,Ep.2 ⟨hkl,Nat.le_refl _⟩,by omega,fun i hi=>?_⟩
   ·
    rw [Ky]
    have:=Ep.1 hi
    have:=D6 ho this.2 this.1
    omega
   ·
    have:=Ep.1 hi
    exact D6 ho this.2 this.1
 · simp only [Vs,lto]
def named (n:Nat) (x:Sn):Bool:=decide (0 ≤ x.num ∧ x.num < n)
theorem Vd {n:Nat} {x:Sn} (h:named n x=true):0 ≤ x.num ∧ x.num < n:=of_decide_eq_true h
theorem Ry {n:Nat} {x:Sn} (h:named n x=false):x.num < 0 ∨ (¬ x.num < 0 ∧ (n:Int) ≤ x.num):=by
 have:¬ (0 ≤ x.num ∧ x.num < n):=of_decide_eq_false h
 omega
def AZ (out:List Sn) (i:Nat):Bool:=out.any fun x=>x.num == (i:Int)
theorem Qm {out:List Sn} {i:Nat}:AZ out i=false ↔ ∀ x ∈ out,x.num ≠ (i:Int):=by simp [AZ]
theorem Cq (out:List Sn) (b i:Nat) (f t:Int):AZ (out ++ [⟨b,f,t⟩]) i=(AZ out i || b == i):=by
 simp only [AZ,List.any_append,List.any_cons,List.any_nil,Bool.or_false]
 have e:((b:Int) == (i:Int))=(b == i):=by
  by_cases h:b=i
  · subst h;rw [beq_self_eq_true,beq_self_eq_true]
  ·
   have h':(b:Int) ≠ (i:Int):=by omega
   rw [beq_eq_false_iff_ne.2 h',beq_eq_false_iff_ne.2 h]
 rw [e]
theorem CU {n:Nat} {out:List Sn} {i:Nat}:Ce n out i ↔ i < n ∧ AZ out i=false:=by simp [Ce,Qm]
section
end
structure Md {σ:Type} (Q:Que σ) (keys:List Int) (q0:σ) (ok:σ → Prop) (items:σ → List Nat):Prop where
 start:ok q0 ∧ items q0=[]
 rest:∀ q,ok q → Q.rest q=(items q).length
 come:∀ q k,ok q → (∀ i,i ∈ items q → i < k) → ok (Q.come q k) ∧ (items (Q.come q k)).length=(items q).length+1 ∧ ∀ i,i ∈ items (Q.come q k) ↔ i ∈ items q ∨ i=k
 idle:∀ q,ok q → Q.rest q=0 → ok (Q.idle q) ∧ items (Q.idle q)=items q
 left:∀ q,ok q → 0 < (items q).length → ok (Q.left q) ∧ (items (Q.left q)).length+1=(items q).length ∧ ∀ i,i ∈ items (Q.left q) ↔ i ∈ items q ∧ i ≠ Q.pick q
 pick:∀ q,ok q → 0 < (items q).length → Q.pick q ∈ items q ∧ ∀ i,i ∈ items q → keys.getD (Q.pick q) 0 < keys.getD i 0 ∨ (keys.getD (Q.pick q) 0=keys.getD i 0 ∧ Q.pick q ≤ i)
structure YZ {σ:Type} (ok:σ → Prop) (items:σ → List Nat) (per:Int) (ps:List Pk) (keys:List Int) (s:St σ):Prop where
 good:ok s.q
 sched:DZ per ps keys s.out
 wait:∀ i,i ∈ items s.q ↔ i < s.next ∧ AZ s.out i=false
 sent:∀ i:Nat,AZ s.out i=true → i < s.next
 came:∀ i,i < s.next → Ay ps i ≤ s.now
 le:s.next ≤ ps.length
 now:s.now=CK s.out ∨ ((∀ i,Ce ps.length s.out i → CK s.out < Ay ps i) ∧ ∃ i,Ce ps.length s.out i ∧ s.now=Ay ps i ∧ ∀ k,Ce ps.length s.out k → Ay ps i ≤ Ay ps k)
theorem KQ {σ:Type} {Q:Que σ} {keys:List Int} {q0:σ} {ok:σ → Prop} {items:σ → List Nat} {per:Int} {ps:List Pk} {s:St σ} (hQ:Md Q keys q0 ok items) (hper:0 ≤ per) (ho:Aj ps) (h:Reaches Q per ps q0 s):YZ ok items per ps keys s:=by
 refine h.by_steps (C:=fun s=>YZ ok items per ps keys s) ?_ ?_ ?_ ?_
 ·
  refine ⟨hQ.start.1,DZ.nil _ _ _,fun i=>?_,fun i h=>?_,fun i h=>?_,Nat.zero_le _,.inl rfl⟩
  ·
   simp only [hQ.start.2]
   constructor
   · intro h;cases h
   · rintro ⟨h,-⟩;exact absurd h (Nat.not_lt_zero _)
  · simp [AZ] at h
  · exact absurd h (Nat.not_lt_zero _)
 ·
  intro s p _ hp ht ih
  have hn:∀ i,i ∈ items s.q → i < s.next:=fun i hm=>((ih.wait _).1 hm).1
  obtain ⟨c1,-,c3⟩:=hQ.come s.q s.next ih.good hn
  have hlt:=Ad hp
  refine ⟨c1,ih.sched,fun i=>?_,fun i hi=>Nat.lt_succ_of_lt (ih.sent i hi),fun i hi=>?_,hlt,ih.now⟩
  ·
   rw [c3,ih.wait]
   simp only
   constructor
   ·
    rintro (⟨a,b⟩ | rfl)
    · exact ⟨by omega,b⟩
    ·
     refine ⟨by omega,?_⟩
     cases hd:AZ s.out s.next with
     | false=>rfl
     | true=>have:=ih.sent _ hd;omega
   ·
    rintro ⟨a,b⟩
    rcases Nat.lt_or_ge i s.next with h' | h'
    · exact .inl ⟨h',b⟩
    · exact .inr (by omega)
  ·
   simp only at hi ⊢
   rcases Nat.lt_or_ge i s.next with h' | h'
   · exact ih.came i h'
   ·
    obtain rfl:i=s.next:=by omega
    rw [AJ hp];exact ht
 ·
  intro s p _ hall h0 hp ih
  rw [hQ.rest _ ih.good] at h0
  obtain ⟨l1,-,l3⟩:=hQ.left s.q ih.good h0
  obtain ⟨p1,p2⟩:=hQ.pick s.q ih.good h0
  obtain ⟨w1,w2⟩:=(ih.wait _).1 p1
  have hle:=ih.le
  have hcome:∀ i,Ce ps.length s.out i → Ay ps i ≤ s.now → i ∈ items s.q:=by
   intro i hi ht
   obtain ⟨u1,u2⟩:=CU.1 hi
   refine (ih.wait i).2 ⟨?_,u2⟩
   rcases Nat.lt_or_ge i s.next with h' | h'
   · exact h'
   ·
    have hnl:s.next < ps.length:=by omega
    have e:ps[s.next]? = some ps[s.next]:=List.getElem?_eq_getElem hnl
    have a1:=hall _ e
    have a2:=D6 ho h' u1
    rw [AJ e] at a2
    omega
  have hbest:Zf ps keys s.out s.now (Q.pick s.q):=⟨CU.2 ⟨by omega,w2⟩,ih.came _ w1,fun i hi ht=>p2 i (hcome i hi ht)⟩
  have htick:Tick ps s.out s.now:=by
   rcases ih.now with e | ⟨e1,e2⟩
   · exact .inl ⟨e,_,hbest.undone,hbest.came⟩
   · exact .inr ⟨e1,e2⟩
  have hpos:0 ≤ per * p.size:=Int.mul_nonneg hper (by have:=Bb (ho.each _ p hp).1;omega)
  refine ⟨l1,ih.sched.snoc ⟨s.now,Q.pick s.q,htick,hbest,by rw [Gp hp]⟩,fun i=>?_,fun i hi=>?_,fun i hi=>?_,ih.le,.inl (by rw [FK])⟩
  ·
   rw [l3,ih.wait]
   simp only
   rw [Cq]
   constructor
   ·
    rintro ⟨⟨a,b⟩,c⟩
    refine ⟨a,?_⟩
    rw [b,Bool.false_or]
    exact beq_eq_false_iff_ne.2 (fun e=>c e.symm)
   ·
    rintro ⟨a,b⟩
    rw [Bool.or_eq_false_iff] at b
    exact ⟨⟨a,b.1⟩,fun e=>beq_eq_false_iff_ne.1 b.2 e.symm⟩
  ·
   simp only at hi ⊢
   rw [Cq,Bool.or_eq_true] at hi
   rcases hi with hi | hi
   · exact ih.sent i hi
   ·
    have:=beq_iff_eq.1 hi
    omega
  ·
   have:=ih.came i hi
   simp only
   omega
 ·
  intro s p _ hp ht h0 ih
  rw [hQ.rest _ ih.good] at h0
  have hnone:items s.q=[]:=List.length_eq_zero_iff.1 h0
  have hge:∀ i,Ce ps.length s.out i → s.next ≤ i:=by
   intro i hi
   rcases Nat.lt_or_ge i s.next with h' | h'
   ·
    have:=(ih.wait i).2 ⟨h',(CU.1 hi).2⟩
    rw [hnone] at this;cases this
   · exact h'
  have hmin:∀ i,Ce ps.length s.out i → p.tick ≤ Ay ps i:=by
   intro i hi
   have:=D6 ho (hge i hi) (CU.1 hi).1
   rwa [AJ hp] at this
  have hnow:s.now=CK s.out:=by
   rcases ih.now with e | ⟨-,i,hi,e,-⟩
   · exact e
   ·
    have:=hmin i hi
    omega
  have hund:Ce ps.length s.out s.next:=by
   refine CU.2 ⟨Ad hp,?_⟩
   cases hd:AZ s.out s.next with
   | false=>rfl
   | true=>have:=ih.sent _ hd;omega
  obtain ⟨i1,i2⟩:=hQ.idle s.q ih.good (by rw [hQ.rest _ ih.good];exact h0)
  refine ⟨i1,ih.sched,fun i=>by rw [i2];exact ih.wait i,ih.sent,fun i hi=>?_,ih.le,.inr ⟨fun i hi=>?_,s.next,hund,(AJ hp).symm,fun k hk=>?_⟩⟩
  ·
   have:=ih.came i hi
   simp only
   omega
  ·
   have:=hmin i hi
   show CK s.out < _
   omega
  ·
   rw [AJ hp]
   exact hmin k hk
theorem NY {σ:Type} {Q:Que σ} {keys:List Int} {q0:σ} {ok:σ → Prop} {items:σ → List Nat} {per:Int} {ps:List Pk} (hQ:Md Q keys q0 ok items) (hper:0 ≤ per) (ho:Aj ps):Ia Q per ps q0 where
 none:=by rw [hQ.rest _ hQ.start.1,hQ.start.2];rfl
 come:=fun s hs _=>by
  have r:=KQ hQ hper ho hs
  have hn:∀ i,i ∈ items s.q → i < s.next:=fun i hm=>((r.wait _).1 hm).1
  obtain ⟨c1,c2,-⟩:=hQ.come s.q s.next r.good hn
  rw [hQ.rest _ c1,hQ.rest _ r.good,c2]
 left:=fun s hs h=>by
  have r:=KQ hQ hper ho hs
  rw [hQ.rest _ r.good] at h ⊢
  obtain ⟨l1,l2,-⟩:=hQ.left s.q r.good h
  rw [hQ.rest _ l1,l2]
 pick:=fun s hs h=>by
  have r:=KQ hQ hper ho hs
  rw [hQ.rest _ r.good] at h
  exact ((r.wait _).1 (hQ.pick s.q r.good h).1).1
 idle:=fun s hs h=>by
  have r:=KQ hQ hper ho hs
  obtain ⟨i1,i2⟩:=hQ.idle s.q r.good h
  rw [hQ.rest _ i1,i2,← hQ.rest _ r.good]
  exact h
theorem Vx {σ:Type} {Q:Que σ} {keys:List Int} {q0:σ} {ok:σ → Prop} {items:σ → List Nat} {per:Int} {ps:List Pk} {s:St σ} (hQ:Md Q keys q0 ok items) (hper:0 ≤ per) (ho:Aj ps) (h:Reaches Q per ps q0 s) (hn:¬ s.next < ps.length) (hr:Q.rest s.q=0):DZ per ps keys s.out ∧ s.out.length=ps.length:=by
 have r:=KQ hQ hper ho h
 have hc:=h.count (NY hQ hper ho)
 have:=r.le
 exact ⟨r.sched,by omega⟩
def sumOf (f:Nat → Int):List Nat → Int
 | []=>0
 | a :: r=>f a+sumOf f r
theorem KI {f:Nat → Int} (hf:∀ i,0 ≤ f i):∀ l,0 ≤ sumOf f l
 | []=>Int.le_refl _
 | a :: r=>by
  have:=KI hf r
  have:=hf a
  simp only [sumOf]
  omega
theorem Si {f:Nat → Int} {a:Nat}:∀ {l:List Nat},a ∈ l → sumOf f l=f a+sumOf f (l.erase a):=by
 intro l
 induction l with
 | nil=>intro h;cases h
 | cons x r ih=>
  intro h
  by_cases e:x=a
  · subst e;simp [sumOf]
  ·
   have hm:a ∈ r:=by
    rcases List.mem_cons.1 h with h | h
    · exact absurd h.symm e
    · exact h
   have he:(x :: r).erase a=x :: r.erase a:=List.erase_cons_tail (by simpa using e)
   rw [he]
   simp only [sumOf,ih hm]
   omega
theorem Yi {f:Nat → Int} (hf:∀ i,0 ≤ f i):∀ (A B:List Nat),A.Nodup → (∀ a,a ∈ A → a ∈ B) → sumOf f A ≤ sumOf f B:=by
 intro A
 induction A with
 | nil=>intro B _ _;exact KI hf B
 | cons a r ih=>
  intro B hn hs
  obtain ⟨h1,h2⟩:=List.nodup_cons.1 hn
  have hb:=hs a (List.mem_cons_self ..)
  rw [Si hb]
  have:=ih (B.erase a) h2 (fun x hx=>(List.mem_erase_of_ne (fun e:x=a=>h1 (by rw [← e];exact hx))).2 (hs x (List.mem_cons_of_mem _ hx)))
  simp only [sumOf]
  omega
def AB (key:Nat → Int) (q:List Nat):Nat → Nat
 | 0=>0
 | i+1=>if key (q.getD i 0) < key (q.getD (AB key q i) 0) then i else AB key q i
theorem Gw (key:Nat → Int) (q:List Nat):∀ i,AB key q i ≤ i - 1
 | 0=>Nat.le_refl _
 | i+1=>by
  have:=Gw key q i
  simp only [AB]
  split <;> omega
theorem DX (key:Nat → Int) {q:List Nat} {i:Nat} (h:0 < q.length) (hi:i ≤ q.length):AB key q i < q.length:=by
 have:=Gw key q i
 omega
theorem F9 (key:Nat → Int) (q:List Nat):∀ i j,j < i → key (q.getD (AB key q i) 0) < key (q.getD j 0) ∨ (key (q.getD (AB key q i) 0)=key (q.getD j 0) ∧ AB key q i ≤ j):=by
 intro i
 induction i with
 | zero=>intro j hj;omega
 | succ i ih=>
  intro j hj
  have hle:=Gw key q i
  simp only [AB]
  by_cases hc:key (q.getD i 0) < key (q.getD (AB key q i) 0)
  ·
   rw [if_pos hc]
   rcases Nat.lt_or_ge j i with h | h
   ·
    have:=ih j h
    omega
   ·
    obtain rfl:j=i:=by omega
    exact .inr ⟨rfl,Nat.le_refl _⟩
  ·
   rw [if_neg hc]
   rcases Nat.lt_or_ge j i with h | h
   · exact ih j h
   ·
    obtain rfl:j=i:=by omega
    omega
def Ba (key:Nat → Int) (q:List Nat):Nat:=AB key q q.length
def waits (key:Nat → Int):Que (List Nat) where
 come:=fun q k=>q ++ [k]
 pick:=fun q=>q.getD (Ba key q) 0
 left:=fun q=>q.eraseIdx (Ba key q)
 rest:=List.length
theorem getD_lt {α:Type} {l:List α} {j:Nat} {d:α} (h:j < l.length):l.getD j d=l[j]:=by simp [List.getD,List.getElem?_eq_getElem h]
theorem Uj {q:List Nat} (h:q.Pairwise (· < ·)) {i j:Nat} (hi:i < q.length) (hj:j < q.length) (e:q[i]=q[j]):i=j:=by
 have h1:=List.pairwise_iff_getElem.1 h i j hi hj
 have h2:=List.pairwise_iff_getElem.1 h j i hj hi
 omega
theorem FV (key:Nat → Int) {q:List Nat} (h:0 < q.length):Ba key q < q.length:=DX key h (Nat.le_refl _)
theorem Wp (keys:List Int):Md (waits fun i=>keys.getD i 0) keys [] (fun q=>q.Pairwise (· < ·)) (fun q=>q) where
 start:=⟨List.Pairwise.nil,rfl⟩
 rest:=fun q _=>rfl
 idle:=fun q h _=>⟨h,rfl⟩
 come:=fun q k h hk=>by
  refine ⟨List.pairwise_append.2 ⟨h,List.pairwise_singleton _ _,fun a ha b hb=>?_⟩,by simp [waits],fun i=>by simp [waits]⟩
  rw [List.mem_singleton] at hb
  subst hb
  exact hk a ha
 left:=fun q h h0=>by
  have hlt:=FV (fun i=>keys.getD i 0) h0
  refine ⟨List.Pairwise.sublist (List.eraseIdx_sublist ..) h,?_,fun i=>?_⟩
  ·
   show (q.eraseIdx (Ba _ q)).length+1=_
   rw [List.length_eraseIdx,if_pos hlt]
   omega
  ·
   show i ∈ q.eraseIdx (Ba _ q) ↔ i ∈ q ∧ i ≠ q.getD (Ba _ q) 0
   have hg:q.getD (Ba (fun i=>keys.getD i 0) q) 0=q[Ba (fun i=>keys.getD i 0) q]'hlt:=getD_lt hlt
   rw [hg,List.mem_eraseIdx_iff_getElem]
   constructor
   ·
    rintro ⟨j,hj,hne,rfl⟩
    exact ⟨List.getElem_mem _,fun e=>hne (Uj h _ _ e)⟩
   ·
    rintro ⟨hm,hne⟩
    obtain ⟨j,hj,rfl⟩:=List.getElem_of_mem hm
    exact ⟨j,hj,fun e=>hne (by subst e;rfl),rfl⟩
 pick:=fun q h h0=>by
  have hlt:=FV (fun i=>keys.getD i 0) h0
  have hg:q.getD (Ba (fun i=>keys.getD i 0) q) 0=q[Ba (fun i=>keys.getD i 0) q]'hlt:=getD_lt hlt
  refine ⟨?_,fun i hi=>?_⟩
  ·
   show q.getD (Ba _ q) 0 ∈ q
   rw [hg]
   exact List.getElem_mem _
  ·
   obtain ⟨j,hj,rfl⟩:=List.getElem_of_mem hi
   show keys.getD (q.getD (Ba _ q) 0) 0 < _ ∨ (keys.getD (q.getD (Ba _ q) 0) 0=_ ∧ q.getD (Ba _ q) 0 ≤ _)
   have hm:=F9 (fun i=>keys.getD i 0) q q.length j hj
   have hgj:q.getD j 0=q[j]:=getD_lt hj
   simp only [hgj] at hm
   rcases hm with hm | ⟨hm,hle⟩
   · exact .inl hm
   ·
    refine .inr ⟨hm,?_⟩
    rw [hg]
    rcases Nat.lt_or_eq_of_le hle with h' | h'
    · exact Nat.le_of_lt (List.pairwise_iff_getElem.1 h _ _ hlt hj h')
    ·
     have e:Ba (fun i=>keys.getD i 0) q=j:=h'
     simp only [e]
     exact Nat.le_refl _
def Ae (ps:List Pk) (j:Nat):Nat:=match ps[j]? with | some p=>p.flow.toNat | none=>0
theorem ES {ps:List Pk} {j:Nat} {p:Pk} (h:ps[j]? = some p):Ae ps j=p.flow.toNat:=by simp [Ae,h]
def EB (ps:List Pk) (ns:List Int) (j:Nat):Int:=ns.getD (Ae ps j) 0
def Cu (ps:List Pk) (ns:List Int):List Int:=(List.range ps.length).map (EB ps ns)
def Dj (ps:List Pk) (ns:List Int):List Int:=(List.range ps.length).map fun i=>Ay ps i+EB ps ns i
theorem LU (ps:List Pk) (ns:List Int):(Cu ps ns).length=ps.length:=by simp [Cu]
theorem NG (ps:List Pk) (ns:List Int):(Dj ps ns).length=ps.length:=by simp [Dj]
theorem QE {ps:List Pk} {ns:List Int} {i:Nat} (h:i < ps.length):(Cu ps ns).getD i 0=EB ps ns i:=by
 rw [getD_lt (by rw [LU];exact h)]
 simp [Cu]
theorem Ru {ps:List Pk} {ns:List Int} {i:Nat} (h:i < ps.length):(Dj ps ns).getD i 0=Ay ps i+EB ps ns i:=by
 rw [getD_lt (by rw [NG];exact h)]
 simp [Dj]
section
end
def Conv (per:Int) (ps:List Pk) (l:List Sn):Prop:=∀ (k:Nat) x,l[k]? = some x → ∃ t b,Tick ps (l.take k) t ∧ Ce ps.length (l.take k) b ∧ Ay ps b ≤ t ∧ x=⟨(b:Nat),t,t+per * bytesOf ps b⟩
def LK (ps:List Pk) (l:List Sn):Prop:=∀ (k:Nat) x,l[k]? = some x → ∀ j,j < x.num.toNat → Ae ps j=Ae ps x.num.toNat → ¬ Ce ps.length (l.take k) j
section
variable {per:Int} {ps:List Pk} {l:List Sn} {keys:List Int}
theorem DZ.conv (h:DZ per ps keys l):Conv per ps l:=fun k x hx=>by
 obtain ⟨t,b,h1,h2,e⟩:=h k x hx
 exact ⟨t,b,h1,h2.undone,h2.came,e⟩
theorem DZ.turns (ho:Aj ps) (hk:∀ i j,i < j → j < ps.length → Ae ps i=Ae ps j → keys.getD i 0 ≤ keys.getD j 0) (h:DZ per ps keys l):LK ps l:=fun k x hx j hj hf hu=>by
 obtain ⟨t,b,h1,h2,e⟩:=h k x hx
 have eb:x.num.toNat=b:=by rw [e];simp
 rw [eb] at hj hf
 have hb:=h2.undone.1
 have c:=D6 ho (Nat.le_of_lt hj) hb
 have c1:=h2.least j hu (by have:=h2.came;omega)
 have c2:=hk j b hj hb hf
 omega
theorem QH:∀ L:List Nat,sumOf (fun _=>1) L=L.length
 | []=>rfl
 | a :: L=>by
  have:=QH L
  simp only [sumOf,List.length_cons]
  omega
theorem YR {A B:List Nat} (hA:A.Nodup) (h:∀ a,a ∈ A → a ∈ B):A.length ≤ B.length:=by
 have:=Yi (f:=fun _=>1) (fun _=>by omega) A B hA h
 rw [QH,QH] at this
 omega
theorem PX {k:Nat} {x:Sn} (h:l[k]? = some x):CK (l.take (k+1))=x.fin:=by
 rw [List.take_add_one,h]
 exact FK _ _
theorem Us (ho:Aj ps) {ns:List Int} (h:DZ per ps (Cu ps ns) l):LK ps l:=by
 refine h.turns ho fun i j hij hj hf=>?_
 have e:∀ k,k < ps.length → (Cu ps ns).getD k 0=EB ps ns k:=fun k hk=>by simp [Cu,List.getD,hk]
 rw [e i (by omega),e j hj]
 unfold EB
 rw [hf]
 exact Int.le_refl _
theorem V6 (ho:Aj ps) {ns:List Int} (h:DZ per ps (Dj ps ns) l):LK ps l:=by
 refine h.turns ho fun i j hij hj hf=>?_
 have e:∀ k,k < ps.length → (Dj ps ns).getD k 0=Ay ps k+EB ps ns k:=fun k hk=>by simp [Dj,List.getD,hk]
 rw [e i (by omega),e j hj]
 have:=D6 ho (Nat.le_of_lt hij) hj
 unfold EB
 rw [hf]
 omega
theorem Rn (ho:Aj ps):Conv per ps (BH per ps ps.length) ∧ LK ps (BH per ps ps.length):=by
 have h:=Vn (per:=per) ho [] (fun _=>rfl)
 exact ⟨h.conv,h.turns ho fun _ _ _ _ _=>Int.le_refl _⟩
end
def Ahead (at_:Nat → Int) (a b:Nat):Prop:=at_ a < at_ b ∨ (at_ a=at_ b ∧ a < b)
structure Bg (at_:Nat → Int) (n:Nat) (L:List Nat):Prop where
 sorted:L.Pairwise (Ahead at_)
 mem:∀ j,j ∈ L ↔ j < n
section
variable {at_ bt:Nat → Int} {n:Nat} {L M:List Nat}
theorem Ahead.ne {a b:Nat} (h:Ahead at_ a b):a ≠ b:=fun e=>by subst e;rcases h with h | ⟨-,h⟩ <;> omega
theorem Ahead.not {a b:Nat} (h:Ahead at_ a b):¬ Ahead at_ b a:=fun k=>by unfold Ahead at h k;omega
theorem Lj:∀ {L M:List Nat},L.Pairwise (Ahead at_) → M.Pairwise (Ahead at_) → (∀ j,j ∈ L ↔ j ∈ M) → L=M
 | [],[],_,_,_=>rfl
 | [],b :: M,_,_,h=>by have:=(h b).2 (List.mem_cons_self ..);cases this
 | a :: L,[],_,_,h=>by have:=(h a).1 (List.mem_cons_self ..);cases this
 | a :: L,b :: M,hL,hM,h=>by
  obtain ⟨l1,l2⟩:=List.pairwise_cons.1 hL
  obtain ⟨m1,m2⟩:=List.pairwise_cons.1 hM
  have hab:a=b:=by
   by_cases e:a=b
   · exact e
   ·
    have h1:a ∈ M:=by
     rcases List.mem_cons.1 ((h a).1 (List.mem_cons_self ..)) with h' | h'
     · exact absurd h' e
     · exact h'
    have h2:b ∈ L:=by
     rcases List.mem_cons.1 ((h b).2 (List.mem_cons_self ..)) with h' | h'
     · exact absurd h'.symm e
     · exact h'
    exact absurd (l1 b h2) (m1 a h1).not
  subst hab
  have na:a ∉ L:=fun hm=>(l1 a hm).ne rfl
  have nb:a ∉ M:=fun hm=>(m1 a hm).ne rfl
  have:=Lj l2 m2 (fun j=>⟨fun hj=>by
   rcases List.mem_cons.1 ((h j).1 (List.mem_cons_of_mem _ hj)) with e | e
   · exact absurd (by rw [← e];exact hj) na
   · exact e,fun hj=>by
   rcases List.mem_cons.1 ((h j).2 (List.mem_cons_of_mem _ hj)) with e | e
   · exact absurd (by rw [← e];exact hj) nb
   · exact e⟩)
  rw [this]
theorem Bg.same (h:Bg at_ n L) (k:Bg at_ n M):L=M:=Lj h.sorted k.sorted fun j=>by rw [h.mem,k.mem]
theorem Bg.nodup (h:Bg at_ n L):L.Nodup:=by
 refine List.pairwise_iff_getElem.2 fun i j hi hj hij=>(List.pairwise_iff_getElem.1 h.sorted i j hi hj hij).ne
theorem Bg.length (h:Bg at_ n L):L.length=n:=by
 have h1:=YR (B:=List.range n) h.nodup (fun a ha=>List.mem_range.2 ((h.mem a).1 ha))
 have h2:=YR (A:=List.range n) (B:=L) List.nodup_range (fun a ha=>(h.mem a).2 (List.mem_range.1 ha))
 simp only [List.length_range] at h1 h2
 omega
theorem Bg.start (at_:Nat → Int):Bg at_ 0 []:=⟨List.Pairwise.nil,fun j=>⟨(fun h=>by cases h),fun h=>absurd h (Nat.not_lt_zero _)⟩⟩
theorem Bg.range (hm:∀ i j,i < j → j < n → at_ i ≤ at_ j):Bg at_ n (List.range n):=by
 refine ⟨List.pairwise_iff_getElem.2 fun i j hi hj hij=>?_,fun j=>List.mem_range⟩
 rw [List.length_range] at hi hj
 rw [List.getElem_range,List.getElem_range]
 have:=hm i j hij hj
 unfold Ahead
 omega
end
theorem R4 {α:Type} {P:List α → Prop} (h0:P []) (hs:∀ l a,P l → P (l ++ [a])):∀ l,P l:=by
 have h:∀ l:List α,P l.reverse:=by
  intro l
  induction l with
  | nil=>exact h0
  | cons a r ih=>rw [List.reverse_cons];exact hs _ _ ih
 intro l
 have:=h l.reverse
 rwa [List.reverse_reverse] at this
def Rh (bs:List Bk) (T n:Int):Prop:=∀ b,b ∈ bs → n * 1000 ≤ b.lev T
def Fw:List Bk → Int → Int → Option Int
 | [],t,_=>some t
 | b :: r,t,n=>match b.when t n with | none=>none | some u=>Fw r u n
theorem Vf {n:Int}:∀ (bs:List Bk) (t T:Int),(∀ b,b ∈ bs → b.Ok) → t ≤ 1099511627776 → Fw bs t n=some T → t ≤ T ∧ T ≤ 1099511627776 ∧ Rh bs T n ∧ ∀ s,t ≤ s → s < T → ¬ Rh bs s n:=by
 intro bs
 induction bs with
 | nil=>intro t T _ t1 e;cases e;exact ⟨Int.le_refl _,t1,(fun b hb=>by cases hb),fun s h1 h2=>by omega⟩
 | cons b r ih=>
  intro t T hok t1 e
  unfold Fw at e
  split at e
  · cases e
  ·
   rename_i u hu
   have hb:=hok b (List.mem_cons_self ..)
   obtain ⟨h1,h2,h3,h4⟩:=b.when_some hb t1 hu
   obtain ⟨h5,h6,h7,h8⟩:=ih u T (fun c hc=>hok c (List.mem_cons_of_mem _ hc)) h2 e
   refine ⟨by omega,h6,fun c hc=>?_,fun s h9 h10 h11=>?_⟩
   ·
    rcases List.mem_cons.1 hc with rfl | hc
    · have:=Bk.lev_mono hb.r0 h5;omega
    · exact h7 c hc
   ·
    by_cases h12:s < u
    ·
     have:=h4 s h9 h12
     have:=h11 b (List.mem_cons_self ..)
     omega
    · exact h8 s (by omega) h10 (fun c hc=>h11 c (List.mem_cons_of_mem _ hc))
structure Sh where
 bs:List Bk
 left:Int
 out:List Pk
def Cz (s:Sh) (p:Pk):Option Sh:=match Fw s.bs (max p.tick s.left) p.size with
 | none=>none
 | some T=>some ⟨s.bs.map fun b=>b.take T p.size,T,s.out ++ [⟨p.flow,p.size,T⟩]⟩
def shape (ls:List (Int × Int)) (ps:List Pk):Option Sh:=ps.foldl (fun s p=>s.bind fun s=>Cz s p) (some ⟨ls.map F7,0,[]⟩)
theorem JJ (ls:List (Int × Int)) (ps:List Pk) (p:Pk):shape ls (ps ++ [p])=(shape ls ps).bind fun s=>Cz s p:=by simp [shape,List.foldl_append]
theorem Fb (ps:List Pk) (p:Pk) (i:Nat) (h:i ≤ ps.length):ahead (ps ++ [p]) i=ahead ps i:=by
 cases i with
 | zero=>rfl
 | succ i=>simp only [ahead];rw [List.getElem?_append_left (by omega)]
theorem I1 (ps:List Pk) (p:Pk):ahead (ps ++ [p]) (ps.length+1)=p.tick:=by
 unfold ahead;simp
theorem JM (ps:List Pk) (p:Pk):Aj (ps ++ [p]) ↔ Aj ps ∧ ps.length < 300 ∧ Jr p=true ∧ ahead ps ps.length ≤ p.tick:=by
 constructor
 ·
  rintro ⟨h1,h2⟩
  simp at h1
  refine ⟨⟨by omega,fun i q hq=>?_⟩,by omega,?_,?_⟩
  ·
   have hi:i < ps.length:=by
    rcases Nat.lt_or_ge i ps.length with h | h
    · exact h
    · simp [List.getElem?_eq_none h] at hq
   have:=h2 i q (by rw [List.getElem?_append_left hi];exact hq)
   rwa [Fb _ _ _ (by omega)] at this
  · exact (h2 ps.length p (by simp)).1
  ·
   have:=(h2 ps.length p (by simp)).2
   rwa [Fb _ _ _ (by omega)] at this
 ·
  rintro ⟨⟨h1,h2⟩,h3,h4,h5⟩
  refine ⟨by simp;omega,fun i q hq=>?_⟩
  by_cases hi:i < ps.length
  ·
   rw [List.getElem?_append_left hi] at hq
   rw [Fb _ _ _ (by omega)]
   exact h2 i q hq
  ·
   have hl:i=ps.length:=by
    rcases Nat.lt_or_ge ps.length i with h | h
    · rw [List.getElem?_eq_none (by simp;omega)] at hq;cases hq
    · omega
   subst hl
   simp at hq
   subst hq
   rw [Fb _ _ _ (by omega)]
   exact ⟨h4,h5⟩
theorem Aj.final {ps:List Pk} (h:Aj ps):0 ≤ ahead ps ps.length ∧ ahead ps ps.length ≤ 1099511627776:=by
 cases hn:ps.length with
 | zero=>simp [ahead]
 | succ n=>
  have hp:ps[n]? = some ps[n]:=by simp [hn]
  have:=Bb (h.each n _ hp).1
  simp only [ahead]
  rw [hp]
  exact ⟨this.2.2.2.2.1,this.2.2.2.2.2⟩
structure I6 (ls:List (Int × Int)) (ps:List Pk) (s:Sh):Prop where
 few:s.bs.length=ls.length
 ok:∀ b,b ∈ s.bs → b.Ok ∧ b.last=s.left
 pass:∀ (i:Nat) q b,ls[i]? = some q → s.bs[i]? = some b → Passed q s.out b
 left:s.left=ahead s.out s.out.length
 okOut:Aj s.out
 len:s.out.length=ps.length
 each:∀ (i:Nat) p q,ps[i]? = some p → s.out[i]? = some q → q.flow=p.flow ∧ q.size=p.size ∧ p.tick ≤ q.tick
 fits:Oa ls s.out=true
theorem RJ {ls:List (Int × Int)} (h:Ag ls):I6 ls [] ⟨ls.map F7,0,[]⟩:=by
 refine ⟨by simp,fun b hb=>?_,fun i q b hq hb=>?_,rfl,Eh,rfl,fun i p q hp=>by simp at hp,rfl⟩
 ·
  obtain ⟨q,hq,rfl⟩:=List.mem_map.1 hb
  exact ⟨Z5 (h.2.2 q hq),rfl⟩
 ·
  simp [hq] at hb
  subst hb
  exact Sz q (Ap (h.2.2 q (List.mem_of_getElem? hq))).2.2.1
theorem I6.have_fits {ls:List (Int × Int)} {ps:List Pk} {s:Sh} (h:I6 ls ps s) (hk:Ag ls) (p:Pk) (hp:s.left ≤ p.tick):Rh s.bs p.tick p.size ↔ D5 ls s.out p:=by
 rw [ND ls hk.1]
 constructor
 ·
  intro H q hq
  obtain ⟨i,hi⟩:=List.mem_iff_getElem?.1 hq
  have hlt:i < s.bs.length:=by
   rw [h.few]
   rcases Nat.lt_or_ge i ls.length with h | h
   · exact h
   · simp [List.getElem?_eq_none h] at hi
  have hb:s.bs[i]? = some s.bs[i]:=by simp [hlt]
  have hm:s.bs[i] ∈ s.bs:=List.getElem_mem hlt
  exact ((h.pass i q _ hi hb).fits p (by rw [(h.ok _ hm).2];exact hp)).1 (H _ hm)
 ·
  intro H b hb
  obtain ⟨i,hi⟩:=List.mem_iff_getElem?.1 hb
  have hlt:i < ls.length:=by
   rw [← h.few]
   rcases Nat.lt_or_ge i s.bs.length with h | h
   · exact h
   · simp [List.getElem?_eq_none h] at hi
  have hq:ls[i]? = some ls[i]:=by simp [hlt]
  exact ((h.pass i _ b hq hi).fits p (by rw [(h.ok _ hb).2];exact hp)).2 (H _ (List.getElem_mem hlt))
theorem I6.step {ls:List (Int × Int)} {ps:List Pk} {s s':Sh} {p:Pk} (h:I6 ls ps s) (hk:Ag ls) (hp:Jr p=true) (hn:ps.length < 300) (e:Cz s p=some s'):I6 ls (ps ++ [p]) s':=by
 have ha:=h.okOut.final
 rw [← h.left] at ha
 have hpk:=Bb hp
 unfold Cz at e
 split at e
 · cases e
 ·
  rename_i T hT
  cases e
  obtain ⟨h1,h2,h3,-⟩:=Vf s.bs _ T (fun b hb=>(h.ok b hb).1) (by omega) hT
  have hlast:s.left ≤ T:=by omega
  have hT0:0 ≤ T:=by omega
  refine ⟨by simpa using h.few,fun b hb=>?_,fun i q b hq hb=>?_,?_,?_,by simp [h.len],fun i a b ha' hb'=>?_,?_⟩
  ·
   obtain ⟨c,hc,rfl⟩:=List.mem_map.1 hb
   exact ⟨(h.ok c hc).1.take (by rw [(h.ok c hc).2];exact hlast) h2 (by omega),Bk.take_last ..⟩
  ·
   simp only [List.getElem?_map,Option.map_eq_some_iff] at hb
   obtain ⟨c,hc,rfl⟩:=hb
   have hcm:=List.mem_of_getElem? hc
   exact (h.pass i q c hq hc).pass (h.ok c hcm).1.r0 ⟨p.flow,p.size,T⟩ (by rw [(h.ok c hcm).2];exact hlast) (h3 c hcm)
  ·
   show T=ahead (s.out ++ [_]) (s.out ++ [_]).length
   rw [List.length_append,List.length_singleton,I1]
  ·
   rw [JM]
   refine ⟨h.okOut,by rw [h.len];exact hn,ZA ⟨hpk.1,hpk.2.1,hpk.2.2.1,hpk.2.2.2.1,hT0,h2⟩,by rw [← h.left];exact hlast⟩
  ·
   by_cases hi:i < ps.length
   ·
    rw [List.getElem?_append_left hi] at ha'
    rw [List.getElem?_append_left (by rw [h.len];exact hi)] at hb'
    exact h.each i a b ha' hb'
   ·
    have hl:i=ps.length:=by
     rcases Nat.lt_or_ge ps.length i with h | h
     · rw [List.getElem?_eq_none (by simp;omega)] at ha';cases ha'
     · omega
    subst hl
    simp at ha'
    subst ha'
    rw [← h.len] at hb'
    simp at hb'
    subst hb'
    exact ⟨rfl,rfl,by show p.tick ≤ T;omega⟩
  ·
   rw [TS]
   exact ⟨h.fits,(h.have_fits hk ⟨p.flow,p.size,T⟩ hlast).1 h3⟩
theorem Hg {ls:List (Int × Int)} (hk:Ag ls):∀ (ps:List Pk) (s:Sh),Aj ps → shape ls ps=some s → I6 ls ps s:=by
 refine R4 (fun s _ e=>?_) (fun ps p ih s ho e=>?_)
 · cases e;exact RJ hk
 ·
  rw [JJ] at e
  obtain ⟨s0,h0,h1⟩:=Option.bind_eq_some_iff.1 e
  obtain ⟨o1,o2,o3,-⟩:=(JM ps p).1 ho
  exact (ih s0 o1 h0).step hk o3 o2 h1
section
variable (ps:List Pk)
def Cj (f k:Nat):List Pk:=(ps.take k).filter fun p=>p.flow == (f:Int)
def A7 (f k:Nat):List Nat:=(List.range k).filter fun i=>Ae ps i == f
def GG (i:Nat):Nat:=(A7 ps (Ae ps i) i).length
variable {ps}
theorem JU (f k:Nat):A7 ps f (k+1)=if Ae ps k=f then A7 ps f k ++ [k] else A7 ps f k:=by
 unfold A7
 rw [List.range_succ,List.filter_append]
 by_cases h:Ae ps k=f
 ·
  rw [if_pos h,List.filter_cons,if_pos (by rw [beq_iff_eq];exact h)]
  rfl
 ·
  rw [if_neg h,List.filter_cons,if_neg (by rw [beq_iff_eq];exact h)]
  exact List.append_nil _
theorem MI {f k:Nat} {p:Pk} (hp:ps[k]? = some p):Cj ps f (k+1)=if p.flow=(f:Int) then Cj ps f k ++ [p] else Cj ps f k:=by
 unfold Cj
 rw [List.take_add_one,hp,List.filter_append]
 by_cases h:p.flow=(f:Int)
 ·
  rw [if_pos h]
  congr 1
  show List.filter _ [p]=_
  rw [List.filter_cons,if_pos (by rw [beq_iff_eq];exact h)]
  rfl
 ·
  rw [if_neg h]
  show _ ++ List.filter _ [p]=_
  rw [List.filter_cons,if_neg (by rw [beq_iff_eq];exact h)]
  exact List.append_nil _
theorem Qt (ho:Aj ps) {k:Nat} {p:Pk} (hp:ps[k]? = some p) (f:Nat):p.flow=(f:Int) ↔ Ae ps k=f:=by
 have:=Bb (ho.each _ p hp).1
 rw [ES hp]
 omega
theorem DJ (ho:Aj ps) (f:Nat):∀ k,k ≤ ps.length → (Cj ps f k).length=(A7 ps f k).length ∧ ∀ (r i:Nat),(A7 ps f k)[r]? = some i → i < k ∧ Ae ps i=f ∧ GG ps i=r ∧ (Cj ps f k)[r]? = ps[i]?
 | 0,_=>⟨rfl,fun r i h=>by simp [A7] at h⟩
 | k+1,hk=>by
  obtain ⟨h1,h2⟩:=DJ ho f k (by omega)
  have e:ps[k]? = some ps[k]:=List.getElem?_eq_getElem (by omega)
  rw [JU,MI e]
  by_cases h:Ae ps k=f
  ·
   rw [if_pos h,if_pos ((Qt ho e f).2 h)]
   refine ⟨by simp [h1],fun r i hi=>?_⟩
   rcases Nat.lt_or_ge r (A7 ps f k).length with hr | hr
   ·
    rw [List.getElem?_append_left hr] at hi
    obtain ⟨g1,g2,g3,g4⟩:=h2 r i hi
    exact ⟨by omega,g2,g3,by rw [List.getElem?_append_left (by omega)];exact g4⟩
   ·
    rw [List.getElem?_append_right hr] at hi
    have hr0:r=(A7 ps f k).length:=by
     rcases Nat.eq_zero_or_pos (r - (A7 ps f k).length) with h' | h'
     · omega
     · rw [List.getElem?_eq_none (by simp;omega)] at hi;cases hi
    subst hr0
    rw [Nat.sub_self] at hi
    obtain rfl:k=i:=by simpa using hi
    refine ⟨by omega,h,by unfold GG;rw [h],?_⟩
    rw [List.getElem?_append_right (by omega),h1,Nat.sub_self,e]
    rfl
  ·
   rw [if_neg h,if_neg (fun h'=>h ((Qt ho e f).1 h'))]
   exact ⟨h1,fun r i hi=>by obtain ⟨g1,g2⟩:=h2 r i hi;exact ⟨by omega,g2⟩⟩
theorem WV (f k:Nat):(A7 ps f k).Pairwise (· < ·):=List.pairwise_lt_range.filter _
theorem Jm {f k i:Nat}:i ∈ A7 ps f k ↔ i < k ∧ Ae ps i=f:=by
 unfold A7
 rw [List.mem_filter,List.mem_range,beq_iff_eq]
theorem Nr (ho:Aj ps) {i k:Nat} (hi:i < k) (hk:k ≤ ps.length):(A7 ps (Ae ps i) k)[GG ps i]? = some i:=by
 have hm:i ∈ A7 ps (Ae ps i) k:=Jm.2 ⟨hi,rfl⟩
 obtain ⟨r,hr,e⟩:=List.getElem_of_mem hm
 have h2:(A7 ps (Ae ps i) k)[r]? = some i:=by rw [List.getElem?_eq_getElem hr,e]
 have:=((DJ ho (Ae ps i) k hk).2 r i h2).2.2.1
 rw [this]
 exact h2
theorem QY (ho:Aj ps) (f:Nat):∀ k,k ≤ ps.length → Aj (Cj ps f k) ∧ ahead (Cj ps f k) (Cj ps f k).length ≤ ahead ps k ∧ (Cj ps f k).length ≤ k
 | 0,_=>⟨Eh,Int.le_refl _,Nat.le_refl _⟩
 | k+1,hk=>by
  obtain ⟨h1,h2,h3⟩:=QY ho f k (by omega)
  have e:ps[k]? = some ps[k]:=List.getElem?_eq_getElem (by omega)
  obtain ⟨o1,o2⟩:=ho.each k _ e
  have ea:ahead ps (k+1)=ps[k].tick:=by simp only [ahead,e]
  have hfew:=ho.few
  rw [MI e,ea]
  by_cases h:ps[k].flow=(f:Int)
  ·
   rw [if_pos h]
   refine ⟨(JM _ _).2 ⟨h1,by omega,o1,by omega⟩,?_,by simp;omega⟩
   rw [List.length_append,List.length_cons,List.length_nil,I1]
   exact Int.le_refl _
  ·
   rw [if_neg h]
   exact ⟨h1,by omega,by omega⟩
end
end Go.Proofs.YtipdclphpkgceaaGreatDoor
