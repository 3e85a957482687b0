/- Own facts, put together: no statement of its own. -/
import Derived.Deep.RegionHeld3
import Derived.Deep.DeepCutAuto
import Derived.Deep.LoopGhost
import Derived.Deep.AppendLies
import Derived.Laws.StructEq
import Derived.Deep.CutRange
import Derived.BigQuiet
import Derived.Test.YtipdclphpkgceaaGreatDoorS24
import Derived.Test.YtipdclphpkgceaaGreatDoorS03
import Derived.Test.YtipdclphpkgceaaGreatDoorS09
import Derived.Test.YtipdclphpkgceaaGreatDoorS08
import Derived.Test.YtipdclphpkgceaaGreatDoorS01
import Derived.Test.YtipdclphpkgceaaGreatDoorS11
import Derived.Test.YtipdclphpkgceaaGreatDoorS13
import Derived.Test.YtipdclphpkgceaaGreatDoorS25
import Derived.Test.YtipdclphpkgceaaGreatDoorS27
import Derived.Test.YtipdclphpkgceaaGreatDoorS14
import Derived.Test.YtipdclphpkgceaaGreatDoorS23
import Derived.Test.YtipdclphpkgceaaGreatDoorS15
import Derived.Maps.AppendAt
set_option maxHeartbeats 2000000
set_option maxRecDepth 100000

namespace Go.Proofs.YtipdclphpkgceaaGreatDoor
open Go.RowKit
def numBy (Dd Db:Int → List (Int × Int) → Option Int → Prop) (k:Nat) (per:Int) (L:List (Int × Int)) (o:Option Int):Prop:=(k=1 ∧ Dd per L o) ∨ (k ≠ 1 ∧ Db per L o)
def BoundIs (S:List (Int × Int) → List (Int × Int) → Int → List (Int × Int) → Prop) (Dd Db:Int → List (Int × Int) → Option Int → Prop) (cs:List (List (Int × Int))) (k:Nat) (per:Int) (o:Option Int):Prop:=(CurveNone S cs ∧ o=none) ∨ ∃ L,CurveAll S cs L ∧ numBy Dd Db k per L o
def NumEnd (o:Option Int) (w:World) (e:Ending) (w':World):Prop:=Below w.heap.size w w' ∧ ((o=none ∧ ∃ E,e=.returned (.tuple #[.int .i64 0,E]) ∧ ErrIs w' E 4 (-1)) ∨ ∃ n,o=some n ∧ e=.returned (.tuple #[.int .i64 n,.nilIface]))
structure BoundWalks (S:List (Int × Int) → List (Int × Int) → Int → List (Int × Int) → Prop) (Dd Db:Int → List (Int × Int) → Option Int → Prop):Prop where
 way:SumWay S
 sumOf:∀ (a1 a2:Option Addr) (cap1 cap2:Nat) (la lb:List (Int × Int)) (w:World),Lies w a1 la → Lies w a2 lb → okCurve la → okCurve lb → Calls Tryz.prog 58 #[.slice a1 la.length cap1,.slice a2 lb.length cap2] w fun e w'=>∃ a cap code L,e=.returned (.tuple #[.slice a L.length cap,.int .i64 code]) ∧ S la lb code L ∧ Lies w' a L ∧ L.length ≤ cap ∧ cap ≤ maxLen ∧ Below w.heap.size w w'
 delay1:∀ per L o o',okCurve L → 1 ≤ per → per ≤ 1000 → Dd per L o → Dd per L o' → o=o'
 busy1:∀ per L o o',okCurve L → 1 ≤ per → per ≤ 1000 → Db per L o → Db per L o' → o=o'
 delay:∀ (a:Option Addr) (cap:Nat) (L:List (Int × Int)) (per:Int) (w:World) (ad:Nat → Addr),Errs9 w ad → Lies w a L → L.length ≤ cap → cap ≤ maxLen → okCurve L → 1 ≤ per → per ≤ 1000 → Calls Tryz.prog 35 #[.slice a L.length cap,.int .i64 per] w fun e w'=>∃ o,Dd per L o ∧ NumEnd o w e w'
 busy:∀ (a:Option Addr) (cap:Nat) (L:List (Int × Int)) (per:Int) (w:World) (ad:Nat → Addr),Errs9 w ad → Lies w a L → L.length ≤ cap → cap ≤ maxLen → okCurve L → 1 ≤ per → per ≤ 1000 → Calls Tryz.prog 36 #[.slice a L.length cap,.int .i64 per] w fun e w'=>∃ o,Db per L o ∧ NumEnd o w e w'
 bad:∀ (ca:Option Addr) (ccap:Nat) (cs:List (List (Int × Int))) (kb:ByteArray) (per:Int) (na:Option Addr) (ncap:Nat) (ns:List Int) (w:World) (ad:Nat → Addr) (c p:Int),Errs9 w ad → GateLies w ca ccap cs na ncap ns → GateIs cs (kindOf kb.toList) per ns c p → 0 < c →
  Calls Tryz.prog 46 #[.agg #[.slice ca cs.length ccap,.string kb,.int .i64 per,.slice na ns.length ncap]] w fun e w'=>∃ E,e=.returned (.tuple #[.int .i64 0,E]) ∧ ErrIs w' E c p ∧ Below w.heap.size w w'
 good:∀ (ca:Option Addr) (ccap:Nat) (cs:List (List (Int × Int))) (kb:ByteArray) (per:Int) (na:Option Addr) (ncap:Nat) (ns:List Int) (w:World) (ad:Nat → Addr),Errs9 w ad → GateLies w ca ccap cs na ncap ns → GateOk cs (kindOf kb.toList) per ns →
  Calls Tryz.prog 46 #[.agg #[.slice ca cs.length ccap,.string kb,.int .i64 per,.slice na ns.length ncap]] w fun e w'=>∃ o,BoundIs S Dd Db cs (kindOf kb.toList) per o ∧ NumEnd o w e w'
theorem boundIs_none {S:List (Int × Int) → List (Int × Int) → Int → List (Int × Int) → Prop} {Dd Db:Int → List (Int × Int) → Option Int → Prop} (hS:SumWay S) {cs:List (List (Int × Int))} (hc:CurvesOk (curveFl cs)) {k:Nat} {per:Int} {o:Option Int} (h:BoundIs S Dd Db cs k per o) (hn:CurveNone S cs):o=none:=by
 rcases h with ⟨-,h⟩ | ⟨L,h,-⟩
 · exact h
 · exact absurd hn (h.no hS hc)
theorem boundIs_all {S:List (Int × Int) → List (Int × Int) → Int → List (Int × Int) → Prop} {Dd Db:Int → List (Int × Int) → Option Int → Prop} (hS:SumWay S) {cs:List (List (Int × Int))} (hc:CurvesOk (curveFl cs)) {k:Nat} {per:Int} {o:Option Int} {L:List (Int × Int)} (h:BoundIs S Dd Db cs k per o) (hL:CurveAll S cs L):numBy Dd Db k per L o:=by
 rcases h with ⟨hn,-⟩ | ⟨L',h,hd⟩
 · exact absurd hn (hL.no hS hc)
 · rw [hL.one hS hc h];exact hd
section
end
def coveredT (x:Int × Int):List (Int × Int) → Bool
 | []=>false
 | [t]=>decide (x.1 ≤ t.1)
 | t :: u :: _=>decide (x.1 ≤ t.1) || decide ((x.1 - t.1) * (u.2 - t.2) ≤ (t.1 - u.1) * (t.2 - x.2))
def popT (x:Int × Int):List (Int × Int) → List (Int × Int)
 | []=>[]
 | t :: r=>if coveredT x (t :: r)=true then popT x r else t :: r
def lowT:List (Int × Int) → List (Int × Int) → List (Int × Int)
 | T,[]=>T
 | T,x :: r=>lowT (x :: popT x T) r
theorem prodL {a b:Int} (h1 : -20000 ≤ a) (h2:a ≤ 20000) (h3 : -100000 ≤ b) (h4:b ≤ 100000) : -2000000000 ≤ a * b ∧ a * b ≤ 2000000000:=by
 have h:=Int.natAbs_mul a b
 have ha:a.natAbs ≤ 20000:=by omega
 have hb:b.natAbs ≤ 100000:=by omega
 have:=Nat.mul_le_mul ha hb
 omega
theorem covered_ok (a:Option Addr) (cap:Nat) (T:List (Int × Int)) (x:Int × Int) (w:World) (hl:Lies w a T.reverse) (h1:1 ≤ T.length) (hn:T.length ≤ 1000) (hok:okAll T) (hx:okLine x.1 x.2=true) :
  Calls Tryz.prog 182 #[.slice a T.length cap,.agg #[.int .i64 x.1,.int .i64 x.2]] w fun e w'=>e=.returned (.bool (coveredT x T)) ∧ Below w.heap.size w w':=by
 obtain ⟨b,off,rfl,hlt,hc⟩:=hl.some (by simpa using h1)
 clear hl
 obtain ⟨x1,x2⟩:=x
 obtain ⟨q1,q2,q3,q4⟩:=okLine_true hx
 simp only [] at q1 q2 q3 q4
 match T,h1,hn,hok,hc with
 | [t],_,_,hok,hc=>
  obtain ⟨t1,t2⟩:=t
  have c:=hc 0 t1 t2 rfl
  have c0:w.cell? ⟨b,off,none⟩=some (.int .i64 t1):=by simpa using c.1
  have c1:w.cell? ⟨b,off+1,none⟩=some (.int .i64 t2):=by simpa using c.2
  have HR:Hid (coveredT (x1,x2) [(t1,t2)]=decide (x1 ≤ t1)):=rfl
  clear hc c hok hx
  by_cases hle:x1 ≤ t1
  ·
   go_enter Tryz.func182,Tryz.ntmps182
   go_wp2
   go_ret
   exact ⟨congrArg (fun z=>Ending.returned (.bool z)) (by rw [HR.out];exact (decide_eq_true hle).symm),((Below.refl _ _).alloc (Nat.le_refl _) _).alloc (by simp) _⟩
  ·
   go_enter Tryz.func182,Tryz.ntmps182
   go_wp2
   go_ret
   exact ⟨congrArg (fun z=>Ending.returned (.bool z)) (by rw [HR.out];exact (decide_eq_false (by omega)).symm),((Below.refl _ _).alloc (Nat.le_refl _) _).alloc (by simp) _⟩
 | t :: u :: r,_,hn,hok,hc=>
  obtain ⟨t1,t2⟩:=t
  obtain ⟨u1,u2⟩:=u
  obtain ⟨a1,a2,a3,a4⟩:=okLine_true (hok _ (List.mem_cons_self ..))
  obtain ⟨b1,b2,b3,b4⟩:=okLine_true (hok _ (List.mem_cons_of_mem _ (List.mem_cons_self ..)))
  simp only [] at a1 a2 a3 a4 b1 b2 b3 b4
  have et:((t1,t2) :: (u1,u2) :: r).reverse=r.reverse ++ [(u1,u2),(t1,t2)]:=by simp
  have ct:=hc (r.length+1) t1 t2 (by rw [et];simp)
  have cu:=hc r.length u1 u2 (by rw [et];simp)
  obtain ⟨m,hm⟩:∃ m,r.length=m:=⟨_,rfl⟩
  rw [hm] at ct cu
  rw [show ((t1,t2) :: (u1,u2) :: r).length=m+2 by simp [hm]]
  have hm':m ≤ 998:=by simp at hn;omega
  have HR:Hid (coveredT (x1,x2) ((t1,t2) :: (u1,u2) :: r)=(decide (x1 ≤ t1) || decide ((x1 - t1) * (u2 - t2) ≤ (t1 - u1) * (t2 - x2)))):=rfl
  obtain ⟨k1,k2⟩:=ct
  obtain ⟨k3,k4⟩:=cu
  obtain ⟨p1,p2⟩:=prodL (show -20000 ≤ x1 - t1 by omega) (show x1 - t1 ≤ 20000 by omega) (show -100000 ≤ u2 - t2 by omega) (show u2 - t2 ≤ 100000 by omega)
  obtain ⟨p3,p4⟩:=prodL (show -20000 ≤ t1 - u1 by omega) (show t1 - u1 ≤ 20000 by omega) (show -100000 ≤ t2 - x2 by omega) (show t2 - x2 ≤ 100000 by omega)
  clear hc hok hx et hm hn
  by_cases hle:x1 ≤ t1
  ·
   go_enter Tryz.func182,Tryz.ntmps182
   go_wp2
   go_ret
   exact ⟨congrArg (fun z=>Ending.returned (.bool z)) (by rw [HR.out,decide_eq_true hle];rfl),((Below.refl _ _).alloc (Nat.le_refl _) _).alloc (by simp) _⟩
  ·
   go_enter Tryz.func182,Tryz.ntmps182
   go_wp2
   go_ret
   exact ⟨congrArg (fun z=>Ending.returned (.bool z)) (by rw [HR.out,decide_eq_false (show ¬ x1 ≤ t1 by omega),Bool.false_or]),(((Below.refl _ _).alloc (Nat.le_refl _) _).alloc (by simp) _).alloc (by simp;omega) _⟩
theorem lowT_snoc (l:List (Int × Int)):∀ (T:List (Int × Int)) (x:Int × Int),lowT T (l ++ [x])=x :: popT x (lowT T l):=by
 induction l with
 | nil=>intro T x;rfl
 | cons y r ih=>intro T x;exact ih _ x
theorem popT_sub (x:Int × Int) (T:List (Int × Int)):∀ p,p ∈ popT x T → p ∈ T:=by
 induction T with
 | nil=>intro p hp;exact hp
 | cons t r ih=>
  intro p hp
  unfold popT at hp
  split at hp
  · exact List.mem_cons_of_mem _ (ih p hp)
  · exact hp
theorem popT_len (x:Int × Int) (T:List (Int × Int)):(popT x T).length ≤ T.length:=by
 induction T with
 | nil=>exact Nat.le_refl _
 | cons t r ih=>
  unfold popT
  split
  · simp;omega
  · exact Nat.le_refl _
theorem lowT_sub (l:List (Int × Int)):∀ T p,p ∈ lowT T l → p ∈ T ∨ p ∈ l:=by
 induction l with
 | nil=>intro T p hp;exact .inl hp
 | cons x r ih=>
  intro T p hp
  rcases ih (x :: popT x T) p hp with h | h
  ·
   rcases List.mem_cons.1 h with rfl | h
   · exact .inr (List.mem_cons_self ..)
   · exact .inl (popT_sub x T p h)
  · exact .inr (List.mem_cons_of_mem _ h)
theorem lowT_len (l:List (Int × Int)):∀ T,(lowT T l).length ≤ T.length+l.length:=by
 induction l with
 | nil=>intro T;exact Nat.le_refl _
 | cons x r ih=>
  intro T
  have:=ih (x :: popT x T)
  have:=popT_len x T
  show (lowT (x :: popT x T) r).length ≤ _
  simp at *
  omega
theorem block_after {w w':World} {b:Nat} {o:Obj} (hb:Below w.heap.size w w') (h:w.heap[b]? = some o):w'.heap[b]? = some o:=by
 rw [hb.block b ?_];exact h
 rcases Nat.lt_or_ge b w.heap.size with h' | h'
 · exact h'
 · simp [Array.getElem?_eq_none h'] at h
theorem OwnL.later {w w':World} {B:Nat} {v:Value} {ls:List (Int × Int)} (h:OwnL w B v ls) (hb:Below w.heap.size w w'):OwnL w' B v ls:=by
 obtain ⟨h1,h2 | ⟨g,cap,cur,hv,hB,hg,r⟩⟩:=h
 · exact ⟨h1,.inl h2⟩
 · exact ⟨h1,.inr ⟨g,cap,cur,hv,hB,block_after hb hg,r⟩⟩
theorem OwnL.pop {w:World} {B g cap:Nat} {t:Int × Int} {r:List (Int × Int)} (h:OwnL w B (.slice (some ⟨g,0,none⟩) (r.length+1) cap) (t :: r).reverse):OwnL w B (.slice (some ⟨g,0,none⟩) r.length cap) r.reverse:=by
 unfold OwnL at *
 rw [List.reverse_cons,cellsL_append,List.length_append,List.length_reverse] at h
 rw [List.length_reverse]
 exact ownsRow_pop (by rw [cellsL_length,List.length_reverse]) h
theorem OwnL.push {w:World} {B:Nat} {v:Value} {T:List (Int × Int)} {x y:Int} (h:w.ownsRow B 83 2 v (T.length+1) (cellsL T.reverse ++ [.int .i64 x,.int .i64 y])):OwnL w B v ((x,y) :: T).reverse:=by
 unfold OwnL
 rw [List.reverse_cons,cellsL_append,List.length_append,List.length_reverse]
 exact h
theorem OwnL.grownT {w0 w w':World} {v:Value} {ls:List (Int × Int)} (hB:Below w0.heap.size w0 w) (ho:OwnL w w0.heap.size v ls) (hg:w.grownBy w' v.ownBlock):Below w0.heap.size w0 w':=
 hB.grown hg hB.size fun k hk=>(World.ownsRow.lt ho k hk).1
theorem ints_oneT (x y:Int):∀ u ∈ [Value.int .i64 x,.int .i64 y],u.oneCell'=true:=by
 intro u hu
 simp at hu
 rcases hu with rfl | rfl <;> rfl
theorem news_newT (w:World) (x y:Int):∀ j u,[Value.int .i64 x,.int .i64 y][j]? = some u → (w.alloc (.cells #[.int .i64 x,.int .i64 y] 83)).cell? ((⟨w.heap.size,0,none⟩:Addr).add j)=some u:=by
 intro j u h
 match j,h with
 | 0,h=>simp at h;subst h;simp [Addr.add]
 | 1,h=>simp at h;subst h;simp [Addr.add]
 | j+2,h=>simp at h
theorem lowest_ok (ad:Addr) (cap:Nat) (ls:List (Int × Int)) (w:World) (hl:Lies w (some ad) ls) (h1:1 ≤ ls.length) (hn:ls.length ≤ 500) (hok:okAll ls) :
  Calls Tryz.prog 150 #[.slice (some ad) ls.length cap] w fun e w'=>∃ v ls',e=.returned v ∧ ls'.Perm ls ∧ SortedL ls' ∧ OwnL w' w.heap.size v (lowT [] ls').reverse ∧ Below w.heap.size w w':=by
 have HC:=(show Hid (Calls Tryz.prog 181 #[.slice (some ad) ls.length cap] w fun e w'=>∃ g cap' ls',e=.returned (.slice (some ⟨g,0,none⟩) ls'.length cap') ∧ ls'.Perm ls ∧ SortedL ls' ∧ Lies w' (some ⟨g,0,none⟩) ls' ∧ Below w.heap.size w w') from steepest_ok ad cap ls w hl h1 (by omega))
 have HO:Hid (okAll ls):=hok
 obtain ⟨i0,hi,hz0,hz1,hz2⟩:=info_parts Tryz.infoLine
 clear hl hok
 go_enter Tryz.func150,Tryz.ntmps150
 go_wp2_with fail
 refine HC.out.mono ?_
 rintro e W ⟨g,cap',ls',rfl,hp,hs,hl',hbW⟩
 have hlen:ls'.length ≤ 500:=by rw [hp.length_eq];exact hn
 have HP:Hid (ls'.Perm ls ∧ SortedL ls' ∧ Below w.heap.size w W):=⟨hp,hs,hbW⟩
 have HO':Hid (okAll ls'):=fun p hp'=>HO.out p (hp.mem_iff.1 hp')
 have HL:Hid (Lies W (some ⟨g,0,none⟩) ls'):=hl'
 clear hp hs hl' hbW
 go_wp2_with fail
 go_loopg [3,9] ls'.length (fun gk v i wr=>∃ k:Nat,gk+k=ls'.length ∧ i=.int .i64 k ∧ OwnL wr W.heap.size v (lowT [] (ls'.take k)).reverse ∧ Below W.heap.size W wr)
 case atStart=>exact ⟨0,rfl,rfl,World.ownsRow_nil _ _ _ _,Below.refl _ _⟩
 case round=>
  obtain ⟨k,hgk,rfl,hown,hbr⟩:=hrel
  have HBR:Hid (Below W.heap.size W wr):=hbr
  by_cases hkn:k < ls'.length
  ·
   obtain ⟨⟨x,y⟩,hp,hmem⟩:=get_some ls' k hkn
   obtain ⟨b,off,hge,hlt,hc⟩:=HL.out.some (by omega)
   injection hge with hge
   injection hge with hb1 hb2
   subst hb1 hb2
   have c1:wr.cell? ⟨g,k * 2,none⟩=some (.int .i64 x):=by have:=cell_later hbr (hc k x y hp).1;simpa using this
   have c2:wr.cell? ⟨g,k * 2+1,none⟩=some (.int .i64 y):=by have:=cell_later hbr (hc k x y hp).2;simpa using this
   have HX:Hid (okLine x y=true):=HO'.out _ hmem
   have hts:ls'.take (k+1)=ls'.take k ++ [(x,y)]:=by rw [List.take_add_one,hp];rfl
   have HS:Hid (lowT [] (ls'.take (k+1))=(x,y) :: popT (x,y) (lowT [] (ls'.take k))):=by show _=_;rw [hts];exact lowT_snoc _ _ _
   have hTok:okAll (lowT [] (ls'.take k)):=fun p hp'=>by
    rcases lowT_sub _ _ p hp' with h | h
    · cases h
    · exact HO'.out p (List.mem_of_mem_take h)
   have hTlen:(lowT [] (ls'.take k)).length ≤ 500:=by have:=lowT_len (ls'.take k) [];rw [List.length_take] at this;simp at this;omega
   generalize lowT [] (ls'.take k)=T0 at *
   obtain ⟨a0,n0,k0,rfl⟩:∃ a0 n0 k0,u3=.slice a0 n0 k0:=by obtain ⟨a,c,e,_⟩:=hown.open;exact ⟨_,_,_,e⟩
   have HT:Hid (okAll T0 ∧ T0.length ≤ 500):=⟨hTok,hTlen⟩
   have hb1:Below wr.heap.size wr (wr.alloc (.cells #[.int .i64 x,.int .i64 y] 83)):=(Below.refl _ _).alloc (Nat.le_refl _) _
   have hx1:(wr.alloc (.cells #[.int .i64 x,.int .i64 y] 83)).cell? ⟨wr.heap.size,0,none⟩=some (.int .i64 x):=by simp
   have hx2:(wr.alloc (.cells #[.int .i64 x,.int .i64 y] 83)).cell? ⟨wr.heap.size,1,none⟩=some (.int .i64 y):=by simp
   have hown1:=hown.later hb1
   have hbr1:Below W.heap.size W (wr.alloc (.cells #[.int .i64 x,.int .i64 y] 83)):=hbr.trans (hb1.mono hbr.size)
   clear hc hp hmem hts hTok hTlen hown hbr
   go_wp2_with fail
   generalize wr.alloc (.cells #[.int .i64 x,.int .i64 y] 83)=W1 at *
   have HX1:Hid (W1.cell? ⟨wr.heap.size,0,none⟩=some (.int .i64 x) ∧ W1.cell? ⟨wr.heap.size,1,none⟩=some (.int .i64 y)):=⟨hx1,hx2⟩
   have HBR1:Hid (Below W.heap.size W W1):=hbr1
   have HOW1:Hid (OwnL W1 W.heap.size (.slice a0 n0 k0) T0.reverse):=hown1
   clear hx1 hx2 hbr1 hown1 hb1
   obtain ⟨GK,rfl⟩:∃ z,z=gk:=⟨gk,rfl⟩
   obtain ⟨wO,rfl⟩:∃ z,z=wr:=⟨wr,rfl⟩
   go_loopg [3] T0.length (fun gi v wr2=>∃ T a1 k1,gi=T.length ∧ v=.slice a1 T.length k1 ∧ OwnL wr2 W.heap.size v T.reverse ∧ popT (x,y) T=popT (x,y) T0 ∧ okAll T ∧ T.length ≤ 500 ∧ Below W1.heap.size W1 wr2)
   case atStart=>
    obtain ⟨a,c,e,_⟩:=HOW1.out.open
    injection e with e1 e2 e3
    rw [List.length_reverse] at e2
    subst e2
    exact ⟨T0,a0,k0,rfl,rfl,HOW1.out,rfl,HT.out.1,HT.out.2,Below.refl _ _⟩
   case round=>
    obtain ⟨T,a1,k1,hgi,rfl,hown2,hpop,hTok,hTlen,hb2⟩:=hrel
    have HPop:Hid (popT (x,y) T=popT (x,y) T0):=hpop
    have HB12:Hid (Below W1.heap.size W1 wr):=hb2
    have HB2:Hid (Below W.heap.size W wr):=HBR1.out.trans (hb2.mono HBR1.out.size)
    have HTok:Hid (okAll T):=hTok
    have y1:=cell_later hb2 HX1.out.1
    have y2:=cell_later hb2 HX1.out.2
    have HOW:Hid (OwnL wr W.heap.size (.slice a1 T.length k1) T.reverse):=hown2
    clear hpop hb2 hTok hown2
    match T,hgi,hTlen,HPop,HTok,HOW with
    | [],hgi,hTlen,HPop,HTok,HOW=>
     have HOWr:Hid (wr.ownsRow W.heap.size 83 2 (.slice a1 0 k1) 0 (cellsL ([]:List (Int × Int)).reverse)):=HOW.out
     go_wp2_with (at_builtin;refine wpList_append_own _ rfl _ _ 62 rfl W.heap.size 83 i0 (.agg #[.int .i64 0,.int .i64 0]) 2 16 Tryz.underlying62 hi hz0 hz1 hz2 rfl (by decide) (.slice a1 0 k1) 0 (cellsL ([]:List (Int × Int)).reverse) rfl (HOWr.out.alloc _) ⟨wr.heap.size,0,none⟩ 1 1 [.int .i64 x,.int .i64 y] rfl rfl (news_newT wr x y) (ints_oneT x y) (by unfold maxLen;omega) (by omega) (Nat.le_trans HB2.out.size (by simp)) ?_;intro v3 w3 hown3 hgrow3 _)
     have HB3:Hid (Below W.heap.size W w3):=OwnL.grownT (ls:=([]:List (Int × Int)).reverse) (HB2.out.alloc HB2.out.size _) (by unfold OwnL;rw [List.length_reverse];exact HOWr.out.alloc _) hgrow3
     have HO3:Hid (OwnL w3 W.heap.size v3 ((x,y) :: ([]:List (Int × Int))).reverse):=OwnL.push hown3
     obtain ⟨a3,n3,k3,rfl⟩:∃ a3 n3 k3,v3=.slice a3 n3 k3:=by obtain ⟨a,c,e,_⟩:=HO3.out.open;exact ⟨_,_,_,e⟩
     clear hown3 hgrow3
     go_wp2_with fail
     go_roundg (GK - 1)
     case measure=>omega
     case rel=>exact ⟨k+1,by omega,by go_num,by rw [HS.out,← HPop.out,show popT (x,y) []=[] from rfl];exact HO3.out,HB3.out⟩
    | t :: r,hgi,hTlen,HPop,HTok,HOW=>
     have HOWr:Hid (wr.ownsRow W.heap.size 83 2 (.slice a1 (r.length+1) k1) (r.length+1) (cellsL (t :: r).reverse)):=by have:=HOW.out;unfold OwnL at this;rw [List.length_reverse] at this;exact this
     obtain ⟨g1,cp1,hv1,hg1,hg2⟩:=World.ownsRow.form HOWr.out (Nat.succ_pos _)
     injection hv1 with hv1 _ hv3
     subst hv1 hv3
     have hLies:Lies wr (some ⟨g1,0,none⟩) (t :: r).reverse:=(OwnL.lies HOW.out).2.2.2
     have hcapk:(t :: r).reverse.length ≤ k1 ∧ k1 ≤ maxLen:=⟨(OwnL.lies HOW.out).2.1,(OwnL.lies HOW.out).2.2.1⟩
     rw [List.length_reverse] at hcapk
     obtain ⟨hcap1,hcap2⟩:=hcapk
     simp only [List.length_cons] at hcap1 hTlen
     unfold maxLen at hcap2
     have HCv:=(show Hid (Calls Tryz.prog 182 #[.slice (some ⟨g1,0,none⟩) (r.length+1) k1,.agg #[.int .i64 x,.int .i64 y]] wr fun e w'=>e=.returned (.bool (coveredT (x,y) (t :: r))) ∧ Below wr.heap.size wr w') from covered_ok (some ⟨g1,0,none⟩) k1 (t :: r) (x,y) wr hLies (by simp) (by simp;omega) HTok.out HX.out)
     clear hLies
     simp only [List.length_cons]
     cases hcov:coveredT (x,y) (t :: r) with
     | true=>
      have HV:Hid (coveredT (x,y) (t :: r)=true):=hcov
      clear hcov
      go_wp2_with fail
      refine HCv.out.mono ?_
      rintro e w4 ⟨rfl,hb4⟩
      rw [HV.out]
      have HB14:Hid (Below W1.heap.size W1 w4):=HB12.out.trans (hb4.mono HB12.out.size)
      have HOW4:Hid (OwnL w4 W.heap.size (.slice (some ⟨g1,0,none⟩) r.length k1) r.reverse):=OwnL.pop (HOW.out.later hb4)
      clear hb4
      go_wp2_with fail
      go_roundg r.length
      case measure=>simp at hgi;omega
      case rel=>
       refine ⟨r,some ⟨g1,0,none⟩,k1,rfl,?_,?_,?_,fun p hp=>HTok.out p (List.mem_cons_of_mem _ hp),by omega,HB14.out⟩
       · simp
       · simpa using HOW4.out
       ·
        rw [← HPop.out]
        show popT (x,y) r=popT (x,y) (t :: r)
        conv=>rhs;unfold popT
        rw [if_pos HV.out]
     | false=>
      have HV:Hid (coveredT (x,y) (t :: r)=false):=hcov
      clear hcov
      go_wp2_with fail
      refine HCv.out.mono ?_
      rintro e w4 ⟨rfl,hb4⟩
      rw [HV.out]
      have HB4:Hid (Below W.heap.size W w4):=HB2.out.trans (hb4.mono HB2.out.size)
      have z1:=cell_later hb4 y1
      have z2:=cell_later hb4 y2
      have HOW4:Hid (w4.ownsRow W.heap.size 83 2 (.slice (some ⟨g1,0,none⟩) (r.length+1) k1) (r.length+1) (cellsL (t :: r).reverse)):=by have:=HOW.out.later hb4;unfold OwnL at this;rw [List.length_reverse] at this;exact this
      clear hb4 y1 y2
      go_wp2_with (at_builtin;refine wpList_append_own _ rfl _ _ 62 rfl W.heap.size 83 i0 (.agg #[.int .i64 0,.int .i64 0]) 2 16 Tryz.underlying62 hi hz0 hz1 hz2 rfl (by decide) (.slice (some ⟨g1,0,none⟩) (r.length+1) k1) (r.length+1) (cellsL (t :: r).reverse) rfl (HOW4.out.alloc _) ⟨w4.heap.size,0,none⟩ 1 1 [.int .i64 x,.int .i64 y] rfl rfl (news_newT w4 x y) (ints_oneT x y) (by unfold maxLen;omega) (by omega) (Nat.le_trans HB4.out.size (by simp)) ?_;intro v3 w3 hown3 hgrow3 _)
      have HB3:Hid (Below W.heap.size W w3):=OwnL.grownT (ls:=(t :: r).reverse) (HB4.out.alloc HB4.out.size _) (by unfold OwnL;rw [List.length_reverse];exact HOW4.out.alloc _) hgrow3
      have HO3:Hid (OwnL w3 W.heap.size v3 ((x,y) :: (t :: r)).reverse):=OwnL.push hown3
      obtain ⟨a3,n3,k3,rfl⟩:∃ a3 n3 k3,v3=.slice a3 n3 k3:=by obtain ⟨a,c,e,_⟩:=HO3.out.open;exact ⟨_,_,_,e⟩
      clear hown3 hgrow3
      go_wp2_with fail
      go_roundg (GK - 1)
      case measure=>omega
      case rel=>exact ⟨k+1,by omega,by go_num,by rw [HS.out,← HPop.out,show popT (x,y) (t :: r)=t :: r by unfold popT;rw [if_neg (by rw [HV.out];decide)]];exact HO3.out,HB3.out⟩
  ·
   have hk':k=ls'.length:=by omega
   subst hk'
   rw [List.take_length] at hown
   obtain ⟨a0,n0,k0,rfl⟩:∃ a0 n0 k0,u3=.slice a0 n0 k0:=by obtain ⟨a,c,e,_⟩:=hown.open;exact ⟨_,_,_,e⟩
   have HOW:Hid (OwnL wr W.heap.size (.slice a0 n0 k0) (lowT [] ls').reverse):=hown
   clear hown hbr
   go_wp2_with fail
   go_ret
   exact ⟨_,ls',rfl,HP.out.1,HP.out.2.1,ownsRow_mono HOW.out HP.out.2.2.size,HP.out.2.2.trans (HBR.out.mono HP.out.2.2.size)⟩
def rowL (x:Int × Int) (lb:List (Int × Int)):List (Int × Int):=lb.map fun y=>(x.1+y.1,x.2+y.2)
def eachL (la lb:List (Int × Int)):List (Int × Int):=la.flatMap fun x=>rowL x lb
theorem rowL_snoc (x:Int × Int) (lb:List (Int × Int)) (y:Int × Int):rowL x (lb ++ [y])=rowL x lb ++ [(x.1+y.1,x.2+y.2)]:=by simp [rowL]
theorem eachL_snoc (la lb:List (Int × Int)) (x:Int × Int):eachL (la ++ [x]) lb=eachL la lb ++ rowL x lb:=by simp [eachL]
theorem eachL_length (la lb:List (Int × Int)):(eachL la lb).length=la.length * lb.length:=by
 induction la with
 | nil=>simp [eachL]
 | cons x r ih=>
  have e:eachL (x :: r) lb=rowL x lb ++ eachL r lb:=by simp [eachL]
  rw [e,List.length_append,ih]
  simp [rowL,Nat.add_mul]
  omega
theorem OwnL.snoc {w:World} {B:Nat} {v:Value} {T:List (Int × Int)} {x y:Int} (h:w.ownsRow B 83 2 v (T.length+1) (cellsL T ++ [.int .i64 x,.int .i64 y])):OwnL w B v (T ++ [(x,y)]):=by
 unfold OwnL
 rw [cellsL_append,List.length_append]
 exact h
theorem each_ok (a1 a2:Option Addr) (cap1 cap2:Nat) (la lb:List (Int × Int)) (w:World) (h1:Lies w a1 la) (h2:Lies w a2 lb) (n1:la.length ≤ 6) (n2:lb.length ≤ 6) (k1:okAll la) (k2:okAll lb) :
  Calls Tryz.prog 149 #[.slice a1 la.length cap1,.slice a2 lb.length cap2] w fun e w'=>∃ v,e=.returned v ∧ OwnL w' w.heap.size v (eachL la lb) ∧ Below w.heap.size w w':=by
 have HA:Hid (Lies w a1 la):=h1
 have HB:Hid (Lies w a2 lb):=h2
 have KA:Hid (okAll la):=k1
 have KB:Hid (okAll lb):=k2
 obtain ⟨i0,hi,hz0,hz1,hz2⟩:=info_parts Tryz.infoLine
 clear h1 h2 k1 k2
 go_enter Tryz.func149,Tryz.ntmps149
 go_wp2_with fail
 go_loopg [5,12] la.length (fun gk v i wr=>∃ k:Nat,gk+k=la.length ∧ i=.int .i64 k ∧ OwnL wr w.heap.size v (eachL (la.take k) lb) ∧ Below w.heap.size w wr)
 case atStart=>exact ⟨0,rfl,rfl,World.ownsRow_nil _ _ _ _,Below.refl _ _⟩
 case round=>
  obtain ⟨k,hgk,rfl,hown,hbr⟩:=hrel
  have HBR:Hid (Below w.heap.size w wr):=hbr
  by_cases hkn:k < la.length
  ·
   obtain ⟨⟨x,y⟩,hp,hmem⟩:=get_some la k hkn
   obtain ⟨b,off,rfl,hlt,hc⟩:=HA.out.some (by omega)
   have c1:=cell_later hbr (hc k x y hp).1
   have c2:=cell_later hbr (hc k x y hp).2
   obtain ⟨q1,q2,q3,q4⟩:=okLine_true (KA.out _ hmem)
   simp only [] at q1 q2 q3 q4
   have hts:la.take (k+1)=la.take k ++ [(x,y)]:=by rw [List.take_add_one,hp];rfl
   have HS:Hid (eachL (la.take (k+1)) lb=eachL (la.take k) lb ++ rowL (x,y) lb):=by show _=_;rw [hts];exact eachL_snoc _ _ _
   have hTlen:(eachL (la.take k) lb).length ≤ 36:=by
    rw [eachL_length,List.length_take]
    exact Nat.le_trans (Nat.mul_le_mul (show min k la.length ≤ 6 by omega) n2) (by decide)
   generalize eachL (la.take k) lb=T0 at *
   obtain ⟨a0,n0,k0,rfl⟩:∃ a0 n0 k0,u5=.slice a0 n0 k0:=by obtain ⟨a,c,e,_⟩:=hown.open;exact ⟨_,_,_,e⟩
   have hb1:Below wr.heap.size wr (wr.alloc (.cells #[.int .i64 x,.int .i64 y] 83)):=(Below.refl _ _).alloc (Nat.le_refl _) _
   have hx1:(wr.alloc (.cells #[.int .i64 x,.int .i64 y] 83)).cell? ⟨wr.heap.size,0,none⟩=some (.int .i64 x):=by simp
   have hx2:(wr.alloc (.cells #[.int .i64 x,.int .i64 y] 83)).cell? ⟨wr.heap.size,1,none⟩=some (.int .i64 y):=by simp
   have hown1:=hown.later hb1
   have hbr1:Below w.heap.size w (wr.alloc (.cells #[.int .i64 x,.int .i64 y] 83)):=hbr.trans (hb1.mono hbr.size)
   have hne:(Value.slice a0 n0 k0).ownBlock ≠ some wr.heap.size:=fun e=>by have:=(World.ownsRow.lt hown _ e).2;omega
   clear hc hp hmem hts hown hbr hb1
   go_wp2_with fail
   generalize wr.alloc (.cells #[.int .i64 x,.int .i64 y] 83)=W1 at *
   have HX1:Hid (W1.cell? ⟨wr.heap.size,0,none⟩=some (.int .i64 x) ∧ W1.cell? ⟨wr.heap.size,1,none⟩=some (.int .i64 y)):=⟨hx1,hx2⟩
   have HBR1:Hid (Below w.heap.size w W1):=hbr1
   have HOW1:Hid (OwnL W1 w.heap.size (.slice a0 n0 k0) T0):=hown1
   have HNE:Hid ((Value.slice a0 n0 k0).ownBlock ≠ some wr.heap.size):=hne
   clear hx1 hx2 hbr1 hown1 hne c1 c2
   obtain ⟨GK,rfl⟩:∃ z,z=gk:=⟨gk,rfl⟩
   obtain ⟨wO,rfl⟩:∃ z,z=wr:=⟨wr,rfl⟩
   go_loopg [5,18] lb.length (fun gi v i wr2=>∃ j:Nat,gi+j=lb.length ∧ i=.int .i64 j ∧ OwnL wr2 w.heap.size v (T0 ++ rowL (x,y) (lb.take j)) ∧ wr2.cell? ⟨wO.heap.size,0,none⟩=some (.int .i64 x) ∧ wr2.cell? ⟨wO.heap.size,1,none⟩=some (.int .i64 y) ∧ v.ownBlock ≠ some wO.heap.size ∧ Below w.heap.size w wr2)
   case atStart=>exact ⟨0,rfl,rfl,by have:=HOW1.out;simpa [rowL] using this,HX1.out.1,HX1.out.2,HNE.out,HBR1.out⟩
   case round=>
    obtain ⟨j,hgi,rfl,hown2,d1,d2,hne2,hb2⟩:=hrel
    have HB2:Hid (Below w.heap.size w wr):=hb2
    by_cases hjn:j < lb.length
    ·
     obtain ⟨⟨x',y'⟩,hp,hmem⟩:=get_some lb j hjn
     obtain ⟨b',off',rfl,hlt',hc⟩:=HB.out.some (by omega)
     have e1:=cell_later hb2 (hc j x' y' hp).1
     have e2:=cell_later hb2 (hc j x' y' hp).2
     obtain ⟨r1,r2,r3,r4⟩:=okLine_true (KB.out _ hmem)
     simp only [] at r1 r2 r3 r4
     have hts:lb.take (j+1)=lb.take j ++ [(x',y')]:=by rw [List.take_add_one,hp];rfl
     have HSJ:Hid (T0 ++ rowL (x,y) (lb.take (j+1))=(T0 ++ rowL (x,y) (lb.take j)) ++ [(x+x',y+y')]):=by show _=_;rw [hts,rowL_snoc,List.append_assoc]
     have hT1:(T0 ++ rowL (x,y) (lb.take j)).length ≤ 42:=by simp [rowL];omega
     generalize T0 ++ rowL (x,y) (lb.take j)=T1 at *
     obtain ⟨a3,n3,k3,rfl⟩:∃ a3 n3 k3,u5=.slice a3 n3 k3:=by obtain ⟨a,c,e,_⟩:=hown2.open;exact ⟨_,_,_,e⟩
     have HOWr:Hid (wr.ownsRow w.heap.size 83 2 (.slice a3 n3 k3) T1.length (cellsL T1)):=hown2
     have HNE2:Hid ((Value.slice a3 n3 k3).ownBlock ≠ some wO.heap.size):=hne2
     have hlt0:=cell_lt d1
     have HNW:Hid (∀ j u,[Value.int .i64 (x+x'),.int .i64 (y+y')][j]? = some u → ((wr.alloc (.cells #[.int .i64 x',.int .i64 y'] 83)).alloc (.cells #[.int .i64 (x+x'),.int .i64 (y+y')] 83)).cell? ((⟨wr.heap.size+1,0,none⟩:Addr).add j)=some u):=by
      have:=news_newT (wr.alloc (.cells #[.int .i64 x',.int .i64 y'] 83)) (x+x') (y+y')
      rw [show (wr.alloc (.cells #[.int .i64 x',.int .i64 y'] 83)).heap.size=wr.heap.size+1 by simp] at this
      exact this
     simp only [] at hlt0
     clear hc hp hmem hts hown2 hne2 hb2
     go_wp2_with (at_builtin;refine wpList_append_own_at _ rfl _ _ 62 rfl w.heap.size 83 i0 (.agg #[.int .i64 0,.int .i64 0]) 2 16 Tryz.underlying62 hi hz0 hz1 hz2 rfl (by decide) (.slice a3 n3 k3) T1.length (cellsL T1) rfl ((HOWr.out.alloc _).alloc _) ⟨wr.heap.size+1,0,none⟩ 1 1 [.int .i64 (x+x'),.int .i64 (y+y')] rfl rfl HNW.out (ints_oneT _ _) (by unfold maxLen;omega) (by omega) (Nat.le_trans HB2.out.size (by simp;omega)) ?_;intro v3 w3 hown3 hgrow3 _ hat3)
     have HB3:Hid (Below w.heap.size w w3):=OwnL.grownT (ls:=T1) ((HB2.out.alloc HB2.out.size _).alloc (by have:=HB2.out.size;simp;omega) _) ((HOWr.out.alloc _).alloc _) hgrow3
     have HO3:Hid (OwnL w3 w.heap.size v3 (T1 ++ [(x+x',y+y')])):=OwnL.snoc hown3
     have HN3:Hid (v3.ownBlock ≠ some wO.heap.size):=by
      show _ ≠ _
      rcases hat3 with h | h
      · rw [h];exact HNE2.out
      · rw [h];intro e;injection e with e;simp at e;omega
     have f1:w3.cell? ⟨wO.heap.size,0,none⟩=some (.int .i64 x):=hgrow3.cell (cell_later (((Below.refl _ _).alloc (Nat.le_refl _) _).alloc (by simp) _) d1) (fun e=>HNE2.out e.symm)
     have f2:w3.cell? ⟨wO.heap.size,1,none⟩=some (.int .i64 y):=hgrow3.cell (cell_later (((Below.refl _ _).alloc (Nat.le_refl _) _).alloc (by simp) _) d2) (fun e=>HNE2.out e.symm)
     obtain ⟨a4,n4,k4,rfl⟩:∃ a4 n4 k4,v3=.slice a4 n4 k4:=by obtain ⟨a,c,e,_⟩:=HO3.out.open;exact ⟨_,_,_,e⟩
     clear hown3 hgrow3 hat3 d1 d2
     go_wp2_with fail
     go_roundg (gk - 1)
     case measure=>omega
     case rel=>exact ⟨j+1,by omega,by go_num,by rw [HSJ.out];exact HO3.out,f1,f2,HN3.out,HB3.out⟩
    ·
     have hj':j=lb.length:=by omega
     subst hj'
     rw [List.take_length] at hown2
     have HO3:Hid (OwnL wr w.heap.size u5 (T0 ++ rowL (x,y) lb)):=hown2
     obtain ⟨a3,n3,k3,rfl⟩:∃ a3 n3 k3,u5=.slice a3 n3 k3:=by obtain ⟨a,c,e,_⟩:=hown2.open;exact ⟨_,_,_,e⟩
     clear hown2 hb2 hne2 d1 d2
     go_wp2_with fail
     go_roundg (GK - 1)
     case measure=>omega
     case rel=>exact ⟨k+1,by omega,by go_num,by rw [HS.out];exact HO3.out,HB2.out⟩
  ·
   have hk':k=la.length:=by omega
   subst hk'
   rw [List.take_length] at hown
   obtain ⟨a0,n0,k0,rfl⟩:∃ a0 n0 k0,u5=.slice a0 n0 k0:=by obtain ⟨a,c,e,_⟩:=hown.open;exact ⟨_,_,_,e⟩
   have HOW:Hid (OwnL wr w.heap.size (.slice a0 n0 k0) (eachL la lb)):=hown
   clear hown hbr
   go_wp2_with fail
   go_ret
   exact ⟨_,rfl,HOW.out,HBR.out⟩
theorem Lies.take {w:World} {a:Option Addr} {ls:List (Int × Int)} (h:Lies w a ls) (k:Nat):Lies w a (ls.take k):=by
 rcases h with rfl | ⟨b,off,rfl,hlt,hc⟩
 · exact .inl (by simp)
 ·
  refine .inr ⟨b,off,rfl,hlt,fun i x y hi=>?_⟩
  rw [List.getElem?_take] at hi
  split at hi
  · exact hc i x y hi
  · cases hi
theorem Lies.drop {w:World} {b off:Nat} {ls:List (Int × Int)} (h:Lies w (Option.some ⟨b,off,Option.none⟩) ls) (k:Nat):Lies w (Option.some ⟨b,off+k * 2,Option.none⟩) (ls.drop k):=by
 rcases h with rfl | ⟨b',off',e,hlt,hc⟩
 · exact .inl (by simp)
 ·
  cases e
  refine .inr ⟨b,_,rfl,hlt,fun i x y hi=>?_⟩
  rw [List.getElem?_drop] at hi
  have:=hc (k+i) x y hi
  rw [show off+k * 2+i * 2=off+(k+i) * 2 by omega]
  exact this
theorem Tryz.appendNone (w:World) (ty:TypeId) (g n c:Nat) (hnc:n ≤ c):(Builtin.append_ #[62,62] ty #[.slice (some ⟨g,0,none⟩) n c,.slice none 0 0]).run Tryz.prog w=.ok (.slice (some ⟨g,0,none⟩) n c) w:=by
 obtain ⟨i0,hi,hz0,hz1,hz2⟩:=info_parts Tryz.infoLine
 simp [Builtin.append_,run_underlying Tryz.underlying62,sizeOf,typeInfo,hi,Builtin.lenOf,Builtin.firstCells,loadCells,hnc,storeCells]
theorem own_lines_some {w:World} {B m:Nat} {v:Value} {xs:List Value} (h:w.ownsRow B 83 2 v m xs) (h1:1 ≤ m):∃ g c,v=.slice (some ⟨g,0,none⟩) m c ∧ m ≤ c ∧ v.ownBlock=some g:=by
 obtain ⟨-,⟨-,h0⟩ | ⟨g,cap,cur,rfl,-,-,hn,-,-,-⟩⟩:=h
 · omega
 · exact ⟨g,cap,rfl,hn,rfl⟩
theorem lies_grown {w w':World} {g off:Nat} {row:Option Nat} {ls:List (Int × Int)} (h:Lies w (some ⟨g,off,none⟩) ls) (hg:w.grownBy w' row) (hne:row ≠ some g):Lies w' (some ⟨g,off,none⟩) ls:=by
 rcases h with rfl | ⟨b,o,e,hlt,hc⟩
 · exact .inl rfl
 ·
  cases e
  refine .inr ⟨g,off,rfl,Nat.lt_of_lt_of_le hlt hg.size,fun i x y hi=>?_⟩
  exact ⟨hg.cell (hc i x y hi).1 (fun e=>hne e.symm),hg.cell (hc i x y hi).2 (fun e=>hne e.symm)⟩
theorem cells_take {ls:List (Int × Int)} {k:Nat} (h:k ≤ ls.length):(cellsL (ls.take k)).length=k * 2:=by
 rw [cellsL_length,List.length_take,Nat.min_eq_left h]
theorem cells_drop (ls:List (Int × Int)) (k:Nat):(cellsL (ls.drop k)).length=(ls.length - k) * 2:=by
 rw [cellsL_length,List.length_drop]
theorem own_put {w:World} {B k:Nat} {v:Value} {R:List (Int × Int)} {x y:Int} (hk:k ≤ R.length) (h:w.ownsRow B 83 2 v (k+1+(R.length - k)) (cellsL (R.take k) ++ [.int .i64 x,.int .i64 y] ++ cellsL (R.drop k))):OwnL w B v (R.take k ++ (x,y) :: R.drop k):=by
 unfold OwnL
 have e1:(R.take k ++ (x,y) :: R.drop k).length=k+1+(R.length - k):=by simp;omega
 have e2:cellsL (R.take k ++ (x,y) :: R.drop k)=cellsL (R.take k) ++ [.int .i64 x,.int .i64 y] ++ cellsL (R.drop k):=by
  rw [cellsL_append,cellsL_cons];simp
 rw [e1,e2]
 exact h
theorem OwnL.grownR {w0 w w':World} {v:Value} {n:Nat} {xs:List Value} (hB:Below w0.heap.size w0 w) (ho:w.ownsRow w0.heap.size 83 2 v n xs) (hg:w.grownBy w' v.ownBlock):Below w0.heap.size w0 w':=
 hB.grown hg hB.size (fun k hk=>(World.ownsRow.lt ho k hk).1)
end Go.Proofs.YtipdclphpkgceaaGreatDoor
