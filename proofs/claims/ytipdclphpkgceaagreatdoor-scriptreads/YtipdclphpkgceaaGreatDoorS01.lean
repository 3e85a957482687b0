/- Own facts, put together: no statement of its own. -/
import Derived.Below
import Derived.Test.YtipdclphpkgceaaGreatDoorRows
import Derived.WalkKit
import Derived.WalkSpells
import Derived.WalkLawsBesides
import Derived.BigQuiet
import Derived.Test.YtipdclphpkgceaaGreatDoorTie
import Derived.ProofKit
import Derived.OpenShut
import Derived.ShutString
import Derived.ChangeOld
import Derived.ChangeVars
import Derived.Deep.SlicePairs
import Derived.Lib.SmallJoins
import Derived.LaidMore
import Derived.LaidLaws
import Derived.LaidHandle
import Derived.Stop.LaidErr
import Derived.Stop.Joined
import Derived.Lib.Split
import Derived.Lib.ItoaNum
import Derived.Lib.Join
import Derived.Lib.CutLaws
import Derived.Laws.IdiomStrings
import Derived.Laws.MakeOwn
set_option maxHeartbeats 2000000
set_option maxRecDepth 100000

namespace Go.Proofs.YtipdclphpkgceaaGreatDoor
open Go.RowKit
structure But (S:Nat → Prop) (w w':World):Prop where
 os:w'.os=w.os
 tape:w'.tape=w.tape
 output:w'.output=w.output
 size:w.heap.size ≤ w'.heap.size
 block:∀ k,k < w.heap.size → ¬ S k → w'.heap[k]? = w.heap[k]?
theorem But.refl (S:Nat → Prop) (w:World):But S w w:=⟨rfl,rfl,rfl,Nat.le_refl _,fun _ _ _=>rfl⟩
theorem But.trans {S:Nat → Prop} {a b c:World} (h:But S a b) (k:But S b c):But S a c:=
 ⟨k.os.trans h.os,k.tape.trans h.tape,k.output.trans h.output,Nat.le_trans h.size k.size,fun i hi hs=>(k.block i (Nat.lt_of_lt_of_le hi h.size) hs).trans (h.block i hi hs)⟩
theorem But.mono {S S':Nat → Prop} {w w':World} (h:But S w w') (hS:∀ k,S k → S' k):But S' w w':=⟨h.os,h.tape,h.output,h.size,fun k hk hs=>h.block k hk fun h'=>hs (hS k h')⟩
theorem But.ofBelow {S:Nat → Prop} {w w':World} (h:Below w.heap.size w w'):But S w w':=⟨h.os,h.tape,h.output,h.size,fun k hk _=>h.block k hk⟩
theorem But.below {S:Nat → Prop} {B:Nat} {w w':World} (h:But S w w') (hB:B ≤ w.heap.size) (hS:∀ k,S k → B ≤ k):Below B w w':=
 ⟨h.os,h.tape,h.output,h.size,fun k hk=>h.block k (Nat.lt_of_lt_of_le hk hB) fun h'=>by have:=hS k h';omega⟩
theorem But.alloc {S:Nat → Prop} {a w:World} (h:But S a w) (o:Obj):But S a (w.alloc o):=h.trans (.ofBelow ((Below.refl _ _).alloc (Nat.le_refl _) o))
theorem But.drew {S:Nat → Prop} {a w:World} (h:But S a w):But S a w.drew:=⟨h.os,h.tape,h.output,h.size,h.block⟩
theorem But.setCell {S:Nat → Prop} {a w:World} (h:But S a w) {p:Addr} (hp:S p.block) (u:Value):But S a (w.setCell p u):=
 h.trans ⟨rfl,rfl,rfl,by simp [World.setCell],fun k _ hs=>Below.heap_setCell _ _ _ _ fun e=>hs (by rw [e];exact hp)⟩
theorem But.cell {S:Nat → Prop} {w w':World} (h:But S w w') {p:Addr} (hp:p.block < w.heap.size) (hs:¬ S p.block):w'.cell? p=w.cell? p:=World.cell?_of_block (w:=w) (h.block p.block hp hs)
theorem But.frozen {S:Nat → Prop} {w w':World} (h:But S w w') {p:Addr} (hp:p.block < w.heap.size) (hs:¬ S p.block):w'.frozen? p=w.frozen? p:=World.frozen?_of_block (w:=w) (h.block p.block hp hs)
theorem get_some {α:Type} (l:List α) (k:Nat) (h:k < l.length):∃ p,l[k]? = some p ∧ p ∈ l:=⟨l[k],by simp [h],List.getElem_mem h⟩
theorem cell_lt {w:World} {a:Addr} {v:Value} (h:w.cell? a=some v):a.block < w.heap.size:=by
 rcases Nat.lt_or_ge a.block w.heap.size with h' | h'
 · exact h'
 · simp [World.cell?,Array.getElem?_eq_none h'] at h
theorem ownsRow_mono {w:World} {base base':Nat} {e:TypeId} {size:Nat} {v:Value} {n:Nat} {xs:List Value} (h:w.ownsRow base e size v n xs) (hb:base' ≤ base):w.ownsRow base' e size v n xs:=by
 obtain ⟨h1,h2 | ⟨g,cap,cur,hv,hB,r⟩⟩:=h
 · exact ⟨h1,.inl h2⟩
 · exact ⟨h1,.inr ⟨g,cap,cur,hv,Nat.le_trans hb hB,r⟩⟩
theorem But.one {g:Nat} {B:Nat} {w w':World} (h:But (fun k=>k=g) w w') (hB:B ≤ w.heap.size) (hg:B ≤ g):Below B w w':=h.below hB (fun k hk=>by rw [hk];exact hg)
structure ErrsBO (w:World) (ad:Nat → Addr):Prop where
 c1:w.cell? ⟨0,0,none⟩=some (.iface 312 (.pointer (some (ad 1))))
 c4:w.cell? ⟨4,0,none⟩=some (.iface 312 (.pointer (some (ad 4))))
theorem ErrsBO.below {w w':World} {ad:Nat → Addr} (h:ErrsBO w ad) (hb:Below w.heap.size w w'):ErrsBO w' ad:=
 ⟨cell_later hb h.c1,cell_later hb h.c4⟩
def sentOf (ad:Nat → Addr):Nat → Value
 | 0=>.nilIface
 | k+1=>.iface 312 (.pointer (some (ad k)))
end Go.Proofs.YtipdclphpkgceaaGreatDoor

namespace Go.Proofs.YtipdclphpkgceaaGreatDoor
open Go.ChangeShapes Go.WideShapes Go.ChangeAt Go.RowKit
theorem Tryz.own:ownKnob Tryz.prog.godebug=none:=by kernel_rfl
theorem Tryz.laidOut:laidOutB Tryz.prog=true:=by kernel_rfl
theorem Tryz.cellsES:Tryz.prog.cellsOf 330=1:=by kernel_rfl
theorem Tryz.cellsStr:Tryz.prog.cellsOf 9=1:=by kernel_rfl
def nameES:String:=match (Rows.laid_floodgate_api_ErrBound:DataW Unit) with | .iface n _=>n | _ => "none"
theorem rows_star {P:Program} {tp:TypeId} {s:String} (hs:s=nameES) (h:((List.range P.types.size).all fun u=>P.typeName? 3 u != some nameES || u == tp)=true):((List.range P.types.size).all fun u=>P.typeName? 3 u != some s || u == tp)=true:=by
 rw [hs]
 exact h
theorem Tryz.rowPES (u:TypeId) (h:Tryz.prog.typeName? 3 u=some nameES):u=312:=
 typeName_ptr_named (P:=Tryz.prog) (nm := "errors.errorString") (tp:=312) (rows_star (by decide) (by kernel_rfl)) (by kernel_rfl) (by decide) u (h.trans (congrArg some (by decide)))
theorem sentinel_of_laid {n nm:String} {text:List UInt8} {r:List (String × DataW Unit)} {W:World} {g:Nat}
  (h:laidMet Tryz.prog ((n,.iface nm (.ptr (.agg [.lit (.string text)]))) :: r) W)
  (hnm:nm=nameES) (hg:Tryz.prog.globalNamed n=some g) (ht:(Tryz.prog.globals[g]?).map (·.type)=some 25) :
  ∃ (a:Addr) (s:ByteArray),W.cell? ⟨g,0,none⟩=some (.iface 312 (.pointer (some a))) ∧ W.cell? a=some (.string s) ∧ s.data.toList=text ∧ ∃ c t,W.heap[a.block]? = some (.cells c t (0,0)):=by
 obtain ⟨ps,⟨g0,t0,cs0,f0,p0,q0,hg0,ht0,hv0,hd0,_,e0⟩,_,hrows⟩:=h
 obtain rfl:=Option.some.inj (hg.symm.trans hg0)
 obtain rfl:=Option.some.inj (ht.symm.trans ht0)
 subst e0
 obtain ⟨l0⟩:=cs0
 have ok0:∀ u v,l0=[.iface u v] → Value.okWide Tryz.prog W .any 0 u v:=fun u v e=>by
  subst e
  exact (hrows g 0 (by simp [MemPlace.row])).2 u v (by simpa using World.var?_cell hg0 hv0 0)
 obtain ⟨a0,s0,rfl,hc0,hs0,hz0,rfl⟩:=errorString_of_trod Tryz.underlying25 (fun u hu=>Tryz.rowPES u (by rw [← hnm];exact hu)) Tryz.underlying312 Tryz.underlying330 rfl rfl Tryz.underlying9 Tryz.cellsES Tryz.cellsStr hd0 ok0
 exact ⟨a0,s0,by simpa using World.var?_cell hg0 hv0 0,hc0,hs0,(hrows a0.block a0.off (by simp [MemPlace.row])).1⟩
end Go.Proofs.YtipdclphpkgceaaGreatDoor

namespace Go.Proofs.YtipdclphpkgceaaGreatDoor
def digitsW:List UInt8 → Int → Option Int
 | [],n=>some n
 | b :: l,n=>if b.toNat < 48 ∨ 57 < b.toNat then none else digitsW l (10 * n+((b.toNat:Int) - 48))
def numW (l:List UInt8):Option Int:=
 if l.length < 1 ∨ 7 < l.length then none else if l.head? = some 48 ∧ 1 < l.length then none else digitsW l 0
theorem digitsW_low:∀ (l:List UInt8) (n m:Int),0 ≤ n → digitsW l n=some m → 0 ≤ m ∧ m < 10 ^ l.length * (n+1)
 | [],n,m,h,e=>by
  simp only [digitsW,Option.some.injEq] at e
  subst e
  exact ⟨h,by simp;omega⟩
 | b :: l,n,m,h,e=>by
  unfold digitsW at e
  split at e
  · cases e
  ·
   rename_i hb
   obtain ⟨h1,h2⟩:=digitsW_low l _ m (by omega) e
   refine ⟨h1,Int.lt_of_lt_of_le h2 ?_⟩
   rw [List.length_cons,Int.pow_succ,Int.mul_assoc]
   exact Int.mul_le_mul_of_nonneg_left (by omega) (Int.pow_nonneg (by decide))
theorem numW_range {l:List UInt8} {m:Int} (h:numW l=some m):0 ≤ m ∧ m ≤ 9999999:=by
 unfold numW at h
 split at h
 · cases h
 ·
  rename_i hl
  split at h
  · cases h
  ·
   obtain ⟨h1,h2⟩:=digitsW_low l 0 m (Int.le_refl _) h
   refine ⟨h1,?_⟩
   obtain ⟨k,hk⟩:∃ k,l.length=k:=⟨_,rfl⟩
   rw [hk] at h2 hl
   rcases (show k=1 ∨ k=2 ∨ k=3 ∨ k=4 ∨ k=5 ∨ k=6 ∨ k=7 by omega) with rfl | rfl | rfl | rfl | rfl | rfl | rfl <;> simp at h2 <;> omega
def numsW:List (List UInt8) → Option (List Int)
 | []=>some []
 | x :: l=>(numW x).bind fun n=>(numsW l).map fun ns=>n :: ns
theorem numsW_length:∀ {ws:List (List UInt8)} {ns:List Int},numsW ws=some ns → ns.length=ws.length
 | [],ns,h=>by simp only [numsW,Option.some.injEq] at h;subst h;rfl
 | x :: l,ns,h=>by
  simp only [numsW,Option.bind_eq_some_iff,Option.map_eq_some_iff] at h
  obtain ⟨n,-,ms,h2,rfl⟩:=h
  simp [numsW_length h2]
theorem numsW_some {ws:List (List UInt8)} {ns:List Int} (hl:ns.length=ws.length) (h:∀ (i:Nat) x n,ws[i]? = some x → ns[i]? = some n → numW x=some n):numsW ws=some ns:=by
 induction ws generalizing ns with
 | nil=>
  cases ns with
  | nil=>rfl
  | cons=>simp at hl
 | cons x l ih=>
  cases ns with
  | nil=>simp at hl
  | cons n ms=>
   simp only [numsW,h 0 x n rfl rfl,Option.bind_some,ih (ns:=ms) (by simpa using hl) fun i y k h1 h2=>h (i+1) y k (by simpa using h1) (by simpa using h2),Option.map_some]
theorem numsW_none {ws:List (List UInt8)} {i:Nat} {x:List UInt8} (h:ws[i]? = some x) (hn:numW x=none):numsW ws=none:=by
 induction ws generalizing i with
 | nil=>simp at h
 | cons y l ih=>
  cases i with
  | zero=>
   simp only [List.getElem?_cons_zero,Option.some.injEq] at h
   subst h
   simp [numsW,hn]
  | succ i=>
   simp only [List.getElem?_cons_succ] at h
   simp [numsW,ih h]
def digitW (l:List UInt8):Option Int:=if l.length ≠ 1 then none else numW l
def flowW (l:List UInt8):Option Int:=(digitW l).bind fun n=>if 0 ≤ n ∧ n < 8 then some n else none
def pairsW:List Int → List (Int × Int)
 | a :: b :: l=>(a,b) :: pairsW l
 | _=>[]
def linesW (ws:List (List UInt8)):Option (List (Int × Int)):=if ws.length % 2 ≠ 0 then none else (numsW ws).map pairsW
theorem pairsW_length:∀ (ns:List Int),(pairsW ns).length=ns.length / 2
 | []=>rfl
 | [_]=>by simp [pairsW]
 | a :: b :: l=>by simp only [pairsW,List.length_cons,pairsW_length l];omega
theorem pairsW_get:∀ (ns:List Int) (i:Nat) (a b:Int),ns[2 * i]? = some a → ns[2 * i+1]? = some b → (pairsW ns)[i]? = some (a,b)
 | [],i,a,b,h,_=>by simp at h
 | [_],i,a,b,_,h=>by simp at h
 | x :: y :: l,0,a,b,h1,h2=>by
  simp only [Nat.mul_zero,List.getElem?_cons_zero,Option.some.injEq,Nat.zero_add,List.getElem?_cons_succ] at h1 h2
  subst h1;subst h2;rfl
 | x :: y :: l,i+1,a,b,h1,h2=>by
  simp only [pairsW,List.getElem?_cons_succ]
  refine pairsW_get l i a b ?_ ?_
  · rw [show 2 * (i+1)=2 * i+1+1 by omega,List.getElem?_cons_succ,List.getElem?_cons_succ] at h1;exact h1
  · rw [show 2 * (i+1)+1=2 * i+1+1+1 by omega,List.getElem?_cons_succ,List.getElem?_cons_succ] at h2;exact h2
def errName (c:Int):List UInt8:=
 if c=1 then [116,101,120,116] else if c=2 then [98,111,117,110,100] else if c=3 then [115,104,97,112,101] else if c=4 then [110,111,110,101] else if c=5 then [111,108,100] else if c=6 then [111,118,101,114] else if c=7 then [105,100,108,101] else if c=8 then [116,117,114,110] else [107,105,110,100]
def errText (c:Int):List UInt8:=[102,108,111,111,100,103,97,116,101,58,32] ++ errName c
def okText:List UInt8:=[111,107]
def nothingText:List UInt8:=[110,111,116,104,105,110,103]
def sentW (k f t:Int):List UInt8:=Go.Lib.itoa k ++ [58] ++ Go.Lib.itoa f ++ [45] ++ Go.Lib.itoa t
end Go.Proofs.YtipdclphpkgceaaGreatDoor

namespace Go.Proofs.YtipdclphpkgceaaGreatDoor
open Go.RowKit
theorem isFlow_yes (x:Int) (w:World) (h:0 ≤ x ∧ x < 8):Calls Tryz.prog 128 #[.int .i64 x] w fun e w'=>e=.returned (.bool true) ∧ w'=w:=by
 obtain ⟨h1,h2⟩:=h
 go_enter Tryz.func128,Tryz.ntmps128
 go_wp2
 go_ret
 exact ⟨rfl,rfl⟩
theorem isFlow_no (x:Int) (w:World) (h:¬ (0 ≤ x ∧ x < 8)):Calls Tryz.prog 128 #[.int .i64 x] w fun e w'=>e=.returned (.bool false) ∧ w'=w:=by
 by_cases h1:0 ≤ x
 ·
  have h2:¬ x < 8:=fun h'=>h ⟨h1,h'⟩
  clear h
  go_enter Tryz.func128,Tryz.ntmps128
  go_wp2
  go_ret
  exact ⟨rfl,rfl⟩
 ·
  clear h
  go_enter Tryz.func128,Tryz.ntmps128
  go_wp2
  go_ret
  exact ⟨rfl,rfl⟩
def ReadEnd (a0:Addr) (o:Option Int) (w:World) (e:Ending) (w':World):Prop:=
 Below w.heap.size w w' ∧ ((o=none ∧ e=.returned (.tuple #[.int .i64 0,.iface 312 (.pointer (some a0))])) ∨ ∃ n,o=some n ∧ e=.returned (.tuple #[.int .i64 n,.nilIface]))
theorem readEnd_none {a0:Addr} {o:Option Int} {w w':World} (h:o=none) (hb:Below w.heap.size w w'):ReadEnd a0 o w (.returned (.tuple #[.int .i64 0,.iface 312 (.pointer (some a0))])) w':=⟨hb,.inl ⟨h,rfl⟩⟩
theorem readEnd_some {a0:Addr} {o:Option Int} {n:Int} {w w':World} (h:o=some n) (hb:Below w.heap.size w w'):ReadEnd a0 o w (.returned (.tuple #[.int .i64 n,.nilIface])) w':=⟨hb,.inr ⟨n,h,rfl⟩⟩
theorem digitsW_snoc:∀ (l:List UInt8) (n m:Int) (b:UInt8),digitsW l n=some m → digitsW (l ++ [b]) n=if b.toNat < 48 ∨ 57 < b.toNat then none else some (10 * m+((b.toNat:Int) - 48))
 | [],n,m,b,h=>by
  simp only [digitsW,Option.some.injEq] at h
  subst h
  simp [digitsW]
 | x :: l,n,m,b,h=>by
  simp only [List.cons_append,digitsW] at h ⊢
  split at h
  · cases h
  ·
   rename_i hx
   rw [if_neg hx]
   exact digitsW_snoc l _ m b h
theorem digitsW_stop:∀ (l:List UInt8) (n:Int) (k:Nat) (b:UInt8),l[k]? = some b → (b.toNat < 48 ∨ 57 < b.toNat) → digitsW l n=none
 | [],n,k,b,h,_=>by simp at h
 | x :: l,n,0,b,h,hb=>by
  simp only [List.getElem?_cons_zero,Option.some.injEq] at h
  subst h
  simp [digitsW,hb]
 | x :: l,n,k+1,b,h,hb=>by
  simp only [List.getElem?_cons_succ] at h
  unfold digitsW
  split
  · rfl
  · exact digitsW_stop l _ k b h hb
theorem convBytes (s:ByteArray) (W:World):∃ V cap,(convert 9 165 (.string s)).run Tryz.prog W=.ok (.slice (some ⟨W.heap.size,0,none⟩) s.size cap) V ∧ Below W.heap.size W V ∧ ∀ (i:Nat) b,s.data.toList[i]? = some b → V.cell? ⟨W.heap.size,i,none⟩=some (.int .u8 (b.toNat:Int)):=by
 refine ⟨_,_,run_bytes_of_string W 9 165 5 s Tryz.underlying9 Tryz.underlying165 Tryz.underlying5,((Below.refl _ _).drew).alloc (Nat.le_refl _) _,fun i b hb=>?_⟩
 have hi:i < s.data.size:=by
  rcases Nat.lt_or_ge i s.data.size with h | h
  · exact h
  · rw [List.getElem?_eq_none (by simpa using h)] at hb;cases hb
 rw [cell_of_row _ W.heap.size i _ 5 _ (heap_alloc_new W.drew _)]
 simp only [bytesRow]
 rw [Array.getElem?_append_left (by simpa using hi),Array.getElem?_map]
 rw [Array.getElem?_toList] at hb
 simp [hb]
section
variable (s:ByteArray) (w:World) (a0:Addr) (h0:w.cell? ⟨1,0,none⟩=some (.iface 312 (.pointer (some a0))))
theorem readNumber_len (s:ByteArray) (w:World) (a0:Addr) (h0:w.cell? ⟨1,0,none⟩=some (.iface 312 (.pointer (some a0)))) (h:s.size < 1 ∨ 7 < s.size) (hm:s.size ≤ 9223372036854775807) :
  Calls Tryz.prog 100 #[.string s] w fun e w'=>ReadEnd a0 (numW s.data.toList) w e w':=by
 have HE:Hid (∀ q,ReadEnd a0 (numW s.data.toList) w (.returned (.tuple #[.int .i64 0,.iface 312 (.pointer (some a0))])) (w.drewN q)):=fun q=>readEnd_none (by unfold numW;rw [if_pos (by simpa using h)]) (below_drewN (Below.refl _ _) q)
 obtain ⟨n,hn⟩:∃ n,s.size=n:=⟨_,rfl⟩
 rw [hn] at h hm
 by_cases h1:n < 1
 ·
  have d1:decide ((n:Int) < 1)=true:=decide_eq_true (by omega)
  clear h
  go_enter Tryz.func100,Tryz.ntmps100
  go_wp2_with fail
  go_quiet (fail)
  go_wp2_with fail
  go_ret2
  exact HE.out nq
 ·
  have d1:decide ((n:Int) < 1)=false:=decide_eq_false (by omega)
  have d2:decide ((7:Int) < (n:Int))=true:=decide_eq_true (by omega)
  clear h h1
  go_enter Tryz.func100,Tryz.ntmps100
  go_wp2_with fail
  go_quiet (fail)
  go_wp2_with fail
  go_ret2
  exact HE.out nq
theorem strIndex (s:ByteArray) (i:Nat) (b:UInt8) (h:s.data.toList[i]? = some b) (W:World):(Instr.index 9 (.string s) (.int .i64 (i:Int))).run Tryz.prog W=.ok (.int .u8 (b.toNat:Int)) W:=by
 have hi:i < s.size:=by
  rcases Nat.lt_or_ge i s.size with h' | h'
  · exact h'
  · rw [List.getElem?_eq_none (by simpa using h')] at h;cases h
 rw [run_index_string _ _ _ _ _ Tryz.underlying9,dif_pos ⟨by omega,by omega⟩]
 have hi':i < s.data.size:=hi
 rw [Array.getElem?_toList,Array.getElem?_eq_getElem hi'] at h
 have e:s[i]=b:=Option.some.inj h
 simp [e]
theorem digits_low7 {l:List UInt8} {m:Int} {k n:Nat} (hl:l.length=n) (hn:n ≤ 7) (hk:k < n) (h:digitsW (l.take k) 0=some m):0 ≤ m ∧ m ≤ 999999:=by
 obtain ⟨h1,h2⟩:=digitsW_low _ _ _ (Int.le_refl _) h
 have hlen:(l.take k).length=k:=by rw [List.length_take,hl];omega
 rw [hlen] at h2
 refine ⟨h1,?_⟩
 rcases (show k=0 ∨ k=1 ∨ k=2 ∨ k=3 ∨ k=4 ∨ k=5 ∨ k=6 by omega) with rfl | rfl | rfl | rfl | rfl | rfl | rfl <;> simp at h2 <;> omega
theorem readNumber_zero (s:ByteArray) (w:World) (a0:Addr) (h0:w.cell? ⟨1,0,none⟩=some (.iface 312 (.pointer (some a0)))) (h1:1 < s.size) (h7:s.size ≤ 7) (hz:s.data.toList[0]? = some 48) :
  Calls Tryz.prog 100 #[.string s] w fun e w'=>ReadEnd a0 (numW s.data.toList) w e w':=by
 have HE:Hid (∀ q,ReadEnd a0 (numW s.data.toList) w (.returned (.tuple #[.int .i64 0,.iface 312 (.pointer (some a0))])) (w.drewN q)):=fun q=>readEnd_none (by
  unfold numW
  have e:s.data.toList.length=s.size:=by simp
  rw [if_neg (by omega),if_pos ⟨by rw [List.head?_eq_getElem?];exact hz,by omega⟩]) (below_drewN (Below.refl _ _) q)
 have hix:∀ W:World,(Instr.index 9 (.string s) (.int .i64 0)).run Tryz.prog W=.ok (.int .u8 48) W:=fun W=>strIndex s 0 48 hz W
 obtain ⟨n,hn⟩:∃ n,s.size=n:=⟨_,rfl⟩
 rw [hn] at h1 h7
 have d1:decide ((n:Int) < 1)=false:=decide_eq_false (by omega)
 have d2:decide ((7:Int) < (n:Int))=false:=decide_eq_false (by omega)
 have d3:decide ((1:Int) < (n:Int))=true:=decide_eq_true (by omega)
 clear hz h1 h7
 go_enter Tryz.func100,Tryz.ntmps100
 go_wp2_with fail
 go_quiet (fail)
 go_wp2_with fail
 go_ret2
 exact HE.out nq
theorem readNumber_digits (s:ByteArray) (w:World) (a0:Addr) (h0:w.cell? ⟨1,0,none⟩=some (.iface 312 (.pointer (some a0)))) (h1:1 ≤ s.size) (h7:s.size ≤ 7) (b0:UInt8) (hz:s.data.toList[0]? = some b0) (hb0:¬ (b0=48 ∧ 1 < s.size)) :
  Calls Tryz.prog 100 #[.string s] w fun e w'=>ReadEnd a0 (numW s.data.toList) w e w':=by
 have hnum:numW s.data.toList=digitsW s.data.toList 0:=by
  unfold numW
  have e:s.data.toList.length=s.size:=by simp
  rw [if_neg (by omega),if_neg]
  rw [List.head?_eq_getElem?,hz,e]
  exact fun h=>hb0 ⟨Option.some.inj h.1,h.2⟩
 rw [hnum]
 have hix:∀ W:World,(Instr.index 9 (.string s) (.int .i64 0)).run Tryz.prog W=.ok (.int .u8 (b0.toNat:Int)) W:=fun W=>strIndex s 0 b0 hz W
 have hlen:s.data.toList.length=s.size:=by simp
 obtain ⟨z,hzz⟩:∃ z:Int,(b0.toNat:Int)=z:=⟨_,rfl⟩
 rw [hzz] at hix
 obtain ⟨n,hn⟩:∃ n,s.size=n:=⟨_,rfl⟩
 have HCv:Hid (∀ W,∃ V cap,(convert 9 165 (.string s)).run Tryz.prog W=.ok (.slice (some ⟨W.heap.size,0,none⟩) n cap) V ∧ Below W.heap.size W V ∧ ∀ (i:Nat) b,s.data.toList[i]? = some b → V.cell? ⟨W.heap.size,i,none⟩=some (.int .u8 (b.toNat:Int))):=fun W=>by
  have:=convBytes s W
  rw [hn] at this
  exact this
 rw [hn] at h1 h7 hb0 hlen
 obtain ⟨l,hl⟩:∃ l,s.data.toList=l:=⟨_,rfl⟩
 rw [hl] at HCv hlen hnum ⊢
 have HL:Hid (l.length=n):=hlen
 have H0:Hid (w.cell? ⟨1,0,none⟩=some (.iface 312 (.pointer (some a0)))):=h0
 have d1:decide ((n:Int) < 1)=false:=decide_eq_false (by omega)
 have d2:decide ((7:Int) < (n:Int))=false:=decide_eq_false (by omega)
 obtain ⟨t,ht⟩:∃ t,(z == 48)=t:=⟨_,rfl⟩
 have d3:t=true → decide ((1:Int) < (n:Int))=false:=fun h=>decide_eq_false (by
  rw [h] at ht
  have hz48:z=48:=by simpa using ht
  have:b0=48:=by
   apply UInt8.toNat.inj
   show b0.toNat=48
   omega
  rcases Nat.lt_or_ge 1 n with h' | h'
  · exact absurd ⟨this,h'⟩ hb0
  · omega)
 have HD3:Hid (t=true → decide ((1:Int) < (n:Int))=false):=d3
 obtain ⟨V,cap,hcv,hb1,hc1⟩:=HCv.out w
 have HB1:Hid (Below w.heap.size w V):=hb1
 have HC1:Hid (∀ (i:Nat) b,l[i]? = some b → V.cell? ⟨w.heap.size,i,none⟩=some (.int .u8 (b.toNat:Int))):=hc1
 have hE:V.cell? ⟨1,0,none⟩=some (.iface 312 (.pointer (some a0))):=cell_later hb1 h0
 clear hz hb0 hnum hlen hl hb1 hc1 HCv d3 h0 hzz
 cases t with
 | true=>
  have d3:=HD3.out rfl
  go_enter Tryz.func100,Tryz.ntmps100
  go_wp2_with fail
  go_loopw [4,28] (fun m i wr=>∃ k:Nat,∃ x:Int,k ≤ n ∧ i=.int .i64 k ∧ m=.int .i64 x ∧ digitsW (l.take k) 0=some x ∧ wr=V) (fun _ i _=>n - (intOf i).toNat)
  case atStart=>exact ⟨0,0,Nat.zero_le _,rfl,rfl,rfl,rfl⟩
  case round=>
   obtain ⟨k,x,hk,rfl,rfl,hx,rfl⟩:=hrel
   by_cases hkn:k < n
   ·
    obtain ⟨b,hb,-⟩:=get_some l k (by rw [HL.out];exact hkn)
    have hc:=HC1.out k b hb
    obtain ⟨x0,x1⟩:=digits_low7 HL.out h7 hkn hx
    have hts:l.take (k+1)=l.take k ++ [b]:=by rw [List.take_add_one,hb];rfl
    have hsn:=digitsW_snoc (l.take k) 0 x b hx
    rw [← hts] at hsn
    have hbl:b.toNat < 256:=b.toNat_lt
    obtain ⟨y,hy⟩:∃ y:Int,(b.toNat:Int)=y:=⟨_,rfl⟩
    rw [hy] at hc hsn
    by_cases hbad:b.toNat < 48 ∨ 57 < b.toNat
    ·
     have HE:Hid (∀ q,ReadEnd a0 (digitsW l 0) w (.returned (.tuple #[.int .i64 0,.iface 312 (.pointer (some a0))])) (wr.drewN q)):=fun q=>readEnd_none (digitsW_stop l 0 k b hb hbad) (below_drewN HB1.out q)
     by_cases hlo:y < 48
     ·
      have e1:decide (y < 48)=true:=decide_eq_true hlo
      clear hts hsn hb hx hbad hbl hy
      go_wp2_with fail
      go_quiet (fail)
      go_wp2_with fail
      go_ret2
      exact HE.out nq
     ·
      have e1:decide (y < 48)=false:=decide_eq_false hlo
      have e2:decide (57 < y)=true:=decide_eq_true (by omega)
      clear hts hsn hb hx hbad hbl hy
      go_wp2_with fail
      go_quiet (fail)
      go_wp2_with fail
      go_ret2
      exact HE.out nq
    ·
     rw [if_neg hbad] at hsn
     have e1:decide (y < 48)=false:=decide_eq_false (by omega)
     have e2:decide (57 < y)=false:=decide_eq_false (by omega)
     have e3:IntKind.u8.wrap (y - 48)=y - 48:=by rw [IntKind.wrap_u8];omega
     have HS:Hid (digitsW (l.take (k+1)) 0=some (10 * x+(y - 48))):=hsn
     have y0:0 ≤ y - 48:=by omega
     have y1:y - 48 ≤ 9:=by omega
     clear hts hsn hb hx hbad hbl hy
     go_wp2_with fail
     go_roundw
     case rel=>exact ⟨k+1,_,by omega,by go_num,rfl,HS.out,trivial⟩
     case measure=>simp [intOf];omega
   ·
    obtain rfl:k=n:=by omega
    rw [show l.take k=l by rw [← HL.out,List.take_length]] at hx
    go_wp2_with fail
    go_ret2
    exact readEnd_some hx HB1.out
 | false=>
  go_enter Tryz.func100,Tryz.ntmps100
  go_wp2_with fail
  go_loopw [4,28] (fun m i wr=>∃ k:Nat,∃ x:Int,k ≤ n ∧ i=.int .i64 k ∧ m=.int .i64 x ∧ digitsW (l.take k) 0=some x ∧ wr=V) (fun _ i _=>n - (intOf i).toNat)
  case atStart=>exact ⟨0,0,Nat.zero_le _,rfl,rfl,rfl,rfl⟩
  case round=>
   obtain ⟨k,x,hk,rfl,rfl,hx,rfl⟩:=hrel
   by_cases hkn:k < n
   ·
    obtain ⟨b,hb,-⟩:=get_some l k (by rw [HL.out];exact hkn)
    have hc:=HC1.out k b hb
    obtain ⟨x0,x1⟩:=digits_low7 HL.out h7 hkn hx
    have hts:l.take (k+1)=l.take k ++ [b]:=by rw [List.take_add_one,hb];rfl
    have hsn:=digitsW_snoc (l.take k) 0 x b hx
    rw [← hts] at hsn
    have hbl:b.toNat < 256:=b.toNat_lt
    obtain ⟨y,hy⟩:∃ y:Int,(b.toNat:Int)=y:=⟨_,rfl⟩
    rw [hy] at hc hsn
    by_cases hbad:b.toNat < 48 ∨ 57 < b.toNat
    ·
     have HE:Hid (∀ q,ReadEnd a0 (digitsW l 0) w (.returned (.tuple #[.int .i64 0,.iface 312 (.pointer (some a0))])) (wr.drewN q)):=fun q=>readEnd_none (digitsW_stop l 0 k b hb hbad) (below_drewN HB1.out q)
     by_cases hlo:y < 48
     ·
      have e1:decide (y < 48)=true:=decide_eq_true hlo
      clear hts hsn hb hx hbad hbl hy
      go_wp2_with fail
      go_quiet (fail)
      go_wp2_with fail
      go_ret2
      exact HE.out nq
     ·
      have e1:decide (y < 48)=false:=decide_eq_false hlo
      have e2:decide (57 < y)=true:=decide_eq_true (by omega)
      clear hts hsn hb hx hbad hbl hy
      go_wp2_with fail
      go_quiet (fail)
      go_wp2_with fail
      go_ret2
      exact HE.out nq
    ·
     rw [if_neg hbad] at hsn
     have e1:decide (y < 48)=false:=decide_eq_false (by omega)
     have e2:decide (57 < y)=false:=decide_eq_false (by omega)
     have e3:IntKind.u8.wrap (y - 48)=y - 48:=by rw [IntKind.wrap_u8];omega
     have HS:Hid (digitsW (l.take (k+1)) 0=some (10 * x+(y - 48))):=hsn
     have y0:0 ≤ y - 48:=by omega
     have y1:y - 48 ≤ 9:=by omega
     clear hts hsn hb hx hbad hbl hy
     go_wp2_with fail
     go_roundw
     case rel=>exact ⟨k+1,_,by omega,by go_num,rfl,HS.out,trivial⟩
     case measure=>simp [intOf];omega
   ·
    obtain rfl:k=n:=by omega
    rw [show l.take k=l by rw [← HL.out,List.take_length]] at hx
    go_wp2_with fail
    go_ret2
    exact readEnd_some hx HB1.out
theorem readNumber_is (s:ByteArray) (w:World) (a0:Addr) (h0:w.cell? ⟨1,0,none⟩=some (.iface 312 (.pointer (some a0)))) (hm:s.size ≤ 9223372036854775807) :
  Calls Tryz.prog 100 #[.string s] w fun e w'=>ReadEnd a0 (numW s.data.toList) w e w':=by
 by_cases h:s.size < 1 ∨ 7 < s.size
 · exact readNumber_len s w a0 h0 h hm
 ·
  obtain ⟨b,hb,-⟩:=get_some s.data.toList 0 (by simp;omega)
  by_cases hz:b=48 ∧ 1 < s.size
  ·
   rw [hz.1] at hb
   exact readNumber_zero s w a0 h0 hz.2 (by omega) hb
  · exact readNumber_digits s w a0 h0 (by omega) (by omega) b hb hz
end
theorem ownsRow_of_block {w w':World} {base:Nat} {e:TypeId} {size:Nat} {v:Value} {n:Nat} {xs:List Value} (h:w.ownsRow base e size v n xs) (hb:∀ g,v.ownBlock=some g → g < w.heap.size → w'.heap[g]? = w.heap[g]?):w'.ownsRow base e size v n xs:=by
 obtain ⟨h1,h2 | ⟨g,cap,cur,rfl,hB,hg,r⟩⟩:=h
 · exact ⟨h1,.inl h2⟩
 · exact ⟨h1,.inr ⟨g,cap,cur,rfl,hB,(hb g rfl (lt_of_block hg)).trans hg,r⟩⟩
theorem ownsRow_lt {w:World} {base:Nat} {e:TypeId} {size:Nat} {v:Value} {n:Nat} {xs:List Value} (h:w.ownsRow base e size v n xs) {g:Nat} (hg:v.ownBlock=some g):base ≤ g ∧ g < w.heap.size:=by
 obtain ⟨h1,⟨rfl,-⟩ | ⟨g',cap,cur,rfl,hB,hgc,r⟩⟩:=h
 · cases hg
 ·
  cases hg
  exact ⟨hB,lt_of_block hgc⟩
theorem Tryz.infoInt:(Tryz.prog.info? 3).map (fun i=>(i.zero,i.size,i.bytes))=some (some (.int .i64 0),1,8):=by kernel_rfl
theorem made_get (u:Value) (n j:Nat) (h:j < n):(madeCells #[u] n)[j]? = some u:=by
 rw [Array.getElem?_eq_getElem (by rw [size_madeCells];exact h)]
 simp [madeCells,Nat.mod_one]
def LiesN (w:World) (a:Option Addr) (xs:List Int):Prop:=
 xs=[] ∨ ∃ b off,a=some ⟨b,off,none⟩ ∧ b < w.heap.size ∧ ∀ (i:Nat) x,xs[i]? = some x → w.cell? ⟨b,off+i,none⟩=some (.int .i64 x)
theorem LiesN.place {w:World} {a:Option Addr} {xs:List Int} (h:LiesN w a xs) (h1:1 ≤ xs.length):∃ b off,a=some ⟨b,off,none⟩ ∧ b < w.heap.size ∧ ∀ (i:Nat) x,xs[i]? = some x → w.cell? ⟨b,off+i,none⟩=some (.int .i64 x):=by
 rcases h with rfl | h
 · simp at h1
 · exact h
theorem LiesN.below {w w':World} {a:Option Addr} {xs:List Int} (h:LiesN w a xs) (hb:Below w.heap.size w w'):LiesN w' a xs:=by
 rcases h with rfl | ⟨b,off,rfl,hlt,hc⟩
 · exact .inl rfl
 · exact .inr ⟨b,off,rfl,Nat.lt_of_lt_of_le hlt hb.size,fun i x hi=>cell_later hb (hc i x hi)⟩
def okLine (x y:Int):Bool:=decide (1 ≤ x ∧ x ≤ 20000 ∧ 0 ≤ y ∧ y ≤ 100000)
theorem okLine_true {x y:Int} (h:okLine x y=true):1 ≤ x ∧ x ≤ 20000 ∧ 0 ≤ y ∧ y ≤ 100000:=of_decide_eq_true h
def lineAt (t x y:Int):Int:=x+y * t / 1000
def leastAt (t:Int):Int → List (Int × Int) → Int
 | m,[]=>m
 | m,p :: r=>leastAt t (min m (lineAt t p.1 p.2)) r
def curveAt (t:Int):List (Int × Int) → Int
 | []=>0
 | p :: r=>leastAt t (lineAt t p.1 p.2) r
def okAll (ls:List (Int × Int)):Prop:=∀ p,p ∈ ls → okLine p.1 p.2=true
def okCurve (ls:List (Int × Int)):Prop:=1 ≤ ls.length ∧ ls.length ≤ 6 ∧ okAll ls
theorem leastAt_snoc (t:Int) (l:List (Int × Int)):∀ (m:Int) (p:Int × Int),leastAt t m (l ++ [p])=min (leastAt t m l) (lineAt t p.1 p.2):=by
 induction l with
 | nil=>intro m p;rfl
 | cons q r ih=>intro m p;exact ih _ p
theorem min_if (a b:Int):(if b < a then b else a)=min a b:=by split <;> omega
theorem mul_bd {y t:Int} (h0:0 ≤ y) (h1:y ≤ 100000) (t0:0 ≤ t) (t1:t ≤ 1099511627776):0 ≤ y * t ∧ y * t ≤ 109951162777600000:=by
 refine ⟨Int.mul_nonneg h0 t0,?_⟩
 have a:y * t ≤ 100000 * t:=Int.mul_le_mul_of_nonneg_right h1 t0
 omega
theorem lineAt_bd {t x y:Int} (h:okLine x y=true) (t0:0 ≤ t) (t1:t ≤ 1099511627776):1 ≤ lineAt t x y ∧ lineAt t x y ≤ 109951162797600000:=by
 obtain ⟨a,b,c,d⟩:=okLine_true h
 have:=mul_bd c d t0 t1
 unfold lineAt
 omega
theorem leastAt_bd (t:Int) (t0:0 ≤ t) (t1:t ≤ 1099511627776) (l:List (Int × Int)):∀ m:Int,1 ≤ m → m ≤ 109951162797600000 → okAll l → 1 ≤ leastAt t m l ∧ leastAt t m l ≤ 109951162797600000 ∧ leastAt t m l ≤ m:=by
 induction l with
 | nil=>intro m h1 h2 _;exact ⟨h1,h2,Int.le_refl _⟩
 | cons q r ih=>
  intro m h1 h2 hok
  have hb:=lineAt_bd (hok q (List.mem_cons_self ..)) t0 t1
  have:=ih (min m (lineAt t q.1 q.2)) (by omega) (by omega) (fun p hp=>hok p (List.mem_cons_of_mem _ hp))
  exact ⟨this.1,this.2.1,by show leastAt t (min m (lineAt t q.1 q.2)) r ≤ m;have:=this.2.2;omega⟩
end Go.Proofs.YtipdclphpkgceaaGreatDoor

namespace Go.Proofs.YtipdclphpkgceaaGreatDoor
theorem leastAt_le (t:Int) (l:List (Int × Int)):∀ m:Int,leastAt t m l ≤ m ∧ ∀ p,p ∈ l → leastAt t m l ≤ lineAt t p.1 p.2:=by
 induction l with
 | nil=>intro m;exact ⟨Int.le_refl _,fun p hp=>by cases hp⟩
 | cons q r ih=>
  intro m
  have:=ih (min m (lineAt t q.1 q.2))
  refine ⟨?_,fun p hp=>?_⟩
  ·
   show leastAt t (min m (lineAt t q.1 q.2)) r ≤ m
   have:=this.1;omega
  ·
   show leastAt t (min m (lineAt t q.1 q.2)) r ≤ _
   rcases List.mem_cons.1 hp with rfl | hp
   · have:=this.1;omega
   · exact this.2 p hp
theorem leastAt_is (t:Int) (l:List (Int × Int)):∀ m:Int,leastAt t m l=m ∨ ∃ p,p ∈ l ∧ leastAt t m l=lineAt t p.1 p.2:=by
 induction l with
 | nil=>intro m;exact .inl rfl
 | cons q r ih=>
  intro m
  show leastAt t (min m (lineAt t q.1 q.2)) r=m ∨ ∃ p,p ∈ q :: r ∧ leastAt t (min m (lineAt t q.1 q.2)) r=lineAt t p.1 p.2
  rcases ih (min m (lineAt t q.1 q.2)) with h | ⟨p,hp,h⟩
  ·
   rw [h]
   by_cases hm:m ≤ lineAt t q.1 q.2
   · exact .inl (by omega)
   · exact .inr ⟨q,List.mem_cons_self ..,by omega⟩
  · exact .inr ⟨p,List.mem_cons_of_mem _ hp,h⟩
theorem curveAt_le (t:Int) (ls:List (Int × Int)) (p:Int × Int) (hp:p ∈ ls):curveAt t ls ≤ lineAt t p.1 p.2:=by
 cases ls with
 | nil=>cases hp
 | cons q r=>
  have:=leastAt_le t r (lineAt t q.1 q.2)
  rcases List.mem_cons.1 hp with rfl | hp
  · exact this.1
  · exact this.2 p hp
theorem curveAt_is (t:Int) (ls:List (Int × Int)) (h:1 ≤ ls.length):∃ p,p ∈ ls ∧ curveAt t ls=lineAt t p.1 p.2:=by
 cases ls with
 | nil=>simp at h
 | cons q r=>
  rcases leastAt_is t r (lineAt t q.1 q.2) with h | ⟨p,hp,h⟩
  · exact ⟨q,List.mem_cons_self ..,h⟩
  · exact ⟨p,List.mem_cons_of_mem _ hp,h⟩
theorem curveAt_bd (t:Int) (ls:List (Int × Int)) (h:okCurve ls) (t0:0 ≤ t) (t1:t ≤ 1099511627776):1 ≤ curveAt t ls ∧ curveAt t ls ≤ 109951162797600000:=by
 obtain ⟨p,hp,e⟩:=curveAt_is t ls h.1
 rw [e]
 exact lineAt_bd (h.2.2 p hp) t0 t1
structure Bk where
 most:Int
 rate:Int
 has:Int
 last:Int
structure Bk.Ok (b:Bk):Prop where
 m0:1000 ≤ b.most
 m1:b.most ≤ 20000000
 r0:0 ≤ b.rate
 r1:b.rate ≤ 100000
 h0:0 ≤ b.has
 h1:b.has ≤ b.most
 l0:0 ≤ b.last
 l1:b.last ≤ 1099511627776
def Bk.lev (b:Bk) (t:Int):Int:=min b.most (b.has+b.rate * (t - b.last))
def Bk.take (b:Bk) (t n:Int):Bk:=if n * 1000 ≤ b.lev t then ⟨b.most,b.rate,b.lev t - n * 1000,t⟩ else ⟨b.most,b.rate,b.lev t,t⟩
def Bk.when (b:Bk) (t n:Int):Option Int:=
 if n * 1000 ≤ b.lev t then some t
 else if b.most < n * 1000 ∨ b.rate=0 then none
 else if 1099511627776 - t < (n * 1000 - b.lev t+b.rate - 1) / b.rate then none
 else some (t+(n * 1000 - b.lev t+b.rate - 1) / b.rate)
def tickErr (last t:Int):Nat:=if 0 ≤ t ∧ t ≤ 1099511627776 then (if t < last then 5 else 0) else 2
def askErr (last t n:Int):Nat:=if 1 ≤ n ∧ n ≤ 1500 then tickErr last t else 2
theorem tickErr_ok {last t:Int}:tickErr last t=0 ↔ 0 ≤ t ∧ t ≤ 1099511627776 ∧ last ≤ t:=by unfold tickErr;split <;> (try split) <;> simp <;> omega
theorem askErr_ok {last t n:Int}:askErr last t n=0 ↔ 1 ≤ n ∧ n ≤ 1500 ∧ 0 ≤ t ∧ t ≤ 1099511627776 ∧ last ≤ t:=by unfold askErr;split <;> simp [tickErr_ok] <;> omega
def bkOf (p:Int × Int):Bk:=⟨p.1 * 1000,p.2,p.1 * 1000,0⟩
theorem bkOf_ok {p:Int × Int} (h:okLine p.1 p.2=true):(bkOf p).Ok:=by
 obtain ⟨a,b,c,d⟩:=okLine_true h
 constructor <;> simp [bkOf] <;> omega
theorem mul_split (r a b c:Int):r * (a - c)=r * (b - c)+r * (a - b):=by
 simp only [Int.mul_sub];omega
theorem Bk.Ok.grow {b:Bk} (h:b.Ok) {t:Int} (ht:b.last ≤ t) (t1:t ≤ 1099511627776):0 ≤ b.rate * (t - b.last) ∧ b.rate * (t - b.last) ≤ 109951162777600000:=
 mul_bd h.r0 h.r1 (by omega) (by have:=h.l0;omega)
theorem Bk.Ok.lev_bd {b:Bk} (h:b.Ok) {t:Int} (ht:b.last ≤ t):0 ≤ b.lev t ∧ b.lev t ≤ b.most:=by
 have:=Int.mul_nonneg h.r0 (show 0 ≤ t - b.last by omega)
 have:=h.h0;have:=h.h1;have:=h.m0
 unfold Bk.lev;omega
theorem Bk.lev_mono {b:Bk} (h:0 ≤ b.rate) {s t:Int} (hs:s ≤ t):b.lev s ≤ b.lev t:=by
 have:=mul_split b.rate t s b.last
 have:=Int.mul_nonneg h (show 0 ≤ t - s by omega)
 unfold Bk.lev;omega
theorem Bk.Ok.take {b:Bk} (h:b.Ok) {t n:Int} (ht:b.last ≤ t) (t1:t ≤ 1099511627776) (hn:0 ≤ n):(b.take t n).Ok:=by
 have:=h.lev_bd ht
 have:=h.l0
 unfold Bk.take
 split <;> exact ⟨h.m0,h.m1,h.r0,h.r1,by simp;omega,by simp;omega,by simp;omega,by simp;omega⟩
theorem Bk.take_last (b:Bk) (t n:Int):(b.take t n).last=t:=by unfold Bk.take;split <;> rfl
theorem div_up {r x:Int} (hr:0 < r):x ≤ r * ((x+r - 1) / r) ∧ r * ((x+r - 1) / r) < x+r:=by
 have h1:=Int.mul_ediv_add_emod (x+r - 1) r
 have h2:=Int.emod_nonneg (x+r - 1) (show r ≠ 0 by omega)
 have h3:=Int.emod_lt_of_pos (x+r - 1) hr
 omega
theorem Bk.when_some {b:Bk} (h:b.Ok) {t n T:Int} (t1:t ≤ 1099511627776) (e:b.when t n=some T) :
  t ≤ T ∧ T ≤ 1099511627776 ∧ n * 1000 ≤ b.lev T ∧ ∀ s,t ≤ s → s < T → b.lev s < n * 1000:=by
 unfold Bk.when at e
 split at e
 ·
  rename_i h1
  cases e
  exact ⟨Int.le_refl _,t1,h1,fun s h2 h3=>by omega⟩
 ·
  rename_i h1
  split at e
  · cases e
  ·
   rename_i h2
   split at e
   · cases e
   ·
    rename_i h3
    have hr:0 < b.rate:=by have:=h.r0;omega
    have hd:=div_up (r:=b.rate) (x:=n * 1000 - b.lev t) hr
    have hm:¬ b.most < n * 1000:=fun h=>h2 (.inl h)
    generalize hk:(n * 1000 - b.lev t+b.rate - 1) / b.rate=k at e h3 hd
    cases e
    have hk0:0 < k:=by
     by_cases h0:0 < k
     · exact h0
     ·
      have:=Int.mul_le_mul_of_nonneg_left (show k ≤ 0 by omega) h.r0
      simp at this;omega
    have hlt:b.lev t=b.has+b.rate * (t - b.last):=by unfold Bk.lev at h1 ⊢;omega
    have hT:=mul_split b.rate (t+k) t b.last
    rw [show t+k - t=k by omega] at hT
    refine ⟨by omega,by omega,?_,fun s h4 h5=>?_⟩
    · unfold Bk.lev;omega
    ·
     have hS:=mul_split b.rate s t b.last
     have h6:b.rate * (s - t) ≤ b.rate * (k - 1):=Int.mul_le_mul_of_nonneg_left (by omega) h.r0
     have h7:b.rate * (k - 1)=b.rate * k - b.rate:=by simp [Int.mul_sub]
     unfold Bk.lev;omega
end Go.Proofs.YtipdclphpkgceaaGreatDoor
