/- Own facts, put together: no statement of its own. -/
import Derived.Test.YtipdclphpkgceaaGreatDoorS03
import Derived.Test.YtipdclphpkgceaaGreatDoorS01
import Derived.Deep.RegionLaw
import Derived.Deep.RegionHeld
import Derived.Sort.Grow
import Derived.Test.YtipdclphpkgceaaGreatDoorS02
set_option maxHeartbeats 400000
set_option maxRecDepth 100000

namespace Go.Proofs.YtipdclphpkgceaaGreatDoor
open Go.RowKit
def cellsL (ls:List (Int × Int)):List Value:=ls.flatMap fun p=>[.int .i64 p.1,.int .i64 p.2]
theorem cellsL_cons (p:Int × Int) (r:List (Int × Int)):cellsL (p :: r)=.int .i64 p.1 :: .int .i64 p.2 :: cellsL r:=rfl
theorem cellsL_append (a b:List (Int × Int)):cellsL (a ++ b)=cellsL a ++ cellsL b:=by simp [cellsL]
theorem cellsL_length (ls:List (Int × Int)):(cellsL ls).length=ls.length * 2:=by
 induction ls with
 | nil=>rfl
 | cons p r ih=>rw [cellsL_cons];simp [ih];omega
theorem cellsL_get (ls:List (Int × Int)):∀ i x y,ls[i]? = some (x,y) → (cellsL ls)[i * 2]? = some (.int .i64 x) ∧ (cellsL ls)[i * 2+1]? = some (.int .i64 y):=by
 induction ls with
 | nil=>intro i x y h;simp at h
 | cons p r ih=>
  intro i x y h
  rw [cellsL_cons]
  cases i with
  | zero=>simp at h;subst h;exact ⟨rfl,rfl⟩
  | succ i=>
   have:=ih i x y (by simpa using h)
   rw [show (i+1) * 2=i * 2+1+1 by omega]
   exact ⟨by simpa using this.1,by simpa using this.2⟩
theorem cellsL_at (ls:List (Int × Int)):∀ j u,(cellsL ls)[j]? = some u → ∃ i x y,ls[i]? = some (x,y) ∧ ((j=i * 2 ∧ u=.int .i64 x) ∨ (j=i * 2+1 ∧ u=.int .i64 y)):=by
 induction ls with
 | nil=>intro j u h;simp [cellsL] at h
 | cons p r ih=>
  intro j u h
  rw [cellsL_cons] at h
  match j,h with
  | 0,h=>exact ⟨0,p.1,p.2,rfl,.inl ⟨rfl,by simpa using h.symm⟩⟩
  | 1,h=>exact ⟨0,p.1,p.2,rfl,.inr ⟨rfl,by simpa using h.symm⟩⟩
  | j+2,h=>
   obtain ⟨i,x,y,hi,hj⟩:=ih j u (by simpa using h)
   exact ⟨i+1,x,y,by simpa using hi,by rcases hj with ⟨e,f⟩ | ⟨e,f⟩;exact .inl ⟨by omega,f⟩;exact .inr ⟨by omega,f⟩⟩
theorem cellsL_one (ls:List (Int × Int)):∀ u ∈ cellsL ls,u.oneCell'=true:=by
 intro u hu
 obtain ⟨j,hj⟩:=List.mem_iff_getElem?.1 hu
 obtain ⟨i,x,y,-,h⟩:=cellsL_at ls j u hj
 rcases h with ⟨-,rfl⟩ | ⟨-,rfl⟩ <;> rfl
def OwnL (w:World) (B:Nat) (v:Value) (ls:List (Int × Int)):Prop:=w.ownsRow B 83 2 v ls.length (cellsL ls)
theorem OwnL.open {w:World} {B:Nat} {v:Value} {ls:List (Int × Int)} (h:OwnL w B v ls) :
  ∃ a cap,v=.slice a ls.length cap ∧ ls.length ≤ cap ∧ cap ≤ maxLen ∧ Lies w a ls:=by
 obtain ⟨hlen,⟨rfl,h0⟩ | ⟨g,cap,cur,rfl,hB,hg,hn,hm,hc,ht⟩⟩:=h
 · refine ⟨none,0,by rw [h0],by omega,by simp [maxLen],.inl (List.length_eq_zero_iff.1 h0)⟩
 ·
  refine ⟨_,cap,rfl,hn,hm,.inr ⟨g,0,rfl,?_,fun i x y hi=>?_⟩⟩
  ·
   rcases Nat.lt_or_ge g w.heap.size with h | h
   · exact h
   · simp [Array.getElem?_eq_none h] at hg
  ·
   have hh:w.ownsRow B 83 2 (.slice (some ⟨g,0,none⟩) ls.length cap) ls.length (cellsL ls):=⟨hlen,.inr ⟨g,cap,cur,rfl,hB,hg,hn,hm,hc,ht⟩⟩
   have hil:i < ls.length:=by
    rcases Nat.lt_or_ge i ls.length with h | h
    · exact h
    · simp [List.getElem?_eq_none h] at hi
   have:=cellsL_get ls i x y hi
   rw [hh.cellAt _ (by omega),hh.cellAt _ (by omega),Nat.zero_add]
   exact this
theorem lies_news {w:World} {ad:Addr} {ls:List (Int × Int)} (h:Lies w (some ad) ls):∀ j u,(cellsL ls)[j]? = some u → w.cell? (ad.add j)=some u:=by
 intro j u hj
 obtain ⟨i,x,y,hi,hc⟩:=cellsL_at ls j u hj
 rcases h with rfl | ⟨b,off,e,-,h⟩
 · simp at hi
 ·
  cases e
  have:=h i x y hi
  rw [Addr.add_lit]
  rcases hc with ⟨rfl,rfl⟩ | ⟨rfl,rfl⟩
  · exact this.1
  · exact this.2
theorem Tryz.infoLine:(Tryz.prog.info? 83).map (fun i=>(i.zero,i.size,i.bytes))=some (some (.agg #[.int .i64 0,.int .i64 0]),2,16):=by kernel_rfl
theorem at_ok (a:Option Addr) (cap:Nat) (ls:List (Int × Int)) (t:Int) (w:World) (hl:Lies w a ls) (h:okCurve ls) (hcap:ls.length ≤ cap) (hm:cap ≤ maxLen) (t0:0 ≤ t) (t1:t ≤ 1099511627776) :
  Calls Tryz.prog 106 #[.slice a ls.length cap,.int .i64 t] w fun e w'=>e=.returned (.tuple #[.int .i64 (curveAt t ls),.nilIface]) ∧ Below w.heap.size w w':=by
 have HL:Hid (Lies w a ls):=hl
 have HO:Hid (okCurve ls):=h
 have Hc:Hid (ls.length ≤ cap ∧ cap ≤ maxLen):=⟨hcap,hm⟩
 clear hl h hcap hm
 go_enter Tryz.func106,Tryz.ntmps106
 go_wp2_with fail
 refine (check_ok a cap ls _ HL.out HO.out).mono ?_
 rintro e w1 ⟨rfl,hb⟩
 have HB:Hid (Below w.heap.size w w1):=hb
 clear hb
 go_wp2_with fail
 refine (bytesAt_ok a cap ls t _ (HL.out.below HB.out) HO.out Hc.out.1 Hc.out.2 t0 t1).mono ?_
 rintro e w2 ⟨rfl,hb2⟩
 go_wp2_with fail
 go_ret2
 exact ⟨rfl,HB.out.trans (hb2.mono HB.out.size)⟩
theorem at_err {R:TypeId → Value → World → Prop} (a:Option Addr) (n cap:Nat) (t:Int) (w:World)
  (hc:Calls Tryz.prog 89 #[.slice a n cap] w fun e w'=>∃ ty p,e=.returned (.iface ty p) ∧ R ty p w') :
  Calls Tryz.prog 106 #[.slice a n cap,.int .i64 t] w fun e w'=>∃ ty p,e=.returned (.tuple #[.int .i64 0,.iface ty p]) ∧ R ty p w':=by
 have HC:Hid (Calls Tryz.prog 89 #[.slice a n cap] w fun e w'=>∃ ty p,e=.returned (.iface ty p) ∧ R ty p w'):=hc
 clear hc
 go_enter Tryz.func106,Tryz.ntmps106
 go_wp2_with fail
 refine HC.out.mono ?_
 rintro e w1 ⟨ty,p,rfl,hR⟩
 have HR:Hid (R ty p w1):=hR
 clear hR
 go_wp2_with fail
 go_ret2
 exact ⟨ty,p,rfl,HR.out⟩
theorem firstBad (ls:List (Int × Int)):okAll ls ∨ ∃ j,j < ls.length ∧ (∀ i x y,i < j → ls[i]? = some (x,y) → okLine x y=true) ∧ ∀ x y,ls[j]? = some (x,y) → okLine x y=false:=by
 induction ls with
 | nil=>exact .inl fun p hp=>by cases hp
 | cons q r ih=>
  cases hq:okLine q.1 q.2 with
  | false=>exact .inr ⟨0,by simp,fun i x y hi=>by omega,fun x y h=>by simp at h;subst h;exact hq⟩
  | true=>
   rcases ih with h | ⟨j,hj,h1,h2⟩
   ·
    refine .inl fun p hp=>?_
    rcases List.mem_cons.1 hp with rfl | hp
    · exact hq
    · exact h p hp
   ·
    refine .inr ⟨j+1,by simpa using hj,fun i x y hi he=>?_,fun x y he=>h2 x y (by simpa using he)⟩
    cases i with
    | zero=>simp at he;subst he;exact hq
    | succ i=>exact h1 i x y (by omega) (by simpa using he)
structure Errs2 (w:World) (aB aS:Addr):Prop where
 bound:w.cell? ⟨0,0,none⟩=some (.iface 312 (.pointer (some aB)))
 shape:w.cell? ⟨2,0,none⟩=some (.iface 312 (.pointer (some aS)))
theorem Errs2.below {w w':World} {aB aS:Addr} (h:Errs2 w aB aS) (hb:Below w.heap.size w w'):Errs2 w' aB aS:=
 ⟨cell_later hb h.bound,cell_later hb h.shape⟩
theorem lineError_yes (x y:Int) (w:World) (h:okLine x y=true) :
  Calls Tryz.prog 55 #[.agg #[.int .i64 x,.int .i64 y]] w fun e w'=>e=.returned (.int .i64 0) ∧ w'=w.alloc (.cells #[.int .i64 x,.int .i64 y] 83):=by
 obtain ⟨h1,h2,h3,h4⟩:=okLine_true h
 clear h
 go_enter Tryz.func55,Tryz.ntmps55
 go_wp2
 go_ret
 exact ⟨rfl,rfl⟩
theorem lineError_no (x y:Int) (w:World) (h:okLine x y=false) :
  Calls Tryz.prog 55 #[.agg #[.int .i64 x,.int .i64 y]] w fun e w'=>e=.returned (.int .i64 2) ∧ w'=w.alloc (.cells #[.int .i64 x,.int .i64 y] 83):=by
 have h':¬ (1 ≤ x ∧ x ≤ 20000 ∧ 0 ≤ y ∧ y ≤ 100000):=of_decide_eq_false h
 clear h
 by_cases h1:1 ≤ x
 ·
  by_cases h2:x ≤ 20000
  ·
   by_cases h3:0 ≤ y
   ·
    have h4:¬ y ≤ 100000:=fun h4=>h' ⟨h1,h2,h3,h4⟩
    clear h'
    go_enter Tryz.func55,Tryz.ntmps55
    go_wp2
    go_ret
    exact ⟨rfl,rfl⟩
   ·
    clear h'
    go_enter Tryz.func55,Tryz.ntmps55
    go_wp2
    go_ret
    exact ⟨rfl,rfl⟩
  ·
   clear h'
   go_enter Tryz.func55,Tryz.ntmps55
   go_wp2
   go_ret
   exact ⟨rfl,rfl⟩
 ·
  clear h'
  go_enter Tryz.func55,Tryz.ntmps55
  go_wp2
  go_ret
  exact ⟨rfl,rfl⟩
theorem OwnL.lies {w:World} {B:Nat} {a:Option Addr} {n cap:Nat} {ls:List (Int × Int)} (h:OwnL w B (.slice a n cap) ls):n=ls.length ∧ ls.length ≤ cap ∧ cap ≤ maxLen ∧ Lies w a ls:=by
 obtain ⟨a',cap',e,h1,h2,h3⟩:=h.open
 injection e with e1 e2 e3
 subst e1 e2 e3
 exact ⟨rfl,h1,h2,h3⟩
def cmpI (a b:Int):Int:=if a < b then -1 else if b < a then 1 else 0
theorem cmpI_lt {a b:Int}:cmpI a b < 0 ↔ a < b:=by unfold cmpI;split;omega;split <;> omega
theorem cmpI_zero {a b:Int}:cmpI a b=0 ↔ a=b:=by unfold cmpI;split;omega;split <;> omega
theorem compare_any (a b:Int) (w:World):Calls Tryz.prog 141 #[.int .i64 a,.int .i64 b] w fun e w'=>e=.returned (.int .i64 (cmpI a b)) ∧ w'=w:=by
 by_cases h1:a < b
 ·
  have HC:Hid (cmpI a b = -1):=by show _=_;unfold cmpI;rw [if_pos h1]
  go_enter Tryz.func141,Tryz.ntmps141
  go_wp2
  go_ret
  exact ⟨congrArg (fun z=>Ending.returned (.int .i64 z)) HC.out.symm,rfl⟩
 ·
  by_cases h2:b < a
  ·
   have HC:Hid (cmpI a b=1):=by show _=_;unfold cmpI;rw [if_neg h1,if_pos h2]
   go_enter Tryz.func141,Tryz.ntmps141
   go_wp2
   go_ret
   exact ⟨congrArg (fun z=>Ending.returned (.int .i64 z)) HC.out.symm,rfl⟩
  ·
   have HC:Hid (cmpI a b=0):=by show _=_;unfold cmpI;rw [if_neg h1,if_neg h2]
   go_enter Tryz.func141,Tryz.ntmps141
   go_wp2
   go_ret
   exact ⟨congrArg (fun z=>Ending.returned (.int .i64 z)) HC.out.symm,rfl⟩
end Go.Proofs.YtipdclphpkgceaaGreatDoor

namespace Go.Proofs.YtipdclphpkgceaaGreatDoor
open Go.RowKit Go.Sort
def cmpL (x y:Int × Int):Int:=if cmpI y.2 x.2=0 then cmpI y.1 x.1 else cmpI y.2 x.2
theorem or_any (c1 c2:Int) (B:Nat) (w:World) (h1:w.cell? ⟨B,0,none⟩=some (.int .i64 c1)) (h2:w.cell? ⟨B,1,none⟩=some (.int .i64 c2)) :
  Calls Tryz.prog 214 #[.slice (some ⟨B,0,none⟩) 2 2] w fun e w'=>e=.returned (.int .i64 (if c1=0 then c2 else c1)) ∧ w'=w:=by
 by_cases hc:c1=0
 ·
  subst hc
  by_cases hd:c2=0
  ·
   subst hd
   go_enter Tryz.func214,Tryz.ntmps214
   go_wp2
   refine wp_loop_rounds 3 ?_
   rw [rounds_succ]
   go_wp2
   rw [rounds_succ]
   go_wp2
   rw [rounds_succ]
   go_wp2
   go_ret
   exact ⟨rfl,rfl⟩
  ·
   have hd':(c2 == 0)=false:=by simpa using hd
   go_enter Tryz.func214,Tryz.ntmps214
   go_wp2
   refine wp_loop_rounds 2 ?_
   rw [rounds_succ]
   go_wp2
   rw [rounds_succ]
   go_wp2
   go_ret
   exact ⟨rfl,rfl⟩
 ·
  have hc':(c1 == 0)=false:=by simpa using hc
  rw [if_neg hc]
  go_enter Tryz.func214,Tryz.ntmps214
  go_wp2
  refine wp_loop_rounds 1 ?_
  rw [rounds_succ]
  go_wp2
  go_ret
  exact ⟨rfl,rfl⟩
theorem twoB_three (w:World) (o1 o2:Obj) (u v:Value) (t:TypeId):(((w.alloc o1).alloc o2).alloc (.cells #[u,v] t)).cell? ⟨w.heap.size+1+1,0,none⟩=some u ∧ (((w.alloc o1).alloc o2).alloc (.cells #[u,v] t)).cell? ⟨w.heap.size+1+1,1,none⟩=some v:=by
 rw [World.cell?_alloc_at _ _ _ _ (by simp),World.cell?_alloc_at _ _ _ _ (by simp)]
 exact ⟨rfl,rfl⟩
theorem third_at (w:World) (o1 o2:Obj) (u v:Value) (t:TypeId):(((w.alloc o1).alloc o2).alloc (.cells #[u,v] t)).drew.cell? ⟨w.heap.size+1+1,0,none⟩=some u ∧ (((w.alloc o1).alloc o2).alloc (.cells #[u,v] t)).drew.cell? ⟨w.heap.size+1+1,1,none⟩=some v:=by
 have h0:=(twoB_three w o1 o2 u v t).1
 have h1:=(twoB_three w o1 o2 u v t).2
 exact ⟨h0,h1⟩
theorem three_grow (w:World) (o1 o2 o3:Obj):(((w.alloc o1).alloc o2).alloc o3).drew=grow (w.drewN 1) #[o1,o2,o3]:=by
 rw [alloc_eq_grow,alloc_eq_grow,alloc_eq_grow,grow_grow,grow_grow]
 rfl
theorem order_call (x y:Int × Int) (w:World) :
  Calls Tryz.prog 213 #[.agg #[.int .i64 x.1,.int .i64 x.2],.agg #[.int .i64 y.1,.int .i64 y.2]] w fun e w'=>e=.returned (.int .i64 (cmpL x y)) ∧ ∃ q os',w'=grow (w.drewN q) os':=by
 obtain ⟨x1,x2⟩:=x
 obtain ⟨y1,y2⟩:=y
 have HL:Hid (cmpL (x1,x2) (y1,y2)=if cmpI y2 x2=0 then cmpI y1 x1 else cmpI y2 x2):=rfl
 have hc1:=fun W=>compare_any y2 x2 W
 have hc2:=fun W=>compare_any y1 x1 W
 obtain ⟨r1,hr1⟩:∃ r,cmpI y2 x2=r:=⟨_,rfl⟩
 obtain ⟨r2,hr2⟩:∃ r,cmpI y1 x1=r:=⟨_,rfl⟩
 rw [hr1] at hc1
 rw [hr2] at hc2
 have HR:Hid (cmpI y2 x2=r1 ∧ cmpI y1 x1=r2):=⟨hr1,hr2⟩
 have H1:Hid (∀ W:World,Calls Tryz.prog 141 #[.int .i64 y2,.int .i64 x2] W fun e w'=>e=.returned (.int .i64 r1) ∧ w'=W):=hc1
 have H2:Hid (∀ W:World,Calls Tryz.prog 141 #[.int .i64 y1,.int .i64 x1] W fun e w'=>e=.returned (.int .i64 r2) ∧ w'=W):=hc2
 have h3:=fun B W=>or_any r1 r2 B W
 obtain ⟨R,hR⟩:∃ R,(if r1=0 then r2 else r1)=R:=⟨_,rfl⟩
 rw [hR] at h3
 have HQ:Hid ((if r1=0 then r2 else r1)=R):=hR
 have H3:Hid (∀ B (W:World),W.cell? ⟨B,0,none⟩=some (.int .i64 r1) → W.cell? ⟨B,1,none⟩=some (.int .i64 r2) → Calls Tryz.prog 214 #[.slice (some ⟨B,0,none⟩) 2 2] W fun e w'=>e=.returned (.int .i64 R) ∧ w'=W):=h3
 clear hc1 hc2 hr1 hr2 h3 hR
 go_enter Tryz.func213,Tryz.ntmps213
 go_wp2_with fail
 go_region_held (fun w'=>w'.cell? ⟨w.heap.size,0,none⟩=some (.int .i64 x1) ∧ w'.cell? ⟨w.heap.size,1,none⟩=some (.int .i64 x2) ∧ w'.cell? ⟨w.heap.size+1,0,none⟩=some (.int .i64 y1) ∧ w'.cell? ⟨w.heap.size+1,1,none⟩=some (.int .i64 y2)) (go_keep)
  (first
  | (go_at_call_of 141 (Value.int IntKind.i64 y2);refine (H1.out _).mono ?_;rintro e w' ⟨rfl,rfl⟩)
  | (go_at_call_of 141 (Value.int IntKind.i64 y1);refine (H2.out _).mono ?_;rintro e w' ⟨rfl,rfl⟩)
  | (go_at_call 214;refine (H3.out _ _ (third_at _ _ _ _ _ _).1 (third_at _ _ _ _ _ _).2).mono ?_;rintro e w' ⟨rfl,rfl⟩))
 all_goals (go_wp2_with fail;go_ret)
 all_goals exact ⟨congrArg (fun z=>Ending.returned (.int .i64 z)) (by rw [HL.out,HR.out.1,HR.out.2,HQ.out]),1,_,three_grow _ _ _ _⟩
end Go.Proofs.YtipdclphpkgceaaGreatDoor

namespace Go.Proofs.YtipdclphpkgceaaGreatDoor
def lto (per:Int) (ps:List Pk):Nat → Int
 | 0=>0
 | j+1=>max (lto per ps j) (tickOf ps j)+per * bytesOf ps j
def lind (per:Int) (ps:List Pk) (j:Nat):Sn:=⟨j,max (lto per ps j) (tickOf ps j),lto per ps (j+1)⟩
def lindAll (per:Int) (ps:List Pk) (j:Nat):List Sn:=(List.range j).map (lind per ps)
theorem lindAll_length (per:Int) (ps:List Pk) (j:Nat):(lindAll per ps j).length=j:=by simp [lindAll]
theorem lindAll_get {per:Int} {ps:List Pk} {j k:Nat} (h:k < j):(lindAll per ps j)[k]? = some (lind per ps k):=by simp [lindAll,h]
theorem lindAll_succ (per:Int) (ps:List Pk) (j:Nat):lindAll per ps (j+1)=lindAll per ps j ++ [lind per ps j]:=by simp [lindAll,List.range_succ]
theorem lindAll_take {per:Int} {ps:List Pk} {j k:Nat} (h:k ≤ j):(lindAll per ps j).take k=lindAll per ps k:=by
 rw [lindAll,← List.map_take,List.take_range,Nat.min_eq_left h];rfl
def fifoQ:Que (List Nat):=⟨fun q k=>q ++ [k],fun q=>q.headD 0,fun q=>q.tail,fun q=>q.length,fun q=>q⟩
structure InOrder (per:Int) (ps:List Pk) (s:St (List Nat)) (j:Nat):Prop where
 le:j ≤ s.next
 q:s.q=List.range' j (s.next - j)
 out:s.out=lindAll per ps j
 came:∀ i,i < s.next → tickOf ps i ≤ s.now
 now:max s.now (tickOf ps j)=max (lto per ps j) (tickOf ps j)
theorem fifo_order {per:Int} {ps:List Pk} {s:St (List Nat)} (hper:0 ≤ per) (ho:OkPks ps) (h:Reaches fifoQ per ps [] s):∃ j,InOrder per ps s j:=by
 refine h.by_steps (C:=fun s=>∃ j,InOrder per ps s j) ⟨0,Nat.le_refl _,rfl,rfl,fun i h=>absurd h (Nat.not_lt_zero _),rfl⟩ ?_ ?_ ?_
 ·
  intro s p hs hp ht ih
  obtain ⟨j,h1,h2,h3,h4,h5⟩:=ih
  refine ⟨j,by simp only;omega,?_,h3,fun i hi=>?_,h5⟩
  ·
   simp only [fifoQ,h2]
   rw [show s.next+1 - j=(s.next - j)+1 by omega,List.range'_concat,Nat.one_mul,show j+(s.next - j)=s.next by omega]
  ·
   simp only at hi ⊢
   rcases Nat.lt_or_ge i s.next with h | h
   · exact h4 i h
   ·
    obtain rfl:i=s.next:=by omega
    rw [tickOf_get hp];exact ht
 ·
  intro s p hs hall h0 hp ih
  obtain ⟨j,h1,h2,h3,h4,h5⟩:=ih
  have hlt:j < s.next:=by
   rcases Nat.lt_or_ge j s.next with h | h
   · exact h
   ·
    rw [h2,show s.next - j=0 by omega] at h0
    simp [fifoQ] at h0
  have hr:List.range' j (s.next - j)=j :: List.range' (j+1) (s.next - (j+1)):=by
   rw [show s.next - j=(s.next - (j+1))+1 by omega,List.range'_succ]
  have hpick:fifoQ.pick s.q=j:=by rw [h2,hr];rfl
  rw [hpick] at hp
  have e1:=tickOf_get hp
  have e2:=bytesOf_get hp
  have hn:s.now=max (lto per ps j) (tickOf ps j):=by
   have:=h4 j hlt
   omega
  have hpos:0 ≤ per * p.size:=Int.mul_nonneg hper (by have:=okPk_true (ho.each _ p hp).1;omega)
  refine ⟨j+1,by simp only;omega,?_,?_,fun i hi=>?_,?_⟩
  · simp only [fifoQ];rw [h2,hr];rfl
  ·
   simp only [hpick]
   rw [lindAll_succ,h3]
   simp only [lind,lto,e2,hn]
  ·
   have:=h4 i hi
   simp only
   omega
  · simp only [lto,e2,hn]
 ·
  intro s p hs hp ht h0 ih
  obtain ⟨j,h1,h2,h3,h4,h5⟩:=ih
  have hj:j=s.next:=by
   have h0':s.q.length=0:=h0
   rw [h2,List.length_range'] at h0'
   omega
  subst hj
  have e1:=tickOf_get hp
  refine ⟨s.next,Nat.le_refl _,h2,h3,fun i hi=>?_,?_⟩
  ·
   have:=h4 i hi
   simp only
   omega
  ·
   simp only [e1] at h5 ⊢
   omega
theorem fifo_law {per:Int} {ps:List Pk} (hper:0 ≤ per) (ho:OkPks ps):QueLaw fifoQ per ps [] where
 none:=rfl
 come:=fun s _ _=>by simp [fifoQ]
 left:=fun s _ h=>by
  simp only [fifoQ] at h ⊢
  rw [List.length_tail]
  omega
 pick:=fun s hs h=>by
  obtain ⟨j,h1,h2,-,-,-⟩:=fifo_order hper ho hs
  have h':0 < s.q.length:=h
  rw [h2,List.length_range'] at h'
  show s.q.headD 0 < s.next
  rw [h2,show s.next - j=(s.next - (j+1))+1 by omega,List.range'_succ]
  simp
  omega
 idle:=fun _ _ h=>h
theorem fifo_end {per:Int} {ps:List Pk} {s:St (List Nat)} (hper:0 ≤ per) (ho:OkPks ps) (h:Reaches fifoQ per ps [] s) (hn:¬ s.next < ps.length) (hr:fifoQ.rest s.q=0):s.out=lindAll per ps ps.length:=by
 obtain ⟨j,h1,h2,h3,-,-⟩:=fifo_order hper ho h
 have:=h.next_le
 have h':s.q.length=0:=hr
 rw [h2,List.length_range'] at h'
 rw [h3,show j=ps.length by omega]
def Undone (n:Nat) (out:List Sn) (i:Nat):Prop:=i < n ∧ ∀ x ∈ out,x.num ≠ (i:Int)
def lastFin (out:List Sn):Int:=match out.getLast? with | some x=>x.fin | none=>0
theorem lastFin_nil:lastFin []=0:=rfl
theorem lastFin_snoc (out:List Sn) (x:Sn):lastFin (out ++ [x])=x.fin:=by simp [lastFin]
structure Best (ps:List Pk) (keys:List Int) (out:List Sn) (t:Int) (b:Nat):Prop where
 undone:Undone ps.length out b
 came:tickOf ps b ≤ t
 least:∀ i,Undone ps.length out i → tickOf ps i ≤ t → keys.getD b 0 < keys.getD i 0 ∨ (keys.getD b 0=keys.getD i 0 ∧ b ≤ i)
def Tick (ps:List Pk) (out:List Sn) (t:Int):Prop:=
 (t=lastFin out ∧ ∃ i,Undone ps.length out i ∧ tickOf ps i ≤ t) ∨
 ((∀ i,Undone ps.length out i → lastFin out < tickOf ps i) ∧ ∃ i,Undone ps.length out i ∧ t=tickOf ps i ∧ ∀ k,Undone ps.length out k → tickOf ps i ≤ tickOf ps k)
theorem Tick.same {ps:List Pk} {out:List Sn} {t u:Int} (h:Tick ps out t) (k:Tick ps out u):t=u:=by
 rcases h with ⟨rfl,i,h1,h2⟩ | ⟨h0,i,h1,rfl,h2⟩
 ·
  rcases k with ⟨rfl,-⟩ | ⟨k0,-⟩
  · rfl
  · have:=k0 i h1;omega
 ·
  rcases k with ⟨rfl,j,k1,k2⟩ | ⟨-,j,k1,rfl,k2⟩
  · have:=h0 j k1;omega
  ·
   have:=h2 j k1
   have:=k2 i h1
   omega
theorem Best.same {ps:List Pk} {keys:List Int} {out:List Sn} {t:Int} {b c:Nat} (h:Best ps keys out t b) (k:Best ps keys out t c):b=c:=by
 have h1:=h.least c k.undone k.came
 have k1:=k.least b h.undone h.came
 omega
def IsNext (per:Int) (ps:List Pk) (keys:List Int) (out:List Sn) (x:Sn):Prop:=∃ t b,Tick ps out t ∧ Best ps keys out t b ∧ x=⟨b,t,t+per * bytesOf ps b⟩
theorem IsNext.same {per:Int} {ps:List Pk} {keys:List Int} {out:List Sn} {x y:Sn} (h:IsNext per ps keys out x) (k:IsNext per ps keys out y):x=y:=by
 obtain ⟨t,b,h1,h2,rfl⟩:=h
 obtain ⟨u,c,k1,k2,rfl⟩:=k
 obtain rfl:=h1.same k1
 obtain rfl:=h2.same k2
 rfl
def Sched (per:Int) (ps:List Pk) (keys:List Int) (out:List Sn):Prop:=∀ k x,out[k]? = some x → IsNext per ps keys (out.take k) x
theorem Sched.nil (per:Int) (ps:List Pk) (keys:List Int):Sched per ps keys []:=fun k x h=>by simp at h
theorem Sched.snoc {per:Int} {ps:List Pk} {keys:List Int} {out:List Sn} {x:Sn} (h:Sched per ps keys out) (hx:IsNext per ps keys out x):Sched per ps keys (out ++ [x]):=by
 intro k y hk
 have hl:=lt_of_get hk
 rw [List.length_append,List.length_cons,List.length_nil] at hl
 rcases Nat.lt_or_ge k out.length with h1 | h1
 ·
  rw [List.getElem?_append_left h1] at hk
  rw [List.take_append_of_le_length (by omega)]
  exact h k y hk
 ·
  obtain rfl:k=out.length:=by omega
  rw [List.getElem?_append_right (Nat.le_refl _)] at hk
  simp at hk
  subst hk
  rw [List.take_append_of_le_length (Nat.le_refl _),List.take_length]
  exact hx
theorem Sched.same {per:Int} {ps:List Pk} {keys:List Int} {a b:List Sn} (h:Sched per ps keys a) (k:Sched per ps keys b) (hl:a.length=b.length):a=b:=by
 have key:∀ n,n ≤ a.length → a.take n=b.take n:=by
  intro n
  induction n with
  | zero=>intro _;simp
  | succ n ih=>
   intro hn
   have e:=ih (by omega)
   have h1:a[n]? = some a[n]:=List.getElem?_eq_getElem (by omega)
   have h2:b[n]? = some (b[n]'(by omega)):=List.getElem?_eq_getElem (by omega)
   have g1:=h n _ h1
   have g2:=k n _ h2
   rw [← e] at g2
   have:=g1.same g2
   rw [List.take_add_one,List.take_add_one,e,h1,h2,this]
 have:=key a.length (Nat.le_refl _)
 rw [List.take_length,hl,List.take_length] at this
 exact this
theorem undone_lind {per:Int} {ps:List Pk} {j i:Nat}:Undone ps.length (lindAll per ps j) i ↔ i < ps.length ∧ j ≤ i:=by
 unfold Undone
 constructor
 ·
  rintro ⟨h1,h2⟩
  refine ⟨h1,?_⟩
  rcases Nat.lt_or_ge i j with h | h
  ·
   have hm:lind per ps i ∈ lindAll per ps j:=List.mem_map.2 ⟨i,List.mem_range.2 h,rfl⟩
   exact absurd rfl (h2 _ hm)
  · exact h
 ·
  rintro ⟨h1,h2⟩
  refine ⟨h1,fun x hx=>?_⟩
  obtain ⟨k,hk,rfl⟩:=List.mem_map.1 hx
  have:=List.mem_range.1 hk
  simp only [lind]
  omega
theorem lastFin_lind (per:Int) (ps:List Pk):∀ j,lastFin (lindAll per ps j)=lto per ps j
 | 0=>rfl
 | j+1=>by rw [lindAll_succ,lastFin_snoc];rfl
theorem lind_sched {per:Int} {ps:List Pk} (ho:OkPks ps) (keys:List Int) (hk:∀ i,keys.getD i 0=0):Sched per ps keys (lindAll per ps ps.length):=by
 intro k x hx
 have hkl:=lt_of_get hx
 rw [lindAll_length] at hkl
 rw [lindAll_get hkl] at hx
 have hx:=Option.some.inj hx
 subst hx
 rw [lindAll_take (by omega)]
 refine ⟨max (lto per ps k) (tickOf ps k),k,?_,⟨undone_lind.2 ⟨hkl,Nat.le_refl _⟩,by omega,fun i hi _=>.inr ⟨by rw [hk,hk],(undone_lind.1 hi).2⟩⟩,?_⟩
 ·
  by_cases h:tickOf ps k ≤ lto per ps k
  · exact .inl ⟨by rw [lastFin_lind];omega,k,undone_lind.2 ⟨hkl,Nat.le_refl _⟩,by omega⟩
  ·
   refine .inr ⟨fun i hi=>?_,k,undone_lind.2 ⟨hkl,Nat.le_refl _⟩,by omega,fun i hi=>?_⟩
   ·
    rw [lastFin_lind]
    have:=undone_lind.1 hi
    have:=ticks_le ho this.2 this.1
    omega
   ·
    have:=undone_lind.1 hi
    exact ticks_le ho this.2 this.1
 · simp only [lind,lto]
def named (n:Nat) (x:Sn):Bool:=decide (0 ≤ x.num ∧ x.num < n)
theorem named_true {n:Nat} {x:Sn} (h:named n x=true):0 ≤ x.num ∧ x.num < n:=of_decide_eq_true h
theorem named_false {n:Nat} {x:Sn} (h:named n x=false):x.num < 0 ∨ (¬ x.num < 0 ∧ (n:Int) ≤ x.num):=by
 have:¬ (0 ≤ x.num ∧ x.num < n):=of_decide_eq_false h
 omega
def isDone (out:List Sn) (i:Nat):Bool:=out.any fun x=>x.num == (i:Int)
theorem isDone_false {out:List Sn} {i:Nat}:isDone out i=false ↔ ∀ x ∈ out,x.num ≠ (i:Int):=by simp [isDone]
theorem isDone_snoc (out:List Sn) (b i:Nat) (f t:Int):isDone (out ++ [⟨b,f,t⟩]) i=(isDone out i || b == i):=by
 simp only [isDone,List.any_append,List.any_cons,List.any_nil,Bool.or_false]
 have e:((b:Int) == (i:Int))=(b == i):=by
  by_cases h:b=i
  · subst h;rw [beq_self_eq_true,beq_self_eq_true]
  ·
   have h':(b:Int) ≠ (i:Int):=by omega
   rw [beq_eq_false_iff_ne.2 h',beq_eq_false_iff_ne.2 h]
 rw [e]
theorem undone_iff {n:Nat} {out:List Sn} {i:Nat}:Undone n out i ↔ i < n ∧ isDone out i=false:=by simp [Undone,isDone_false]
section
end
structure PickLaw {σ:Type} (Q:Que σ) (keys:List Int) (q0:σ) (ok:σ → Prop) (items:σ → List Nat):Prop where
 start:ok q0 ∧ items q0=[]
 rest:∀ q,ok q → Q.rest q=(items q).length
 come:∀ q k,ok q → (∀ i,i ∈ items q → i < k) → ok (Q.come q k) ∧ (items (Q.come q k)).length=(items q).length+1 ∧ ∀ i,i ∈ items (Q.come q k) ↔ i ∈ items q ∨ i=k
 idle:∀ q,ok q → Q.rest q=0 → ok (Q.idle q) ∧ items (Q.idle q)=items q
 left:∀ q,ok q → 0 < (items q).length → ok (Q.left q) ∧ (items (Q.left q)).length+1=(items q).length ∧ ∀ i,i ∈ items (Q.left q) ↔ i ∈ items q ∧ i ≠ Q.pick q
 pick:∀ q,ok q → 0 < (items q).length → Q.pick q ∈ items q ∧ ∀ i,i ∈ items q → keys.getD (Q.pick q) 0 < keys.getD i 0 ∨ (keys.getD (Q.pick q) 0=keys.getD i 0 ∧ Q.pick q ≤ i)
structure Ranked {σ:Type} (ok:σ → Prop) (items:σ → List Nat) (per:Int) (ps:List Pk) (keys:List Int) (s:St σ):Prop where
 good:ok s.q
 sched:Sched per ps keys s.out
 wait:∀ i,i ∈ items s.q ↔ i < s.next ∧ isDone s.out i=false
 sent:∀ i:Nat,isDone s.out i=true → i < s.next
 came:∀ i,i < s.next → tickOf ps i ≤ s.now
 le:s.next ≤ ps.length
 now:s.now=lastFin s.out ∨ ((∀ i,Undone ps.length s.out i → lastFin s.out < tickOf ps i) ∧ ∃ i,Undone ps.length s.out i ∧ s.now=tickOf ps i ∧ ∀ k,Undone ps.length s.out k → tickOf ps i ≤ tickOf ps k)
theorem ranked {σ:Type} {Q:Que σ} {keys:List Int} {q0:σ} {ok:σ → Prop} {items:σ → List Nat} {per:Int} {ps:List Pk} {s:St σ} (hQ:PickLaw Q keys q0 ok items) (hper:0 ≤ per) (ho:OkPks ps) (h:Reaches Q per ps q0 s):Ranked ok items per ps keys s:=by
 refine h.by_steps (C:=fun s=>Ranked ok items per ps keys s) ?_ ?_ ?_ ?_
 ·
  refine ⟨hQ.start.1,Sched.nil _ _ _,fun i=>?_,fun i h=>?_,fun i h=>?_,Nat.zero_le _,.inl rfl⟩
  ·
   simp only [hQ.start.2]
   constructor
   · intro h;cases h
   · rintro ⟨h,-⟩;exact absurd h (Nat.not_lt_zero _)
  · simp [isDone] at h
  · exact absurd h (Nat.not_lt_zero _)
 ·
  intro s p _ hp ht ih
  have hn:∀ i,i ∈ items s.q → i < s.next:=fun i hm=>((ih.wait _).1 hm).1
  obtain ⟨c1,-,c3⟩:=hQ.come s.q s.next ih.good hn
  have hlt:=lt_of_get hp
  refine ⟨c1,ih.sched,fun i=>?_,fun i hi=>Nat.lt_succ_of_lt (ih.sent i hi),fun i hi=>?_,hlt,ih.now⟩
  ·
   rw [c3,ih.wait]
   simp only
   constructor
   ·
    rintro (⟨a,b⟩ | rfl)
    · exact ⟨by omega,b⟩
    ·
     refine ⟨by omega,?_⟩
     cases hd:isDone s.out s.next with
     | false=>rfl
     | true=>have:=ih.sent _ hd;omega
   ·
    rintro ⟨a,b⟩
    rcases Nat.lt_or_ge i s.next with h' | h'
    · exact .inl ⟨h',b⟩
    · exact .inr (by omega)
  ·
   simp only at hi ⊢
   rcases Nat.lt_or_ge i s.next with h' | h'
   · exact ih.came i h'
   ·
    obtain rfl:i=s.next:=by omega
    rw [tickOf_get hp];exact ht
 ·
  intro s p _ hall h0 hp ih
  rw [hQ.rest _ ih.good] at h0
  obtain ⟨l1,-,l3⟩:=hQ.left s.q ih.good h0
  obtain ⟨p1,p2⟩:=hQ.pick s.q ih.good h0
  obtain ⟨w1,w2⟩:=(ih.wait _).1 p1
  have hle:=ih.le
  have hcome:∀ i,Undone ps.length s.out i → tickOf ps i ≤ s.now → i ∈ items s.q:=by
   intro i hi ht
   obtain ⟨u1,u2⟩:=undone_iff.1 hi
   refine (ih.wait i).2 ⟨?_,u2⟩
   rcases Nat.lt_or_ge i s.next with h' | h'
   · exact h'
   ·
    have hnl:s.next < ps.length:=by omega
    have e:ps[s.next]? = some ps[s.next]:=List.getElem?_eq_getElem hnl
    have a1:=hall _ e
    have a2:=ticks_le ho h' u1
    rw [tickOf_get e] at a2
    omega
  have hbest:Best ps keys s.out s.now (Q.pick s.q):=⟨undone_iff.2 ⟨by omega,w2⟩,ih.came _ w1,fun i hi ht=>p2 i (hcome i hi ht)⟩
  have htick:Tick ps s.out s.now:=by
   rcases ih.now with e | ⟨e1,e2⟩
   · exact .inl ⟨e,_,hbest.undone,hbest.came⟩
   · exact .inr ⟨e1,e2⟩
  have hpos:0 ≤ per * p.size:=Int.mul_nonneg hper (by have:=okPk_true (ho.each _ p hp).1;omega)
  refine ⟨l1,ih.sched.snoc ⟨s.now,Q.pick s.q,htick,hbest,by rw [bytesOf_get hp]⟩,fun i=>?_,fun i hi=>?_,fun i hi=>?_,ih.le,.inl (by rw [lastFin_snoc])⟩
  ·
   rw [l3,ih.wait]
   simp only
   rw [isDone_snoc]
   constructor
   ·
    rintro ⟨⟨a,b⟩,c⟩
    refine ⟨a,?_⟩
    rw [b,Bool.false_or]
    exact beq_eq_false_iff_ne.2 (fun e=>c e.symm)
   ·
    rintro ⟨a,b⟩
    rw [Bool.or_eq_false_iff] at b
    exact ⟨⟨a,b.1⟩,fun e=>beq_eq_false_iff_ne.1 b.2 e.symm⟩
  ·
   simp only at hi ⊢
   rw [isDone_snoc,Bool.or_eq_true] at hi
   rcases hi with hi | hi
   · exact ih.sent i hi
   ·
    have:=beq_iff_eq.1 hi
    omega
  ·
   have:=ih.came i hi
   simp only
   omega
 ·
  intro s p _ hp ht h0 ih
  rw [hQ.rest _ ih.good] at h0
  have hnone:items s.q=[]:=List.length_eq_zero_iff.1 h0
  have hge:∀ i,Undone ps.length s.out i → s.next ≤ i:=by
   intro i hi
   rcases Nat.lt_or_ge i s.next with h' | h'
   ·
    have:=(ih.wait i).2 ⟨h',(undone_iff.1 hi).2⟩
    rw [hnone] at this;cases this
   · exact h'
  have hmin:∀ i,Undone ps.length s.out i → p.tick ≤ tickOf ps i:=by
   intro i hi
   have:=ticks_le ho (hge i hi) (undone_iff.1 hi).1
   rwa [tickOf_get hp] at this
  have hnow:s.now=lastFin s.out:=by
   rcases ih.now with e | ⟨-,i,hi,e,-⟩
   · exact e
   ·
    have:=hmin i hi
    omega
  have hund:Undone ps.length s.out s.next:=by
   refine undone_iff.2 ⟨lt_of_get hp,?_⟩
   cases hd:isDone s.out s.next with
   | false=>rfl
   | true=>have:=ih.sent _ hd;omega
  obtain ⟨i1,i2⟩:=hQ.idle s.q ih.good (by rw [hQ.rest _ ih.good];exact h0)
  refine ⟨i1,ih.sched,fun i=>by rw [i2];exact ih.wait i,ih.sent,fun i hi=>?_,ih.le,.inr ⟨fun i hi=>?_,s.next,hund,(tickOf_get hp).symm,fun k hk=>?_⟩⟩
  ·
   have:=ih.came i hi
   simp only
   omega
  ·
   have:=hmin i hi
   show lastFin s.out < _
   omega
  ·
   rw [tickOf_get hp]
   exact hmin k hk
theorem ranked_law {σ:Type} {Q:Que σ} {keys:List Int} {q0:σ} {ok:σ → Prop} {items:σ → List Nat} {per:Int} {ps:List Pk} (hQ:PickLaw Q keys q0 ok items) (hper:0 ≤ per) (ho:OkPks ps):QueLaw Q per ps q0 where
 none:=by rw [hQ.rest _ hQ.start.1,hQ.start.2];rfl
 come:=fun s hs _=>by
  have r:=ranked hQ hper ho hs
  have hn:∀ i,i ∈ items s.q → i < s.next:=fun i hm=>((r.wait _).1 hm).1
  obtain ⟨c1,c2,-⟩:=hQ.come s.q s.next r.good hn
  rw [hQ.rest _ c1,hQ.rest _ r.good,c2]
 left:=fun s hs h=>by
  have r:=ranked hQ hper ho hs
  rw [hQ.rest _ r.good] at h ⊢
  obtain ⟨l1,l2,-⟩:=hQ.left s.q r.good h
  rw [hQ.rest _ l1,l2]
 pick:=fun s hs h=>by
  have r:=ranked hQ hper ho hs
  rw [hQ.rest _ r.good] at h
  exact ((r.wait _).1 (hQ.pick s.q r.good h).1).1
 idle:=fun s hs h=>by
  have r:=ranked hQ hper ho hs
  obtain ⟨i1,i2⟩:=hQ.idle s.q r.good h
  rw [hQ.rest _ i1,i2,← hQ.rest _ r.good]
  exact h
theorem ranked_end {σ:Type} {Q:Que σ} {keys:List Int} {q0:σ} {ok:σ → Prop} {items:σ → List Nat} {per:Int} {ps:List Pk} {s:St σ} (hQ:PickLaw Q keys q0 ok items) (hper:0 ≤ per) (ho:OkPks ps) (h:Reaches Q per ps q0 s) (hn:¬ s.next < ps.length) (hr:Q.rest s.q=0):Sched per ps keys s.out ∧ s.out.length=ps.length:=by
 have r:=ranked hQ hper ho h
 have hc:=h.count (ranked_law hQ hper ho)
 have:=r.le
 exact ⟨r.sched,by omega⟩
def sumOf (f:Nat → Int):List Nat → Int
 | []=>0
 | a :: r=>f a+sumOf f r
theorem sumOf_nonneg {f:Nat → Int} (hf:∀ i,0 ≤ f i):∀ l,0 ≤ sumOf f l
 | []=>Int.le_refl _
 | a :: r=>by
  have:=sumOf_nonneg hf r
  have:=hf a
  simp only [sumOf]
  omega
theorem sumOf_erase {f:Nat → Int} {a:Nat}:∀ {l:List Nat},a ∈ l → sumOf f l=f a+sumOf f (l.erase a):=by
 intro l
 induction l with
 | nil=>intro h;cases h
 | cons x r ih=>
  intro h
  by_cases e:x=a
  · subst e;simp [sumOf]
  ·
   have hm:a ∈ r:=by
    rcases List.mem_cons.1 h with h | h
    · exact absurd h.symm e
    · exact h
   have he:(x :: r).erase a=x :: r.erase a:=List.erase_cons_tail (by simpa using e)
   rw [he]
   simp only [sumOf,ih hm]
   omega
theorem sumOf_le {f:Nat → Int} (hf:∀ i,0 ≤ f i):∀ (A B:List Nat),A.Nodup → (∀ a,a ∈ A → a ∈ B) → sumOf f A ≤ sumOf f B:=by
 intro A
 induction A with
 | nil=>intro B _ _;exact sumOf_nonneg hf B
 | cons a r ih=>
  intro B hn hs
  obtain ⟨h1,h2⟩:=List.nodup_cons.1 hn
  have hb:=hs a (List.mem_cons_self ..)
  rw [sumOf_erase hb]
  have:=ih (B.erase a) h2 (fun x hx=>(List.mem_erase_of_ne (fun e:x=a=>h1 (by rw [← e];exact hx))).2 (hs x (List.mem_cons_of_mem _ hx)))
  simp only [sumOf]
  omega
def firstLeast (key:Nat → Int) (q:List Nat):Nat → Nat
 | 0=>0
 | i+1=>if key (q.getD i 0) < key (q.getD (firstLeast key q i) 0) then i else firstLeast key q i
theorem firstLeast_le (key:Nat → Int) (q:List Nat):∀ i,firstLeast key q i ≤ i - 1
 | 0=>Nat.le_refl _
 | i+1=>by
  have:=firstLeast_le key q i
  simp only [firstLeast]
  split <;> omega
theorem firstLeast_lt (key:Nat → Int) {q:List Nat} {i:Nat} (h:0 < q.length) (hi:i ≤ q.length):firstLeast key q i < q.length:=by
 have:=firstLeast_le key q i
 omega
theorem firstLeast_min (key:Nat → Int) (q:List Nat):∀ i j,j < i → key (q.getD (firstLeast key q i) 0) < key (q.getD j 0) ∨ (key (q.getD (firstLeast key q i) 0)=key (q.getD j 0) ∧ firstLeast key q i ≤ j):=by
 intro i
 induction i with
 | zero=>intro j hj;omega
 | succ i ih=>
  intro j hj
  have hle:=firstLeast_le key q i
  simp only [firstLeast]
  by_cases hc:key (q.getD i 0) < key (q.getD (firstLeast key q i) 0)
  ·
   rw [if_pos hc]
   rcases Nat.lt_or_ge j i with h | h
   ·
    have:=ih j h
    omega
   ·
    obtain rfl:j=i:=by omega
    exact .inr ⟨rfl,Nat.le_refl _⟩
  ·
   rw [if_neg hc]
   rcases Nat.lt_or_ge j i with h | h
   · exact ih j h
   ·
    obtain rfl:j=i:=by omega
    omega
def pickAt (key:Nat → Int) (q:List Nat):Nat:=firstLeast key q q.length
def waits (key:Nat → Int):Que (List Nat) where
 come:=fun q k=>q ++ [k]
 pick:=fun q=>q.getD (pickAt key q) 0
 left:=fun q=>q.eraseIdx (pickAt key q)
 rest:=List.length
theorem getD_lt {α:Type} {l:List α} {j:Nat} {d:α} (h:j < l.length):l.getD j d=l[j]:=by simp [List.getD,List.getElem?_eq_getElem h]
theorem rises_same {q:List Nat} (h:q.Pairwise (· < ·)) {i j:Nat} (hi:i < q.length) (hj:j < q.length) (e:q[i]=q[j]):i=j:=by
 have h1:=List.pairwise_iff_getElem.1 h i j hi hj
 have h2:=List.pairwise_iff_getElem.1 h j i hj hi
 omega
theorem pickAt_lt (key:Nat → Int) {q:List Nat} (h:0 < q.length):pickAt key q < q.length:=firstLeast_lt key h (Nat.le_refl _)
theorem waits_law (keys:List Int):PickLaw (waits fun i=>keys.getD i 0) keys [] (fun q=>q.Pairwise (· < ·)) (fun q=>q) where
 start:=⟨List.Pairwise.nil,rfl⟩
 rest:=fun q _=>rfl
 idle:=fun q h _=>⟨h,rfl⟩
 come:=fun q k h hk=>by
  refine ⟨List.pairwise_append.2 ⟨h,List.pairwise_singleton _ _,fun a ha b hb=>?_⟩,by simp [waits],fun i=>by simp [waits]⟩
  rw [List.mem_singleton] at hb
  subst hb
  exact hk a ha
 left:=fun q h h0=>by
  have hlt:=pickAt_lt (fun i=>keys.getD i 0) h0
  refine ⟨List.Pairwise.sublist (List.eraseIdx_sublist ..) h,?_,fun i=>?_⟩
  ·
   show (q.eraseIdx (pickAt _ q)).length+1=_
   rw [List.length_eraseIdx,if_pos hlt]
   omega
  ·
   show i ∈ q.eraseIdx (pickAt _ q) ↔ i ∈ q ∧ i ≠ q.getD (pickAt _ q) 0
   have hg:q.getD (pickAt (fun i=>keys.getD i 0) q) 0=q[pickAt (fun i=>keys.getD i 0) q]'hlt:=getD_lt hlt
   rw [hg,List.mem_eraseIdx_iff_getElem]
   constructor
   ·
    rintro ⟨j,hj,hne,rfl⟩
    exact ⟨List.getElem_mem _,fun e=>hne (rises_same h _ _ e)⟩
   ·
    rintro ⟨hm,hne⟩
    obtain ⟨j,hj,rfl⟩:=List.getElem_of_mem hm
    exact ⟨j,hj,fun e=>hne (by subst e;rfl),rfl⟩
 pick:=fun q h h0=>by
  have hlt:=pickAt_lt (fun i=>keys.getD i 0) h0
  have hg:q.getD (pickAt (fun i=>keys.getD i 0) q) 0=q[pickAt (fun i=>keys.getD i 0) q]'hlt:=getD_lt hlt
  refine ⟨?_,fun i hi=>?_⟩
  ·
   show q.getD (pickAt _ q) 0 ∈ q
   rw [hg]
   exact List.getElem_mem _
  ·
   obtain ⟨j,hj,rfl⟩:=List.getElem_of_mem hi
   show keys.getD (q.getD (pickAt _ q) 0) 0 < _ ∨ (keys.getD (q.getD (pickAt _ q) 0) 0=_ ∧ q.getD (pickAt _ q) 0 ≤ _)
   have hm:=firstLeast_min (fun i=>keys.getD i 0) q q.length j hj
   have hgj:q.getD j 0=q[j]:=getD_lt hj
   simp only [hgj] at hm
   rcases hm with hm | ⟨hm,hle⟩
   · exact .inl hm
   ·
    refine .inr ⟨hm,?_⟩
    rw [hg]
    rcases Nat.lt_or_eq_of_le hle with h' | h'
    · exact Nat.le_of_lt (List.pairwise_iff_getElem.1 h _ _ hlt hj h')
    ·
     have e:pickAt (fun i=>keys.getD i 0) q=j:=h'
     simp only [e]
     exact Nat.le_refl _
end Go.Proofs.YtipdclphpkgceaaGreatDoor
