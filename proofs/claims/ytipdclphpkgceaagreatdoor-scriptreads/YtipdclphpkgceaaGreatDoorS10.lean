/- Own facts, put together: no statement of its own. -/
import Derived.Test.YtipdclphpkgceaaGreatDoorS09
import Derived.Test.YtipdclphpkgceaaGreatDoorS01
import Derived.Deep.RegionHeldLaw
import Derived.Test.YtipdclphpkgceaaGreatDoorS04
import Derived.Test.YtipdclphpkgceaaGreatDoorS05
import Derived.Deep.DeepCutAuto
import Derived.Deep.RegionLaw
import Derived.Test.YtipdclphpkgceaaGreatDoorS02
import Derived.Laws.MakeOwn
set_option maxHeartbeats 2000000
set_option maxRecDepth 100000

namespace Go.Proofs.YtipdclphpkgceaaGreatDoor
open Go.RowKit
def LiesC (w:World) (a:Option Addr) (cs:List (List (Int × Int))):Prop:=
 cs=[] ∨ ∃ b off,a=some ⟨b,off,none⟩ ∧ b < w.heap.size ∧ ∀ (i:Nat) ls,cs[i]? = some ls → ∃ a' cap,w.cell? ⟨b,off + i,none⟩=some (.slice a' ls.length cap) ∧ Lies w a' ls ∧ ls.length ≤ cap ∧ cap ≤ maxLen ∧ (a'=none → ls=[] ∧ cap=0)
theorem LiesC.place {w:World} {a:Option Addr} {cs:List (List (Int × Int))} (h:LiesC w a cs) (h1:1 ≤ cs.length) :
  ∃ b off,a=some ⟨b,off,none⟩ ∧ b < w.heap.size ∧ ∀ (i:Nat) ls,cs[i]? = some ls → ∃ a' cap,w.cell? ⟨b,off + i,none⟩=some (.slice a' ls.length cap) ∧ Lies w a' ls ∧ ls.length ≤ cap ∧ cap ≤ maxLen ∧ (a'=none → ls=[] ∧ cap=0):=by
 rcases h with rfl | h
 · simp at h1
 · exact h
theorem LiesC.below {w w':World} {a:Option Addr} {cs:List (List (Int × Int))} (h:LiesC w a cs) (hb:Below w.heap.size w w'):LiesC w' a cs:=by
 rcases h with rfl | ⟨b,off,rfl,hlt,hc⟩
 · exact .inl rfl
 ·
  refine .inr ⟨b,off,rfl,Nat.lt_of_lt_of_le hlt hb.size,fun i ls hi=>?_⟩
  obtain ⟨a',cap,h1,h2,h3⟩:=hc i ls hi
  exact ⟨a',cap,cell_later hb h1,h2.below hb,h3⟩
structure GateAt (w:World) (B:Nat) (ca:Value) (kb:ByteArray) (per:Int) (na:Value):Prop where
 c0:w.cell? ⟨B,0,none⟩=some ca
 c1:w.cell? ⟨B,1,none⟩=some (.string kb)
 c2:w.cell? ⟨B,2,none⟩=some (.int .i64 per)
 c3:w.cell? ⟨B,3,none⟩=some na
theorem gateAt_new (w:World) (ca:Value) (kb:ByteArray) (per:Int) (na:Value) (t:TypeId):GateAt (w.alloc (.cells #[ca,.string kb,.int .i64 per,na] t)) w.heap.size ca kb per na:=⟨by simp,by simp,by simp,by simp⟩
theorem GateAt.later {w w':World} {B:Nat} {ca:Value} {kb:ByteArray} {per:Int} {na:Value} (h:GateAt w B ca kb per na) (hb:Below w.heap.size w w'):GateAt w' B ca kb per na:=⟨cell_later hb h.c0,cell_later hb h.c1,cell_later hb h.c2,cell_later hb h.c3⟩
theorem bytes_fifo:ByteArray.toList ⟨#[102,105,102,111]⟩=[102,105,102,111]:=by kernel_rfl
theorem bytes_rank:ByteArray.toList ⟨#[114,97,110,107]⟩=[114,97,110,107]:=by kernel_rfl
theorem bytes_due:ByteArray.toList ⟨#[100,117,101]⟩=[100,117,101]:=by kernel_rfl
theorem bytes_round:ByteArray.toList ⟨#[114,111,117,110,100]⟩=[114,111,117,110,100]:=by kernel_rfl
theorem bytes_fair:ByteArray.toList ⟨#[102,97,105,114]⟩=[102,97,105,114]:=by kernel_rfl
structure KindTests (s:ByteArray) (b1 b2 b3 b4 b5:Bool):Prop where
 t1:(s.toList == [102,105,102,111])=b1
 t2:(s.toList == [114,97,110,107])=b2
 t3:(s.toList == [100,117,101])=b3
 t4:(s.toList == [114,111,117,110,100])=b4
 t5:(s.toList == [102,97,105,114])=b5
 u1:(s.toList == ByteArray.toList ⟨#[102,105,102,111]⟩)=b1
 u2:(s.toList == ByteArray.toList ⟨#[114,97,110,107]⟩)=b2
 u3:(s.toList == ByteArray.toList ⟨#[100,117,101]⟩)=b3
 u4:(s.toList == ByteArray.toList ⟨#[114,111,117,110,100]⟩)=b4
 u5:(s.toList == ByteArray.toList ⟨#[102,97,105,114]⟩)=b5
theorem kindTests (s:ByteArray):KindTests s (decide (kindOf s.toList=1)) (decide (kindOf s.toList=2)) (decide (kindOf s.toList=3)) (decide (kindOf s.toList=4)) (decide (kindOf s.toList=5)):=by
 have key:∀ bs:List UInt8,(bs == [102,105,102,111])=decide (kindOf bs=1) ∧ (bs == [114,97,110,107])=decide (kindOf bs=2) ∧ (bs == [100,117,101])=decide (kindOf bs=3) ∧ (bs == [114,111,117,110,100])=decide (kindOf bs=4) ∧ (bs == [102,97,105,114])=decide (kindOf bs=5):=by
  intro bs
  by_cases h1:bs=[102,105,102,111]
  · subst h1; decide
  ·
   by_cases h2:bs=[114,97,110,107]
   · subst h2; decide
   ·
    by_cases h3:bs=[100,117,101]
    · subst h3; decide
    ·
     by_cases h4:bs=[114,111,117,110,100]
     · subst h4; decide
     ·
      by_cases h5:bs=[102,97,105,114]
      · subst h5; decide
      ·
       have h0:kindOf bs=0:=by simp [kindOf,h1,h2,h3,h4,h5]
       rw [h0]
       refine ⟨?_,?_,?_,?_,?_⟩
       · simpa using h1
       · simpa using h2
       · simpa using h3
       · simpa using h4
       · simpa using h5
 obtain ⟨k1,k2,k3,k4,k5⟩:=key s.toList
 exact ⟨k1,k2,k3,k4,k5,by rw [bytes_fifo]; exact k1,by rw [bytes_rank]; exact k2,by rw [bytes_due]; exact k3,by rw [bytes_round]; exact k4,by rw [bytes_fair]; exact k5⟩
structure BkAt (w:World) (g:Nat) (b:Bk):Prop where
 c0:w.cell? ⟨g,0,none⟩=some (.int .i64 b.most)
 c1:w.cell? ⟨g,1,none⟩=some (.int .i64 b.rate)
 c2:w.cell? ⟨g,2,none⟩=some (.int .i64 b.has)
 c3:w.cell? ⟨g,3,none⟩=some (.int .i64 b.last)
 f2:w.frozen? ⟨g,2,none⟩=false
 f3:w.frozen? ⟨g,3,none⟩=false
theorem BkAt.lt {w:World} {g:Nat} {b:Bk} (h:BkAt w g b):g < w.heap.size:=cell_lt h.c0
theorem BkAt.but {S:Nat → Prop} {w w':World} {g:Nat} {b:Bk} (h:BkAt w g b) (hb:But S w w') (hs:¬ S g):BkAt w' g b:=
 have l:=h.lt
 ⟨by rw [hb.cell (p:=⟨g,0,none⟩) l hs]; exact h.c0,by rw [hb.cell (p:=⟨g,1,none⟩) l hs]; exact h.c1,by rw [hb.cell (p:=⟨g,2,none⟩) l hs]; exact h.c2,by rw [hb.cell (p:=⟨g,3,none⟩) l hs]; exact h.c3,
  by rw [hb.frozen (p:=⟨g,2,none⟩) l hs]; exact h.f2,by rw [hb.frozen (p:=⟨g,3,none⟩) l hs]; exact h.f3⟩
theorem BkAt.below {w w':World} {g:Nat} {b:Bk} (h:BkAt w g b) (hb:Below w.heap.size w w'):BkAt w' g b:=h.but (S:=fun _=>False) (.ofBelow hb) id
theorem after_ok (m r h d:Int) (w:World) (h0:0 ≤ h) (h1:h ≤ 20000000) (r0:0 ≤ r * d) (r1:r * d ≤ 109951162777600000) :
  Calls Tryz.prog 242 #[.agg #[.int .i64 m,.int .i64 r],.int .i64 h,.int .i64 d] w fun e w'=>e=.returned (.int .i64 (min m (h + r * d))) ∧ w'=w.alloc (.cells #[.int .i64 m,.int .i64 r] 290):=by
 go_enter Tryz.func242,Tryz.ntmps242
 go_wp2
 all_goals
  go_ret
  exact ⟨congrArg (fun z=>Ending.returned (.int .i64 z)) (by omega),rfl⟩
theorem hasAt_core (g:Nat) (m r h l t v:Int) (w:World) (c0:w.cell? ⟨g,0,none⟩=some (.int .i64 m)) (c1:w.cell? ⟨g,1,none⟩=some (.int .i64 r)) (c2:w.cell? ⟨g,2,none⟩=some (.int .i64 h)) (c3:w.cell? ⟨g,3,none⟩=some (.int .i64 l)) (l0:0 ≤ l) (ht:l ≤ t) (t1:t ≤ 1099511627776)
  (H:Hid (∀ w':World,Calls Tryz.prog 242 #[.agg #[.int .i64 m,.int .i64 r],.int .i64 h,.int .i64 (t - l)] w' fun e w''=>e=.returned (.int .i64 v) ∧ w''=w'.alloc (.cells #[.int .i64 m,.int .i64 r] 290))) :
  Calls Tryz.prog 230 #[.pointer (some ⟨g,0,none⟩),.int .i64 t] w fun e w'=>e=.returned (.int .i64 v) ∧ Below w.heap.size w w':=by
 have hw:IntKind.i64.wrap (t - l)=t - l:=IntWalk.i64_in _ (by omega)
 go_enter Tryz.func230,Tryz.ntmps230
 go_wp2_with fail
 go_region_with (first
  | (go_simp; go_at_call 242; go_must (refine (H.out _).mono ?_; rintro e w1 ⟨rfl,rfl⟩))
  | fail)
 all_goals
  go_wp2_with fail
  go_ret
  exact ⟨rfl,(Below.refl _ _).drew.alloc (Nat.le_refl _) _⟩
theorem hasAt_ok (g:Nat) (b:Bk) (t:Int) (w:World) (hb:BkAt w g b) (hk:b.Ok) (ht:b.last ≤ t) (t1:t ≤ 1099511627776) :
  Calls Tryz.prog 230 #[.pointer (some ⟨g,0,none⟩),.int .i64 t] w fun e w'=>e=.returned (.int .i64 (b.lev t)) ∧ Below w.heap.size w w':=by
 obtain ⟨r0,r1⟩:=hk.grow ht t1
 exact hasAt_core g b.most b.rate b.has b.last t (b.lev t) w hb.c0 hb.c1 hb.c2 hb.c3 hk.l0 ht t1 (fun w'=>after_ok b.most b.rate b.has (t - b.last) w' hk.h0 (by have:=hk.h1; have:=hk.m1; omega) r0 r1)
structure Errs4 (w:World) (ad:Nat → Addr):Prop where
 c1:w.cell? ⟨0,0,none⟩=some (.iface 312 (.pointer (some (ad 1))))
 c2:w.cell? ⟨2,0,none⟩=some (.iface 312 (.pointer (some (ad 2))))
 c3:w.cell? ⟨3,0,none⟩=some (.iface 312 (.pointer (some (ad 3))))
 c4:w.cell? ⟨4,0,none⟩=some (.iface 312 (.pointer (some (ad 4))))
theorem Errs4.below {w w':World} {ad:Nat → Addr} (h:Errs4 w ad) (hb:Below w.heap.size w w'):Errs4 w' ad:=
 ⟨cell_later hb h.c1,cell_later hb h.c2,cell_later hb h.c3,cell_later hb h.c4⟩
theorem checkTick_any (g:Nat) (l t:Int) (w:World) (ad:Nat → Addr) (he:Errs4 w ad) (c3:w.cell? ⟨g,3,none⟩=some (.int .i64 l)) :
  Calls Tryz.prog 241 #[.pointer (some ⟨g,0,none⟩),.int .i64 t] w fun e w'=>e=.returned (sentOf ad (tickErr l t)) ∧ w'=w:=by
 have e1:=he.c1
 have e4:=he.c4
 clear he
 by_cases h0:0 ≤ t ∧ t ≤ 1099511627776
 ·
  have hd:decide (0 ≤ t ∧ t ≤ 1099511627776)=true:=by simpa using h0
  have HT:Hid (Calls Tryz.prog 155 #[.int .i64 t] w fun e w'=>e=.returned (.bool true) ∧ w'=w):=by
   have:=isTick_any t w
   rw [hd] at this
   exact this
  clear hd
  by_cases h1:t < l
  ·
   have hs:tickErr l t=5:=by unfold tickErr; rw [if_pos h0,if_pos h1]
   rw [hs]
   show Calls _ _ _ _ fun e w'=>e=.returned (.iface 312 (.pointer (some (ad 4)))) ∧ w'=w
   clear h0 hs
   go_enter Tryz.func241,Tryz.ntmps241
   go_wp2_with (go_at_call 155; refine HT.out.mono ?_; rintro e w1 ⟨rfl,rfl⟩)
   go_ret
   exact ⟨rfl,rfl⟩
  ·
   have hs:tickErr l t=0:=by unfold tickErr; rw [if_pos h0,if_neg h1]
   rw [hs]
   show Calls _ _ _ _ fun e w'=>e=.returned .nilIface ∧ w'=w
   clear h0 hs
   go_enter Tryz.func241,Tryz.ntmps241
   go_wp2_with (go_at_call 155; refine HT.out.mono ?_; rintro e w1 ⟨rfl,rfl⟩)
   go_ret
   exact ⟨rfl,rfl⟩
 ·
  have hd:decide (0 ≤ t ∧ t ≤ 1099511627776)=false:=by simpa using h0
  have HT:Hid (Calls Tryz.prog 155 #[.int .i64 t] w fun e w'=>e=.returned (.bool false) ∧ w'=w):=by
   have:=isTick_any t w
   rw [hd] at this
   exact this
  have hs:tickErr l t=2:=by unfold tickErr; rw [if_neg h0]
  rw [hs]
  show Calls _ _ _ _ fun e w'=>e=.returned (.iface 312 (.pointer (some (ad 1)))) ∧ w'=w
  clear h0 hs hd
  go_enter Tryz.func241,Tryz.ntmps241
  go_wp2_with (go_at_call 155; refine HT.out.mono ?_; rintro e w1 ⟨rfl,rfl⟩)
  go_ret
  exact ⟨rfl,rfl⟩
theorem checkTake_any (g:Nat) (l t n:Int) (w:World) (ad:Nat → Addr) (he:Errs4 w ad) (c3:w.cell? ⟨g,3,none⟩=some (.int .i64 l)) :
  Calls Tryz.prog 228 #[.pointer (some ⟨g,0,none⟩),.int .i64 t,.int .i64 n] w fun e w'=>e=.returned (sentOf ad (askErr l t n)) ∧ w'=w:=by
 have e1:=he.c1
 have HC:Hid (Calls Tryz.prog 241 #[.pointer (some ⟨g,0,none⟩),.int .i64 t] w fun e w'=>e=.returned (sentOf ad (tickErr l t)) ∧ w'=w):=checkTick_any g l t w ad he c3
 clear he c3
 by_cases h0:1 ≤ n ∧ n ≤ 1500
 ·
  have hd:decide (1 ≤ n ∧ n ≤ 1500)=true:=by simpa using h0
  have HT:Hid (Calls Tryz.prog 154 #[.int .i64 n] w fun e w'=>e=.returned (.bool true) ∧ w'=w):=by
   have:=isSize_any n w
   rw [hd] at this
   exact this
  have hs:askErr l t n=tickErr l t:=by unfold askErr; rw [if_pos h0]
  rw [hs]
  clear hd hs h0
  generalize sentOf ad (tickErr l t)=E at *
  go_enter Tryz.func228,Tryz.ntmps228
  go_wp2_with (first
   | (go_at_call 154; refine HT.out.mono ?_; rintro e w1 ⟨rfl,rfl⟩)
   | (go_at_call 241; refine HC.out.mono ?_; rintro e w1 ⟨rfl,rfl⟩))
  go_ret
  exact ⟨rfl,rfl⟩
 ·
  have hd:decide (1 ≤ n ∧ n ≤ 1500)=false:=by simpa using h0
  have HT:Hid (Calls Tryz.prog 154 #[.int .i64 n] w fun e w'=>e=.returned (.bool false) ∧ w'=w):=by
   have:=isSize_any n w
   rw [hd] at this
   exact this
  have hs:askErr l t n=2:=by unfold askErr; rw [if_neg h0]
  rw [hs]
  show Calls _ _ _ _ fun e w'=>e=.returned (.iface 312 (.pointer (some (ad 1)))) ∧ w'=w
  clear hd hs h0 HC
  go_enter Tryz.func228,Tryz.ntmps228
  go_wp2_with (go_at_call 154; refine HT.out.mono ?_; rintro e w1 ⟨rfl,rfl⟩)
  go_ret
  exact ⟨rfl,rfl⟩
theorem until_have (m r h n:Int) (w:World) (hn:n ≤ h) :
  Calls Tryz.prog 229 #[.agg #[.int .i64 m,.int .i64 r],.int .i64 h,.int .i64 n] w fun e w'=>e=.returned (.tuple #[.int .i64 0,.bool true]) ∧ w'=w.alloc (.cells #[.int .i64 m,.int .i64 r] 290):=by
 go_enter Tryz.func229,Tryz.ntmps229
 go_wp2
 go_ret2
 exact ⟨rfl,rfl⟩
theorem until_none (m r h n:Int) (w:World) (hn:h < n) (hz:m < n ∨ r=0) :
  Calls Tryz.prog 229 #[.agg #[.int .i64 m,.int .i64 r],.int .i64 h,.int .i64 n] w fun e w'=>e=.returned (.tuple #[.int .i64 0,.bool false]) ∧ w'=w.alloc (.cells #[.int .i64 m,.int .i64 r] 290):=by
 have hn':¬ n ≤ h:=by omega
 by_cases h1:m < n
 ·
  clear hz
  go_enter Tryz.func229,Tryz.ntmps229
  go_wp2
  go_ret2
  exact ⟨rfl,rfl⟩
 ·
  obtain rfl:r=0:=by omega
  clear hz
  go_enter Tryz.func229,Tryz.ntmps229
  go_wp2
  go_ret2
  exact ⟨rfl,rfl⟩
theorem until_some (m r h n:Int) (w:World) (hn:h < n) (hm:n ≤ m) (hr:0 < r) (r1:r ≤ 100000) (h0:0 ≤ h) (m1:m ≤ 20000000) :
  Calls Tryz.prog 229 #[.agg #[.int .i64 m,.int .i64 r],.int .i64 h,.int .i64 n] w fun e w'=>e=.returned (.tuple #[.int .i64 ((n - h + r - 1) / r),.bool true]) ∧ w'=w.alloc (.cells #[.int .i64 m,.int .i64 r] 290):=by
 have hn':¬ n ≤ h:=by omega
 have hm':¬ m < n:=by omega
 have hr':¬ r=0:=by omega
 have hr2:(r == 0)=false:=by simpa using hr'
 go_enter Tryz.func229,Tryz.ntmps229
 go_wp2
 go_ret2
 exact ⟨rfl,rfl⟩
theorem sentOf_err (ad:Nat → Addr) {k:Nat} (h:k ≠ 0):∃ v,sentOf ad k=.iface 312 v:=by
 cases k with
 | zero=>exact absurd rfl h
 | succ k=>exact ⟨_,rfl⟩
theorem take_err (g:Nat) (l t n:Int) (w:World) (ad:Nat → Addr) (he:Errs4 w ad) (c3:w.cell? ⟨g,3,none⟩=some (.int .i64 l)) (hn:askErr l t n ≠ 0) :
  Calls Tryz.prog 219 #[.pointer (some ⟨g,0,none⟩),.int .i64 t,.int .i64 n] w fun e w'=>e=.returned (.tuple #[.bool false,sentOf ad (askErr l t n)]) ∧ w'=w:=by
 obtain ⟨v,hv⟩:=sentOf_err ad hn
 have HC:Hid (Calls Tryz.prog 228 #[.pointer (some ⟨g,0,none⟩),.int .i64 t,.int .i64 n] w fun e w'=>e=.returned (sentOf ad (askErr l t n)) ∧ w'=w):=checkTake_any g l t n w ad he c3
 rw [hv] at HC ⊢
 clear hv hn he c3
 go_enter Tryz.func219,Tryz.ntmps219
 go_wp2_with (go_at_call 228; refine HC.out.mono ?_; rintro e w1 ⟨rfl,rfl⟩)
 go_ret2
 exact ⟨rfl,rfl⟩
theorem BkAt.setHas {w:World} {g:Nat} {b:Bk} (h:BkAt w g b) (x:Int):BkAt (w.setCell ⟨g,2,none⟩ (.int .i64 x)) g ⟨b.most,b.rate,x,b.last⟩:=
 ⟨by rw [World.cell?_setCell_other _ _ _ _ (by simp)]; exact h.c0,by rw [World.cell?_setCell_other _ _ _ _ (by simp)]; exact h.c1,World.cell?_setCell_same _ _ _ h.c2,by rw [World.cell?_setCell_other _ _ _ _ (by simp)]; exact h.c3,
  by rw [World.frozen?_setCell]; exact h.f2,by rw [World.frozen?_setCell]; exact h.f3⟩
theorem BkAt.setLast {w:World} {g:Nat} {b:Bk} (h:BkAt w g b) (x:Int):BkAt (w.setCell ⟨g,3,none⟩ (.int .i64 x)) g ⟨b.most,b.rate,b.has,x⟩:=
 ⟨by rw [World.cell?_setCell_other _ _ _ _ (by simp)]; exact h.c0,by rw [World.cell?_setCell_other _ _ _ _ (by simp)]; exact h.c1,by rw [World.cell?_setCell_other _ _ _ _ (by simp)]; exact h.c2,World.cell?_setCell_same _ _ _ h.c3,
  by rw [World.frozen?_setCell]; exact h.f2,by rw [World.frozen?_setCell]; exact h.f3⟩
theorem take_ok (g:Nat) (b:Bk) (t n:Int) (w:World) (ad:Nat → Addr) (he:Errs4 w ad) (hb:BkAt w g b) (hk:b.Ok) (ha:askErr b.last t n=0) :
  Calls Tryz.prog 219 #[.pointer (some ⟨g,0,none⟩),.int .i64 t,.int .i64 n] w fun e w'=>e=.returned (.tuple #[.bool (decide (n * 1000 ≤ b.lev t)),.nilIface]) ∧ BkAt w' g (b.take t n) ∧ But (fun k=>k=g) w w':=by
 obtain ⟨n0,n1,t0,t1,ht⟩:=askErr_ok.1 ha
 have HC:Hid (Calls Tryz.prog 228 #[.pointer (some ⟨g,0,none⟩),.int .i64 t,.int .i64 n] w fun e w'=>e=.returned .nilIface ∧ w'=w):=by
  have:=checkTake_any g b.last t n w ad he hb.c3
  rw [ha] at this
  exact this
 have HH:Hid (Calls Tryz.prog 230 #[.pointer (some ⟨g,0,none⟩),.int .i64 t] w fun e w'=>e=.returned (.int .i64 (b.lev t)) ∧ Below w.heap.size w w'):=hasAt_ok g b t w hb hk ht t1
 have hlb:=hk.lev_bd ht
 have hm1:=hk.m1
 have HB:Hid (BkAt w g b):=hb
 by_cases hc:n * 1000 ≤ b.lev t
 ·
  have HT:Hid (b.take t n=⟨b.most,b.rate,b.lev t - n * 1000,t⟩):=by show _=_; unfold Bk.take; rw [if_pos hc]
  rw [show decide (n * 1000 ≤ b.lev t)=true by simpa using hc]
  generalize hv:b.lev t=v at *
  have hc':¬ v < n * 1000:=by omega
  clear hb hk ha he hv ht hc
  go_enter Tryz.func219,Tryz.ntmps219
  go_wp2_with fail
  refine HC.out.mono ?_
  rintro e w1 ⟨rfl,rfl⟩
  go_wp2_with fail
  refine HH.out.mono ?_
  rintro e w2 ⟨rfl,hb2⟩
  have HB2:Hid (Below w1.heap.size w1 w2):=hb2
  have hk2:=HB.out.below hb2
  have HK2:Hid (BkAt w2 g b):=hk2
  obtain ⟨c0,c1,c2,c3,f2,f3⟩:=hk2
  clear hb2
  go_wp2_with fail
  go_ret2
  refine ⟨rfl,?_,?_⟩
  ·
   rw [HT.out]
   exact ((HK2.out.setHas v).setLast t).setHas _
  · exact But.setCell (S:=fun k=>k=g) (But.setCell (S:=fun k=>k=g) (But.setCell (S:=fun k=>k=g) (.ofBelow HB2.out) rfl _) rfl _) rfl _
 ·
  have HT:Hid (b.take t n=⟨b.most,b.rate,b.lev t,t⟩):=by show _=_; unfold Bk.take; rw [if_neg hc]
  rw [show decide (n * 1000 ≤ b.lev t)=false by simpa using hc]
  generalize hv:b.lev t=v at *
  have hc':v < n * 1000:=by omega
  clear hb hk ha he hv ht hc
  go_enter Tryz.func219,Tryz.ntmps219
  go_wp2_with fail
  refine HC.out.mono ?_
  rintro e w1 ⟨rfl,rfl⟩
  go_wp2_with fail
  refine HH.out.mono ?_
  rintro e w2 ⟨rfl,hb2⟩
  have HB2:Hid (Below w1.heap.size w1 w2):=hb2
  have hk2:=HB.out.below hb2
  have HK2:Hid (BkAt w2 g b):=hk2
  obtain ⟨c0,c1,c2,c3,f2,f3⟩:=hk2
  clear hb2
  go_wp2_with fail
  go_ret2
  refine ⟨rfl,?_,?_⟩
  ·
   rw [HT.out]
   exact (HK2.out.setHas v).setLast t
  · exact But.setCell (S:=fun k=>k=g) (But.setCell (S:=fun k=>k=g) (.ofBelow HB2.out) rfl _) rfl _
theorem below_undr {B:Nat} {w w':World} (h:Below B w.drew w'):Below B w w':=⟨h.os,h.tape,h.output,h.size,h.block⟩
theorem when_err (g:Nat) (l t n:Int) (w:World) (ad:Nat → Addr) (he:Errs4 w ad) (c3:w.cell? ⟨g,3,none⟩=some (.int .i64 l)) (hn:askErr l t n ≠ 0) :
  Calls Tryz.prog 218 #[.pointer (some ⟨g,0,none⟩),.int .i64 t,.int .i64 n] w fun e w'=>e=.returned (.tuple #[.int .i64 0,sentOf ad (askErr l t n)]) ∧ w'=w:=by
 obtain ⟨v,hv⟩:=sentOf_err ad hn
 have HC:Hid (Calls Tryz.prog 228 #[.pointer (some ⟨g,0,none⟩),.int .i64 t,.int .i64 n] w fun e w'=>e=.returned (sentOf ad (askErr l t n)) ∧ w'=w):=checkTake_any g l t n w ad he c3
 rw [hv] at HC ⊢
 clear hv hn he c3
 go_enter Tryz.func218,Tryz.ntmps218
 go_wp2_with (go_at_call 228; refine HC.out.mono ?_; rintro e w1 ⟨rfl,rfl⟩)
 go_ret2
 exact ⟨rfl,rfl⟩
theorem when_core (g:Nat) (m r v t n k:Int) (o:Bool) (R:Value) (w:World) (aN:Addr) (hN:w.cell? ⟨3,0,none⟩=some (.iface 312 (.pointer (some aN)))) (c0:w.cell? ⟨g,0,none⟩=some (.int .i64 m)) (c1:w.cell? ⟨g,1,none⟩=some (.int .i64 r)) (t0:0 ≤ t) (t1:t ≤ 1099511627776) (n0:1 ≤ n) (n1:n ≤ 1500) (k0:0 ≤ k) (k1:k ≤ 30000000)
  (HC:Hid (Calls Tryz.prog 228 #[.pointer (some ⟨g,0,none⟩),.int .i64 t,.int .i64 n] w fun e w'=>e=.returned .nilIface ∧ w'=w))
  (HH:Hid (∀ w',Below w.heap.size w w' → Calls Tryz.prog 230 #[.pointer (some ⟨g,0,none⟩),.int .i64 t] w' fun e w''=>e=.returned (.int .i64 v) ∧ Below w'.heap.size w' w''))
  (HU:Hid (∀ w':World,Calls Tryz.prog 229 #[.agg #[.int .i64 m,.int .i64 r],.int .i64 v,.int .i64 (n * 1000)] w' fun e w''=>e=.returned (.tuple #[.int .i64 k,.bool o]) ∧ w''=w'.alloc (.cells #[.int .i64 m,.int .i64 r] 290)))
  (HR1:Hid (o=false ∨ 1099511627776 - t < k → R=.tuple #[.int .i64 0,.iface 312 (.pointer (some aN))])) (HR2:Hid (o=true → ¬ 1099511627776 - t < k → R=.tuple #[.int .i64 (t + k),.nilIface])) :
  Calls Tryz.prog 218 #[.pointer (some ⟨g,0,none⟩),.int .i64 t,.int .i64 n] w fun e w'=>e=.returned R ∧ Below w.heap.size w w':=by
 have hw:IntKind.i64.wrap (n * 1000)=n * 1000:=IntWalk.i64_in _ (by omega)
 have HD:Hid (w.cell? ⟨g,0,none⟩=some (.int .i64 m) ∧ w.cell? ⟨g,1,none⟩=some (.int .i64 r)):=⟨c0,c1⟩
 go_enter Tryz.func218,Tryz.ntmps218
 go_wp2_with fail
 refine HC.out.mono ?_
 rintro e w1 ⟨rfl,rfl⟩
 go_wp2_with fail
 go_cut [9,10] (fun s9 s10 wx=>s9=.int .i64 k ∧ s10=.bool o ∧ Below w1.heap.size w1 wx)
 case first=>
  go_region_with (first
   | (go_simp; go_at_call 230; go_must (refine (HH.out _ ?_).mono ?_; exact (Below.refl _ _).drew; rintro e w2 ⟨rfl,hb2⟩; have HB2:Hid (Below w1.heap.size w1 w2):=below_undr hb2; have d0:w2.cell? ⟨g,0,none⟩=some (.int .i64 m):=cell_later HB2.out HD.out.1; have d1:w2.cell? ⟨g,1,none⟩=some (.int .i64 r):=cell_later HB2.out HD.out.2; clear hb2))
   | (go_simp; go_at_call 229; go_must (refine (HU.out _).mono ?_; rintro e w3 ⟨rfl,rfl⟩))
   | fail)
  all_goals (go_wp2_with fail; go_meet; exact ⟨rfl,rfl,HB2.out.alloc HB2.out.size _⟩)
 case rest=>
 obtain ⟨rfl,rfl,hbc⟩:=hcut
 have HBC:Hid (Below w1.heap.size w1 wc):=hbc
 have hNc:=cell_later hbc hN
 clear hbc c0 c1 hN
 cases o with
 | false=>
  go_wp2_with fail
  go_quiet (fail)
  go_wp2_with fail
  go_ret2
  exact ⟨congrArg Ending.returned (HR1.out (.inl (by simp))).symm,below_drewN HBC.out _⟩
 | true=>
  by_cases hl:1099511627776 - t < k
  ·
   have HL:Hid (1099511627776 - t < k):=hl
   go_wp2_with fail
   go_quiet (fail)
   go_wp2_with fail
   go_ret2
   exact ⟨congrArg Ending.returned (HR1.out (.inr HL.out)).symm,below_drewN HBC.out _⟩
  ·
   have HL:Hid (¬ 1099511627776 - t < k):=hl
   go_wp2_with fail
   go_ret2
   exact ⟨congrArg Ending.returned (HR2.out (by simp) HL.out).symm,HBC.out⟩
def whenVal (ad:Nat → Addr):Option Int → Value
 | some T=>.tuple #[.int .i64 T,.nilIface]
 | none=>.tuple #[.int .i64 0,.iface 312 (.pointer (some (ad 3)))]
theorem when_ok (g:Nat) (b:Bk) (t n:Int) (w:World) (ad:Nat → Addr) (he:Errs4 w ad) (hb:BkAt w g b) (hk:b.Ok) (ha:askErr b.last t n=0) :
  Calls Tryz.prog 218 #[.pointer (some ⟨g,0,none⟩),.int .i64 t,.int .i64 n] w fun e w'=>e=.returned (whenVal ad (b.when t n)) ∧ Below w.heap.size w w':=by
 obtain ⟨n0,n1,t0,t1,ht⟩:=askErr_ok.1 ha
 have HC:=checkTake_any g b.last t n w ad he hb.c3
 rw [ha] at HC
 have HH:∀ w',Below w.heap.size w w' → Calls Tryz.prog 230 #[.pointer (some ⟨g,0,none⟩),.int .i64 t] w' fun e w''=>e=.returned (.int .i64 (b.lev t)) ∧ Below w'.heap.size w' w'':=
  fun w' hbel=>hasAt_ok g b t w' (hb.below hbel) hk ht t1
 have hl:=hk.lev_bd ht
 have m1:=hk.m1
 have r1:=hk.r1
 by_cases h1:n * 1000 ≤ b.lev t
 ·
  have e:b.when t n=some t:=by unfold Bk.when; rw [if_pos h1]
  rw [e]
  exact when_core g b.most b.rate (b.lev t) t n 0 true _ w (ad 3) he.c3 hb.c0 hb.c1 t0 t1 n0 n1 (by omega) (by omega) HC HH (fun w'=>until_have b.most b.rate _ _ w' h1) (fun h=>by rcases h with h | h; cases h; omega) (fun _ _=>by rw [Int.add_zero]; rfl)
 ·
  by_cases h2:b.most < n * 1000 ∨ b.rate=0
  ·
   have e:b.when t n=none:=by unfold Bk.when; rw [if_neg h1,if_pos h2]
   rw [e]
   exact when_core g b.most b.rate (b.lev t) t n 0 false _ w (ad 3) he.c3 hb.c0 hb.c1 t0 t1 n0 n1 (by omega) (by omega) HC HH (fun w'=>until_none b.most b.rate _ _ w' (by omega) h2) (fun _=>rfl) (fun h=>by cases h)
  ·
   have r0:0 < b.rate:=by have:=hk.r0; omega
   have hd:=div_up (r:=b.rate) (x:=n * 1000 - b.lev t) r0
   have k0:0 ≤ (n * 1000 - b.lev t + b.rate - 1) / b.rate:=Int.ediv_nonneg (by omega) (by omega)
   have k1:(n * 1000 - b.lev t + b.rate - 1) / b.rate ≤ 30000000:=by
    have:=Int.ediv_le_self b.rate (show 0 ≤ n * 1000 - b.lev t + b.rate - 1 by omega)
    omega
   by_cases h3:1099511627776 - t < (n * 1000 - b.lev t + b.rate - 1) / b.rate
   ·
    have e:b.when t n=none:=by unfold Bk.when; rw [if_neg h1,if_neg h2,if_pos h3]
    rw [e]
    exact when_core g b.most b.rate (b.lev t) t n _ true _ w (ad 3) he.c3 hb.c0 hb.c1 t0 t1 n0 n1 k0 k1 HC HH (fun w'=>until_some b.most b.rate _ _ w' (by omega) (by omega) r0 r1 hl.1 m1) (fun _=>rfl) (fun _ h=>absurd h3 h)
   ·
    have e:b.when t n=some (t + (n * 1000 - b.lev t + b.rate - 1) / b.rate):=by unfold Bk.when; rw [if_neg h1,if_neg h2,if_neg h3]
    rw [e]
    exact when_core g b.most b.rate (b.lev t) t n _ true _ w (ad 3) he.c3 hb.c0 hb.c1 t0 t1 n0 n1 k0 k1 HC HH (fun w'=>until_some b.most b.rate _ _ w' (by omega) (by omega) r0 r1 hl.1 m1) (fun h=>by rcases h with h | h; cases h; exact absurd h h3) (fun _ _=>rfl)
theorem full_any (x y:Int) (w:World) (h0:1 ≤ x) (h1:x ≤ 20000) :
  Calls Tryz.prog 217 #[.agg #[.int .i64 x,.int .i64 y]] w fun e w'=>e=.returned (.pointer (some ⟨w.heap.size + 1,0,none⟩)) ∧ BkAt w' (w.heap.size + 1) (bkOf (x,y)) ∧ Below w.heap.size w w':=by
 go_enter Tryz.func217,Tryz.ntmps217
 go_wp2
 go_ret
 refine ⟨by simp,?_,((Below.refl _ _).alloc (Nat.le_refl _) _).alloc (by simp) _⟩
 constructor <;> simp [bkOf]
structure ShAt (w:World) (B:Nat) (gs:List Nat) (bs:List Bk):Prop where
 len:gs.length=bs.length
 ptr:∀ (i:Nat) g,gs[i]? = some g → w.cell? ⟨B,i,none⟩=some (.pointer (some ⟨g,0,none⟩))
 new:∀ g,g ∈ gs → B < g
 bk:∀ (i:Nat) g b,gs[i]? = some g → bs[i]? = some b → BkAt w g b
 one:∀ (i j:Nat) g,gs[i]? = some g → gs[j]? = some g → i=j
theorem Tryz.infoPBk:(Tryz.prog.info? 281).map (fun i=>(i.zero,i.size,i.bytes))=some (some (.pointer none),1,8):=by kernel_rfl
theorem Tryz.shaperSlice:Tryz.prog.underlying 258=some (.slice 281):=by kernel_rfl
structure Room (w:World) (B n:Nat):Prop where
 cell:∀ j,j < n → ∃ v,w.cell? ⟨B,j,none⟩=some v
 frozen:∀ j,w.frozen? ⟨B,j,none⟩=false
theorem room_made (w:World) (z:Array Value) (n:Nat) (e:TypeId):Room (w.alloc (.cells (madeCells z n) e)) w.heap.size n:=by
 refine ⟨fun j hj=>?_,fun j=>?_⟩
 ·
  rw [World.cell?_alloc_at _ _ _ _ rfl]
  exact ⟨_,Array.getElem?_eq_getElem (by rw [size_madeCells]; exact hj)⟩
 · simp
theorem Room.but {S:Nat → Prop} {w w':World} {B n:Nat} (h:Room w B n) (hb:But S w w') (hB:B < w.heap.size) (hs:¬ S B):Room w' B n:=
 ⟨fun j hj=>by obtain ⟨v,hv⟩:=h.cell j hj; exact ⟨v,by rw [hb.cell (p:=⟨B,j,none⟩) hB hs]; exact hv⟩,fun j=>by rw [hb.frozen (p:=⟨B,j,none⟩) hB hs]; exact h.frozen j⟩
theorem Room.below {w w':World} {B n:Nat} (h:Room w B n) (hb:Below w.heap.size w w') (hB:B < w.heap.size):Room w' B n:=h.but (S:=fun _=>False) (.ofBelow hb) hB id
theorem Room.set {w:World} {B n:Nat} (h:Room w B n) (j:Nat) (v:Value):Room (w.setCell ⟨B,j,none⟩ v) B n:=by
 refine ⟨fun i hi=>?_,fun i=>by rw [World.frozen?_setCell]; exact h.frozen i⟩
 by_cases hij:i=j
 ·
  subst hij
  obtain ⟨u,hu⟩:=h.cell i hi
  exact ⟨v,World.cell?_setCell_same _ _ _ hu⟩
 ·
  obtain ⟨u,hu⟩:=h.cell i hi
  exact ⟨u,by rw [World.cell?_setCell_other _ _ _ _ (by simp <;> omega)]; exact hu⟩
theorem get_snoc {α:Type} {l:List α} {a x:α} {i:Nat} (h:(l ++ [a])[i]? = some x):(i < l.length ∧ l[i]? = some x) ∨ (i=l.length ∧ x=a):=by
 rcases Nat.lt_trichotomy i l.length with h1 | h1 | h1
 · rw [List.getElem?_append_left h1] at h; exact .inl ⟨h1,h⟩
 · subst h1; simp at h; exact .inr ⟨rfl,h.symm⟩
 · rw [List.getElem?_eq_none (by simp; omega)] at h; cases h
theorem fullShaper_ok (la:Option Addr) (lcap:Nat) (ls:List (Int × Int)) (w:World) (hl:Lies w la ls) (hk:okCurve ls) :
  Calls Tryz.prog 191 #[.slice la ls.length lcap] w fun e w'=>∃ gs,e=.returned (.slice (some ⟨w.heap.size,0,none⟩) ls.length ls.length) ∧ ShAt w' w.heap.size gs (ls.map bkOf) ∧ Below w.heap.size w w':=by
 obtain ⟨h1,h6,hok⟩:=hk
 obtain ⟨b,off,rfl,hlt,hc⟩:=hl.some h1
 have HC:Hid (∀ i x y,ls[i]? = some (x,y) → w.cell? ⟨b,off + i * 2,none⟩=some (.int .i64 x) ∧ w.cell? ⟨b,off + i * 2 + 1,none⟩=some (.int .i64 y)):=hc
 have HO:Hid (okAll ls):=hok
 clear hl hok hc
 generalize hn:ls.length=n at *
 have Hn:=(show Hid (ls.length=n) from hn)
 clear hn
 obtain ⟨i0,hi,hz0,hz1,hz2⟩:=info_parts Tryz.infoPBk
 have hmk:∀ w':World,(Instr.makeSlice 258 (.int .i64 n) (.int .i64 n)).run Tryz.prog w'=.ok (.slice (some ⟨w'.heap.size,0,none⟩) n n) (w'.alloc (.cells (madeCells #[.pointer none] n) 281)):=fun w'=>by
  have:=run_make (P:=Tryz.prog) w' 258 281 i0 (.pointer none) Tryz.shaperSlice hi hz0 .i64 .i64 n n (by omega) (by omega) (by rw [hz2]; omega) (by omega)
  simpa [hz1,Value.cells] using this
 have hroom:=room_made w #[.pointer none] n 281
 have hbA:Below w.heap.size w (w.alloc (.cells (madeCells #[.pointer none] n) 281)):=(Below.refl _ _).alloc (Nat.le_refl _) _
 have hszA:(w.alloc (.cells (madeCells #[.pointer none] n) 281)).heap.size=w.heap.size + 1:=by simp
 go_enter Tryz.func191,Tryz.ntmps191
 go_wp2_with fail
 generalize w.alloc (.cells (madeCells #[.pointer none] n) 281)=wA at *
 have HRoom:Hid (Room wA w.heap.size n):=hroom
 have HBA:Hid (Below w.heap.size w wA ∧ wA.heap.size=w.heap.size + 1):=⟨hbA,hszA⟩
 clear hroom hbA hszA hmk hi hz0 hz1 hz2
 go_loopw [11] (fun i wr=>∃ k:Nat,k ≤ n ∧ i=.int .i64 k ∧ Room wr w.heap.size n ∧ Below w.heap.size w wr ∧ w.heap.size < wr.heap.size ∧ ∃ gs,ShAt wr w.heap.size gs ((ls.take k).map bkOf)) (fun i _=>n - (intOf i).toNat)
 case atStart=>exact ⟨0,Nat.zero_le _,rfl,HRoom.out,HBA.out.1,by rw [HBA.out.2]; omega,[],⟨by simp,(fun i g h=>by simp at h),(fun g h=>by cases h),(fun i g b h=>by simp at h),(fun i j g h=>by simp at h)⟩⟩
 case round=>
  obtain ⟨k,hk,rfl,hroom,hb,hsz,gs,hsh⟩:=hrel
  have HB:Hid (Below w.heap.size w wr):=hb
  have HSh:Hid (ShAt wr w.heap.size gs ((ls.take k).map bkOf)):=hsh
  by_cases hkn:k < n
  ·
   obtain ⟨⟨x,y⟩,hp,hm⟩:=get_some ls k (by rw [Hn.out]; exact hkn)
   have hc1:wr.cell? ⟨b,off + k * 2,none⟩=some (.int .i64 x):=by rw [hb.cell (p:=⟨b,off + k * 2,none⟩) hlt]; exact (HC.out k x y hp).1
   have hc2:wr.cell? ⟨b,off + k * 2 + 1,none⟩=some (.int .i64 y):=by rw [hb.cell (p:=⟨b,off + k * 2 + 1,none⟩) hlt]; exact (HC.out k x y hp).2
   have HOk:Hid (okLine x y=true):=HO.out _ hm
   have HT:Hid ((ls.take (k + 1)).map bkOf=(ls.take k).map bkOf ++ [bkOf (x,y)]):=by
    show _=_
    rw [List.take_add_one,hp]; simp
   have HRoom':Hid (Room wr w.heap.size n):=hroom
   have HSz:Hid (w.heap.size < wr.heap.size):=hsz
   clear hsh hroom hb hp hm
   go_wp2_with fail
   refine (full_any x y _ (okLine_true HOk.out).1 (okLine_true HOk.out).2.1).mono ?_
   rintro e w2 ⟨rfl,hk2,hb2⟩
   have hal:Below wr.heap.size wr (wr.alloc (.cells #[.int .i64 x,.int .i64 y] 83)):=(Below.refl _ _).alloc (Nat.le_refl _) _
   have hb3:Below wr.heap.size wr w2:=hal.trans (hb2.mono hal.size)
   have hgz:(wr.alloc (.cells #[.int .i64 x,.int .i64 y] 83)).heap.size + 1=wr.heap.size + 2:=by simp
   rw [hgz] at hk2 ⊢
   have HB2:Hid (Below wr.heap.size wr w2):=hb3
   have HK2:Hid (BkAt w2 (wr.heap.size + 2) (bkOf (x,y))):=hk2
   have hroom2:=HRoom'.out.below hb3 HSz.out
   obtain ⟨u,hu⟩:=hroom2.cell k hkn
   have hf:=hroom2.frozen k
   have HR2:Hid (Room w2 w.heap.size n):=hroom2
   have HU:Hid (w2.cell? ⟨w.heap.size,k,none⟩=some u):=hu
   clear hb2 hk2 hal hb3 hgz hroom2
   go_wp2_with fail
   have hglen:gs.length=k:=by
    have:=HSh.out.len
    rw [List.length_map,List.length_take,Hn.out] at this
    omega
   have HFr:Hid (But (fun q=>q=w.heap.size) wr (w2.setCell ⟨w.heap.size,k,none⟩ (.pointer (some ⟨wr.heap.size + 2,0,none⟩)))):=
    But.setCell (S:=fun q=>q=w.heap.size) (.ofBelow HB2.out) rfl _
   have HGl:Hid (gs.length=k):=hglen
   clear hu hf hglen
   go_roundw
   case rel=>
    have hgk:=HGl.out
    have hsz:=HSz.out
    have hsh:=HSh.out
    refine ⟨k + 1,by omega,by go_num,HR2.out.set k _,(HB.out.trans (HB2.out.mono HB.out.size)).setCell (Nat.le_refl _) _,Nat.lt_of_lt_of_le hsz HFr.out.size,gs ++ [wr.heap.size + 2],?_⟩
    rw [HT.out]
    refine ⟨by simp only [List.length_append,List.length_singleton]; rw [hsh.len],fun i g hg=>?_,fun g hg=>?_,fun i g c hg hc=>?_,fun i j g hg hg'=>?_⟩
    ·
     rcases get_snoc hg with ⟨h1,h2⟩ | ⟨h1,h2⟩
     ·
      rw [World.cell?_setCell_other _ _ _ _ (by simp <;> omega)]
      exact cell_later HB2.out (hsh.ptr i g h2)
     ·
      rw [h1,h2,hgk]
      exact World.cell?_setCell_same _ _ _ HU.out
    ·
     rcases List.mem_append.1 hg with h | h
     · exact hsh.new g h
     · simp at h; omega
    ·
     rcases get_snoc hg with ⟨h1,h2⟩ | ⟨h1,h2⟩
     ·
      have hc':((ls.take k).map bkOf)[i]? = some c:=by
       rcases get_snoc hc with ⟨h3,h4⟩ | ⟨h3,h4⟩
       · exact h4
       · rw [← hsh.len] at h3; omega
      have hgn:=hsh.new g (List.mem_of_getElem? h2)
      exact (hsh.bk i g c h2 hc').but HFr.out (fun e=>by omega)
     ·
      have hc':c=bkOf (x,y):=by
       rcases get_snoc hc with ⟨h3,h4⟩ | ⟨h3,h4⟩
       · rw [← hsh.len] at h3; omega
       · exact h4
      rw [h2,hc']
      exact HK2.out.but (S:=fun q=>q=w.heap.size) (But.setCell (S:=fun q=>q=w.heap.size) (But.refl _ _) rfl _) (fun e=>by omega)
    ·
     have hlt':∀ (i:Nat) g,gs[i]? = some g → g < wr.heap.size:=fun i g hg=>by
      have hi:i < ((ls.take k).map bkOf).length:=by
       rw [← hsh.len]
       rcases Nat.lt_or_ge i gs.length with h | h
       · exact h
       · simp [List.getElem?_eq_none h] at hg
      exact (hsh.bk i g _ hg (List.getElem?_eq_getElem hi)).lt
     rcases get_snoc hg with ⟨h1,h2⟩ | ⟨h1,h2⟩ <;> rcases get_snoc hg' with ⟨h3,h4⟩ | ⟨h3,h4⟩
     · exact hsh.one i j g h2 h4
     · have:=hlt' i g h2; omega
     · have:=hlt' j g h4; omega
     · omega
   case measure=>simp [intOf]; omega
  ·
   obtain rfl:k=n:=by omega
   clear hroom hsh
   go_wp2_with fail
   go_ret
   refine ⟨gs,rfl,?_,HB.out⟩
   have:=HSh.out
   rwa [List.take_of_length_le (by rw [Hn.out]; omega)] at this
end Go.Proofs.YtipdclphpkgceaaGreatDoor
