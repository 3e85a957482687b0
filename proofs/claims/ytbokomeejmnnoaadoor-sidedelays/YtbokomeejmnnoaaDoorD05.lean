/- Own facts, put together: no statement of its own. -/
import Derived.Test.YtbokomeejmnnoaaDoorD04
import Derived.Test.YtbokomeejmnnoaaDoorD01
import Derived.Laws.OwnMore
import Derived.Sort.Row
import Derived.Deep.LoopGhost
import Derived.Test.YtbokomeejmnnoaaDoorD02
import Derived.Test.YtbokomeejmnnoaaDoorD03
import Derived.Deep.RegionHeldLaw
import Derived.Laws.MakeOwn
import Derived.Deep.DeepCutAuto
import Derived.Deep.RegionLaw
set_option maxHeartbeats 1000000

namespace Go.Proofs.YtbokomeejmnnoaaDoor
open Go.RowKit Go.Extern.Stop Go.Stop Go.Extern
structure Errs9 (w:World) (ad:Nat → Addr):Prop where
 typ:w.cell? ⟨9,0,none⟩=some (.iface 125 (.agg #[.pointer (some ⟨10,28,none⟩)]))
 c0:w.cell? ⟨3,0,none⟩=some (.iface 139 (.pointer (some (ad 0))))
 c1:w.cell? ⟨2,0,none⟩=some (.iface 139 (.pointer (some (ad 1))))
 c2:w.cell? ⟨1,0,none⟩=some (.iface 139 (.pointer (some (ad 2))))
 c3:w.cell? ⟨0,0,none⟩=some (.iface 139 (.pointer (some (ad 3))))
 c4:w.cell? ⟨4,0,none⟩=some (.iface 139 (.pointer (some (ad 4))))
 c5:w.cell? ⟨5,0,none⟩=some (.iface 139 (.pointer (some (ad 5))))
 c6:w.cell? ⟨6,0,none⟩=some (.iface 139 (.pointer (some (ad 6))))
 c7:w.cell? ⟨7,0,none⟩=some (.iface 139 (.pointer (some (ad 7))))
 c8:w.cell? ⟨8,0,none⟩=some (.iface 139 (.pointer (some (ad 8))))
structure ErrsB (w:World) (ad:Nat → Addr):Prop extends Errs9 w ad where
 ne:∀ i j,i < 9 → j < 9 → i ≠ j → ad i ≠ ad j
 blk:∀ i,i < 9 → ∃ c t,w.heap[(ad i).block]? = some (.cells c t (0,0))
theorem block_later {w w':World} {b:Nat} {o:Obj} (hb:Below w.heap.size w w') (h:w.heap[b]? = some o):w'.heap[b]? = some o:=by
 rw [hb.block b ?_];exact h
 rcases Nat.lt_or_ge b w.heap.size with h' | h'
 · exact h'
 · simp [Array.getElem?_eq_none h'] at h
theorem Errs9.below {w w':World} {ad:Nat → Addr} (h:Errs9 w ad) (hb:Below w.heap.size w w'):Errs9 w' ad:=
 ⟨cell_later hb h.typ,cell_later hb h.c0,cell_later hb h.c1,cell_later hb h.c2,cell_later hb h.c3,cell_later hb h.c4,cell_later hb h.c5,cell_later hb h.c6,cell_later hb h.c7,cell_later hb h.c8⟩
theorem ErrsB.below {w w':World} {ad:Nat → Addr} (h:ErrsB w ad) (hb:Below w.heap.size w w'):ErrsB w' ad:=
 ⟨h.toErrs9.below hb,h.ne,fun i hi=>by
  obtain ⟨c,t,e⟩:=h.blk i hi;exact ⟨c,t,block_later hb e⟩⟩
theorem Errs9.one {w:World} {ad ad':Nat → Addr} (h:Errs9 w ad) (h':Errs9 w ad') (k:Nat) (hk:k < 9):ad k=ad' k:=by
 have same:∀ {a:Addr} {x y:Addr},w.cell? a=some (.iface 139 (.pointer (some x))) → w.cell? a=some (.iface 139 (.pointer (some y))) → x=y:=fun h1 h2=>by
  rw [h1] at h2
  injection h2 with h2
  injection h2 with _ h2
  injection h2 with h2
  injection h2
 match k,hk with
 | 0,_=>exact same h.c0 h'.c0
 | 1,_=>exact same h.c1 h'.c1
 | 2,_=>exact same h.c2 h'.c2
 | 3,_=>exact same h.c3 h'.c3
 | 4,_=>exact same h.c4 h'.c4
 | 5,_=>exact same h.c5 h'.c5
 | 6,_=>exact same h.c6 h'.c6
 | 7,_=>exact same h.c7 h'.c7
 | 8,_=>exact same h.c8 h'.c8
abbrev nine (ad:Nat → Addr):Array Value:=#[.iface 139 (.pointer (some (ad 0))),.iface 139 (.pointer (some (ad 1))),.iface 139 (.pointer (some (ad 2))),.iface 139 (.pointer (some (ad 3))),.iface 139 (.pointer (some (ad 4))),.iface 139 (.pointer (some (ad 5))),.iface 139 (.pointer (some (ad 6))),.iface 139 (.pointer (some (ad 7))),.iface 139 (.pointer (some (ad 8)))]
theorem nine_at (ad:Nat → Addr) (w:World) (k:Nat) (hk:k < 9):(w.alloc (.cells (nine ad) 28)).cell? ⟨w.heap.size,k,none⟩=some (.iface 139 (.pointer (some (ad k)))):=by
 rw [World.cell?_alloc_at _ _ _ _ rfl]
 match k,hk with
 | 0,_=>rfl
 | 1,_=>rfl
 | 2,_=>rfl
 | 3,_=>rfl
 | 4,_=>rfl
 | 5,_=>rfl
 | 6,_=>rfl
 | 7,_=>rfl
 | 8,_=>rfl
 | k+9,h=>omega
theorem set_at (w:World) (o1 o2 o3 o4:Obj) (v:Value):(((((w.alloc (.cells #[.pointer none] 77)).alloc o1).alloc o2).alloc o3).alloc o4 |>.setCell ⟨w.heap.size,0,none⟩ v).cell? ⟨w.heap.size,0,none⟩=some v:=
 World.cell?_setCell_same _ _ _ (u:=.pointer none) (by
  rw [World.cell?_alloc_lt _ _ ⟨w.heap.size,0,none⟩ (by simp;omega),World.cell?_alloc_lt _ _ ⟨w.heap.size,0,none⟩ (by simp;omega),World.cell?_alloc_lt _ _ ⟨w.heap.size,0,none⟩ (by simp;omega),World.cell?_alloc_lt _ _ ⟨w.heap.size,0,none⟩ (by simp),World.cell?_alloc_at _ _ _ _ rfl];rfl)
theorem code_nil (w:World):Calls Tryd.prog 21 #[.nilIface] w fun e w'=>e=.returned (.tuple #[.int .i64 0,.int .i64 (-1)]) ∧ w'=w:=by
 go_enter Tryd.func21,Tryd.ntmps21
 go_wp2
 go_ret2
 exact ⟨rfl,rfl⟩
theorem code_sent (ad:Nat → Addr) (k:Nat) (hk:k < 9) (w:World) (he:ErrsB w ad) :
  Calls Tryd.prog 21 #[.iface 139 (.pointer (some (ad k)))] w fun e w'=>e=.returned (.tuple #[.int .i64 (k+1),.int .i64 (-1)]) ∧ Below w.heap.size w w':=by
 have hb0:Below w.heap.size w (w.alloc (.cells #[.pointer none] 77)):=(Below.refl _ _).alloc (Nat.le_refl _) _
 have HE:Hid (ErrsB w ad):=he
 have HB0:Hid (Below w.heap.size w (w.alloc (.cells #[.pointer none] 77))):=hb0
 clear he hb0
 go_enter Tryd.func21,Tryd.ntmps21
 go_wp2_with fail
 refine (as_miss (ad k) _ _ (HE.out.below HB0.out).typ).mono ?_
 rintro e w1 ⟨rfl,hw1⟩
 have hb1:Below w.heap.size w w1:=by
  rw [hw1]
  exact ((HB0.out.alloc (by simp) _).alloc (by simp;omega) _).alloc (by simp;omega) _
 have HB1:Hid (Below w.heap.size w w1):=hb1
 have he1:=HE.out.below hb1
 have h0:=he1.c0
 have h1:=he1.c1
 have h2:=he1.c2
 have h3:=he1.c3
 have h4:=he1.c4
 have h5:=he1.c5
 have h6:=he1.c6
 have h7:=he1.c7
 have h8:=he1.c8
 have HE1:Hid (ErrsB w1 ad):=he1
 clear hw1 hb1 he1
 go_wp2_with fail
 clear h0 h1 h2 h3 h4 h5 h6 h7 h8
 have hcell:=nine_at ad w1
 have hb2:Below w.heap.size w (w1.alloc (.cells (nine ad) 28)):=HB1.out.alloc HB1.out.size _
 have he2:ErrsB (w1.alloc (.cells (nine ad) 28)) ad:=HE1.out.below ((Below.refl _ _).alloc (Nat.le_refl _) _)
 generalize w1.alloc (.cells (nine ad) 28)=W2 at *
 have HC:Hid (∀ j,j < 9 → W2.cell? ⟨w1.heap.size,j,none⟩=some (.iface 139 (.pointer (some (ad j))))):=hcell
 have HB2:Hid (Below w.heap.size w W2):=hb2
 have HE2:Hid (ErrsB W2 ad):=he2
 clear hcell hb2 he2
 go_loop [3,27] (fun s i=>s=.int .i64 (-1) ∧ ∃ j:Nat,j ≤ k ∧ i=.int .i64 j) (fun _ i=>9 - (intOf i).toNat)
 case atStart=>exact ⟨rfl,0,Nat.zero_le _,rfl⟩
 case round=>
  obtain ⟨rfl,j,hj,rfl⟩:=hrel
  have hc:=HC.out j (by omega)
  by_cases hjk:j < k
  ·
   obtain ⟨ca,ta,ba⟩:=HE2.out.blk k hk
   obtain ⟨cb,tb,bb⟩:=HE2.out.blk j (by omega)
   have HI:Hid (Calls Tryd.prog 35 #[.iface 139 (.pointer (some (ad k))),.iface 139 (.pointer (some (ad j)))] W2 fun e w'=>e=.returned (.bool false) ∧ w'=W2):=is_other (ad k) (ad j) ca cb ta tb W2 (HE2.out.ne k j hk (by omega) (by omega)) ba bb
   clear ba bb
   go_wp2_with (go_at_call 35;refine HI.out.mono ?_;rintro e w' ⟨rfl,rfl⟩)
   go_round
   case rel=>exact ⟨rfl,j+1,by omega,by go_num⟩
   case measure=>simp [intOf];omega
  ·
   obtain rfl:j=k:=by omega
   go_wp2_with (go_at_call 35;refine (is_same (ad j) _).mono ?_;rintro e w' ⟨rfl,rfl⟩)
   go_ret2
   exact ⟨rfl,HB2.out⟩
theorem code_fault (ad:Nat → Addr) (k:Nat) (hk:k < 9) (n:Int) (pb:Nat) (w:World) (he:ErrsB w ad) (hp0:w.cell? ⟨pb,0,none⟩=some (.int .i64 n)) (hp1:w.cell? ⟨pb,1,none⟩=some (.iface 139 (.pointer (some (ad k))))) :
  Calls Tryd.prog 21 #[.iface 77 (.pointer (some ⟨pb,0,none⟩))] w fun e w'=>e=.returned (.tuple #[.int .i64 (k+1),.int .i64 n]) ∧ Below w.heap.size w w':=by
 have hb0:Below w.heap.size w (w.alloc (.cells #[.pointer none] 77)):=(Below.refl _ _).alloc (Nat.le_refl _) _
 have HE:Hid (ErrsB w ad):=he
 have HB0:Hid (Below w.heap.size w (w.alloc (.cells #[.pointer none] 77))):=hb0
 have HP0:Hid (w.cell? ⟨pb,0,none⟩=some (.int .i64 n)):=hp0
 have HP1:Hid (w.cell? ⟨pb,1,none⟩=some (.iface 139 (.pointer (some (ad k))))):=hp1
 clear he hb0 hp0 hp1
 go_enter Tryd.func21,Tryd.ntmps21
 go_wp2_with fail
 refine (as_hit ⟨pb,0,none⟩ ⟨w.heap.size,0,none⟩ (.pointer none) _ (HE.out.below HB0.out).typ (by simp) (by simp)).mono ?_
 rintro e w1 ⟨rfl,hw1⟩
 have hb1:Below w.heap.size w w1:=by
  rw [hw1]
  exact ((((HB0.out.alloc (by simp) _).alloc (by simp;omega) _).alloc (by simp;omega) _).alloc (by simp;omega) _).setCell (Nat.le_refl _) _
 have ht1:w1.cell? ⟨w.heap.size,0,none⟩=some (.pointer (some ⟨pb,0,none⟩)):=by
  rw [hw1]
  exact set_at w _ _ _ _ _
 have HB1:Hid (Below w.heap.size w w1):=hb1
 have he1:=HE.out.below hb1
 have hq0:w1.cell? ⟨pb,0,none⟩=some (.int .i64 n):=cell_later hb1 HP0.out
 have h0:=he1.c0
 have h1:=he1.c1
 have h2:=he1.c2
 have h3:=he1.c3
 have h4:=he1.c4
 have h5:=he1.c5
 have h6:=he1.c6
 have h7:=he1.c7
 have h8:=he1.c8
 have HE1:Hid (ErrsB w1 ad):=he1
 clear hw1 hb1 he1
 go_wp2_with fail
 clear ht1 hq0 h0 h1 h2 h3 h4 h5 h6 h7 h8
 have hcell:=nine_at ad w1
 have hb2:Below w.heap.size w (w1.alloc (.cells (nine ad) 28)):=HB1.out.alloc HB1.out.size _
 have he2:ErrsB (w1.alloc (.cells (nine ad) 28)) ad:=HE1.out.below ((Below.refl _ _).alloc (Nat.le_refl _) _)
 generalize w1.alloc (.cells (nine ad) 28)=W2 at *
 have HC:Hid (∀ j,j < 9 → W2.cell? ⟨w1.heap.size,j,none⟩=some (.iface 139 (.pointer (some (ad j))))):=hcell
 have HB2:Hid (Below w.heap.size w W2):=hb2
 have HP2:Hid (W2.cell? ⟨pb,1,none⟩=some (.iface 139 (.pointer (some (ad k))))):=cell_later hb2 HP1.out
 have HE2:Hid (ErrsB W2 ad):=he2
 clear hcell hb2 he2
 go_loop [3,27] (fun s i=>s=.int .i64 n ∧ ∃ j:Nat,j ≤ k ∧ i=.int .i64 j) (fun _ i=>9 - (intOf i).toNat)
 case atStart=>exact ⟨rfl,0,Nat.zero_le _,rfl⟩
 case round=>
  obtain ⟨rfl,j,hj,rfl⟩:=hrel
  have hc:=HC.out j (by omega)
  by_cases hjk:j < k
  ·
   obtain ⟨ca,ta,ba⟩:=HE2.out.blk k hk
   obtain ⟨cb,tb,bb⟩:=HE2.out.blk j (by omega)
   have HI:Hid (Calls Tryd.prog 35 #[.iface 77 (.pointer (some ⟨pb,0,none⟩)),.iface 139 (.pointer (some (ad j)))] W2 fun e w'=>e=.returned (.bool false) ∧ w'=W2):=is_fault_other pb (ad j) (ad k) ca cb ta tb W2 HP2.out (HE2.out.ne k j hk (by omega) (by omega)) ba bb
   clear ba bb
   go_wp2_with (go_at_call 35;refine HI.out.mono ?_;rintro e w' ⟨rfl,rfl⟩)
   go_round
   case rel=>exact ⟨rfl,j+1,by omega,by go_num⟩
   case measure=>simp [intOf];omega
  ·
   obtain rfl:j=k:=by omega
   go_wp2_with (go_at_call 35;refine (is_fault_same pb (ad j) _ HP2.out).mono ?_;rintro e w' ⟨rfl,rfl⟩)
   go_ret2
   exact ⟨rfl,HB2.out⟩
end Go.Proofs.YtbokomeejmnnoaaDoor

namespace Go.Proofs.YtbokomeejmnnoaaDoor
open Go.RowKit
def CodeIs (w:World) (E:Value) (c a:Int):Prop:=(E=.nilIface ∧ c=0 ∧ a = -1) ∨ ∃ ad,Errs9 w ad ∧ ∃ k:Nat,k < 9 ∧ c=(k:Int)+1 ∧
 ((E=.iface 139 (.pointer (some (ad k))) ∧ a = -1) ∨ ∃ pb,E=.iface 77 (.pointer (some ⟨pb,0,none⟩)) ∧ w.cell? ⟨pb,0,none⟩=some (.int .i64 a) ∧ w.cell? ⟨pb,1,none⟩=some (.iface 139 (.pointer (some (ad k)))))
theorem CodeIs.below {w w':World} {E:Value} {c a:Int} (h:CodeIs w E c a) (hb:Below w.heap.size w w'):CodeIs w' E c a:=by
 rcases h with h | ⟨ad,he,k,hk,hc,h | ⟨pb,h1,h2,h3⟩⟩
 · exact .inl h
 · exact .inr ⟨ad,he.below hb,k,hk,hc,.inl h⟩
 · exact .inr ⟨ad,he.below hb,k,hk,hc,.inr ⟨pb,h1,cell_later hb h2,cell_later hb h3⟩⟩
theorem codeIs_nil (w:World):CodeIs w .nilIface 0 (-1):=.inl ⟨rfl,rfl,rfl⟩
theorem codeIs_sent {w:World} {ad:Nat → Addr} (he:Errs9 w ad) (k:Nat) (hk:k < 9):CodeIs w (.iface 139 (.pointer (some (ad k)))) (k+1) (-1):=.inr ⟨ad,he,k,hk,rfl,.inl ⟨rfl,rfl⟩⟩
theorem codeIs_fault {w:World} {ad:Nat → Addr} (he:Errs9 w ad) (k:Nat) (hk:k < 9) (n:Int) (pb:Nat) (h0:w.cell? ⟨pb,0,none⟩=some (.int .i64 n)) (h1:w.cell? ⟨pb,1,none⟩=some (.iface 139 (.pointer (some (ad k))))) :
  CodeIs w (.iface 77 (.pointer (some ⟨pb,0,none⟩))) (k+1) n:=.inr ⟨ad,he,k,hk,rfl,.inr ⟨pb,rfl,h0,h1⟩⟩
theorem CodeIs.told {w:World} {ad:Nat → Addr} (he:ErrsB w ad) {E:Value} {c a:Int} (h:CodeIs w E c a):Calls Tryd.prog 21 #[E] w fun e w'=>e=.returned (.tuple #[.int .i64 c,.int .i64 a]) ∧ Below w.heap.size w w':=by
 rcases h with ⟨rfl,rfl,rfl⟩ | ⟨ad',he',k,hk,rfl,⟨rfl,rfl⟩ | ⟨pb,rfl,h2,h3⟩⟩
 · exact (code_nil w).mono fun _ _ h=>⟨h.1,by rw [h.2];exact Below.refl _ _⟩
 ·
  rw [he'.one he.toErrs9 k hk]
  exact code_sent ad k hk w he
 ·
  rw [he'.one he.toErrs9 k hk] at h3
  exact code_fault ad k hk a pb w he h2 h3
structure ErrIs (w:World) (E:Value) (c p:Int):Prop where
 code:CodeIs w E c p
 none_:c=0 → E=.nilIface
 some_:c ≠ 0 → ∃ ty v,E=.iface ty v
theorem ErrIs.below {w w':World} {E:Value} {c p:Int} (h:ErrIs w E c p) (hb:Below w.heap.size w w'):ErrIs w' E c p:=⟨h.code.below hb,h.none_,h.some_⟩
theorem errIs_nil (w:World):ErrIs w .nilIface 0 (-1):=⟨codeIs_nil w,fun _=>rfl,fun h=>absurd rfl h⟩
theorem errIs_sent {w:World} {ad:Nat → Addr} (he:Errs9 w ad) (k:Nat) (hk:k < 9):ErrIs w (.iface 139 (.pointer (some (ad k)))) (k+1) (-1):=⟨codeIs_sent he k hk,fun h=>by omega,fun _=>⟨_,_,rfl⟩⟩
theorem faulted_yes (E:Value) (code at_:Int) (w:World) (h:CodeIs w E code at_) {ad:Nat → Addr} (he:ErrsB w ad) :
  Calls Tryd.prog 11 #[E,.agg #[.int .i64 code,.int .i64 at_]] w fun e w'=>e=.returned (.bool true) ∧ Below w.heap.size w w':=by
 have hb0:Below w.heap.size w (w.alloc (.cells #[.int .i64 code,.int .i64 at_] 32)):=(Below.refl _ _).alloc (Nat.le_refl _) _
 have HC:=(show Hid (Calls Tryd.prog 21 #[E] (w.alloc (.cells #[.int .i64 code,.int .i64 at_] 32)) fun e w'=>e=.returned (.tuple #[.int .i64 code,.int .i64 at_]) ∧ Below (w.alloc (.cells #[.int .i64 code,.int .i64 at_] 32)).heap.size (w.alloc (.cells #[.int .i64 code,.int .i64 at_] 32)) w') from (h.below hb0).told (he.below hb0))
 clear h hb0 he
 by_cases hz:code=0
 ·
  subst hz
  go_enter Tryd.func11,Tryd.ntmps11
  go_wp2_with fail
  refine HC.out.mono ?_
  rintro e w1 ⟨rfl,hb⟩
  have HB:Hid (Below w.heap.size w w1):=((Below.refl _ _).alloc (Nat.le_refl _) _).trans (hb.mono (by simp))
  have c0:w1.cell? ⟨w.heap.size,0,none⟩=some (.int .i64 0):=cell_later hb (by simp)
  clear hb
  go_wp2_with fail
  go_ret
  exact ⟨rfl,HB.out⟩
 ·
  have hz':(code == 0)=false:=by simpa using hz
  go_enter Tryd.func11,Tryd.ntmps11
  go_wp2_with fail
  refine HC.out.mono ?_
  rintro e w1 ⟨rfl,hb⟩
  have HB:Hid (Below w.heap.size w w1):=((Below.refl _ _).alloc (Nat.le_refl _) _).trans (hb.mono (by simp))
  have c0:w1.cell? ⟨w.heap.size,0,none⟩=some (.int .i64 code):=cell_later hb (by simp)
  have c1:w1.cell? ⟨w.heap.size,1,none⟩=some (.int .i64 at_):=cell_later hb (by simp)
  clear hb
  go_wp2_with fail
  go_ret
  exact ⟨rfl,HB.out⟩
theorem sameInts_yes (b1 o1 b2 o2 n c1 c2:Nat) (f:Nat → Int) (w:World) (hn:n ≤ 9223372036854775807) (h1:∀ i,i < n → w.cell? ⟨b1,o1+i,none⟩=some (.int .i64 (f i))) (h2:∀ i,i < n → w.cell? ⟨b2,o2+i,none⟩=some (.int .i64 (f i))) :
  Calls Tryd.prog 12 #[.slice (some ⟨b1,o1,none⟩) n c1,.slice (some ⟨b2,o2,none⟩) n c2] w fun e w'=>e=.returned (.bool true) ∧ Below w.heap.size w w':=by
 have H1:Hid (∀ i,i < n → w.cell? ⟨b1,o1+i,none⟩=some (.int .i64 (f i))):=h1
 have H2:Hid (∀ i,i < n → w.cell? ⟨b2,o2+i,none⟩=some (.int .i64 (f i))):=h2
 clear h1 h2
 go_enter Tryd.func12,Tryd.ntmps12
 go_wp2
 go_loopw [5] (fun i wr=>∃ k:Nat,k ≤ n ∧ i=.int .i64 k ∧ ∃ q,wr=w.drewN q) (fun i _=>n - (intOf i).toNat)
 case atStart=>exact ⟨0,Nat.zero_le _,rfl,0,rfl⟩
 case round=>
  obtain ⟨k,hk,rfl,q,rfl⟩:=hrel
  by_cases hkn:k < n
  ·
   have g1:=H1.out k hkn
   have g2:=H2.out k hkn
   go_wp2
   go_quiet (fail)
   go_wp2
   go_roundw
   case rel=>exact ⟨k+1,by omega,by go_num,_,rfl⟩
   case measure=>simp [intOf];omega
  ·
   go_wp2
   go_ret
   exact ⟨rfl,below_drewN (Below.refl _ _) _⟩
theorem bare_any (n:Int) (w:World):Calls Tryd.prog 10 #[.int .i64 n] w fun e w'=>e=.returned (.agg #[.int .i64 n,.int .i64 (-1)]) ∧ Below w.heap.size w w':=by
 go_enter Tryd.func10,Tryd.ntmps10
 go_wp2
 exact bodyPost_ret (v:=.agg #[.int .i64 n,.int .i64 (-1)]) (by simp [results,Tryd.results10,go_sem]) rfl ⟨rfl,(Below.refl _ _).alloc (Nat.le_refl _) _⟩
theorem fine_any (w:World):Calls Tryd.prog 16 #[] w fun e w'=>e=.returned (.agg #[.int .i64 0,.int .i64 (-1)]) ∧ Below w.heap.size w w':=by
 go_enter Tryd.func16,Tryd.ntmps16
 go_wp2
 exact bodyPost_ret (v:=.agg #[.int .i64 0,.int .i64 (-1)]) (by simp [results,Tryd.results16,go_sem]) rfl ⟨rfl,(Below.refl _ _).alloc (Nat.le_refl _) _⟩
structure Two (w w1:World) (x y:Value):Prop where
 c0:w1.cell? ⟨w.heap.size,0,none⟩=some x
 c1:w1.cell? ⟨w.heap.size,1,none⟩=some y
 f0:w1.frozen? ⟨w.heap.size,0,none⟩=false
 f1:w1.frozen? ⟨w.heap.size,1,none⟩=false
theorem two_new (w:World) (x y:Value) (t:TypeId):Two w (w.alloc (.cells #[x,y] t)) x y:=⟨by simp,by simp,by simp,by simp⟩
theorem Two.later {w w1 w2:World} {x y:Value} (h:Two w w1 x y) (hb:Below w1.heap.size w1 w2):Two w w2 x y:=
 have l:=cell_lt h.c0
 ⟨cell_later hb h.c0,cell_later hb h.c1,by rw [hb.frozen (p:=⟨w.heap.size,0,none⟩) l];exact h.f0,by rw [hb.frozen (p:=⟨w.heap.size,1,none⟩) l];exact h.f1⟩
def FaultIs (ls:List (Int × Int)) (c a:Int):Prop:=
 ((ls.length < 1 ∨ 6 < ls.length) ∧ c=3 ∧ a = -1) ∨
 (1 ≤ ls.length ∧ ls.length ≤ 6 ∧ ∃ j:Nat,j < ls.length ∧ (∀ i x y,i < j → ls[i]? = some (x,y) → okLine x y=true) ∧ (∀ x y,ls[j]? = some (x,y) → okLine x y=false) ∧ c=2 ∧ a=j) ∨
 (okCurve ls ∧ c=0 ∧ a = -1)
theorem fault_is (ls:List (Int × Int)):∃ c a,FaultIs ls c a:=by
 by_cases hs:ls.length < 1 ∨ 6 < ls.length
 · exact ⟨3,-1,.inl ⟨hs,rfl,rfl⟩⟩
 ·
  rcases firstBad ls with h | ⟨j,hj,h1,h2⟩
  · exact ⟨0,-1,.inr (.inr ⟨⟨by omega,by omega,h⟩,rfl,rfl⟩)⟩
  · exact ⟨2,j,.inr (.inl ⟨by omega,by omega,j,hj,h1,h2,rfl,rfl⟩)⟩
theorem FaultIs.ok {ls:List (Int × Int)} {a:Int} (h:FaultIs ls 0 a):okCurve ls ∧ a = -1:=by
 rcases h with ⟨_,h,_⟩ | ⟨_,_,_,_,_,_,h,_⟩ | ⟨h,_,h'⟩
 · omega
 · omega
 · exact ⟨h,h'⟩
theorem FaultIs.num {ls:List (Int × Int)} {c a:Int} (h:FaultIs ls c a):c=0 ∨ c=2 ∨ c=3:=by
 rcases h with ⟨_,h,_⟩ | ⟨_,_,_,_,_,_,h,_⟩ | ⟨_,h,_⟩ <;> omega
theorem curveFault_shape (a:Option Addr) (n cap:Nat) (w:World) (hm:n ≤ maxLen) (h:n < 1 ∨ 6 < n) :
  Calls Tryd.prog 9 #[.slice a n cap] w fun e w'=>e=.returned (.agg #[.int .i64 3,.int .i64 (-1)]) ∧ Below w.heap.size w w':=by
 unfold maxLen at hm
 have hb0:Below w.heap.size w (w.alloc (.cells #[.int .i64 0,.int .i64 0] 32)):=(Below.refl _ _).alloc (Nat.le_refl _) _
 rcases h with h | h
 ·
  obtain rfl:n=0:=by omega
  go_enter Tryd.func9,Tryd.ntmps9
  go_wp2_with fail
  refine (bare_any 3 _).mono ?_
  rintro e w1 ⟨rfl,hb⟩
  obtain ⟨hc,hc',hf,hf'⟩:=(two_new w _ _ _).later hb
  have HB:Hid (Below w.heap.size w w1):=hb0.trans (hb.mono hb0.size)
  clear hb hb0
  go_wp2_with fail
  exact bodyPost_ret (v:=.agg #[.int .i64 3,.int .i64 (-1)]) (by simp [results,Tryd.results9,go_sem,hc,hc']) rfl ⟨rfl,(HB.out.setCell (Nat.le_refl _) _).setCell (Nat.le_refl _) _⟩
 ·
  have h1:¬ n < 1:=by omega
  go_enter Tryd.func9,Tryd.ntmps9
  go_wp2_with fail
  refine (bare_any 3 _).mono ?_
  rintro e w1 ⟨rfl,hb⟩
  obtain ⟨hc,hc',hf,hf'⟩:=(two_new w _ _ _).later hb
  have HB:Hid (Below w.heap.size w w1):=hb0.trans (hb.mono hb0.size)
  clear hb hb0
  go_wp2_with fail
  exact bodyPost_ret (v:=.agg #[.int .i64 3,.int .i64 (-1)]) (by simp [results,Tryd.results9,go_sem,hc,hc']) rfl ⟨rfl,(HB.out.setCell (Nat.le_refl _) _).setCell (Nat.le_refl _) _⟩
theorem curveFault_ok (a:Option Addr) (cap:Nat) (ls:List (Int × Int)) (w:World) (hl:Lies w a ls) (h:okCurve ls) :
  Calls Tryd.prog 9 #[.slice a ls.length cap] w fun e w'=>e=.returned (.agg #[.int .i64 0,.int .i64 (-1)]) ∧ Below w.heap.size w w':=by
 obtain ⟨h1,h6,hok⟩:=h
 obtain ⟨b,off,rfl,hlt,hc⟩:=hl.some h1
 clear hl
 generalize hn:ls.length=n at *
 have Hn:=(show Hid (ls.length=n) from hn)
 have hb0:Below w.heap.size w (w.alloc (.cells #[.int .i64 0,.int .i64 0] 32)):=(Below.refl _ _).alloc (Nat.le_refl _) _
 clear hn
 go_enter Tryd.func9,Tryd.ntmps9
 go_wp2_with fail
 go_loopw [3] (fun i wr=>∃ k:Nat,k ≤ n ∧ i=.int .i64 k ∧ Below w.heap.size w wr ∧ Two w wr (.int .i64 0) (.int .i64 0)) (fun i _=>n - (intOf i).toNat)
 case atStart=>exact ⟨0,Nat.zero_le _,rfl,hb0,two_new w _ _ _⟩
 case round=>
  obtain ⟨k,hk,rfl,hb,h2⟩:=hrel
  have HB:Hid (Below w.heap.size w wr):=hb
  have H2:Hid (Two w wr (.int .i64 0) (.int .i64 0)):=h2
  by_cases hkn:k < n
  ·
   obtain ⟨⟨x,y⟩,hp,hm⟩:=get_some ls k (by rw [Hn.out];exact hkn)
   have hc1:wr.cell? ⟨b,off+k * 2,none⟩=some (.int .i64 x):=by rw [hb.cell (p:=⟨b,off+k * 2,none⟩) hlt];exact (hc k x y hp).1
   have hc2:wr.cell? ⟨b,off+k * 2+1,none⟩=some (.int .i64 y):=by rw [hb.cell (p:=⟨b,off+k * 2+1,none⟩) hlt];exact (hc k x y hp).2
   have Hxy:=(show Hid (okLine x y=true) from hok _ hm)
   clear hc hok hp hm hb h2 hb0
   go_wp2_with (go_at_call 20;refine (lineError_yes x y _ Hxy.out).mono ?_;rintro e w' ⟨rfl,rfl⟩)
   go_roundw
   case rel=>exact ⟨k+1,by omega,by go_num,HB.out.alloc HB.out.size _,H2.out.later ((Below.refl _ _).alloc (Nat.le_refl _) _)⟩
   case measure=>simp [intOf];omega
  ·
   clear hc hok hb h2 hb0
   go_wp2_with fail
   refine (fine_any _).mono ?_
   rintro e w1 ⟨rfl,hb⟩
   obtain ⟨hc,hc',hf,hf'⟩:=H2.out.later hb
   have HB1:Hid (Below w.heap.size w w1):=HB.out.trans (hb.mono HB.out.size)
   clear hb
   go_wp2_with fail
   exact bodyPost_ret (v:=.agg #[.int .i64 0,.int .i64 (-1)]) (by simp [results,Tryd.results9,go_sem,hc,hc']) rfl ⟨rfl,(HB1.out.setCell (Nat.le_refl _) _).setCell (Nat.le_refl _) _⟩
theorem curveFault_bad (a:Option Addr) (cap:Nat) (ls:List (Int × Int)) (w:World) (hl:Lies w a ls) (h1:1 ≤ ls.length) (h6:ls.length ≤ 6)
  (j:Nat) (hj:j < ls.length) (hok:∀ i x y,i < j → ls[i]? = some (x,y) → okLine x y=true) (hbad:∀ x y,ls[j]? = some (x,y) → okLine x y=false) :
  Calls Tryd.prog 9 #[.slice a ls.length cap] w fun e w'=>e=.returned (.agg #[.int .i64 2,.int .i64 j]) ∧ Below w.heap.size w w':=by
 obtain ⟨b,off,rfl,hlt,hc⟩:=hl.some h1
 clear hl
 generalize hn:ls.length=n at *
 have Hn:=(show Hid (ls.length=n) from hn)
 have hb0:Below w.heap.size w (w.alloc (.cells #[.int .i64 0,.int .i64 0] 32)):=(Below.refl _ _).alloc (Nat.le_refl _) _
 clear hn
 go_enter Tryd.func9,Tryd.ntmps9
 go_wp2_with fail
 go_loopw [3] (fun i wr=>∃ k:Nat,k ≤ j ∧ i=.int .i64 k ∧ Below w.heap.size w wr ∧ Two w wr (.int .i64 0) (.int .i64 0)) (fun i _=>n - (intOf i).toNat)
 case atStart=>exact ⟨0,Nat.zero_le _,rfl,hb0,two_new w _ _ _⟩
 case round=>
  obtain ⟨k,hk,rfl,hb,h2⟩:=hrel
  have HB:Hid (Below w.heap.size w wr):=hb
  have H2:Hid (Two w wr (.int .i64 0) (.int .i64 0)):=h2
  have hkn:k < n:=by omega
  obtain ⟨⟨x,y⟩,hp,hm⟩:=get_some ls k (by rw [Hn.out];exact hkn)
  have hc1:wr.cell? ⟨b,off+k * 2,none⟩=some (.int .i64 x):=by rw [hb.cell (p:=⟨b,off+k * 2,none⟩) hlt];exact (hc k x y hp).1
  have hc2:wr.cell? ⟨b,off+k * 2+1,none⟩=some (.int .i64 y):=by rw [hb.cell (p:=⟨b,off+k * 2+1,none⟩) hlt];exact (hc k x y hp).2
  by_cases hkj:k < j
  ·
   have Hxy:=(show Hid (okLine x y=true) from hok k x y hkj hp)
   clear hc hok hp hm hb h2 hb0 hbad
   go_wp2_with (go_at_call 20;refine (lineError_yes x y _ Hxy.out).mono ?_;rintro e w' ⟨rfl,rfl⟩)
   go_roundw
   case rel=>exact ⟨k+1,by omega,by go_num,HB.out.alloc HB.out.size _,H2.out.later ((Below.refl _ _).alloc (Nat.le_refl _) _)⟩
   case measure=>simp [intOf];omega
  ·
   obtain rfl:k=j:=by omega
   have Hxy:=(show Hid (okLine x y=false) from hbad x y hp)
   clear hc hok hp hm hb h2 hb0 hbad
   go_wp2_with fail
   refine (lineError_no x y _ Hxy.out).mono ?_
   rintro e w1 ⟨rfl,hw1⟩
   have hb:Below wr.heap.size wr w1:=by rw [hw1];exact (Below.refl _ _).alloc (Nat.le_refl _) _
   obtain ⟨hc,hc',hf,hf'⟩:=H2.out.later hb
   have HB1:Hid (Below w.heap.size w w1):=HB.out.trans (hb.mono HB.out.size)
   clear hb hw1
   go_wp2_with fail
   exact bodyPost_ret (v:=.agg #[.int .i64 2,.int .i64 k]) (by simp [results,Tryd.results9,go_sem,hc,hc']) rfl ⟨rfl,(HB1.out.setCell (Nat.le_refl _) _).setCell (Nat.le_refl _) _⟩
theorem curveFault_is (a:Option Addr) (cap:Nat) (ls:List (Int × Int)) (w:World) (hl:Lies w a ls) (hcap:ls.length ≤ cap) (hm:cap ≤ maxLen) (c p:Int) (h:FaultIs ls c p) :
  Calls Tryd.prog 9 #[.slice a ls.length cap] w fun e w'=>e=.returned (.agg #[.int .i64 c,.int .i64 p]) ∧ Below w.heap.size w w':=by
 rcases h with ⟨h,rfl,rfl⟩ | ⟨h1,h6,j,hj,h2,h3,rfl,rfl⟩ | ⟨h,rfl,rfl⟩
 · exact curveFault_shape a ls.length cap w (Nat.le_trans hcap hm) h
 · exact curveFault_bad a cap ls w hl h1 h6 j hj h2 h3
 · exact curveFault_ok a cap ls w hl h
def LiesP (w:World) (a:Option Addr) (ps:List Pk):Prop:=
 ps=[] ∨ ∃ b off,a=some ⟨b,off,none⟩ ∧ b < w.heap.size ∧ ∀ (i:Nat) p,ps[i]? = some p → w.cell? ⟨b,off+i * 3,none⟩=some (.int .i64 p.flow) ∧ w.cell? ⟨b,off+i * 3+1,none⟩=some (.int .i64 p.size) ∧ w.cell? ⟨b,off+i * 3+2,none⟩=some (.int .i64 p.tick)
theorem LiesP.but {S:Nat → Prop} {w w':World} {a:Option Addr} {ps:List Pk} (h:LiesP w a ps) (hb:But S w w') (hs:∀ ad,a=some ad → ¬ S ad.block):LiesP w' a ps:=by
 rcases h with rfl | ⟨b,off,rfl,hlt,hc⟩
 · exact .inl rfl
 ·
  have hn:¬ S b:=hs _ rfl
  refine .inr ⟨b,off,rfl,Nat.lt_of_lt_of_le hlt hb.size,fun i p hi=>?_⟩
  have:=hc i p hi
  exact ⟨by rw [hb.cell (p:=⟨b,off+i * 3,none⟩) hlt hn];exact this.1,by rw [hb.cell (p:=⟨b,off+i * 3+1,none⟩) hlt hn];exact this.2.1,by rw [hb.cell (p:=⟨b,off+i * 3+2,none⟩) hlt hn];exact this.2.2⟩
theorem LiesP.below {w w':World} {a:Option Addr} {ps:List Pk} (h:LiesP w a ps) (hb:Below w.heap.size w w'):LiesP w' a ps:=
 h.but (S:=fun _=>False) (.ofBelow hb) (fun _ _ h=>h)
end Go.Proofs.YtbokomeejmnnoaaDoor

namespace Go.Proofs.YtbokomeejmnnoaaDoor
open Go.RowKit Go.Sort
def ints (xs:List Int):List Value:=xs.map (Value.int .i64)
theorem ints_append (a b:List Int):ints (a ++ b)=ints a ++ ints b:=by simp [ints]
theorem ints_one (xs:List Int):∀ u ∈ ints xs,u.oneCell'=true:=by
 intro u hu
 obtain ⟨x,-,rfl⟩:=List.mem_map.1 hu
 rfl
end Go.Proofs.YtbokomeejmnnoaaDoor

namespace Go.Proofs.YtbokomeejmnnoaaDoor
open Go.RowKit
def LiesC (w:World) (a:Option Addr) (cs:List (List (Int × Int))):Prop:=
 cs=[] ∨ ∃ b off,a=some ⟨b,off,none⟩ ∧ b < w.heap.size ∧ ∀ (i:Nat) ls,cs[i]? = some ls → ∃ a' cap,w.cell? ⟨b,off+i,none⟩=some (.slice a' ls.length cap) ∧ Lies w a' ls ∧ ls.length ≤ cap ∧ cap ≤ maxLen ∧ (a'=none → ls=[] ∧ cap=0)
theorem LiesC.place {w:World} {a:Option Addr} {cs:List (List (Int × Int))} (h:LiesC w a cs) (h1:1 ≤ cs.length) :
  ∃ b off,a=some ⟨b,off,none⟩ ∧ b < w.heap.size ∧ ∀ (i:Nat) ls,cs[i]? = some ls → ∃ a' cap,w.cell? ⟨b,off+i,none⟩=some (.slice a' ls.length cap) ∧ Lies w a' ls ∧ ls.length ≤ cap ∧ cap ≤ maxLen ∧ (a'=none → ls=[] ∧ cap=0):=by
 rcases h with rfl | h
 · simp at h1
 · exact h
theorem LiesC.below {w w':World} {a:Option Addr} {cs:List (List (Int × Int))} (h:LiesC w a cs) (hb:Below w.heap.size w w'):LiesC w' a cs:=by
 rcases h with rfl | ⟨b,off,rfl,hlt,hc⟩
 · exact .inl rfl
 ·
  refine .inr ⟨b,off,rfl,Nat.lt_of_lt_of_le hlt hb.size,fun i ls hi=>?_⟩
  obtain ⟨a',cap,h1,h2,h3⟩:=hc i ls hi
  exact ⟨a',cap,cell_later hb h1,h2.below hb,h3⟩
structure BkAt (w:World) (g:Nat) (b:Bk):Prop where
 c0:w.cell? ⟨g,0,none⟩=some (.int .i64 b.most)
 c1:w.cell? ⟨g,1,none⟩=some (.int .i64 b.rate)
 c2:w.cell? ⟨g,2,none⟩=some (.int .i64 b.has)
 c3:w.cell? ⟨g,3,none⟩=some (.int .i64 b.last)
 f2:w.frozen? ⟨g,2,none⟩=false
 f3:w.frozen? ⟨g,3,none⟩=false
theorem BkAt.lt {w:World} {g:Nat} {b:Bk} (h:BkAt w g b):g < w.heap.size:=cell_lt h.c0
theorem BkAt.but {S:Nat → Prop} {w w':World} {g:Nat} {b:Bk} (h:BkAt w g b) (hb:But S w w') (hs:¬ S g):BkAt w' g b:=
 have l:=h.lt
 ⟨by rw [hb.cell (p:=⟨g,0,none⟩) l hs];exact h.c0,by rw [hb.cell (p:=⟨g,1,none⟩) l hs];exact h.c1,by rw [hb.cell (p:=⟨g,2,none⟩) l hs];exact h.c2,by rw [hb.cell (p:=⟨g,3,none⟩) l hs];exact h.c3,
  by rw [hb.frozen (p:=⟨g,2,none⟩) l hs];exact h.f2,by rw [hb.frozen (p:=⟨g,3,none⟩) l hs];exact h.f3⟩
theorem BkAt.below {w w':World} {g:Nat} {b:Bk} (h:BkAt w g b) (hb:Below w.heap.size w w'):BkAt w' g b:=h.but (S:=fun _=>False) (.ofBelow hb) id
structure Errs4 (w:World) (ad:Nat → Addr):Prop where
 c1:w.cell? ⟨2,0,none⟩=some (.iface 139 (.pointer (some (ad 1))))
 c2:w.cell? ⟨1,0,none⟩=some (.iface 139 (.pointer (some (ad 2))))
 c3:w.cell? ⟨0,0,none⟩=some (.iface 139 (.pointer (some (ad 3))))
 c4:w.cell? ⟨4,0,none⟩=some (.iface 139 (.pointer (some (ad 4))))
theorem Errs4.below {w w':World} {ad:Nat → Addr} (h:Errs4 w ad) (hb:Below w.heap.size w w'):Errs4 w' ad:=
 ⟨cell_later hb h.c1,cell_later hb h.c2,cell_later hb h.c3,cell_later hb h.c4⟩
structure ShAt (w:World) (B:Nat) (gs:List Nat) (bs:List Bk):Prop where
 len:gs.length=bs.length
 ptr:∀ (i:Nat) g,gs[i]? = some g → w.cell? ⟨B,i,none⟩=some (.pointer (some ⟨g,0,none⟩))
 new:∀ g,g ∈ gs → B < g
 bk:∀ (i:Nat) g b,gs[i]? = some g → bs[i]? = some b → BkAt w g b
 one:∀ (i j:Nat) g,gs[i]? = some g → gs[j]? = some g → i=j
structure Room (w:World) (B n:Nat):Prop where
 cell:∀ j,j < n → ∃ v,w.cell? ⟨B,j,none⟩=some v
 frozen:∀ j,w.frozen? ⟨B,j,none⟩=false
theorem Room.but {S:Nat → Prop} {w w':World} {B n:Nat} (h:Room w B n) (hb:But S w w') (hB:B < w.heap.size) (hs:¬ S B):Room w' B n:=
 ⟨fun j hj=>by obtain ⟨v,hv⟩:=h.cell j hj;exact ⟨v,by rw [hb.cell (p:=⟨B,j,none⟩) hB hs];exact hv⟩,fun j=>by rw [hb.frozen (p:=⟨B,j,none⟩) hB hs];exact h.frozen j⟩
theorem Room.below {w w':World} {B n:Nat} (h:Room w B n) (hb:Below w.heap.size w w') (hB:B < w.heap.size):Room w' B n:=h.but (S:=fun _=>False) (.ofBelow hb) hB id
end Go.Proofs.YtbokomeejmnnoaaDoor
