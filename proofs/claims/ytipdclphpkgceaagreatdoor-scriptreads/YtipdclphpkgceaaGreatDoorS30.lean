/- Own facts, put together: no statement of its own. -/
import Derived.Test.YtipdclphpkgceaaGreatDoorS28
import Derived.Test.YtipdclphpkgceaaGreatDoorS01
import Derived.Test.YtipdclphpkgceaaGreatDoorS14
import Derived.Test.YtipdclphpkgceaaGreatDoorS29
import Derived.Test.YtipdclphpkgceaaGreatDoorS04
import Derived.Test.YtipdclphpkgceaaGreatDoorS13
set_option maxHeartbeats 1000000

namespace Go.Proofs.YtipdclphpkgceaaGreatDoor
open Go.RowKit
theorem sum_err1 {R:TypeId → Value → World → Prop} (a:Option Addr) (n cap:Nat) (v2:Value) (w:World)
  (hc:Calls Tryz.prog 89 #[.slice a n cap] w fun e w'=>∃ ty p,e=.returned (.iface ty p) ∧ R ty p w') :
  Calls Tryz.prog 119 #[.slice a n cap,v2] w fun e w'=>∃ ty p,e=.returned (.tuple #[.slice none 0 0,.iface ty p]) ∧ R ty p w':=by
 have HC:Hid (Calls Tryz.prog 89 #[.slice a n cap] w fun e w'=>∃ ty p,e=.returned (.iface ty p) ∧ R ty p w'):=hc
 clear hc
 go_enter Tryz.func119,Tryz.ntmps119
 go_wp2_with fail
 refine HC.out.mono ?_
 rintro e w1 ⟨ty,p,rfl,hR⟩
 have HR:Hid (R ty p w1):=hR
 clear hR
 go_wp2_with fail
 go_ret2
 exact ⟨ty,p,rfl,HR.out⟩
theorem eachL_pos {la lb:List (Int × Int)} (h1:1 ≤ la.length) (h2:1 ≤ lb.length):1 ≤ (eachL la lb).length:=by
 rw [eachL_length];exact Nat.mul_pos h1 h2
theorem eachL_most {la lb:List (Int × Int)} (h1:la.length ≤ 6) (h2:lb.length ≤ 6):(eachL la lb).length ≤ 36:=by
 rw [eachL_length];exact Nat.le_trans (Nat.mul_le_mul h1 h2) (by decide)
theorem sum_bound (a1 a2:Option Addr) (cap1 cap2:Nat) (la lb:List (Int × Int)) (w:World) (aB:Addr) (hB:w.cell? ⟨0,0,none⟩=some (.iface 312 (.pointer (some aB)))) (h1:Lies w a1 la) (h2:Lies w a2 lb) (k1:okCurve la) (k2:okCurve lb)
  (j:Nat) (hj:j < (eachL la lb).length) (hok:∀ i x y,i < j → (eachL la lb)[i]? = some (x,y) → okLine x y=true) (hbad:∀ x y,(eachL la lb)[j]? = some (x,y) → okLine x y=false) :
  Calls Tryz.prog 119 #[.slice a1 la.length cap1,.slice a2 lb.length cap2] w fun e w'=>e=.returned (.tuple #[.slice none 0 0,.iface 312 (.pointer (some aB))]) ∧ Below w.heap.size w w':=by
 have HL:Hid (Lies w a1 la ∧ okCurve la):=⟨h1,k1⟩
 have HM:Hid (Lies w a2 lb ∧ okCurve lb):=⟨h2,k2⟩
 have HK:Hid (w.cell? ⟨0,0,none⟩=some (.iface 312 (.pointer (some aB)))):=hB
 have HN:Hid (∀ i x y,i < j → (eachL la lb)[i]? = some (x,y) → okLine x y=true):=hok
 have HX:Hid (∀ x y,(eachL la lb)[j]? = some (x,y) → okLine x y=false):=hbad
 have hmost:=eachL_most k1.2.1 k2.2.1
 clear h1 h2 k1 k2 hB hok hbad
 go_enter Tryz.func119,Tryz.ntmps119
 go_wp2_with fail
 refine (check_ok _ _ la _ HL.out.1 HL.out.2).mono ?_
 rintro e w0 ⟨rfl,hb⟩
 have HB0:Hid (Below w.heap.size w w0):=hb
 clear hb
 go_wp2_with fail
 refine (check_ok _ _ lb _ (HM.out.1.below HB0.out) HM.out.2).mono ?_
 rintro e w1 ⟨rfl,hb⟩
 have HB1:Hid (Below w.heap.size w w1):=HB0.out.trans (hb.mono HB0.out.size)
 clear hb
 go_wp2_with fail
 refine (each_ok _ _ _ _ la lb _ (HL.out.1.below HB1.out) (HM.out.1.below HB1.out) HL.out.2.2.1 HM.out.2.2.1 HL.out.2.2.2 HM.out.2.2.2).mono ?_
 rintro e w2 ⟨v,rfl,ho,hb⟩
 have HB2:Hid (Below w.heap.size w w2):=HB1.out.trans (hb.mono HB1.out.size)
 obtain ⟨a0,n0,k0,rfl⟩:∃ a0 n0 k0,v=.slice a0 n0 k0:=by obtain ⟨a,c,e,_⟩:=OwnL.open ho;exact ⟨_,_,_,e⟩
 obtain ⟨rfl,-,-,hL2⟩:=OwnL.lies ho
 generalize eachL la lb=P at *
 obtain ⟨b,off,rfl,hlt,hc⟩:=hL2.some (by omega)
 clear ho hb hL2
 go_wp2_with fail
 go_loopw [27] (fun i wr=>∃ k:Nat,k ≤ j ∧ i=.int .i64 k ∧ Below w2.heap.size w2 wr) (fun i _=>P.length - (intOf i).toNat)
 case atStart=>exact ⟨0,Nat.zero_le _,rfl,Below.refl _ _⟩
 case round=>
  obtain ⟨k,hk,rfl,hb⟩:=hrel
  have hs:=hb.size
  have hkn:k < P.length:=by omega
  obtain ⟨⟨x,y⟩,hp,hm⟩:=get_some P k hkn
  have hc1:wr.cell? ⟨b,off+k * 2,none⟩=some (.int .i64 x):=cell_later hb (hc k x y hp).1
  have hc2:wr.cell? ⟨b,off+k * 2+1,none⟩=some (.int .i64 y):=cell_later hb (hc k x y hp).2
  have HB3:Hid (Below w.heap.size w wr):=HB2.out.trans (hb.mono HB2.out.size)
  by_cases hkj:k < j
  ·
   have Hxy:=(show Hid (okLine x y=true) from HN.out k x y hkj hp)
   clear hc hp hm
   go_wp2_with (go_at_call 121;refine (isLine_yes x y _ Hxy.out).mono ?_;rintro e w' ⟨rfl,rfl⟩)
   go_roundw
   case rel=>exact ⟨k+1,by omega,by go_num,(hb.alloc hs _).alloc (by simp;omega) _⟩
   case measure=>simp [intOf];omega
  ·
   obtain rfl:k=j:=by omega
   have Hxy:=(show Hid (okLine x y=false) from HX.out x y hp)
   have HB4:Below w.heap.size w ((wr.alloc (.cells #[.int .i64 x,.int .i64 y] 83)).alloc (.cells #[.int .i64 x,.int .i64 y] 83)):=(HB3.out.alloc HB3.out.size _).alloc (by have:=HB3.out.size;simp;omega) _
   have hB4:((wr.alloc (.cells #[.int .i64 x,.int .i64 y] 83)).alloc (.cells #[.int .i64 x,.int .i64 y] 83)).cell? ⟨0,0,none⟩=some (.iface 312 (.pointer (some aB))):=cell_later HB4 HK.out
   have HB5:Hid (Below w.heap.size w ((wr.alloc (.cells #[.int .i64 x,.int .i64 y] 83)).alloc (.cells #[.int .i64 x,.int .i64 y] 83))):=HB4
   clear hc hp hm HB4
   go_wp2_with (go_at_call 121;refine (isLine_no x y _ Hxy.out).mono ?_;rintro e w' ⟨rfl,rfl⟩)
   go_quiet (fail)
   go_wp2_with fail
   go_ret2
   exact ⟨rfl,below_drewN HB5.out _⟩
theorem sum_ok (a1 a2:Option Addr) (cap1 cap2:Nat) (la lb:List (Int × Int)) (w:World) (aS:Addr) (hS:w.cell? ⟨2,0,none⟩=some (.iface 312 (.pointer (some aS)))) (h1:Lies w a1 la) (h2:Lies w a2 lb) (k1:okCurve la) (k2:okCurve lb) (hok:okAll (eachL la lb)) :
  Calls Tryz.prog 119 #[.slice a1 la.length cap1,.slice a2 lb.length cap2] w fun e w'=>∃ ls',ls'.Perm (eachL la lb) ∧ SortedL ls' ∧ Below w.heap.size w w' ∧
   ((6 < (lowT [] ls').length ∧ e=.returned (.tuple #[.slice none 0 0,.iface 312 (.pointer (some aS))])) ∨
    ((lowT [] ls').length ≤ 6 ∧ ∃ v,e=.returned (.tuple #[v,.nilIface]) ∧ OwnL w' w.heap.size v (lowT [] ls').reverse)):=by
 have HL:Hid (Lies w a1 la ∧ okCurve la):=⟨h1,k1⟩
 have HM:Hid (Lies w a2 lb ∧ okCurve lb):=⟨h2,k2⟩
 have HK:Hid (w.cell? ⟨2,0,none⟩=some (.iface 312 (.pointer (some aS)))):=hS
 have HN:Hid (okAll (eachL la lb)):=hok
 have hmost:=eachL_most k1.2.1 k2.2.1
 have hpos:=eachL_pos k1.1 k2.1
 clear h1 h2 k1 k2 hS hok
 go_enter Tryz.func119,Tryz.ntmps119
 go_wp2_with fail
 refine (check_ok _ _ la _ HL.out.1 HL.out.2).mono ?_
 rintro e w0 ⟨rfl,hb⟩
 have HB0:Hid (Below w.heap.size w w0):=hb
 clear hb
 go_wp2_with fail
 refine (check_ok _ _ lb _ (HM.out.1.below HB0.out) HM.out.2).mono ?_
 rintro e w1 ⟨rfl,hb⟩
 have HB1:Hid (Below w.heap.size w w1):=HB0.out.trans (hb.mono HB0.out.size)
 clear hb
 go_wp2_with fail
 refine (each_ok _ _ _ _ la lb _ (HL.out.1.below HB1.out) (HM.out.1.below HB1.out) HL.out.2.2.1 HM.out.2.2.1 HL.out.2.2.2 HM.out.2.2.2).mono ?_
 rintro e w2 ⟨v,rfl,ho,hb⟩
 have HB2:Hid (Below w.heap.size w w2):=HB1.out.trans (hb.mono HB1.out.size)
 obtain ⟨a0,n0,k0,rfl⟩:∃ a0 n0 k0,v=.slice a0 n0 k0:=by obtain ⟨a,c,e,_⟩:=OwnL.open ho;exact ⟨_,_,_,e⟩
 obtain ⟨rfl,-,-,hL2⟩:=OwnL.lies ho
 have HPE:Hid (∃ P,eachL la lb=P):=⟨_,rfl⟩
 obtain ⟨P,hPE⟩:=HPE.out
 have HP:Hid (eachL la lb=P):=hPE
 rw [hPE] at hL2 hmost hpos HN ⊢
 clear hPE
 obtain ⟨b,off,rfl,hlt,hc⟩:=hL2.some (by omega)
 have HL2:Hid (Lies w2 (some ⟨b,off,none⟩) P):=hL2
 clear ho hb hL2
 go_wp2_with fail
 go_loopw [27] (fun i wr=>∃ k:Nat,k ≤ P.length ∧ i=.int .i64 k ∧ Below w2.heap.size w2 wr) (fun i _=>P.length - (intOf i).toNat)
 case atStart=>exact ⟨0,Nat.zero_le _,rfl,Below.refl _ _⟩
 case round=>
  obtain ⟨k,hk,rfl,hb⟩:=hrel
  have hs:=hb.size
  by_cases hkn:k < P.length
  ·
   obtain ⟨⟨x,y⟩,hp,hm⟩:=get_some P k hkn
   have hc1:wr.cell? ⟨b,off+k * 2,none⟩=some (.int .i64 x):=cell_later hb (hc k x y hp).1
   have hc2:wr.cell? ⟨b,off+k * 2+1,none⟩=some (.int .i64 y):=cell_later hb (hc k x y hp).2
   have Hxy:=(show Hid (okLine x y=true) from HN.out _ hm)
   clear hc hp hm
   go_wp2_with (go_at_call 121;refine (isLine_yes x y _ Hxy.out).mono ?_;rintro e w' ⟨rfl,rfl⟩)
   go_roundw
   case rel=>exact ⟨k+1,by omega,by go_num,(hb.alloc hs _).alloc (by simp;omega) _⟩
   case measure=>simp [intOf];omega
  ·
   have HB3:Hid (Below w.heap.size w wr):=HB2.out.trans (hb.mono HB2.out.size)
   have HL3:Hid (Lies wr (some ⟨b,off,none⟩) P):=HL2.out.below hb
   clear hb hc
   go_wp2_with fail
   refine (lowest_ok _ k0 P _ HL3.out hpos (Nat.le_trans hmost (by decide)) HN.out).mono ?_
   rintro e w4 ⟨v,ls',rfl,hp,hso,ho,hb2⟩
   obtain ⟨a4,n4,k4,rfl⟩:∃ a0 n0 k0,v=.slice a0 n0 k0:=by obtain ⟨a,c,e,_⟩:=OwnL.open ho;exact ⟨_,_,_,e⟩
   obtain ⟨hn4,-,-,-⟩:=OwnL.lies ho
   rw [List.length_reverse] at hn4
   have hl4:n4 ≤ 36:=by have:=lowT_len ls' [];rw [hp.length_eq] at this;simp at this;omega
   have HB4:Hid (Below w.heap.size w w4):=HB3.out.trans (hb2.mono HB3.out.size)
   have HR:Hid (ls'.Perm P ∧ SortedL ls' ∧ OwnL w4 w.heap.size (.slice a4 n4 k4) (lowT [] ls').reverse):=⟨hp,hso,ownsRow_mono ho HB3.out.size⟩
   have HN4:Hid (n4=(lowT [] ls').length):=hn4
   have hK4:w4.cell? ⟨2,0,none⟩=some (.iface 312 (.pointer (some aS))):=cell_later HB4.out HK.out
   clear hp hso ho hb2 hn4
   by_cases h6:6 < n4
   ·
    go_wp2_with fail
    go_quiet (fail)
    go_wp2_with fail
    go_ret2
    exact ⟨ls',HP.out ▸ HR.out.1,HR.out.2.1,below_drewN HB4.out _,.inl ⟨HN4.out ▸ h6,rfl⟩⟩
   ·
    go_wp2_with fail
    go_ret2
    exact ⟨ls',HP.out ▸ HR.out.1,HR.out.2.1,HB4.out,.inr ⟨by have:=HN4.out;omega,_,rfl,HR.out.2.2⟩⟩
end Go.Proofs.YtipdclphpkgceaaGreatDoor

namespace Go.Proofs.YtipdclphpkgceaaGreatDoor
def StackOk (T:List (Int × Int)):Prop:=T.Pairwise fun a b=>a.2 < b.2 ∧ b.1 < a.1
def Behind (x:Int × Int) (T:List (Int × Int)):Prop:=∀ s,s ∈ T → x.2 < s.2 ∨ (x.2=s.2 ∧ x.1 ≤ s.1)
theorem popT_suffix (x:Int × Int) (T:List (Int × Int)):∃ pre,T=pre ++ popT x T:=by
 induction T with
 | nil=>exact ⟨[],rfl⟩
 | cons t r ih=>
  unfold popT
  split
  · obtain ⟨pre,h⟩:=ih;exact ⟨t :: pre,by rw [List.cons_append,← h]⟩
  · exact ⟨[],rfl⟩
theorem popT_top (x:Int × Int) (T:List (Int × Int)):popT x T=[] ∨ ∃ t r,popT x T=t :: r ∧ coveredT x (t :: r)=false:=by
 induction T with
 | nil=>exact .inl rfl
 | cons t r ih=>
  unfold popT
  split
  · exact ih
  · next h=>exact .inr ⟨t,r,rfl,by simpa using h⟩
theorem covered_first {x t:Int × Int} {r:List (Int × Int)} (h:coveredT x (t :: r)=false):t.1 < x.1:=by
 match r,h with
 | [],h=>have:=of_decide_eq_false h;omega
 | u :: r,h=>
  have h':(decide (x.1 ≤ t.1) || decide ((x.1 - t.1) * (u.2 - t.2) ≤ (t.1 - u.1) * (t.2 - x.2)))=false:=h
  rw [Bool.or_eq_false_iff] at h'
  have:=of_decide_eq_false h'.1
  omega
theorem stack_push {x:Int × Int} {T:List (Int × Int)} (hT:StackOk T) (hx:Behind x T):StackOk (x :: popT x T):=by
 obtain ⟨pre,hp⟩:=popT_suffix x T
 have hs:StackOk (popT x T):=by have h:=hT;unfold StackOk at h;rw [hp,List.pairwise_append] at h;exact h.2.1
 refine List.pairwise_cons.2 ⟨fun s hs'=>?_,hs⟩
 rcases popT_top x T with h | ⟨t,r,h,hc⟩
 · rw [h] at hs';cases hs'
 ·
  have ht:=covered_first hc
  rw [h] at hs hs'
  have hxt:=hx t (popT_sub x T t (by rw [h];exact List.mem_cons_self ..))
  have hpw:=List.pairwise_cons.1 hs
  rcases List.mem_cons.1 hs' with rfl | hr
  · omega
  ·
   have:=hpw.1 s hr
   omega
theorem stack_low (l:List (Int × Int)):∀ T,StackOk T → (∀ x,x ∈ l → Behind x T) → l.Pairwise (fun a b=>b.2 < a.2 ∨ (b.2=a.2 ∧ b.1 ≤ a.1)) → StackOk (lowT T l):=by
 induction l with
 | nil=>intro T h _ _;exact h
 | cons x r ih=>
  intro T hT hb hs
  have hpc:=List.pairwise_cons.1 hs
  refine ih _ (stack_push hT (hb x (List.mem_cons_self ..))) (fun y hy s hs'=>?_) hpc.2
  rcases List.mem_cons.1 hs' with rfl | hs'
  · exact hpc.1 y hy
  · exact hb y (List.mem_cons_of_mem _ hy) s (popT_sub x T s hs')
theorem sorted_pairwise {l:List (Int × Int)} (h:SortedL l):l.Pairwise (fun a b=>b.2 < a.2 ∨ (b.2=a.2 ∧ b.1 ≤ a.1)):=by
 rw [List.pairwise_iff_getElem]
 intro i j hi hj hij
 exact h i j _ _ hij (by simp [hi]) (by simp [hj])
theorem stack_of_sorted {l:List (Int × Int)} (h:SortedL l):StackOk (lowT [] l):=
 stack_low l [] List.Pairwise.nil (fun _ _ s hs=>by cases hs) (sorted_pairwise h)
def high (t:Int) (p:Int × Int):Int:=1000 * p.1+p.2 * t
theorem covered_low {x t u:Int × Int} {n:Int} (hxt:x.2 ≤ t.2) (htu:t.2 < u.2) (hc:(x.1 - t.1) * (u.2 - t.2) ≤ (t.1 - u.1) * (t.2 - x.2)):high n x ≤ high n t ∨ high n u ≤ high n t:=by
 unfold high
 by_cases h:1000 * x.1+x.2 * n ≤ 1000 * t.1+t.2 * n
 · exact .inl h
 ·
  refine .inr ?_
  have e1:(t.2 - x.2) * n=t.2 * n - x.2 * n:=Int.sub_mul ..
  have e2:(u.2 - t.2) * n=u.2 * n - t.2 * n:=Int.sub_mul ..
  have h1:(t.2 - x.2) * n < 1000 * (x.1 - t.1):=by omega
  have h2:(u.2 - t.2) * ((t.2 - x.2) * n) < (u.2 - t.2) * (1000 * (x.1 - t.1)):=Int.mul_lt_mul_of_pos_left h1 (by omega)
  have e3:(u.2 - t.2) * (1000 * (x.1 - t.1))=1000 * ((x.1 - t.1) * (u.2 - t.2)):=by rw [Int.mul_left_comm,Int.mul_comm (u.2 - t.2)]
  have e4:(u.2 - t.2) * ((t.2 - x.2) * n)=(t.2 - x.2) * ((u.2 - t.2) * n):=by rw [Int.mul_left_comm]
  have h3:(t.2 - x.2) * ((u.2 - t.2) * n) < (t.2 - x.2) * (1000 * (t.1 - u.1)):=by
   rw [← e4]
   have e5:(t.2 - x.2) * (1000 * (t.1 - u.1))=1000 * ((t.1 - u.1) * (t.2 - x.2)):=by rw [Int.mul_left_comm,Int.mul_comm (t.2 - x.2)]
   omega
  have h4:(u.2 - t.2) * n < 1000 * (t.1 - u.1):=by
   rcases (show (u.2 - t.2) * n < 1000 * (t.1 - u.1) ∨ 1000 * (t.1 - u.1) ≤ (u.2 - t.2) * n by omega) with h | h
   · exact h
   ·
    have:=Int.mul_le_mul_of_nonneg_left h (show 0 ≤ t.2 - x.2 by omega)
    omega
  omega
theorem low_line {x t:Int × Int} {n:Int} (hn:0 ≤ n) (h1:x.1 ≤ t.1) (h2:x.2 ≤ t.2):high n x ≤ high n t:=by
 unfold high
 have:=Int.mul_le_mul_of_nonneg_right h2 hn
 omega
theorem pop_dom {x:Int × Int} {n:Int} (hn:0 ≤ n) (T:List (Int × Int)):StackOk T → Behind x T → ∀ s,s ∈ T → ∃ s',s' ∈ x :: popT x T ∧ high n s' ≤ high n s:=by
 induction T with
 | nil=>intro _ _ s hs;cases hs
 | cons t r ih=>
  intro hT hx s hs
  have hpc:=List.pairwise_cons.1 hT
  have hx':Behind x r:=fun y hy=>hx y (List.mem_cons_of_mem _ hy)
  unfold popT
  split
  ·
   next hc=>
   rcases List.mem_cons.1 hs with rfl | hs
   ·
    have hxs:=hx s (List.mem_cons_self ..)
    match r,hc,ih,hpc,hx' with
    | [],hc,_,_,_=>
     have:=of_decide_eq_true hc
     exact ⟨x,List.mem_cons_self ..,low_line hn this (by omega)⟩
    | u :: r,hc,ih,hpc,hx'=>
     have hc':(decide (x.1 ≤ s.1) || decide ((x.1 - s.1) * (u.2 - s.2) ≤ (s.1 - u.1) * (s.2 - x.2)))=true:=hc
     rw [Bool.or_eq_true] at hc'
     have hsu:=hpc.1 u (List.mem_cons_self ..)
     rcases hc' with h | h
     · exact ⟨x,List.mem_cons_self ..,low_line hn (of_decide_eq_true h) (by omega)⟩
     ·
      rcases covered_low (n:=n) (by omega) hsu.1 (of_decide_eq_true h) with h | h
      · exact ⟨x,List.mem_cons_self ..,h⟩
      ·
       obtain ⟨s',h1,h2⟩:=ih hpc.2 hx' u (List.mem_cons_self ..)
       exact ⟨s',h1,Int.le_trans h2 h⟩
   · exact ih hpc.2 hx' s hs
  · exact ⟨s,List.mem_cons_of_mem _ hs,Int.le_refl _⟩
theorem low_dom {n:Int} (hn:0 ≤ n) (l:List (Int × Int)):∀ T,StackOk T → (∀ x,x ∈ l → Behind x T) → l.Pairwise (fun a b=>b.2 < a.2 ∨ (b.2=a.2 ∧ b.1 ≤ a.1)) → ∀ s,s ∈ T ∨ s ∈ l → ∃ s',s' ∈ lowT T l ∧ high n s' ≤ high n s:=by
 induction l with
 | nil=>intro T _ _ _ s hs;rcases hs with hs | hs;exact ⟨s,hs,Int.le_refl _⟩;cases hs
 | cons x r ih=>
  intro T hT hb hs s hsm
  have hpc:=List.pairwise_cons.1 hs
  have hx:=hb x (List.mem_cons_self ..)
  have h:=ih (x :: popT x T) (stack_push hT hx) (fun y hy s hs'=>by
   rcases List.mem_cons.1 hs' with rfl | hs'
   · exact hpc.1 y hy
   · exact hb y (List.mem_cons_of_mem _ hy) s (popT_sub x T s hs')) hpc.2
  rcases hsm with hsm | hsm
  ·
   obtain ⟨s1,h1,h2⟩:=pop_dom hn T hT hx s hsm
   obtain ⟨s2,h3,h4⟩:=h s1 (.inl h1)
   exact ⟨s2,h3,Int.le_trans h4 h2⟩
  ·
   rcases List.mem_cons.1 hsm with rfl | hsm
   · exact h s (.inl (List.mem_cons_self ..))
   · exact h s (.inr hsm)
theorem dom_sorted {n:Int} (hn:0 ≤ n) {l:List (Int × Int)} (h:SortedL l) (s:Int × Int) (hs:s ∈ l):∃ s',s' ∈ lowT [] l ∧ high n s' ≤ high n s:=
 low_dom hn l [] List.Pairwise.nil (fun _ _ s hs=>by cases hs) (sorted_pairwise h) s (.inr hs)
theorem low_nonempty {l:List (Int × Int)} (h:SortedL l) (h1:1 ≤ l.length):1 ≤ (lowT [] l).length:=by
 cases l with
 | nil=>simp at h1
 | cons s r=>
  obtain ⟨s',hs',_⟩:=dom_sorted (n:=0) (Int.le_refl _) h s (List.mem_cons_self ..)
  exact List.length_pos_of_mem hs'
theorem pop_keeps {a x:Int × Int} {L:List (Int × Int)} (ha:SomeOf a L) (hx:x ∈ L) (T:List (Int × Int)):StackOk T → Behind x T → (∀ s,s ∈ T → s ∈ L) → a ∈ T → a ∈ x :: popT x T:=by
 induction T with
 | nil=>intro _ _ _ h;cases h
 | cons t r ih=>
  intro hT hb hs h
  have hpc:=List.pairwise_cons.1 hT
  unfold popT
  split
  ·
   next hc=>
   rcases List.mem_cons.1 h with rfl | h
   ·
    by_cases hne:x=a
    · rw [hne];exact List.mem_cons_self ..
    ·
     exfalso
     rcases hb a (List.mem_cons_self ..) with h2 | ⟨h2,h1⟩
     ·
      have h1:=ha.flat x hx h2
      match r,hc,hpc,hs with
      | [],hc,_,_=>have:=of_decide_eq_true hc;omega
      | u :: r,hc,hpc,hs=>
       have hc':(decide (x.1 ≤ a.1) || decide ((x.1 - a.1) * (u.2 - a.2) ≤ (a.1 - u.1) * (a.2 - x.2)))=true:=hc
       rw [Bool.or_eq_true] at hc'
       rcases hc' with h | h
       · have:=of_decide_eq_true h;omega
       ·
        have h:=of_decide_eq_true h
        have:=ha.both u (hs u (by simp)) x hx (hpc.1 u (List.mem_cons_self ..)).1 h2
        omega
     ·
      have:=ha.same x hx h2 hne
      omega
   · exact ih hpc.2 (fun y hy=>hb y (List.mem_cons_of_mem _ hy)) (fun y hy=>hs y (List.mem_cons_of_mem _ hy)) h
  · exact List.mem_cons_of_mem _ h
theorem low_keeps {a:Int × Int} {L:List (Int × Int)} (ha:SomeOf a L) (l:List (Int × Int)):∀ T,StackOk T → (∀ x,x ∈ l → Behind x T) → l.Pairwise (fun a b=>b.2 < a.2 ∨ (b.2=a.2 ∧ b.1 ≤ a.1)) → (∀ s,s ∈ T → s ∈ L) → (∀ s,s ∈ l → s ∈ L) → a ∈ T ∨ a ∈ l → a ∈ lowT T l:=by
 induction l with
 | nil=>intro T _ _ _ _ _ h;rcases h with h | h;exact h;cases h
 | cons x r ih=>
  intro T hT hb hs hTL hlL h
  have hpc:=List.pairwise_cons.1 hs
  have hx:=hb x (List.mem_cons_self ..)
  have hxL:=hlL x (List.mem_cons_self ..)
  refine ih (x :: popT x T) (stack_push hT hx) (fun y hy s hs'=>?_) hpc.2 (fun s hs'=>?_) (fun s hs'=>hlL s (List.mem_cons_of_mem _ hs')) ?_
  ·
   rcases List.mem_cons.1 hs' with rfl | hs'
   · exact hpc.1 y hy
   · exact hb y (List.mem_cons_of_mem _ hy) s (popT_sub x T s hs')
  ·
   rcases List.mem_cons.1 hs' with rfl | hs'
   · exact hxL
   · exact hTL s (popT_sub x T s hs')
  ·
   rcases h with h | h
   · exact .inl (pop_keeps ha hxL T hT hx hTL h)
   ·
    rcases List.mem_cons.1 h with rfl | h
    · exact .inl (List.mem_cons_self ..)
    · exact .inr h
def hgt (n d:Int) (p:Int × Int):Int:=d * p.1+n * p.2
theorem fwd {p q n1 d1 n2 d2:Int} (hd1:0 < d1) (hd2:0 < d2) (hq:0 ≤ q * (n2 * d1 - n1 * d2)) (h:0 ≤ d1 * p+n1 * q):0 ≤ d2 * p+n2 * q:=by
 have h1:0 ≤ d2 * (d1 * p+n1 * q):=Int.mul_nonneg (Int.le_of_lt hd2) h
 have h2:d1 * (d2 * p+n2 * q)=d2 * (d1 * p+n1 * q)+q * (n2 * d1 - n1 * d2):=by simp only [Int.mul_add,Int.mul_sub,Int.mul_comm,Int.mul_left_comm];omega
 have h3:0 ≤ d1 * (d2 * p+n2 * q):=by omega
 exact Int.nonneg_of_mul_nonneg_right h3 hd1
theorem hgt_up {a b:Int × Int} {n1 d1 n2 d2:Int} (hd1:0 < d1) (hd2:0 < d2) (hq:a.2 ≤ b.2) (ht:n1 * d2 ≤ n2 * d1) (h:hgt n1 d1 a ≤ hgt n1 d1 b):hgt n2 d2 a ≤ hgt n2 d2 b:=by
 unfold hgt at *
 have:=fwd (p:=b.1 - a.1) (q:=b.2 - a.2) (n1:=n1) (d1:=d1) (n2:=n2) (d2:=d2) hd1 hd2 (Int.mul_nonneg (by omega) (by omega)) (by simp only [Int.mul_sub];omega)
 simp only [Int.mul_sub] at this
 omega
theorem hgt_down {a b:Int × Int} {n1 d1 n2 d2:Int} (hd1:0 < d1) (hd2:0 < d2) (hq:b.2 ≤ a.2) (ht:n2 * d1 ≤ n1 * d2) (h:hgt n1 d1 a ≤ hgt n1 d1 b):hgt n2 d2 a ≤ hgt n2 d2 b:=by
 unfold hgt at *
 have:=fwd (p:=b.1 - a.1) (q:=b.2 - a.2) (n1:=n1) (d1:=d1) (n2:=n2) (d2:=d2) hd1 hd2 (by
  have:0 ≤ (a.2 - b.2) * (n1 * d2 - n2 * d1):=Int.mul_nonneg (by omega) (by omega)
  have e:(b.2 - a.2) * (n2 * d1 - n1 * d2)=(a.2 - b.2) * (n1 * d2 - n2 * d1):=by simp only [Int.mul_sub,Int.mul_comm,Int.mul_left_comm];omega
  omega) (by simp only [Int.mul_sub];omega)
 simp only [Int.mul_sub] at this
 omega
def loN:List (Int × Int) → Int
 | t :: u :: _=>t.1 - u.1
 | _=>0
def loD:List (Int × Int) → Int
 | t :: u :: _=>u.2 - t.2
 | _=>1
theorem lo_bd {T:List (Int × Int)} (h:StackOk T):0 ≤ loN T ∧ 0 < loD T:=by
 match T,h with
 | [],_=>exact ⟨Int.le_refl _,Int.one_pos⟩
 | [_],_=>exact ⟨Int.le_refl _,Int.one_pos⟩
 | t :: u :: r,h=>
  have:=(List.pairwise_cons.1 h).1 u (List.mem_cons_self ..)
  show 0 ≤ t.1 - u.1 ∧ 0 < u.2 - t.2
  omega
theorem lo_meet (t u:Int × Int) (r:List (Int × Int)):hgt (loN (t :: u :: r)) (loD (t :: u :: r)) t=hgt (loN (t :: u :: r)) (loD (t :: u :: r)) u:=by
 simp only [hgt,loN,loD,Int.mul_sub,Int.mul_comm];omega
theorem cov_lo {x t:Int × Int} {r:List (Int × Int)} (hT:StackOk (t :: r)) (hx:x.2 ≤ t.2):coveredT x (t :: r)=true ↔ hgt (loN (t :: r)) (loD (t :: r)) x ≤ hgt (loN (t :: r)) (loD (t :: r)) t:=by
 match r,hT with
 | [],_=>
  show decide (x.1 ≤ t.1)=true ↔ 1 * x.1+0 * x.2 ≤ 1 * t.1+0 * t.2
  rw [decide_eq_true_iff];omega
 | u :: r,hT=>
  have hu:=(List.pairwise_cons.1 hT).1 u (List.mem_cons_self ..)
  show (decide (x.1 ≤ t.1) || decide ((x.1 - t.1) * (u.2 - t.2) ≤ (t.1 - u.1) * (t.2 - x.2)))=true ↔ (u.2 - t.2) * x.1+(t.1 - u.1) * x.2 ≤ (u.2 - t.2) * t.1+(t.1 - u.1) * t.2
  have e:(t.1 - u.1) * (t.2 - x.2) - (x.1 - t.1) * (u.2 - t.2)=((u.2 - t.2) * t.1+(t.1 - u.1) * t.2) - ((u.2 - t.2) * x.1+(t.1 - u.1) * x.2):=by simp only [Int.mul_sub,Int.mul_comm];omega
  rw [Bool.or_eq_true,decide_eq_true_iff,decide_eq_true_iff]
  constructor
  ·
   rintro (h | h)
   ·
    have h1:=Int.mul_le_mul_of_nonneg_left h (show 0 ≤ u.2 - t.2 by omega)
    have h2:=Int.mul_le_mul_of_nonneg_left hx (show 0 ≤ t.1 - u.1 by omega)
    omega
   · omega
  · intro h;exact .inr (by omega)
def LoOk (P:List (Int × Int)):List (Int × Int) → Prop
 | []=>True
 | t :: r=>(∀ b,b ∈ P → hgt (loN (t :: r)) (loD (t :: r)) t ≤ hgt (loN (t :: r)) (loD (t :: r)) b) ∧ (∀ u r',r=u :: r' → hgt (loN r) (loD r) u < hgt (loN r) (loD r) t) ∧ LoOk P r
def TopOk (P:List (Int × Int)) (x z:Int × Int):Prop:=(∀ b,b ∈ P → z.2 ≤ b.2) ∨ ∃ n d:Int,0 < d ∧ (∀ b,b ∈ P → hgt n d z ≤ hgt n d b) ∧ hgt n d x ≤ hgt n d z
theorem meet_later {x z:Int × Int} {n d:Int} (h:hgt n d z < hgt n d x):n * (z.2 - x.2) < (x.1 - z.1) * d:=by
 unfold hgt at h
 have e:(x.1 - z.1) * d - n * (z.2 - x.2)=(d * x.1+n * x.2) - (d * z.1+n * z.2):=by simp only [Int.mul_sub,Int.mul_comm];omega
 omega
theorem meet_later' {x z:Int × Int} {n d:Int} (h:hgt n d z ≤ hgt n d x):n * (z.2 - x.2) ≤ (x.1 - z.1) * d:=by
 unfold hgt at h
 have e:(x.1 - z.1) * d - n * (z.2 - x.2)=(d * x.1+n * x.2) - (d * z.1+n * z.2):=by simp only [Int.mul_sub,Int.mul_comm];omega
 omega
theorem meet_sooner {x z:Int × Int} {n d:Int} (h:hgt n d x ≤ hgt n d z):(x.1 - z.1) * d ≤ n * (z.2 - x.2):=by
 unfold hgt at h
 have e:(x.1 - z.1) * d - n * (z.2 - x.2)=(d * x.1+n * x.2) - (d * z.1+n * z.2):=by simp only [Int.mul_sub,Int.mul_comm];omega
 omega
theorem pop_lo {P:List (Int × Int)} {x:Int × Int} (r:List (Int × Int)):∀ z,StackOk (z :: r) → LoOk P (z :: r) → Behind x (z :: r) → TopOk P x z →
  LoOk P (popT x (z :: r)) ∧ (∀ b,b ∈ P → hgt (loN (x :: popT x (z :: r))) (loD (x :: popT x (z :: r))) x ≤ hgt (loN (x :: popT x (z :: r))) (loD (x :: popT x (z :: r))) b) ∧
   (∀ u r',popT x (z :: r)=u :: r' → x.2 ≤ u.2 ∧ hgt (loN (u :: r')) (loD (u :: r')) u < hgt (loN (u :: r')) (loD (u :: r')) x):=by
 induction r with
 | nil=>
  intro z hT hL hb ht
  have hxz:x.2 ≤ z.2:=by have:=hb z (List.mem_cons_self ..);omega
  have hcv:=cov_lo hT hxz
  by_cases hc:coveredT x [z]=true
  ·
   have e:popT x [z]=[]:=by unfold popT;rw [if_pos hc];rfl
   rw [e]
   refine ⟨trivial,fun b hb'=>?_,fun u r' h=>by cases h⟩
   have h1:=hL.1 b hb'
   have h2:=hcv.1 hc
   show 1 * x.1+0 * x.2 ≤ 1 * b.1+0 * b.2
   have h1':1 * z.1+0 * z.2 ≤ 1 * b.1+0 * b.2:=h1
   have h2':1 * x.1+0 * x.2 ≤ 1 * z.1+0 * z.2:=h2
   omega
  ·
   have e:popT x [z]=[z]:=by unfold popT;rw [if_neg hc]
   rw [e]
   have hlt:hgt (loN [z]) (loD [z]) z < hgt (loN [z]) (loD [z]) x:=by
    rcases Int.lt_or_le (hgt (loN [z]) (loD [z]) z) (hgt (loN [z]) (loD [z]) x) with h | h
    · exact h
    · exact absurd (hcv.2 h) hc
   have hlt':1 * z.1+0 * z.2 < 1 * x.1+0 * x.2:=hlt
   have hxz':x.2 < z.2:=by have:=hb z (List.mem_cons_self ..);omega
   refine ⟨hL,fun b hb'=>?_,fun u r' h=>by cases h;exact ⟨hxz,hlt⟩⟩
   rw [lo_meet x z []]
   show hgt (x.1 - z.1) (z.2 - x.2) z ≤ hgt (x.1 - z.1) (z.2 - x.2) b
   rcases Int.le_total z.2 b.2 with hq | hq
   · exact hgt_up (n1:=0) (d1:=1) (by decide) (by omega) hq (by omega) (hL.1 b hb')
   ·
    rcases ht with ht | ⟨n,d,hd,h1,h2⟩
    · exact hgt_up (n1:=0) (d1:=1) (by decide) (by omega) (ht b hb') (by omega) (hL.1 b hb')
    · exact hgt_down hd (by omega) hq (meet_sooner h2) (h1 b hb')
 | cons u r ih=>
  intro z hT hL hb ht
  have hxz:x.2 ≤ z.2:=by have:=hb z (List.mem_cons_self ..);omega
  have hcv:=cov_lo hT hxz
  have hlo:=lo_bd hT
  have hpc:=List.pairwise_cons.1 hT
  by_cases hc:coveredT x (z :: u :: r)=true
  ·
   have e:popT x (z :: u :: r)=popT x (u :: r):=by rw [popT.eq_def];simp only [];rw [if_pos hc]
   rw [e]
   refine ih u hpc.2 hL.2.2 (fun y hy=>hb y (List.mem_cons_of_mem _ hy)) (.inr ⟨loN (z :: u :: r),loD (z :: u :: r),hlo.2,fun b hb'=>?_,?_⟩)
   · rw [← lo_meet];exact hL.1 b hb'
   · rw [← lo_meet];exact hcv.1 hc
  ·
   have e:popT x (z :: u :: r)=z :: u :: r:=by rw [popT.eq_def];simp only [];rw [if_neg hc]
   rw [e]
   have hlt:hgt (loN (z :: u :: r)) (loD (z :: u :: r)) z < hgt (loN (z :: u :: r)) (loD (z :: u :: r)) x:=by
    rcases Int.lt_or_le (hgt (loN (z :: u :: r)) (loD (z :: u :: r)) z) (hgt (loN (z :: u :: r)) (loD (z :: u :: r)) x) with h | h
    · exact h
    · exact absurd (hcv.2 h) hc
   have hz1:z.1 < x.1:=covered_first (by simpa using hc)
   have hxz':x.2 < z.2:=by have:=hb z (List.mem_cons_self ..);omega
   refine ⟨hL,fun b hb'=>?_,fun u r' h=>by cases h;exact ⟨hxz,hlt⟩⟩
   rw [lo_meet x z (u :: r)]
   show hgt (x.1 - z.1) (z.2 - x.2) z ≤ hgt (x.1 - z.1) (z.2 - x.2) b
   have hml:=meet_later hlt
   rcases Int.le_total z.2 b.2 with hq | hq
   · exact hgt_up hlo.2 (by omega) hq (Int.le_of_lt hml) (hL.1 b hb')
   ·
    rcases ht with ht | ⟨n,d,hd,h1,h2⟩
    · exact hgt_up hlo.2 (by omega) (ht b hb') (Int.le_of_lt hml) (hL.1 b hb')
    · exact hgt_down hd (by omega) hq (meet_sooner h2) (h1 b hb')
theorem lo_more {P:List (Int × Int)} {x:Int × Int} (r:List (Int × Int)):∀ t,StackOk (t :: r) → LoOk P (t :: r) → (∀ s,s ∈ t :: r → s ∈ P) → x.2 ≤ t.2 → hgt (loN (t :: r)) (loD (t :: r)) t ≤ hgt (loN (t :: r)) (loD (t :: r)) x → LoOk (P ++ [x]) (t :: r):=by
 induction r with
 | nil=>
  intro t hT hL hs hx h
  refine ⟨fun b hb=>?_,hL.2.1,trivial⟩
  rcases List.mem_append.1 hb with hb | hb
  · exact hL.1 b hb
  · rw [List.mem_singleton.1 hb];exact h
 | cons u r ih=>
  intro t hT hL hs hx h
  have hpc:=List.pairwise_cons.1 hT
  have htu:=hpc.1 u (List.mem_cons_self ..)
  refine ⟨fun b hb=>?_,hL.2.1,ih u hpc.2 hL.2.2 (fun s hs'=>hs s (List.mem_cons_of_mem _ hs')) (by omega) ?_⟩
  ·
   rcases List.mem_append.1 hb with hb | hb
   · exact hL.1 b hb
   · rw [List.mem_singleton.1 hb];exact h
  ·
   have hut:=hL.2.2.1 t (hs t (List.mem_cons_self ..))
   have hl1:=lo_bd hT
   have hl2:=lo_bd hpc.2
   have hm:=meet_later' hut
   have h2:hgt (loN (u :: r)) (loD (u :: r)) t ≤ hgt (loN (u :: r)) (loD (u :: r)) x:=hgt_down hl1.2 hl2.2 hx hm h
   omega
theorem low_lo (l:List (Int × Int)):∀ T P,StackOk T → LoOk P T → (∀ s,s ∈ T → s ∈ P) → (T=[] → P=[]) → (∀ z r,T=z :: r → ∀ b,b ∈ P → z.2 ≤ b.2) → (∀ x,x ∈ l → Behind x P) → l.Pairwise (fun a b=>b.2 < a.2 ∨ (b.2=a.2 ∧ b.1 ≤ a.1)) →
  LoOk (P ++ l) (lowT T l) ∧ (∀ z r,lowT T l=z :: r → ∀ b,b ∈ P ++ l → z.2 ≤ b.2):=by
 induction l with
 | nil=>intro T P _ hL _ _ hz _ _;rw [List.append_nil];exact ⟨hL,hz⟩
 | cons x r ih=>
  intro T P hT hL hs hn hz hb hp
  have hpc:=List.pairwise_cons.1 hp
  have hxP:=hb x (List.mem_cons_self ..)
  have hx:Behind x T:=fun s hs'=>hxP s (hs s hs')
  have e:P ++ x :: r=(P ++ [x]) ++ r:=by simp
  rw [e]
  show LoOk ((P ++ [x]) ++ r) (lowT (x :: popT x T) r) ∧ (∀ z r_1,lowT (x :: popT x T) r=z :: r_1 → ∀ b,b ∈ (P ++ [x]) ++ r → z.2 ≤ b.2)
  refine ih (x :: popT x T) (P ++ [x]) (stack_push hT hx) ?_ ?_ (fun h=>by cases h) ?_ ?_ hpc.2
  ·
   match T,hT,hL,hs,hn,hz,hx with
   | [],_,_,_,hn,_,_=>
    rw [hn rfl]
    refine ⟨fun b hb'=>?_,fun u r' h=>(by cases h),trivial⟩
    rw [List.mem_singleton.1 hb']
    exact Int.le_refl _
   | z :: r',hT,hL,hs,hn,hz,hx=>
    obtain ⟨h1,h2,h3⟩:=pop_lo r' z hT hL hx (.inl (hz z r' rfl))
    refine ⟨fun b hb'=>?_,fun u r'' h=>?_,?_⟩
    ·
     rcases List.mem_append.1 hb' with hb' | hb'
     · exact h2 b hb'
     · rw [List.mem_singleton.1 hb'];exact Int.le_refl _
    · rw [h];exact (h3 u r'' h).2
    ·
     rcases hq:popT x (z :: r') with _ | ⟨u,r''⟩
     · trivial
     ·
      have hst:=stack_push hT hx
      rw [hq] at hst h1
      have hu:=h3 u r'' hq
      exact lo_more r'' u (List.pairwise_cons.1 hst).2 h1 (fun s hs'=>hs s (popT_sub x _ s (by rw [hq];exact hs'))) hu.1 (Int.le_of_lt hu.2)
  ·
   intro s hs'
   rcases List.mem_cons.1 hs' with rfl | hs'
   · simp
   · exact List.mem_append.2 (.inl (hs s (popT_sub x T s hs')))
  ·
   intro z r' h b hb'
   injection h with h _
   rw [← h]
   rcases List.mem_append.1 hb' with hb' | hb'
   · have:=hxP b hb';omega
   · rw [List.mem_singleton.1 hb'];exact Int.le_refl _
  ·
   intro y hy b hb'
   rcases List.mem_append.1 hb' with hb' | hb'
   · exact hb y (List.mem_cons_of_mem _ hy) b hb'
   · rw [List.mem_singleton.1 hb'];exact hpc.1 y hy
def Wide (P:List (Int × Int)) (a:Int × Int):Prop:=∃ n1 d1 n2 d2:Int,0 ≤ n1 ∧ 0 < d1 ∧ 0 < d2 ∧ n1 * d2 < n2 * d1 ∧ (∀ b,b ∈ P → hgt n1 d1 a ≤ hgt n1 d1 b) ∧ (∀ b,b ∈ P → hgt n2 d2 a ≤ hgt n2 d2 b)
theorem lo_wide {P:List (Int × Int)} (r:List (Int × Int)):∀ z,StackOk (z :: r) → LoOk P (z :: r) → ((∀ b,b ∈ P → z.2 ≤ b.2) ∨ ∃ n d:Int,0 < d ∧ loN (z :: r) * d < n * loD (z :: r) ∧ (∀ b,b ∈ P → hgt n d z ≤ hgt n d b)) → ∀ a,a ∈ z :: r → Wide P a:=by
 have top:∀ (z:Int × Int) (r:List (Int × Int)),StackOk (z :: r) → LoOk P (z :: r) → ((∀ b,b ∈ P → z.2 ≤ b.2) ∨ ∃ n d:Int,0 < d ∧ loN (z :: r) * d < n * loD (z :: r) ∧ (∀ b,b ∈ P → hgt n d z ≤ hgt n d b)) → Wide P z:=by
  intro z r hT hL ht
  have hlo:=lo_bd hT
  rcases ht with ht | ⟨n,d,hd,hlt,h⟩
  ·
   have hlt:loN (z :: r) * loD (z :: r) < (loN (z :: r)+loD (z :: r)) * loD (z :: r):=Int.mul_lt_mul_of_pos_right (by omega) hlo.2
   exact ⟨loN (z :: r),loD (z :: r),loN (z :: r)+loD (z :: r),loD (z :: r),hlo.1,hlo.2,hlo.2,hlt,hL.1,fun b hb=>hgt_up hlo.2 hlo.2 (ht b hb) (Int.le_of_lt hlt) (hL.1 b hb)⟩
  · exact ⟨loN (z :: r),loD (z :: r),n,d,hlo.1,hlo.2,hd,hlt,hL.1,h⟩
 induction r with
 | nil=>
  intro z hT hL ht a ha
  rcases List.mem_cons.1 ha with rfl | ha
  · exact top a [] hT hL ht
  · cases ha
 | cons u r ih=>
  intro z hT hL ht a ha
  have hlo:=lo_bd hT
  have hpc:=List.pairwise_cons.1 hT
  rcases List.mem_cons.1 ha with rfl | ha
  · exact top a (u :: r) hT hL ht
  ·
   refine ih u hpc.2 hL.2.2 (.inr ⟨loN (z :: u :: r),loD (z :: u :: r),hlo.2,?_,fun b hb=>?_⟩) a ha
   · exact meet_later (hL.2.1 u r rfl)
   · rw [← lo_meet];exact hL.1 b hb
theorem wide_some {P:List (Int × Int)} {a:Int × Int} (h:Wide P a):SomeOf a P:=by
 obtain ⟨n1,d1,n2,d2,h0,hd1,hd2,hlt,h1,h2⟩:=h
 have hn2:0 < n2:=by
  have h3:0 ≤ n1 * d2:=Int.mul_nonneg h0 (Int.le_of_lt hd2)
  have h4:0 < n2 * d1:=by omega
  exact Int.pos_of_mul_pos_left h4 hd1
 have hflat:∀ c,c ∈ P → c.2 < a.2 → 0 < d2 * (c.1 - a.1) ∧ n2 * (a.2 - c.2) ≤ d2 * (c.1 - a.1):=by
  intro c hc hl
  have:=h2 c hc
  unfold hgt at this
  have h5:0 < n2 * (a.2 - c.2):=Int.mul_pos hn2 (by omega)
  simp only [Int.mul_sub] at *
  omega
 refine ⟨fun b hb he hne=>?_,fun c hc hl=>?_,fun b hb c hc hab hca=>?_⟩
 ·
  have:=h1 b hb
  unfold hgt at this
  rw [he] at this
  have h5:a.1 ≤ b.1:=Int.le_of_mul_le_mul_left (by omega) hd1
  have:a.1 ≠ b.1:=fun e=>hne (Prod.ext e.symm he)
  omega
 ·
  have:=Int.pos_of_mul_pos_right (hflat c hc hl).1 hd2
  omega
 ·
  have hc':=(hflat c hc hca).2
  have hb':d1 * (a.1 - b.1) ≤ n1 * (b.2 - a.2):=by
   have:=h1 b hb
   unfold hgt at this
   simp only [Int.mul_sub];omega
  have hX:0 < b.2 - a.2:=by omega
  have hY:0 < a.2 - c.2:=by omega
  generalize b.2 - a.2=X at *
  generalize a.2 - c.2=Y at *
  generalize a.1 - b.1=A at *
  generalize c.1 - a.1=C at *
  have s1:(d2 * Y) * (d1 * A) ≤ (d2 * Y) * (n1 * X):=Int.mul_le_mul_of_nonneg_left hb' (Int.le_of_lt (Int.mul_pos hd2 hY))
  have s2:(X * Y) * (n1 * d2) < (X * Y) * (n2 * d1):=Int.mul_lt_mul_of_pos_left hlt (Int.mul_pos hX hY)
  have s3:(d1 * X) * (n2 * Y) ≤ (d1 * X) * (d2 * C):=Int.mul_le_mul_of_nonneg_left hc' (Int.le_of_lt (Int.mul_pos hd1 hX))
  have e1:(d2 * Y) * (d1 * A)=(d1 * d2) * (A * Y):=by simp only [Int.mul_comm,Int.mul_left_comm]
  have e2:(d2 * Y) * (n1 * X)=(X * Y) * (n1 * d2):=by simp only [Int.mul_comm,Int.mul_left_comm]
  have e3:(X * Y) * (n2 * d1)=(d1 * X) * (n2 * Y):=by simp only [Int.mul_comm,Int.mul_left_comm]
  have e4:(d1 * X) * (d2 * C)=(d1 * d2) * (C * X):=by simp only [Int.mul_comm,Int.mul_left_comm]
  exact Int.lt_of_mul_lt_mul_left (show (d1 * d2) * (A * Y) < (d1 * d2) * (C * X) by omega) (Int.le_of_lt (Int.mul_pos hd1 hd2))
theorem some_perm {a:Int × Int} {l ls:List (Int × Int)} (hp:l.Perm ls) (h:SomeOf a l):SomeOf a ls:=
 ⟨fun b hb=>h.same b (hp.mem_iff.2 hb),fun c hc=>h.flat c (hp.mem_iff.2 hc),fun b hb c hc=>h.both b (hp.mem_iff.2 hb) c (hp.mem_iff.2 hc)⟩
theorem mem_low {l ls:List (Int × Int)} (hp:l.Perm ls) (h:SortedL l) (a:Int × Int):a ∈ lowT [] l ↔ a ∈ ls ∧ SomeOf a ls:=by
 have hs:=sorted_pairwise h
 have hst:=stack_of_sorted h
 constructor
 ·
  intro ha
  have hm:a ∈ l:=by
   rcases lowT_sub l [] a ha with h' | h'
   · cases h'
   · exact h'
  refine ⟨hp.mem_iff.1 hm,some_perm hp ?_⟩
  have:=low_lo l [] [] List.Pairwise.nil trivial (fun _ h=>h) (fun _=>rfl) (fun _ _ h=>by cases h) (fun _ _ s hs=>by cases hs) hs
  rw [List.nil_append] at this
  rcases hq:lowT [] l with _ | ⟨z,r⟩
  · rw [hq] at ha;cases ha
  ·
   rw [hq] at ha hst this
   exact wide_some (lo_wide r z hst this.1 (.inl (this.2 z r rfl)) a ha)
 ·
  rintro ⟨hm,ha⟩
  exact low_keeps (some_perm hp.symm ha) l [] List.Pairwise.nil (fun _ _ s hs=>by cases hs) hs (fun _ h=>by cases h) (fun _ h=>h) (.inr (hp.mem_iff.2 hm))
theorem low_falls {l:List (Int × Int)} (h:SortedL l):Falls (lowT [] l).reverse:=by
 have hs:=stack_of_sorted h
 unfold Falls
 unfold StackOk at hs
 rw [List.pairwise_reverse]
 rw [List.pairwise_iff_getElem] at hs ⊢
 exact fun i j hi hj hij=>(hs i j hi hj hij).1
theorem kept_low {L R l:List (Int × Int)} (h:KeptTo L L.length R) (hp:l.Perm L) (hs:SortedL l):R=(lowT [] l).reverse:=by
 refine falls_same h.falls (low_falls hs) fun a=>?_
 rw [h.mem a,List.mem_reverse,mem_low hp hs]
 constructor
 · rintro ⟨h1,k,_,e⟩;exact ⟨List.mem_of_getElem? e,h1⟩
 ·
  rintro ⟨h1,h2⟩
  obtain ⟨k,hk⟩:=List.mem_iff_getElem?.1 h1
  exact ⟨h2,k,(List.getElem?_eq_some_iff.1 hk).1,hk⟩
end Go.Proofs.YtipdclphpkgceaaGreatDoor

namespace Go.Proofs.YtipdclphpkgceaaGreatDoor
open Go.RowKit
def TidyIs (P L:List (Int × Int)):Prop:=∃ l,l.Perm P ∧ SortedL l ∧ L=(lowT [] l).reverse
theorem kept_tidy {P L R:List (Int × Int)} (h:KeptTo P P.length R) (ht:TidyIs P L):R=L:=by
 obtain ⟨l,hp,hs,rfl⟩:=ht
 exact kept_low h hp hs
def SumRel (la lb:List (Int × Int)) (code:Int) (L:List (Int × Int)):Prop:=
 (¬ okAll (eachL la lb) ∧ code=2 ∧ L=[]) ∨
 (okAll (eachL la lb) ∧ ∃ R,TidyIs (eachL la lb) R ∧ ((6 < R.length ∧ code=3 ∧ L=[]) ∨ (R.length ≤ 6 ∧ code=0 ∧ L=R)))
theorem sumRel_num {la lb L:List (Int × Int)} {code:Int} (h:SumRel la lb code L):code=2 ∨ code=3 ∨ code=0:=by
 rcases h with ⟨-,h,-⟩ | ⟨-,R,-,⟨-,h,-⟩ | ⟨-,h,-⟩⟩
 · exact .inl h
 · exact .inr (.inl h)
 · exact .inr (.inr h)
theorem sumOf_is {la lb L:List (Int × Int)} {code:Int} {w w':World} {e:Ending} (h:SumOfIs la lb w w' e) (hr:SumRel la lb code L):∃ v,e=.returned (.tuple #[v,.int .i64 code]) ∧ OwnL w' w.heap.size v L ∧ Below w.heap.size w w':=by
 obtain ⟨hb,⟨hn,rfl⟩ | ⟨hok,R,hk,h⟩⟩:=h
 ·
  rcases hr with ⟨-,rfl,rfl⟩ | ⟨h,-⟩
  · exact ⟨_,rfl,World.ownsRow_nil _ _ _ _,hb⟩
  · exact absurd h hn
 ·
  rcases hr with ⟨h,-⟩ | ⟨-,R',ht,h'⟩
  · exact absurd hok h
  ·
   obtain rfl:=kept_tidy hk ht
   rcases h with ⟨h6,rfl⟩ | ⟨h6,v,rfl,ho⟩
   ·
    rcases h' with ⟨-,rfl,rfl⟩ | ⟨h6',-⟩
    · exact ⟨_,rfl,World.ownsRow_nil _ _ _ _,hb⟩
    · omega
   ·
    rcases h' with ⟨h6',-⟩ | ⟨-,rfl,rfl⟩
    · omega
    · exact ⟨v,rfl,ho,hb⟩
def CurvesUpTo (cs:List (List (Int × Int))) (j:Nat):Prop:=j ≤ 8 ∧ (∀ i,i < j → curveFl cs i ≠ []) ∧ (j=8 ∨ curveFl cs j=[])
section
end
end Go.Proofs.YtipdclphpkgceaaGreatDoor
