/- Own facts, put together: no statement of its own. -/
import Derived.Test.YtipdclphpkgceaaGreatDoorS17
import Derived.Test.YtipdclphpkgceaaGreatDoorS08
import Derived.Test.YtipdclphpkgceaaGreatDoorS09
import Derived.Test.YtipdclphpkgceaaGreatDoorS05
import Derived.BigQuiet
import Derived.Test.YtipdclphpkgceaaGreatDoorS01
set_option maxHeartbeats 2000000

namespace Go.Proofs.YtipdclphpkgceaaGreatDoor
open Go.RowKit
theorem weight_yes (x:Int) (w:World) (h:isWt x):Calls Tryz.prog 207 #[.int .i64 x] w fun e w'=>e=.returned (.bool true) ∧ w'=w:=by
 obtain ⟨h1,h2⟩:=h
 have h3:(12 % x == 0)=true:=by simpa using h2
 clear h2
 go_enter Tryz.func207,Tryz.ntmps207
 go_wp2
 go_ret
 exact ⟨rfl,rfl⟩
theorem weight_no (x:Int) (w:World) (h:¬ isWt x):Calls Tryz.prog 207 #[.int .i64 x] w fun e w'=>e=.returned (.bool false) ∧ w'=w:=by
 by_cases h1:1 ≤ x
 ·
  have h4:(12 % x == 0)=false:=by simpa using fun h2=>h ⟨h1,h2⟩
  clear h
  go_enter Tryz.func207,Tryz.ntmps207
  go_wp2
  go_ret
  exact ⟨rfl,rfl⟩
 ·
  clear h
  go_enter Tryz.func207,Tryz.ntmps207
  go_wp2
  go_ret
  exact ⟨rfl,rfl⟩
theorem checkWeights_to (a:Option Addr) (cap:Nat) (ns:List Int) (w:World) (ad:Nat → Addr) (hl:LiesN w a ns) (h8:ns.length=8) (j:Nat) (hj:j ≤ 8) (hg:∀ (i:Nat) y,i < j → ns[i]? = some y → isWt y) (R:Value)
  (h:(j=8 ∧ R=.nilIface) ∨ (R=.iface 312 (.pointer (some (ad 1))) ∧ w.cell? ⟨0,0,none⟩=some (.iface 312 (.pointer (some (ad 1)))) ∧ ∃ x,ns[j]? = some x ∧ ¬ isWt x)) :
  Calls Tryz.prog 175 #[.slice a 8 cap,.func (.func 207) #[] #[]] w fun e w'=>e=.returned R ∧ w'=w:=by
 have HG:Hid (∀ (i:Nat) y,i < j → ns[i]? = some y → isWt y):=hg
 have HR:Hid ((j=8 ∧ R=.nilIface) ∨ (R=.iface 312 (.pointer (some (ad 1))) ∧ w.cell? ⟨0,0,none⟩=some (.iface 312 (.pointer (some (ad 1)))) ∧ ∃ x,ns[j]? = some x ∧ ¬ isWt x)):=h
 obtain ⟨b,off,rfl,-,hcell⟩:=hl.place (by omega)
 have HC:Hid (∀ (i:Nat) x,ns[i]? = some x → w.cell? ⟨b,off+i,none⟩=some (.int .i64 x)):=hcell
 have H8:Hid (ns.length=8):=h8
 clear hg h hl hcell h8
 go_enter Tryz.func175,Tryz.ntmps175
 go_wp2_with fail
 go_loopw [13] (fun i wr=>∃ k:Nat,k ≤ j ∧ i=.int .i64 k ∧ wr=w) (fun i _=>8 - (intOf i).toNat)
 case atStart=>exact ⟨0,Nat.zero_le _,rfl,rfl⟩
 case round=>
  obtain ⟨k,hk,rfl,rfl⟩:=hrel
  by_cases hkj:k < j
  ·
   obtain ⟨x,hx,-⟩:=get_some ns k (by rw [H8.out];omega)
   have hok:=HG.out k x hkj hx
   have c1:=HC.out k x hx
   clear hx
   go_wp2_with fail
   refine (weight_yes x _ hok).mono ?_
   rintro e w1 ⟨rfl,rfl⟩
   go_wp2_with fail
   go_roundw
   case rel=>exact ⟨k+1,by omega,by go_num,trivial⟩
   case measure=>simp [intOf];omega
  ·
   obtain rfl:k=j:=by omega
   rcases HR.out with ⟨rfl,rfl⟩ | ⟨rfl,he,x,hx,hbad⟩
   ·
    go_wp2_with fail
    go_ret
    exact ⟨rfl,rfl⟩
   ·
    have c1:=HC.out k x hx
    have hk8:k < 8:=by
     rw [← H8.out]
     rcases Nat.lt_or_ge k ns.length with h' | h'
     · exact h'
     · simp [List.getElem?_eq_none h'] at hx
    clear hx
    go_wp2_with fail
    refine (weight_no x _ hbad).mono ?_
    rintro e w1 ⟨rfl,rfl⟩
    go_wp2_with fail
    go_ret
    exact ⟨rfl,rfl⟩
theorem checkWeights_ok (a:Option Addr) (cap:Nat) (ns:List Int) (w:World) (hl:LiesN w a ns) (ho:WtsAll ns) :
  Calls Tryz.prog 175 #[.slice a ns.length cap,.func (.func 207) #[] #[]] w fun e w'=>e=.returned .nilIface ∧ w'=w:=by
 rw [ho.len]
 exact checkWeights_to a cap ns w (fun _=>⟨0,0,none⟩) hl ho.len 8 (Nat.le_refl _) (fun i y _ hy=>ho.each i y hy) _ (.inl ⟨rfl,rfl⟩)
theorem checkWeights_bad (a:Option Addr) (cap:Nat) (ns:List Int) (w:World) (ad:Nat → Addr) (he:NumErrs w ad) (hl:LiesN w a ns) (c:Nat) (h:WtsFault ns c) (hc:0 < c) :
  Calls Tryz.prog 175 #[.slice a ns.length cap,.func (.func 207) #[] #[]] w fun e w'=>e=.returned (sentOf ad c) ∧ w'=w:=by
 rcases h with ⟨rfl,h8⟩ | ⟨rfl,j,h8,⟨x,hx,hbad⟩,hg⟩ | ⟨rfl,-⟩
 · exact checkNumbers_shape a ns.length cap _ w ad h8 he.2
 ·
  rw [h8]
  exact checkWeights_to a cap ns w ad hl h8 j (by have:=lt_of_get hx;omega) hg _ (.inr ⟨rfl,he.1,x,hx,hbad⟩)
 · omega
theorem errIs_nums {w:World} {ad:Nat → Addr} (he:Errs9 w ad) {hi:Int} {ns:List Int} {c:Nat} (h:NumsFault 0 hi ns c) (hc:0 < c):∃ ty v,sentOf ad c=.iface ty v ∧ ErrIs w (.iface ty v) c (-1):=by
 rcases h with ⟨rfl,-⟩ | ⟨rfl,-⟩ | ⟨rfl,-⟩
 · exact ⟨_,_,rfl,errIs_sent he 2 (by decide)⟩
 · exact ⟨_,_,rfl,errIs_sent he 1 (by decide)⟩
 · omega
theorem Errs9.nums {w:World} {ad:Nat → Addr} (he:Errs9 w ad):NumErrs w ad:=⟨he.c1,he.c2⟩
theorem errIs_numsB {w:World} {ad:Nat → Addr} (he:Errs9 w ad) {lo hi:Int} {ns:List Int} {c:Nat} (h:NumsFault lo hi ns c) (hc:0 < c):∃ ty v,sentOf ad c=.iface ty v ∧ ErrIs w (.iface ty v) c (-1):=by
 rcases h with ⟨rfl,-⟩ | ⟨rfl,-⟩ | ⟨rfl,-⟩
 · exact ⟨_,_,rfl,errIs_sent he 2 (by decide)⟩
 · exact ⟨_,_,rfl,errIs_sent he 1 (by decide)⟩
 · omega
end Go.Proofs.YtipdclphpkgceaaGreatDoor

namespace Go.Proofs.YtipdclphpkgceaaGreatDoor
def xch (f:Nat → Nat) (i j:Nat):Nat → Nat:=fun k=>if k=i then f j else if k=j then f i else f k
def swr (f:Nat → Nat) (a b n:Nat):Nat → Nat:=fun k=>if a ≤ k ∧ k < a+n then f (k+b - a) else if b ≤ k ∧ k < b+n then f (k+a - b) else f k
def rot (f:Nat → Nat) (a m b:Nat):Nat → Nat:=fun k=>if a ≤ k ∧ k < a+b - m then f (k+m - a) else if a+b - m ≤ k ∧ k < b then f (k+m - b) else f k
theorem swr_none (f:Nat → Nat) (a b:Nat):swr f a b 0=f:=by
 funext k
 unfold swr
 rw [if_neg (by omega),if_neg (by omega)]
theorem swr_succ (f:Nat → Nat) {a b n:Nat} (h:a+n < b):xch (swr f a b n) (a+n) (b+n)=swr f a b (n+1):=by
 funext k
 simp only [xch,swr]
 by_cases h1:k=a+n
 ·
  subst h1
  rw [if_pos rfl,if_neg (by omega),if_neg (by omega),if_pos (by omega)]
  congr 1;omega
 ·
  rw [if_neg h1]
  by_cases h2:k=b+n
  ·
   subst h2
   rw [if_pos rfl,if_neg (by omega),if_neg (by omega),if_neg (by omega),if_pos (by omega)]
   congr 1;omega
  ·
   rw [if_neg h2]
   by_cases h3:a ≤ k ∧ k < a+n
   · rw [if_pos h3,if_pos (by omega)]
   ·
    by_cases h4:b ≤ k ∧ k < b+n
    · rw [if_neg h3,if_pos h4,if_neg (by omega),if_pos (by omega)]
    · rw [if_neg h3,if_neg h4,if_neg (by omega),if_neg (by omega)]
theorem rot_left (f:Nat → Nat) {m i j:Nat} (hij:j < i) (hi:i ≤ m):rot (swr f (m - i) m j) (m - (i - j)) m (m+j)=rot f (m - i) m (m+j):=by
 funext k
 simp only [rot,swr]
 by_cases h1:m - i ≤ k ∧ k < m - i+j
 · rw [if_neg (by omega),if_neg (by omega),if_pos h1,if_pos (by omega)]
 ·
  by_cases h2:m - (i - j) ≤ k ∧ k < m - (i - j)+(m+j) - m
  ·
   rw [if_pos h2,if_neg (by omega),if_pos (by omega),if_neg (by omega),if_pos (by omega)]
   congr 1;omega
  ·
   rw [if_neg h2]
   by_cases h3:m - (i - j)+(m+j) - m ≤ k ∧ k < m+j
   · rw [if_pos h3,if_neg (by omega),if_neg (by omega),if_neg (by omega),if_pos (by omega)]
   · rw [if_neg h3,if_neg (by omega),if_neg (by omega),if_neg (by omega),if_neg (by omega)]
theorem rot_right (f:Nat → Nat) {m i j:Nat} (hij:i < j) (hi:i ≤ m):rot (swr f (m - i) (m+j - i) i) (m - i) m (m+(j - i))=rot f (m - i) m (m+j):=by
 funext k
 simp only [rot,swr]
 by_cases h1:m - i ≤ k ∧ k < m - i+(m+(j - i)) - m
 · rw [if_pos h1,if_neg (by omega),if_neg (by omega),if_pos (by omega)]
 ·
  rw [if_neg h1]
  by_cases h2:m - i+(m+(j - i)) - m ≤ k ∧ k < m+(j - i)
  ·
   rw [if_pos h2,if_pos (by omega),if_pos (by omega)]
   congr 1;omega
  ·
   rw [if_neg h2]
   by_cases h3:m+j - i ≤ k ∧ k < m+j
   ·
    rw [if_neg (by omega),if_pos (by omega),if_neg (by omega),if_pos (by omega)]
    congr 1;omega
   · rw [if_neg (by omega),if_neg (by omega),if_neg (by omega),if_neg (by omega)]
theorem rot_same (f:Nat → Nat) {m i:Nat} (hi:i ≤ m):swr f (m - i) m i=rot f (m - i) m (m+i):=by
 funext k
 simp only [rot,swr]
 by_cases h1:m - i ≤ k ∧ k < m - i+i
 · rw [if_pos h1,if_pos (by omega)]
 ·
  by_cases h2:m ≤ k ∧ k < m+i
  ·
   rw [if_neg h1,if_pos h2,if_neg (by omega),if_pos (by omega)]
   congr 1;omega
  · rw [if_neg h1,if_neg h2,if_neg (by omega),if_neg (by omega)]
theorem rot_none (f:Nat → Nat) (a m:Nat):rot f a m m=f:=by
 funext k
 simp only [rot]
 by_cases h:a ≤ k ∧ k < m
 · rw [if_neg (by omega),if_pos (by omega)];congr 1;omega
 ·
  by_cases h2:a ≤ k ∧ k < a+m - m
  · omega
  · rw [if_neg h2,if_neg (by omega)]
theorem rot_end (f:Nat → Nat) (m b:Nat):rot f m m b=f:=by
 funext k
 simp only [rot]
 by_cases h2:m ≤ k ∧ k < m+b - m
 · rw [if_pos h2];congr 1;omega
 · rw [if_neg h2,if_neg (by omega)]
theorem rot_on (f:Nat → Nat) {a k:Nat} (h:a ≤ k):xch (rot f a (a+1) (k+1)) k (k+1)=rot f a (a+1) (k+1+1):=by
 funext x
 simp only [xch,rot]
 by_cases h1:x=k
 ·
  subst h1
  rw [if_pos rfl,if_neg (by omega),if_neg (by omega),if_pos (by omega)]
  congr 1;omega
 ·
  rw [if_neg h1]
  by_cases h2:x=k+1
  ·
   subst h2
   rw [if_pos rfl,if_neg (by omega),if_pos (by omega),if_neg (by omega),if_pos (by omega)]
   congr 1;omega
  ·
   rw [if_neg h2]
   by_cases h3:a ≤ x ∧ x < k
   · rw [if_pos (by omega),if_pos (by omega)]
   · rw [if_neg (by omega),if_neg (by omega),if_neg (by omega),if_neg (by omega)]
theorem rot_back (f:Nat → Nat) {k m:Nat} (h:k < m):xch (rot f (k+1) m (m+1)) (k+1) k=rot f k m (m+1):=by
 funext x
 simp only [xch,rot]
 by_cases h1:x=k+1
 ·
  subst h1
  rw [if_pos rfl,if_neg (by omega),if_neg (by omega),if_neg (by omega),if_pos (by omega)]
  congr 1;omega
 ·
  rw [if_neg h1]
  by_cases h2:x=k
  ·
   subst h2
   rw [if_pos rfl,if_pos (by omega),if_pos (by omega)]
   congr 1;omega
  ·
   rw [if_neg h2]
   by_cases h3:k+1 < x ∧ x < m+1
   · rw [if_neg (by omega),if_pos (by omega),if_neg (by omega),if_pos (by omega)]
   · rw [if_neg (by omega),if_neg (by omega),if_neg (by omega),if_neg (by omega)]
structure Mixed (f g:Nat → Nat) (a b:Nat):Prop where
 out:∀ k,k < a ∨ b ≤ k → g k=f k
 of:∀ k,a ≤ k → k < b → ∃ j,a ≤ j ∧ j < b ∧ g k=f j
 onto:∀ j,a ≤ j → j < b → ∃ k,a ≤ k ∧ k < b ∧ g k=f j
theorem Mixed.refl (f:Nat → Nat) (a b:Nat):Mixed f f a b:=⟨fun _ _=>rfl,fun k h1 h2=>⟨k,h1,h2,rfl⟩,fun k h1 h2=>⟨k,h1,h2,rfl⟩⟩
theorem Mixed.trans {f g h:Nat → Nat} {a b:Nat} (x:Mixed f g a b) (y:Mixed g h a b):Mixed f h a b:=by
 refine ⟨fun k hk=>(y.out k hk).trans (x.out k hk),fun k h1 h2=>?_,fun j h1 h2=>?_⟩
 ·
  obtain ⟨j,j1,j2,j3⟩:=y.of k h1 h2
  obtain ⟨i,i1,i2,i3⟩:=x.of j j1 j2
  exact ⟨i,i1,i2,j3.trans i3⟩
 ·
  obtain ⟨i,i1,i2,i3⟩:=x.onto j h1 h2
  obtain ⟨k,k1,k2,k3⟩:=y.onto i i1 i2
  exact ⟨k,k1,k2,k3.trans i3⟩
theorem Mixed.wide {f g:Nat → Nat} {a b a' b':Nat} (x:Mixed f g a b) (ha:a' ≤ a) (hb:b ≤ b'):Mixed f g a' b':=by
 refine ⟨fun k hk=>x.out k (by omega),fun k h1 h2=>?_,fun k h1 h2=>?_⟩
 ·
  by_cases h:a ≤ k ∧ k < b
  ·
   obtain ⟨j,j1,j2,j3⟩:=x.of k h.1 h.2
   exact ⟨j,by omega,by omega,j3⟩
  · exact ⟨k,h1,h2,x.out k (by omega)⟩
 ·
  by_cases h:a ≤ k ∧ k < b
  ·
   obtain ⟨j,j1,j2,j3⟩:=x.onto k h.1 h.2
   exact ⟨j,by omega,by omega,j3⟩
  · exact ⟨k,h1,h2,x.out k (by omega)⟩
theorem rot_mixed (f:Nat → Nat) {a m b:Nat} (h1:a ≤ m) (h2:m ≤ b):Mixed f (rot f a m b) a b:=by
 refine ⟨fun k hk=>?_,fun k k1 k2=>?_,fun j j1 j2=>?_⟩
 ·
  simp only [rot]
  rw [if_neg (by omega),if_neg (by omega)]
 ·
  simp only [rot]
  by_cases h:k < a+b - m
  ·
   rw [if_pos ⟨k1,h⟩]
   exact ⟨k+m - a,by omega,by omega,rfl⟩
  ·
   rw [if_neg (by omega),if_pos (by omega)]
   exact ⟨k+m - b,by omega,by omega,rfl⟩
 ·
  simp only [rot]
  by_cases h:j < m
  ·
   refine ⟨j+b - m,by omega,by omega,?_⟩
   rw [if_neg (by omega),if_pos (by omega)]
   congr 1;omega
  ·
   refine ⟨j+a - m,by omega,by omega,?_⟩
   rw [if_pos (by omega)]
   congr 1;omega
section
variable {at_:Nat → Int}
def Rises (at_:Nat → Int) (f:Nat → Nat) (a b:Nat):Prop:=∀ i j,a ≤ i → i < j → j < b → Ahead at_ (f i) (f j)
def Lower (f:Nat → Nat) (a m b:Nat):Prop:=∀ i j,a ≤ i → i < m → m ≤ j → j < b → f i < f j
def Merged (at_:Nat → Int) (f g:Nat → Nat) (a b:Nat):Prop:=Mixed f g a b ∧ Rises at_ g a b
theorem Rises.le {f:Nat → Nat} {a b:Nat} (h:Rises at_ f a b) {i j:Nat} (h1:a ≤ i) (h2:i ≤ j) (h3:j < b):at_ (f i) ≤ at_ (f j):=by
 rcases Nat.lt_or_ge i j with h' | h'
 ·
  have:=h i j h1 h' h3
  unfold Ahead at this
  omega
 ·
  obtain rfl:i=j:=by omega
  exact Int.le_refl _
theorem Rises.join {f:Nat → Nat} {a m b:Nat} (h1:Rises at_ f a m) (h2:Rises at_ f m b) (h3:∀ i j,a ≤ i → i < m → m ≤ j → j < b → Ahead at_ (f i) (f j)):Rises at_ f a b:=fun i j hi hij hj=>by
 rcases Nat.lt_or_ge j m with h | h
 · exact h1 i j hi hij h
 ·
  rcases Nat.lt_or_ge i m with h' | h'
  · exact h3 i j hi h' h hj
  · exact h2 i j h' hij hj
theorem merged_two {f g1 g2:Nat → Nat} {a m b:Nat} (ham:a ≤ m) (hmb:m ≤ b) (h1:Merged at_ f g1 a m) (h2:Merged at_ g1 g2 m b) (h3:∀ i j,a ≤ i → i < m → m ≤ j → j < b → Ahead at_ (f i) (f j)):Merged at_ f g2 a b:=by
 refine ⟨(h1.1.wide (Nat.le_refl _) hmb).trans (h2.1.wide ham (Nat.le_refl _)),Rises.join (m:=m) (fun i j hi hij hj=>?_) h2.2 (fun i j hi hi' hj hj'=>?_)⟩
 ·
  rw [h2.1.out i (by omega),h2.1.out j (by omega)]
  exact h1.2 i j hi hij hj
 ·
  rw [h2.1.out i (by omega)]
  obtain ⟨i',a1,a2,a3⟩:=h1.1.of i hi hi'
  obtain ⟨j',b1,b2,b3⟩:=h2.1.of j hj hj'
  rw [a3,b3,h1.1.out j' (by omega)]
  exact h3 i' j' a1 a2 b1 b2
structure Halved (at_:Nat → Int) (f:Nat → Nat) (a m b mid s e:Nat):Prop where
 sa:a ≤ s
 sm:s ≤ m
 me:m ≤ e
 eb:e ≤ b
 sum:s+e=mid+m
 low:s < m → m < e → at_ (f (e - 1)) < at_ (f s)
 high:a < s → e < b → at_ (f (s - 1)) ≤ at_ (f e)
section
variable {f:Nat → Nat} {a m b mid s e:Nat}
theorem Halved.mid_in (h:Halved at_ f a m b mid s e):a ≤ mid ∧ mid ≤ b ∧ s ≤ mid ∧ mid ≤ e:=by
 have:=h.sa;have:=h.sm;have:=h.me;have:=h.eb;have:=h.sum
 omega
theorem Halved.parts (h:Halved at_ f a m b mid s e) (hr1:Rises at_ f a m) (hr2:Rises at_ f m b) (hl:Lower f a m b) :
  (Rises at_ (rot f s m e) a s ∧ Rises at_ (rot f s m e) s mid ∧ Rises at_ (rot f s m e) mid e ∧ Rises at_ (rot f s m e) e b) ∧ Lower (rot f s m e) a s mid ∧ Lower (rot f s m e) mid e b ∧ (∀ i j,a ≤ i → i < mid → mid ≤ j → j < b → Ahead at_ (rot f s m e i) (rot f s m e j)):=by
 obtain ⟨q1,q2,q3,q4⟩:=h.mid_in
 have sa:=h.sa;have sm:=h.sm;have me:=h.me;have eb:=h.eb;have sum:=h.sum
 have v1:∀ k,k < s → rot f s m e k=f k:=fun k hk=>by
  simp only [rot];rw [if_neg (by omega),if_neg (by omega)]
 have v2:∀ k,s ≤ k → k < mid → rot f s m e k=f (k+m - s):=fun k h1 h2=>by
  simp only [rot];rw [if_pos (by omega)]
 have v3:∀ k,mid ≤ k → k < e → rot f s m e k=f (k+m - e):=fun k h1 h2=>by
  simp only [rot];rw [if_neg (by omega),if_pos (by omega)]
 have v4:∀ k,e ≤ k → rot f s m e k=f k:=fun k hk=>by
  simp only [rot];rw [if_neg (by omega),if_neg (by omega)]
 refine ⟨⟨fun i j hi hij hj=>?_,fun i j hi hij hj=>?_,fun i j hi hij hj=>?_,fun i j hi hij hj=>?_⟩,fun i j hi hi' hj hj'=>?_,fun i j hi hi' hj hj'=>?_,fun i j hi hi' hj hj'=>?_⟩
 · rw [v1 i (by omega),v1 j hj];exact hr1 i j hi hij (by omega)
 · rw [v2 i hi (by omega),v2 j (by omega) hj];exact hr2 _ _ (by omega) (by omega) (by omega)
 · rw [v3 i hi (by omega),v3 j (by omega) hj];exact hr1 _ _ (by omega) (by omega) (by omega)
 · rw [v4 i hi,v4 j (by omega)];exact hr2 _ _ (by omega) (by omega) (by omega)
 · rw [v1 i hi',v2 j hj hj'];exact hl _ _ hi (by omega) (by omega) (by omega)
 · rw [v3 i hi hi',v4 j hj];exact hl _ _ (by omega) (by omega) (by omega) (by omega)
 ·
  rcases Nat.lt_or_ge i s with hs | hs
  ·
   rw [v1 i hs]
   rcases Nat.lt_or_ge j e with he | he
   ·
    rw [v3 j hj he]
    exact hr1 _ _ hi (by omega) (by omega)
   ·
    rw [v4 j he]
    have k1:=h.high (by omega) (by omega)
    have k2:=hr1.le hi (show i ≤ s - 1 by omega) (by omega)
    have k3:=hr2.le h.me he hj'
    have k4:=hl i j hi (by omega) (by omega) hj'
    unfold Ahead
    omega
  ·
   rw [v2 i hs hi']
   rcases Nat.lt_or_ge j e with he | he
   ·
    rw [v3 j hj he]
    have k1:=h.low (by omega) (by omega)
    have k2:=hr2.le (show m ≤ i+m - s by omega) (show i+m - s ≤ e - 1 by omega) (by omega)
    have k3:=hr1.le h.sa (show s ≤ j+m - e by omega) (by omega)
    unfold Ahead
    omega
   ·
    rw [v4 j he]
    exact hr2 _ _ (by omega) (by omega) hj'
end
theorem first_in {f:Nat → Nat} {a b i:Nat} (hi:a+1 ≤ i) (hb:i ≤ b) (hr:Rises at_ f (a+1) b) (hl:Lower f a (a+1) b) (hlow:i=a+1 ∨ at_ (f (i - 1)) < at_ (f a)) (hhigh:i=b ∨ at_ (f a) ≤ at_ (f i)):Merged at_ f (rot f a (a+1) i) a b:=by
 refine ⟨(rot_mixed f (by omega) hi).wide (Nat.le_refl _) hb,fun x y hx hxy hy=>?_⟩
 have v1:∀ k,a ≤ k → k < i - 1 → rot f a (a+1) i k=f (k+1):=fun k h1 h2=>by
  simp only [rot];rw [if_pos (by omega)];congr 1;omega
 have v2:rot f a (a+1) i (i - 1)=f a:=by
  simp only [rot];rw [if_neg (by omega),if_pos (by omega)];congr 1;omega
 have v3:∀ k,i ≤ k → rot f a (a+1) i k=f k:=fun k h1=>by
  simp only [rot];rw [if_neg (by omega),if_neg (by omega)]
 rcases Nat.lt_or_ge x (i - 1) with h | h
 ·
  rw [v1 x hx h]
  rcases Nat.lt_or_ge y (i - 1) with h' | h'
  · rw [v1 y (by omega) h'];exact hr _ _ (by omega) (by omega) (by omega)
  ·
   rcases Nat.lt_or_ge y i with h2 | h2
   ·
    obtain rfl:y=i - 1:=by omega
    rw [v2]
    have k1:at_ (f (i - 1)) < at_ (f a):=by
     rcases hlow with h3 | h3
     · omega
     · exact h3
    have k2:=hr.le (show a+1 ≤ x+1 by omega) (show x+1 ≤ i - 1 by omega) (by omega)
    exact .inl (by omega)
   · rw [v3 y h2];exact hr _ _ (by omega) (by omega) hy
 ·
  rcases Nat.lt_or_ge x i with h2 | h2
  ·
   obtain rfl:x=i - 1:=by omega
   rw [v2,v3 y (by omega)]
   have k1:at_ (f a) ≤ at_ (f i):=by
    rcases hhigh with h3 | h3
    · omega
    · exact h3
   have k2:=hr.le hi (show i ≤ y by omega) hy
   have k3:=hl a y (Nat.le_refl _) (by omega) (by omega) hy
   unfold Ahead
   omega
  · rw [v3 x h2,v3 y (by omega)];exact hr _ _ (by omega) hxy hy
theorem last_in {f:Nat → Nat} {a m i:Nat} (hi:a ≤ i) (hm:i ≤ m) (hr:Rises at_ f a m) (hl:Lower f a m (m+1)) (hlow:i=a ∨ at_ (f (i - 1)) ≤ at_ (f m)) (hhigh:i=m ∨ at_ (f m) < at_ (f i)):Merged at_ f (rot f i m (m+1)) a (m+1):=by
 refine ⟨(rot_mixed f hm (by omega)).wide hi (Nat.le_refl _),fun x y hx hxy hy=>?_⟩
 have v1:∀ k,k < i → rot f i m (m+1) k=f k:=fun k h1=>by
  simp only [rot];rw [if_neg (by omega),if_neg (by omega)]
 have v2:rot f i m (m+1) i=f m:=by
  simp only [rot];rw [if_pos (by omega)];congr 1;omega
 have v3:∀ k,i < k → k < m+1 → rot f i m (m+1) k=f (k - 1):=fun k h1 h2=>by
  simp only [rot];rw [if_neg (by omega),if_pos (by omega)];congr 1;omega
 rcases Nat.lt_or_ge x i with h | h
 ·
  rw [v1 x h]
  rcases Nat.lt_or_ge y i with h' | h'
  · rw [v1 y h'];exact hr _ _ hx hxy (by omega)
  ·
   rcases Nat.lt_or_ge i y with h2 | h2
   · rw [v3 y h2 hy];exact hr _ _ hx (by omega) (by omega)
   ·
    obtain rfl:y=i:=by omega
    rw [v2]
    have k1:at_ (f (y - 1)) ≤ at_ (f m):=by
     rcases hlow with h3 | h3
     · omega
     · exact h3
    have k2:=hr.le hx (show x ≤ y - 1 by omega) (by omega)
    have k3:=hl x m hx (by omega) (Nat.le_refl _) (by omega)
    unfold Ahead
    omega
 ·
  rcases Nat.lt_or_ge i x with h2 | h2
  · rw [v3 x h2 (by omega),v3 y (by omega) hy];exact hr _ _ (by omega) (by omega) (by omega)
  ·
   obtain rfl:x=i:=by omega
   rw [v2,v3 y hxy hy]
   have k1:at_ (f m) < at_ (f x):=by
    rcases hhigh with h3 | h3
    · omega
    · exact h3
   have k2:=hr.le hi (show x ≤ y - 1 by omega) (by omega)
   exact .inl (by omega)
structure OwnRow (at_:Nat → Int) (g:Nat → Nat) (x y:Nat):Prop where
 in_:∀ i,x ≤ i → i < y → x ≤ g i ∧ g i < y
 onto:∀ v,x ≤ v → v < y → ∃ i,x ≤ i ∧ i < y ∧ g i=v
 rises:Rises at_ g x y
theorem OwnRow.congr {g h:Nat → Nat} {x y:Nat} (o:OwnRow at_ g x y) (e:∀ i,x ≤ i → i < y → h i=g i):OwnRow at_ h x y:=by
 refine ⟨fun i h1 h2=>by rw [e i h1 h2];exact o.in_ i h1 h2,fun v h1 h2=>?_,fun i j h1 h2 h3=>by rw [e i h1 (by omega),e j (by omega) h3];exact o.rises i j h1 h2 h3⟩
 obtain ⟨i,i1,i2,i3⟩:=o.onto v h1 h2
 exact ⟨i,i1,i2,by rw [e i i1 i2];exact i3⟩
theorem OwnRow.lower {g:Nat → Nat} {x m y:Nat} (o1:OwnRow at_ g x m) (o2:OwnRow at_ g m y):Lower g x m y:=fun i j h1 h2 h3 h4=>by
 have:=o1.in_ i h1 h2
 have:=o2.in_ j h3 h4
 omega
theorem OwnRow.merged {g h:Nat → Nat} {x m y:Nat} (hxm:x ≤ m) (hmy:m ≤ y) (o1:OwnRow at_ g x m) (o2:OwnRow at_ g m y) (k:Merged at_ g h x y):OwnRow at_ h x y:=by
 refine ⟨fun i h1 h2=>?_,fun v h1 h2=>?_,k.2⟩
 ·
  obtain ⟨j,j1,j2,j3⟩:=k.1.of i h1 h2
  rw [j3]
  rcases Nat.lt_or_ge j m with h' | h'
  · have:=o1.in_ j j1 h';omega
  · have:=o2.in_ j h' j2;omega
 ·
  have:∃ j,x ≤ j ∧ j < y ∧ g j=v:=by
   rcases Nat.lt_or_ge v m with h' | h'
   ·
    obtain ⟨i,i1,i2,i3⟩:=o1.onto v h1 h'
    exact ⟨i,i1,by omega,i3⟩
   ·
    obtain ⟨i,i1,i2,i3⟩:=o2.onto v h' h2
    exact ⟨i,by omega,i2,i3⟩
  obtain ⟨j,j1,j2,j3⟩:=this
  obtain ⟨i,i1,i2,i3⟩:=k.1.onto j j1 j2
  exact ⟨i,i1,i2,i3.trans j3⟩
theorem OwnRow.start {g h:Nat → Nat} {x y:Nat} (e:∀ i,x ≤ i → i < y → g i=i) (k:Merged at_ g h x y):OwnRow at_ h x y:=by
 refine ⟨fun i h1 h2=>?_,fun v h1 h2=>?_,k.2⟩
 ·
  obtain ⟨j,j1,j2,j3⟩:=k.1.of i h1 h2
  rw [j3,e j j1 j2]
  exact ⟨j1,j2⟩
 ·
  obtain ⟨i,i1,i2,i3⟩:=k.1.onto v h1 h2
  exact ⟨i,i1,i2,by rw [i3,e v h1 h2]⟩
def InRows (at_:Nat → Int) (g:Nat → Nat) (B n x:Nat):Prop:=∀ q,x+q * B < n → OwnRow at_ g (x+q * B) (min (x+q * B+B) n)
theorem InRows.first {g:Nat → Nat} {B n x:Nat} (h:InRows at_ g B n x) (hx:x < n):OwnRow at_ g x (min (x+B) n):=by
 have:=h 0 (by omega)
 simpa using this
theorem InRows.rest {g:Nat → Nat} {B n x:Nat} (h:InRows at_ g B n x):InRows at_ g B n (x+B):=fun q hq=>by
 have e:x+(q+1) * B=x+B+q * B:=by rw [Nat.succ_mul];omega
 have:=h (q+1) (by omega)
 rwa [e] at this
theorem InRows.put {g:Nat → Nat} {B n x:Nat} (h1:x < n → OwnRow at_ g x (min (x+B) n)) (h2:InRows at_ g B n (x+B)):InRows at_ g B n x:=fun q hq=>by
 cases q with
 | zero=>
  have:=h1 (by omega)
  simpa using this
 | succ q=>
  have e:x+(q+1) * B=x+B+q * B:=by rw [Nat.succ_mul];omega
  rw [e] at hq ⊢
  exact h2 q hq
theorem InRows.congr {g h:Nat → Nat} {B n x:Nat} (o:InRows at_ g B n x) (e:∀ i,x ≤ i → h i=g i):InRows at_ h B n x:=fun q hq=>(o q hq).congr fun i h1 _=>e i (by omega)
theorem InRows.none {g:Nat → Nat} {B n x:Nat} (h:n ≤ x):InRows at_ g B n x:=fun q hq=>by omega
def RowsTo (at_:Nat → Int) (g:Nat → Nat) (B n x:Nat):Prop:=∀ h:Nat → Nat,(∀ i,i < x → h i=g i) → InRows at_ h B n x → InRows at_ h B n 0
theorem RowsTo.start (g:Nat → Nat) (B n:Nat):RowsTo at_ g B n 0:=fun _ _ h=>h
theorem RowsTo.on {g g':Nat → Nat} {B n x:Nat} (h:RowsTo at_ g B n x) (e:∀ i,i < x → g' i=g i) (o:OwnRow at_ g' x (min (x+B) n)):RowsTo at_ g' B n (x+B):=fun k hk hr=>by
 refine h k (fun i hi=>(hk i (by omega)).trans (e i hi)) (InRows.put (fun _=>o.congr fun i _ hi=>hk i (by omega)) hr)
theorem RowsTo.last {g g':Nat → Nat} {B n x:Nat} (h:RowsTo at_ g B n x) (e:∀ i,i < x → g' i=g i) (hB:n ≤ x+B) (o:x < n → OwnRow at_ g' x n):InRows at_ g' B n 0:=by
 refine h g' e (InRows.put (fun hx=>?_) (InRows.none hB))
 rw [show min (x+B) n=n by omega]
 exact o hx
theorem OwnRow.order {g:Nat → Nat} {n:Nat} (o:OwnRow at_ g 0 n):IsOrder at_ n ((List.range n).map g):=by
 refine ⟨List.pairwise_iff_getElem.2 fun i j hi hj hij=>?_,fun j=>?_⟩
 ·
  simp only [List.length_map,List.length_range] at hi hj
  simp only [List.getElem_map,List.getElem_range]
  exact o.rises i j (Nat.zero_le _) hij hj
 ·
  rw [List.mem_map]
  constructor
  ·
   rintro ⟨i,hi,rfl⟩
   exact (o.in_ i (Nat.zero_le _) (List.mem_range.1 hi)).2
  ·
   intro hj
   obtain ⟨i,-,i2,i3⟩:=o.onto j (Nat.zero_le _) hj
   exact ⟨i,List.mem_range.2 i2,i3⟩
theorem InRows.order {g:Nat → Nat} {B n:Nat} (h:InRows at_ g B n 0) (hB:n ≤ B):IsOrder at_ n ((List.range n).map g):=by
 rcases Nat.eq_zero_or_pos n with rfl | hn
 · exact IsOrder.start at_
 ·
  have:=h.first hn
  rw [show min (0+B) n=n by omega] at this
  exact this.order
end
end Go.Proofs.YtipdclphpkgceaaGreatDoor

namespace Go.Proofs.YtipdclphpkgceaaGreatDoor
open Go.RowKit
structure Later (V:World) where
 w:World
 bel:Below V.heap.size V w
theorem Later.cell {V:World} {a:Addr} {v:Value} (h:V.cell? a=some v) (g:Later V):g.w.cell? a=some v:=cell_later g.bel h
theorem wp_region_later {P:Program} {id:Nat} {Q:Exit → Act → World → Prop} {a:Act} {w:World} {l:List Oper} (hm:P.follows .mixedOrders=true) (hB:Region.lexB .any l.toArray=true)
  (h:wpQuiet P l.toArray (fun w'=>∃ g:Later w,w'=g.w) (fun a'=>∀ w',(∃ g:Later w,w'=g.w) → Q .normal a' w') l a):(Code.region id l.toArray true).wp P Q a w:=
 wp_region_quiet (C:=fun w'=>∃ g:Later w,w'=g.w) hm hB ⟨⟨w.drew,below_drewN (Below.refl _ _) 1⟩,rfl⟩ (by simpa using h)
theorem Later.calls {P:Program} {f:FuncId} {args:Array Value} {V:World} {v:Value} (h:∀ W,Below V.heap.size V W → Calls P f args W fun e w'=>e=.returned v ∧ Below W.heap.size W w') (g:Later V):Calls P f args g.w fun e w'=>e=.returned v ∧ ∃ g':Later V,w'=g'.w:=
 (h g.w g.bel).mono fun _ w' ⟨he,hb⟩=>⟨he,⟨w',g.bel.trans (hb.mono g.bel.size)⟩,rfl⟩
structure RowP (w:World) (b off n:Nat) (pk:Nat → Pk) (f:Nat → Nat):Prop where
 lt:b < w.heap.size
 c0:∀ i,i < n → w.cell? ⟨b,off+i * 3,none⟩=some (.int .i64 (pk (f i)).flow)
 c1:∀ i,i < n → w.cell? ⟨b,off+i * 3+1,none⟩=some (.int .i64 (pk (f i)).size)
 c2:∀ i,i < n → w.cell? ⟨b,off+i * 3+2,none⟩=some (.int .i64 (pk (f i)).tick)
 fz:∀ j,w.frozen? ⟨b,j,none⟩=false
def put3 (w:World) (b o:Nat) (p:Pk):World:=((w.setCell ⟨b,o,none⟩ (.int .i64 p.flow)).setCell ⟨b,o+1,none⟩ (.int .i64 p.size)).setCell ⟨b,o+2,none⟩ (.int .i64 p.tick)
theorem put3_size (w:World) (b o:Nat) (p:Pk):(put3 w b o p).heap.size=w.heap.size:=by simp [put3]
theorem put3_out (w:World) (b o:Nat) (p:Pk) {j:Nat} (h:j < o ∨ o+3 ≤ j):(put3 w b o p).cell? ⟨b,j,none⟩=w.cell? ⟨b,j,none⟩:=by
 unfold put3
 rw [World.cell?_setCell_other _ _ _ _ (fun e=>by injection e with _ e _;omega),World.cell?_setCell_other _ _ _ _ (fun e=>by injection e with _ e _;omega),World.cell?_setCell_other _ _ _ _ (fun e=>by injection e with _ e _;omega)]
theorem put3_in {w:World} {b o:Nat} (p:Pk) {u0 u1 u2:Value} (h0:w.cell? ⟨b,o,none⟩=some u0) (h1:w.cell? ⟨b,o+1,none⟩=some u1) (h2:w.cell? ⟨b,o+2,none⟩=some u2) :
  (put3 w b o p).cell? ⟨b,o,none⟩=some (.int .i64 p.flow) ∧ (put3 w b o p).cell? ⟨b,o+1,none⟩=some (.int .i64 p.size) ∧ (put3 w b o p).cell? ⟨b,o+2,none⟩=some (.int .i64 p.tick):=by
 unfold put3
 refine ⟨?_,?_,?_⟩
 ·
  rw [World.cell?_setCell_other _ _ _ _ (fun e=>by injection e with _ e _;omega),World.cell?_setCell_other _ _ _ _ (fun e=>by injection e with _ e _;omega)]
  exact World.cell?_setCell_same' _ _ _ (by rw [h0];rfl)
 ·
  rw [World.cell?_setCell_other _ _ _ _ (fun e=>by injection e with _ e _;omega)]
  exact World.cell?_setCell_same' _ _ _ (by rw [World.cell?_setCell_other _ _ _ _ (fun e=>by injection e with _ e _;omega),h1];rfl)
 · exact World.cell?_setCell_same' _ _ _ (by rw [World.cell?_setCell_other _ _ _ _ (fun e=>by injection e with _ e _;omega),World.cell?_setCell_other _ _ _ _ (fun e=>by injection e with _ e _;omega),h2];rfl)
theorem put3_frozen (w:World) (b o:Nat) (p:Pk) (a:Addr):(put3 w b o p).frozen? a=w.frozen? a:=by simp [put3]
theorem put3_but {S:Nat → Prop} {a w:World} (h:But S a w) {b:Nat} (hb:S b) (o:Nat) (p:Pk):But S a (put3 w b o p):=((h.setCell (p:=⟨b,o,none⟩) hb _).setCell (p:=⟨b,o+1,none⟩) hb _).setCell (p:=⟨b,o+2,none⟩) hb _
section
variable {w w':World} {b off n:Nat} {pk:Nat → Pk} {f:Nat → Nat}
theorem RowP.later (h:RowP w b off n pk f) (hb:Below w.heap.size w w'):RowP w' b off n pk f:=
 ⟨Nat.lt_of_lt_of_le h.lt hb.size,fun i hi=>cell_later hb (h.c0 i hi),fun i hi=>cell_later hb (h.c1 i hi),fun i hi=>cell_later hb (h.c2 i hi),fun j=>(World.frozen?_of_block (w:=w) (hb.block b h.lt)).trans (h.fz j)⟩
theorem RowP.put (h:RowP w b off n pk f) {i:Nat} (hi:i < n) (x:Nat):RowP (put3 w b (off+i * 3) (pk x)) b off n pk (fun k=>if k=i then x else f k):=by
 have hin:=put3_in (pk x) (h.c0 i hi) (h.c1 i hi) (h.c2 i hi)
 have key:∀ k (c:Nat),k ≠ i → c < 3 → (put3 w b (off+i * 3) (pk x)).cell? ⟨b,off+k * 3+c,none⟩=w.cell? ⟨b,off+k * 3+c,none⟩:=fun k c hk hc=>put3_out w b _ _ (by omega)
 refine ⟨by rw [put3_size];exact h.lt,fun k hk=>?_,fun k hk=>?_,fun k hk=>?_,fun j=>by rw [put3_frozen];exact h.fz j⟩
 ·
  by_cases e:k=i
  · subst e;rw [if_pos rfl];exact hin.1
  ·
   simp only [if_neg e]
   have:=key k 0 e (by omega)
   rw [Nat.add_zero] at this
   rw [this];exact h.c0 k hk
 ·
  by_cases e:k=i
  · subst e;rw [if_pos rfl];exact hin.2.1
  · simp only [if_neg e];rw [key k 1 e (by omega)];exact h.c1 k hk
 ·
  by_cases e:k=i
  · subst e;rw [if_pos rfl];exact hin.2.2
  · simp only [if_neg e];rw [key k 2 e (by omega)];exact h.c2 k hk
theorem RowP.xch (h:RowP w b off n pk f) {i j:Nat} (hi:i < n) (hj:j < n):RowP (put3 (put3 w b (off+i * 3) (pk (f j))) b (off+j * 3) (pk (f i))) b off n pk (xch f i j):=by
 have:=(h.put hi (f j)).put hj (f i)
 have e:(fun k=>if k=j then f i else if k=i then f j else f k)=Go.Proofs.YtipdclphpkgceaaGreatDoor.xch f i j:=by
  funext k
  unfold Go.Proofs.YtipdclphpkgceaaGreatDoor.xch
  by_cases h1:k=i
  ·
   subst h1
   by_cases h2:k=j
   · subst h2;simp
   · simp [h2]
  · simp [h1]
 rw [e] at this
 exact this
end
structure StaAt (w0:World) (b off n:Nat) (pk:Nat → Pk) (f:Nat → Nat) (w:World):Prop where
 row:RowP w b off n pk f
 but:But (fun k=>k=b) w0 w
section
variable {w0 w w':World} {b off n:Nat} {pk:Nat → Pk} {f:Nat → Nat}
theorem StaAt.later (h:StaAt w0 b off n pk f w) (hb:Below w.heap.size w w'):StaAt w0 b off n pk f w':=⟨h.row.later hb,h.but.trans (.ofBelow hb)⟩
theorem StaAt.drew (h:StaAt w0 b off n pk f w):StaAt w0 b off n pk f w.drew:=h.later (below_drewN (Below.refl _ _) 1)
theorem StaAt.xch (h:StaAt w0 b off n pk f w) {i j:Nat} (hi:i < n) (hj:j < n):StaAt w0 b off n pk (xch f i j) (put3 (put3 w b (off+i * 3) (pk (f j))) b (off+j * 3) (pk (f i))):=
 ⟨h.row.xch hi hj,put3_but (put3_but h.but rfl _ _) rfl _ _⟩
end
end Go.Proofs.YtipdclphpkgceaaGreatDoor
