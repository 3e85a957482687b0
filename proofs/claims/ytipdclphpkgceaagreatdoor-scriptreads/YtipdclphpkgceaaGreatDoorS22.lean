/- Own facts, put together: no statement of its own. -/
import Derived.Test.YtipdclphpkgceaaGreatDoorS20
import Derived.Test.YtipdclphpkgceaaGreatDoorS21
import Derived.Test.YtipdclphpkgceaaGreatDoorS04
import Derived.Test.YtipdclphpkgceaaGreatDoorS11
import Derived.Test.YtipdclphpkgceaaGreatDoorS01
import Derived.Test.YtipdclphpkgceaaGreatDoorS03
import Derived.Deep.LoopGhost
import Derived.Test.YtipdclphpkgceaaGreatDoorS08
import Derived.Test.YtipdclphpkgceaaGreatDoorS05
import Derived.Laws.EntriesVeiled
import Derived.BigRegion
import Derived.Test.YtipdclphpkgceaaGreatDoorS09
import Derived.Test.YtipdclphpkgceaaGreatDoorS18
import Derived.Test.YtipdclphpkgceaaGreatDoorS13
set_option maxHeartbeats 4000000
set_option maxRecDepth 100000

namespace Go.Proofs.YtipdclphpkgceaaGreatDoor
open Go.RowKit
theorem symMerge_ok (w0:World) (b off n cap:Nat) (pk:Nat → Pk) (hn:n ≤ 1000):∀ (d:Nat) (f:Nat → Nat) (x m y:Nat) (w:World),y - x ≤ d → StaAt w0 b off n pk f w → x < m → m < y → y ≤ n → Rises (tickBy pk) f x m → Rises (tickBy pk) f m y → Lower f x m y →
  Calls Tryz.prog 194 #[.slice (some ⟨b,off,none⟩) n cap,.int .i64 (x:Int),.int .i64 (m:Int),.int .i64 (y:Int),.func (.func 140) #[] #[]] w fun e w'=>e=.returned (.tuple #[]) ∧ ∃ g,Merged (tickBy pk) f g x y ∧ StaAt w0 b off n pk g w'
 | 0,f,x,m,y,w,hd,h,h1,h2,h3,r1,r2,l=>by omega
 | d+1,f,x,m,y,w,hd,h,h1,h2,h3,r1,r2,l=>by
  by_cases hf:m=x+1
  · exact symFirst_ok w0 b off n cap pk f x m y w h hf h2 h3 hn r1 r2 l
  ·
   by_cases hl:y=m+1
   · exact symLast_ok w0 b off n cap pk f x m y w h (by omega) hl h3 hn r1 r2 l
   ·
    have IH:∀ (g:Nat → Nat) (x' m' y':Nat) (W:World),y' - x' < y - x → StaAt w0 b off n pk g W → x' < m' → m' < y' → y' ≤ n → Rises (tickBy pk) g x' m' → Rises (tickBy pk) g m' y' → Lower g x' m' y' → Calls Tryz.prog 194 #[.slice (some ⟨b,off,none⟩) n cap,.int .i64 (x':Int),.int .i64 (m':Int),.int .i64 (y':Int),.func (.func 140) #[] #[]] W fun e w'=>e=.returned (.tuple #[]) ∧ ∃ g',Merged (tickBy pk) g g' x' y' ∧ StaAt w0 b off n pk g' w':=fun g x' m' y' W k1 k2 k3 k4 k5 k6 k7 k8=>symMerge_ok w0 b off n cap pk hn d g x' m' y' W (by omega) k2 k3 k4 k5 k6 k7 k8
    by_cases hm:m ≤ (x+y) / 2
    · exact symMidA_ok w0 b off n cap pk f x m y w h (by omega) (by omega) _ rfl hm IH h3 hn r1 r2 l
    · exact symMidB_ok w0 b off n cap pk f x m y w h (by omega) (by omega) _ rfl (by omega) IH h3 hn r1 r2 l
theorem stable_ok (w0:World) (b off n cap:Nat) (pk:Nat → Pk) (w:World) (h:StaAt w0 b off n pk (fun i=>i) w) (hn:n ≤ 1000) :
  Calls Tryz.prog 165 #[.slice (some ⟨b,off,none⟩) n cap,.int .i64 (n:Int),.func (.func 140) #[] #[]] w fun e w'=>e=.returned (.tuple #[]) ∧ ∃ g,IsOrder (tickBy pk) n ((List.range n).map g) ∧ StaAt w0 b off n pk g w':=by
 have HIns:Hid (∀ (f:Nat → Nat) (x y:Nat) (W:World),StaAt w0 b off n pk f W → x ≤ y → y ≤ n → (∀ i,x ≤ i → f i=i) → Calls Tryz.prog 193 #[.slice (some ⟨b,off,none⟩) n cap,.int .i64 (x:Int),.int .i64 (y:Int),.func (.func 140) #[] #[]] W fun e w'=>e=.returned (.tuple #[]) ∧ ∃ g,Merged (tickBy pk) f g x y ∧ StaAt w0 b off n pk g w'):=fun f x y W h1 h2 h3 h4=>insertion_ok w0 b off n cap pk f x y W h1 h2 h3 hn (fun i j k1 k2 k3=>by rw [h4 i k1,h4 j (by omega)];exact k2)
 have HSym:Hid (∀ (f:Nat → Nat) (x m y:Nat) (W:World),StaAt w0 b off n pk f W → x < m → m < y → y ≤ n → OwnRow (tickBy pk) f x m → OwnRow (tickBy pk) f m y → Calls Tryz.prog 194 #[.slice (some ⟨b,off,none⟩) n cap,.int .i64 (x:Int),.int .i64 (m:Int),.int .i64 (y:Int),.func (.func 140) #[] #[]] W fun e w'=>e=.returned (.tuple #[]) ∧ ∃ g,Merged (tickBy pk) f g x y ∧ OwnRow (tickBy pk) g x y ∧ StaAt w0 b off n pk g w'):=fun f x m y W h1 h2 h3 h4 h5 h6=>(symMerge_ok w0 b off n cap pk hn (y - x) f x m y W (Nat.le_refl _) h1 h2 h3 h4 h5.rises h6.rises (h5.lower h6)).mono fun _ _ ⟨e1,g,e2,e3⟩=>⟨e1,g,e2,h5.merged (by omega) (by omega) h6 e2,e3⟩
 have H0:Hid (StaAt w0 b off n pk (fun i=>i) w):=h
 clear h
 go_enter Tryz.func165,Tryz.ntmps165
 go_wp2_with fail
 go_loopg [7,8] n (fun gk av bv wr=>∃ (x:Nat) (g:Nat → Nat),av=.int .i64 (x:Int) ∧ bv=.int .i64 ((x+20:Nat):Int) ∧ x ≤ n ∧ n - x ≤ gk ∧ Hid (∀ i,x ≤ i → g i=i) ∧ Hid (RowsTo (tickBy pk) g 20 n x) ∧ Hid (StaAt w0 b off n pk g wr))
 case atStart=>exact ⟨0,fun i=>i,rfl,rfl,Nat.zero_le _,Nat.le_refl _,fun i _=>rfl,RowsTo.start _ _ _,H0⟩
 case round=>
  clear H0
  obtain ⟨x,g,rfl,rfl,hxn,hgk,HId,HRo,H⟩:=hrel
  obtain ⟨y,hy⟩:∃ y,x+20=y:=⟨_,rfl⟩
  have HY:Hid (x+20=y):=hy
  rw [hy]
  by_cases hle:y ≤ n
  ·
   have hlez:(y:Int) ≤ (n:Int):=by omega
   have HC:=HIns.out g x y wr H.out (by omega) hle HId.out
   have HC':Hid (Calls Tryz.prog 193 #[.slice (some ⟨b,off,none⟩) n cap,.int .i64 (x:Int),.int .i64 (y:Int),.func (.func 140) #[] #[]] wr fun e w'=>e=.returned (.tuple #[]) ∧ ∃ g',Merged (tickBy pk) g g' x y ∧ StaAt w0 b off n pk g' w'):=HC
   obtain ⟨z,hz⟩:∃ z,y+20=z:=⟨_,rfl⟩
   have wy:(y:Int)+20=(z:Int):=by omega
   have HZ:Hid (y+20=z):=hz
   clear hz
   clear HC H hy
   go_wp2_with fail
   refine HC'.out.mono ?_
   rintro _ w1 ⟨rfl,g',hM,h1⟩
   have H1:Hid (StaAt w0 b off n pk g' w1):=h1
   have HId':Hid (∀ i,y ≤ i → g' i=i):=fun i hi=>by rw [hM.1.out i (.inr hi)];exact HId.out i (by have:=HY.out;omega)
   have HRo':Hid (RowsTo (tickBy pk) g' 20 n y):=by
    have e:=HY.out
    show RowsTo _ _ _ _ _
    rw [← e]
    refine HRo.out.on (fun i hi=>hM.1.out i (.inl hi)) ?_
    rw [show min (x+20) n=y by omega]
    exact OwnRow.start (fun i h2 _=>HId.out i h2) hM
   clear h1 hM HC'
   go_wp2_with fail
   go_roundg (n - y)
   case measure=>have:=HY.out;omega
   case rel=>exact ⟨y,g',rfl,by rw [HZ.out],hle,Nat.le_refl _,HId',HRo',H1⟩
  ·
   have hlez:¬ (y:Int) ≤ (n:Int):=by omega
   have HC:=HIns.out g x n wr H.out hxn (Nat.le_refl _) HId.out
   have HC':Hid (Calls Tryz.prog 193 #[.slice (some ⟨b,off,none⟩) n cap,.int .i64 (x:Int),.int .i64 (n:Int),.func (.func 140) #[] #[]] wr fun e w'=>e=.returned (.tuple #[]) ∧ ∃ g',Merged (tickBy pk) g g' x n ∧ StaAt w0 b off n pk g' w'):=HC
   clear HC H hy
   go_wp2_with fail
   refine HC'.out.mono ?_
   rintro _ w1 ⟨rfl,g',hM,h1⟩
   have H1:Hid (StaAt w0 b off n pk g' w1):=h1
   have HIn:Hid (InRows (tickBy pk) g' 20 n 0):=HRo.out.last (fun i hi=>hM.1.out i (.inl hi)) (by have:=HY.out;omega) (fun _=>OwnRow.start (fun i h2 _=>HId.out i h2) hM)
   clear h1 hM HC' HRo HId HIns
   go_wp2_with fail
   obtain ⟨gO,hgO⟩:∃ z,z=gk:=⟨_,rfl⟩
   subst hgO
   go_loopg [6,7,8,9] n (fun gk2 sv av bv mv wr=>∃ (B:Nat) (g:Nat → Nat),sv=.int .i64 (B:Int) ∧ 20 ≤ B ∧ B ≤ 2000 ∧ n - B ≤ gk2 ∧ Hid (InRows (tickBy pk) g B n 0) ∧ Hid (StaAt w0 b off n pk g wr))
   case atStart=>exact ⟨20,g',rfl,Nat.le_refl _,by omega,by omega,HIn,H1⟩
   case round=>
    clear HIn H1
    obtain ⟨B,g,rfl,hB20,hB2,hgk2,HIn,H⟩:=hrel
    by_cases hBn:B < n
    ·
     have hBz:(B:Int) < (n:Int):=by omega
     have wB:2 * (B:Int)=((2 * B:Nat):Int):=by omega
     obtain ⟨C,hC⟩:∃ C,2 * B=C:=⟨_,rfl⟩
     have HCB:Hid (2 * B=C):=hC
     rw [hC] at wB
     clear hC
     go_wp2_with fail
     obtain ⟨gP,hgP⟩:∃ z,z=gk:=⟨_,rfl⟩
     subst hgP
     obtain ⟨W0,hW0⟩:∃ W,W=wr:=⟨_,rfl⟩
     subst hW0
     go_loopg [7,8] n (fun gk3 av bv wr=>∃ (x:Nat) (g:Nat → Nat),av=.int .i64 (x:Int) ∧ bv=.int .i64 ((x+C:Nat):Int) ∧ x ≤ n ∧ n - x ≤ gk3 ∧ Hid (InRows (tickBy pk) g B n x) ∧ Hid (RowsTo (tickBy pk) g C n x) ∧ Hid (StaAt w0 b off n pk g wr))
     case atStart=>exact ⟨0,g,rfl,by rw [Nat.zero_add],Nat.zero_le _,Nat.le_refl _,HIn,RowsTo.start _ _ _,H⟩
     case round=>
      clear H HIn
      obtain ⟨x,g,rfl,rfl,hxn,hgk3,HIn,HRo,H⟩:=hrel
      obtain ⟨y,hy⟩:∃ y,x+C=y:=⟨_,rfl⟩
      obtain ⟨m,hm⟩:∃ m,x+B=m:=⟨_,rfl⟩
      have HY:Hid (x+C=y ∧ x+B=m ∧ m+B=y):=⟨hy,hm,by have:=HCB.out;omega⟩
      have wm:(x:Int)+(B:Int)=(m:Int):=by omega
      rw [hy]
      by_cases hle:y ≤ n
      ·
       have hlez:(y:Int) ≤ (n:Int):=by omega
       have o1:OwnRow (tickBy pk) g x m:=by
        have:=HIn.out.first (by have:=HCB.out;omega)
        rwa [show min (x+B) n=m by have:=HCB.out;omega] at this
       have o2:OwnRow (tickBy pk) g m y:=by
        have:=HIn.out.rest.first (by have:=HCB.out;omega)
        rwa [show min (x+B+B) n=y by have:=HCB.out;omega,hm] at this
       have HC:=HSym.out g x m y wr H.out (by have:=HCB.out;omega) (by have:=HCB.out;omega) hle o1 o2
       have HC':Hid (Calls Tryz.prog 194 #[.slice (some ⟨b,off,none⟩) n cap,.int .i64 (x:Int),.int .i64 (m:Int),.int .i64 (y:Int),.func (.func 140) #[] #[]] wr fun e w'=>e=.returned (.tuple #[]) ∧ ∃ g',Merged (tickBy pk) g g' x y ∧ OwnRow (tickBy pk) g' x y ∧ StaAt w0 b off n pk g' w'):=HC
       obtain ⟨z,hz⟩:∃ z,y+C=z:=⟨_,rfl⟩
       have wy:(y:Int)+(C:Int)=(z:Int):=by omega
       have HZ:Hid (y+C=z):=hz
       clear hz
       clear HC H hy hm o1 o2
       go_wp2_with fail
       refine HC'.out.mono ?_
       rintro _ w2 ⟨rfl,g',hM,ho,h1⟩
       have H1:Hid (StaAt w0 b off n pk g' w2):=h1
       have HIn':Hid (InRows (tickBy pk) g' B n y):=by
        have h2:=HIn.out.rest.rest
        rw [show x+B+B=y by have:=HY.out;omega] at h2
        exact h2.congr fun i hi=>hM.1.out i (.inr hi)
       have HRo':Hid (RowsTo (tickBy pk) g' C n y):=by
        have e:=HY.out.1
        show RowsTo _ _ _ _ _
        rw [← e]
        refine HRo.out.on (fun i hi=>hM.1.out i (.inl hi)) ?_
        rw [show min (x+C) n=y by omega]
        exact ho
       clear h1 hM ho HC' HIn HRo
       go_wp2_with fail
       go_roundg (n - y)
       case measure=>have:=HY.out;have:=HCB.out;omega
       case rel=>exact ⟨y,g',rfl,by rw [HZ.out],hle,Nat.le_refl _,HIn',HRo',H1⟩
      ·
       have hlez:¬ (y:Int) ≤ (n:Int):=by omega
       have wC:(B:Int) * 2=(C:Int):=by have:=HCB.out;omega
       by_cases hmn:m < n
       ·
        have hmz:(m:Int) < (n:Int):=by omega
        have o1:OwnRow (tickBy pk) g x m:=by
         have:=HIn.out.first (by have:=HCB.out;omega)
         rwa [show min (x+B) n=m by have:=HCB.out;omega] at this
        have o2:OwnRow (tickBy pk) g m n:=by
         have:=HIn.out.rest.first (by have:=HCB.out;omega)
         rwa [show min (x+B+B) n=n by have:=HCB.out;omega,hm] at this
        have HC:=HSym.out g x m n wr H.out (by have:=HCB.out;omega) hmn (Nat.le_refl _) o1 o2
        have HC':Hid (Calls Tryz.prog 194 #[.slice (some ⟨b,off,none⟩) n cap,.int .i64 (x:Int),.int .i64 (m:Int),.int .i64 (n:Int),.func (.func 140) #[] #[]] wr fun e w'=>e=.returned (.tuple #[]) ∧ ∃ g',Merged (tickBy pk) g g' x n ∧ OwnRow (tickBy pk) g' x n ∧ StaAt w0 b off n pk g' w'):=HC
        clear HC H hy hm o1 o2
        go_wp2_with fail
        refine HC'.out.mono ?_
        rintro _ w2 ⟨rfl,g',hM,ho,h1⟩
        have H1:Hid (StaAt w0 b off n pk g' w2):=h1
        have HIn':Hid (InRows (tickBy pk) g' C n 0):=HRo.out.last (fun i hi=>hM.1.out i (.inl hi)) (by have:=HY.out;omega) (fun _=>ho)
        clear h1 hM ho HC' HIn HRo
        go_wp2_with fail
        go_roundg (n - C)
        case measure=>have:=HCB.out;omega
        case rel=>exact ⟨C,g',by go_num,by have:=HCB.out;omega,by have:=HCB.out;omega,Nat.le_refl _,HIn',H1⟩
       ·
        have hmz:¬ (m:Int) < (n:Int):=by omega
        have HIn':Hid (InRows (tickBy pk) g C n 0):=HRo.out.last (fun i _=>rfl) (by have:=HY.out;omega) (fun hx=>by
         have:=HIn.out.first hx
         rwa [show min (x+B) n=n by have:=HY.out;omega] at this)
        clear hy hm HIn HRo
        go_wp2_with fail
        go_roundg (n - C)
        case measure=>have:=HCB.out;omega
        case rel=>exact ⟨C,g,by go_num,by have:=HCB.out;omega,by have:=HCB.out;omega,Nat.le_refl _,HIn',H⟩
    ·
     have hBz:¬ (B:Int) < (n:Int):=by omega
     have HO:Hid (IsOrder (tickBy pk) n ((List.range n).map g)):=HIn.out.order (by omega)
     clear HIn
     go_wp2_with fail
     go_end0
     exact ⟨rfl,g,HO.out,H.out⟩
theorem sortStable_ok (w0:World) (b off n cap:Nat) (pk:Nat → Pk) (w:World) (h:StaAt w0 b off n pk (fun i=>i) w) (hn:n ≤ 1000) :
  Calls Tryz.prog 139 #[.slice (some ⟨b,off,none⟩) n cap,.func (.func 140) #[] #[]] w fun e w'=>e=.returned (.tuple #[]) ∧ ∃ g,IsOrder (tickBy pk) n ((List.range n).map g) ∧ StaAt w0 b off n pk g w':=by
 have HC:Hid (Calls Tryz.prog 165 #[.slice (some ⟨b,off,none⟩) n cap,.int .i64 (n:Int),.func (.func 140) #[] #[]] w fun e w'=>e=.returned (.tuple #[]) ∧ ∃ g,IsOrder (tickBy pk) n ((List.range n).map g) ∧ StaAt w0 b off n pk g w'):=stable_ok w0 b off n cap pk w h hn
 clear h
 go_enter Tryz.func139,Tryz.ntmps139
 go_wp2_with fail
 refine HC.out.mono ?_
 rintro _ w1 ⟨rfl,g,h1,h2⟩
 have HE:Hid (IsOrder (tickBy pk) n ((List.range n).map g) ∧ StaAt w0 b off n pk g w1):=⟨h1,h2⟩
 clear h1 h2
 go_wp2_with fail
 go_end0
 exact ⟨rfl,g,HE.out⟩
def tame (x:Sn):Bool:=decide (-1125899906842624 ≤ x.beg ∧ x.beg ≤ 1125899906842624 ∧ -1125899906842624 ≤ x.fin ∧ x.fin ≤ 1125899906842624)
theorem tame_true {x:Sn} (h:tame x=true) : -1125899906842624 ≤ x.beg ∧ x.beg ≤ 1125899906842624 ∧ -1125899906842624 ≤ x.fin ∧ x.fin ≤ 1125899906842624:=of_decide_eq_true h
def tameAll (l:List Sn):Prop:=∀ (i:Nat) x,l[i]? = some x → tame x=true
def delayOf (ps:List Pk) (x:Sn):Int:=x.fin - tickOf ps x.num.toNat
structure DelAt (w:World) (D n:Nat) (ps:List Pk) (l:List Sn) (k:Nat):Prop where
 cell:∀ (i:Nat) x,i < k → l[i]? = some x → w.cell? ⟨D,i,none⟩=some (.int .i64 (delayOf ps x))
 room:∀ i,i < n → ∃ u,w.cell? ⟨D,i,none⟩=some u
 frozen:∀ i,w.frozen? ⟨D,i,none⟩=false
 lt:D < w.heap.size
theorem del_made (w:World) (n:Nat) (t:TypeId) (ps:List Pk) (l:List Sn):DelAt (w.alloc (.cells (madeCells #[.int .i64 0] n) t)) w.heap.size n ps l 0:=by
 refine ⟨fun i x h=>by omega,fun i hi=>⟨.int .i64 0,?_⟩,fun i=>World.frozen?_alloc_new w _ _ i,by simp⟩
 rw [World.cell?_alloc_at _ _ _ _ rfl]
 exact made_get _ _ _ hi
theorem DelAt.later {w w':World} {D n:Nat} {ps:List Pk} {l:List Sn} {k:Nat} (h:DelAt w D n ps l k) (hb:Below w.heap.size w w'):DelAt w' D n ps l k:=
 ⟨fun i x hi hx=>cell_later hb (h.cell i x hi hx),fun i hi=>by obtain ⟨u,hu⟩:=h.room i hi;exact ⟨u,cell_later hb hu⟩,fun i=>by rw [hb.frozen (p:=⟨D,i,none⟩) h.lt];exact h.frozen i,Nat.lt_of_lt_of_le h.lt hb.size⟩
theorem DelAt.put {w:World} {D n:Nat} {ps:List Pk} {l:List Sn} {k:Nat} (h:DelAt w D n ps l k) (hk:k < n) (x:Sn) (hx:l[k]? = some x):DelAt (w.setCell ⟨D,k,none⟩ (.int .i64 (delayOf ps x))) D n ps l (k+1):=by
 have hs:(w.cell? ⟨D,k,none⟩).isSome=true:=by obtain ⟨u,hu⟩:=h.room k hk;rw [hu];rfl
 refine ⟨fun i y hi hy=>?_,fun i hi=>?_,fun i=>by rw [World.frozen?_setCell];exact h.frozen i,by simp [World.setCell];exact h.lt⟩
 ·
  by_cases e:k=i
  ·
   subst e
   obtain rfl:=Option.some.inj (hx.symm.trans hy)
   exact World.cell?_setCell_same' _ _ _ hs
  ·
   rw [World.cell?_setCell_other _ _ _ _ (by intro e';cases e';exact e rfl)]
   exact h.cell i y (by omega) hy
 ·
  by_cases e:k=i
  ·
   subst e
   exact ⟨_,World.cell?_setCell_same' _ _ _ hs⟩
  ·
   rw [World.cell?_setCell_other _ _ _ _ (by intro e';cases e';exact e rfl)]
   exact h.room i hi
def DelaysEnd (ps:List Pk) (l:List Sn) (ad:Nat → Addr) (w:World) (e:Ending) (w':World):Prop:=
 Below w.heap.size w w' ∧ ((∃ D,e=.returned (.tuple #[.slice (some ⟨D,0,none⟩) l.length l.length,.nilIface]) ∧ DelAt w' D l.length ps l l.length ∧ ∀ (i:Nat) x,l[i]? = some x → named ps.length x=true) ∨
  (∃ (j:Nat) (x:Sn) (F:Nat),l[j]? = some x ∧ (∀ (i:Nat) y,i < j → l[i]? = some y → named ps.length y=true) ∧ named ps.length x=false ∧ e=.returned (.tuple #[.slice none 0 0,.iface 75 (.pointer (some ⟨F,0,none⟩))]) ∧ w'.cell? ⟨F,0,none⟩=some (.int .i64 j) ∧ w'.cell? ⟨F,1,none⟩=some (.iface 312 (.pointer (some (ad 3))))))
theorem delays_any (pa:Option Addr) (pcap:Nat) (ps:List Pk) (a:Option Addr) (cap:Nat) (l:List Sn) (w:World) (ad:Nat → Addr) (he:w.cell? ⟨3,0,none⟩=some (.iface 312 (.pointer (some (ad 3))))) (hp:LiesP w pa ps) (hl:LiesS w a l) (hn:l.length ≤ 300) (hm:ps.length ≤ 300) (ht:tameAll l)
  (htp:∀ (i:Nat) p,ps[i]? = some p → -1125899906842624 ≤ p.tick ∧ p.tick ≤ 1125899906842624) :
  Calls Tryz.prog 84 #[.slice pa ps.length pcap,.slice a l.length cap] w fun e w'=>DelaysEnd ps l ad w e w':=by
 have HP:Hid (LiesP w pa ps ∧ (∀ (i:Nat) p,ps[i]? = some p → -1125899906842624 ≤ p.tick ∧ p.tick ≤ 1125899906842624)):=⟨hp,htp⟩
 have HL:Hid (LiesS w a l ∧ tameAll l):=⟨hl,ht⟩
 have HE:Hid (w.cell? ⟨3,0,none⟩=some (.iface 312 (.pointer (some (ad 3))))):=he
 clear hp htp hl ht he
 obtain ⟨n,hnn⟩:∃ n,l.length=n:=⟨_,rfl⟩
 obtain ⟨m,hmm⟩:∃ m,ps.length=m:=⟨_,rfl⟩
 have HN:Hid (l.length=n ∧ ps.length=m):=⟨hnn,hmm⟩
 rw [hnn] at hn ⊢
 rw [hmm] at hm ⊢
 clear hnn hmm
 have hmk:∀ w':World,(Instr.makeSlice 32 (.int .i64 n) (.int .i64 n)).run Tryz.prog w'=.ok (.slice (some ⟨w'.heap.size,0,none⟩) n n) (w'.alloc (.cells (madeCells #[.int .i64 0] n) 3)):=fun w'=>by
  obtain ⟨i0,hi,hz0,hz1,hz2⟩:=info_parts Tryz.infoInt
  have:=run_make (P:=Tryz.prog) w' 32 3 i0 (.int .i64 0) Tryz.underlying32 hi hz0 .i64 .i64 n n (by omega) (by omega) (by rw [hz2];omega) (by omega)
  simpa [hz1,Value.cells] using this
 have HS0:Hid (DelAt (w.alloc (.cells (madeCells #[.int .i64 0] n) 3)) w.heap.size n ps l 0 ∧ Below w.heap.size w (w.alloc (.cells (madeCells #[.int .i64 0] n) 3))):=⟨del_made w n _ ps l,(Below.refl _ _).alloc (Nat.le_refl _) _⟩
 go_enter Tryz.func84,Tryz.ntmps84
 go_wp2_with fail
 obtain ⟨D,hD⟩:∃ D,w.heap.size=D:=⟨_,rfl⟩
 have HD:Hid (w.heap.size=D):=hD
 rw [hD]
 clear hD hmk
 go_loopg [14] n (fun gk i wr=>∃ k:Nat,gk+k=n ∧ i=.int .i64 k ∧ (∀ (i:Nat) x,i < k → l[i]? = some x → named m x=true) ∧ DelAt wr D n ps l k ∧ Below w.heap.size w wr)
 case atStart=>exact ⟨0,by omega,rfl,fun i x h=>by omega,by have:=HS0.out.1;rwa [HD.out] at this,HS0.out.2⟩
 case round=>
  obtain ⟨k,hgk,rfl,hok,hdel,hb⟩:=hrel
  have HB:Hid (Below w.heap.size w wr ∧ (∀ (i:Nat) x,i < k → l[i]? = some x → named m x=true) ∧ DelAt wr D n ps l k):=⟨hb,hok,hdel⟩
  by_cases hkn:k < n
  ·
   obtain ⟨x,hx,-⟩:=get_some l k (by rw [HN.out.1];exact hkn)
   obtain ⟨b,off,rfl,-,hc⟩:=HL.out.1.place (by rw [HN.out.1];omega)
   have c1:wr.cell? ⟨b,off+k * 3,none⟩=some (.int .i64 x.num):=cell_later hb (hc k _ hx).1
   have c2:wr.cell? ⟨b,off+k * 3+1,none⟩=some (.int .i64 x.beg):=cell_later hb (hc k _ hx).2.1
   have c3:wr.cell? ⟨b,off+k * 3+2,none⟩=some (.int .i64 x.fin):=cell_later hb (hc k _ hx).2.2
   obtain ⟨-,-,t3,t4⟩:=tame_true (HL.out.2 k x hx)
   have HX:Hid (l[k]? = some x):=hx
   clear hc hx hok hdel
   cases ht:named m x with
   | true=>
    obtain ⟨s1,s2⟩:=named_true ht
    have s1':¬ x.num < 0:=by omega
    have s2':¬ (m:Int) ≤ x.num:=by omega
    obtain ⟨q,hq⟩:∃ q:Nat,x.num=q:=⟨x.num.toNat,by omega⟩
    have hqm:q < m:=by omega
    obtain ⟨p,hp,-⟩:=get_some ps q (by rw [HN.out.2];exact hqm)
    obtain ⟨b2,o2,rfl,-,hc2⟩:=HP.out.1.place (by rw [HN.out.2];omega)
    obtain ⟨t1,t2⟩:=HP.out.2 q p hp
    have HDl:Hid (delayOf ps x=x.fin - p.tick):=by
     show _=_
     unfold delayOf
     rw [hq,Int.toNat_natCast,tickOf_get hp]
    have HT:Hid (named m x=true):=ht
    rw [hq] at c1
    have d1:(wr.alloc (.cells #[.int .i64 q,.int .i64 x.beg,.int .i64 x.fin] 69)).cell? ⟨b2,o2+q * 3+2,none⟩=some (.int .i64 p.tick):=cell_later ((Below.refl _ _).alloc (Nat.le_refl _) _) (cell_later hb (hc2 q _ hp).2.2)
    obtain ⟨u0,hu0⟩:=HB.out.2.2.room k hkn
    have d2:(wr.alloc (.cells #[.int .i64 q,.int .i64 x.beg,.int .i64 x.fin] 69)).cell? ⟨D,k,none⟩=some u0:=cell_later ((Below.refl _ _).alloc (Nat.le_refl _) _) hu0
    have d3:(wr.alloc (.cells #[.int .i64 q,.int .i64 x.beg,.int .i64 x.fin] 69)).frozen? ⟨D,k,none⟩=false:=by
     rw [((Below.refl _ _).alloc (Nat.le_refl _) _:Below wr.heap.size wr _).frozen (p:=⟨D,k,none⟩) HB.out.2.2.lt]
     exact HB.out.2.2.frozen k
    have hw:IntKind.i64.wrap (x.fin - p.tick)=x.fin - p.tick:=IntWalk.i64_in _ (by omega)
    clear hc2 hp ht s1 s2 hu0 hq hb
    generalize x.beg=y at *
    generalize p.tick=tk at *
    go_wp2_with fail
    have HEnd:Hid (DelAt ((wr.alloc (.cells #[.int .i64 q,.int .i64 y,.int .i64 x.fin] 69)).setCell ⟨D,k,none⟩ (.int .i64 (x.fin - tk))).drew D n ps l (k+1) ∧ Below w.heap.size w ((wr.alloc (.cells #[.int .i64 q,.int .i64 y,.int .i64 x.fin] 69)).setCell ⟨D,k,none⟩ (.int .i64 (x.fin - tk))).drew):=by
     have h1:=(HB.out.2.2.later ((Below.refl _ _).alloc (Nat.le_refl _) (.cells #[.int .i64 q,.int .i64 y,.int .i64 x.fin] 69))).put hkn x HX.out
     rw [HDl.out] at h1
     exact ⟨h1.later (below_drewN (Below.refl _ _) 1),below_drewN ((HB.out.1.alloc HB.out.1.size _).setCell (by rw [HD.out];exact Nat.le_refl D) _) 1⟩
    go_region
    go_wp2_with fail
    go_roundg (gk - 1)
    case measure=>omega
    case rel=>
     refine ⟨k+1,by omega,by go_num,fun i z hi hz=>?_,HEnd.out.1,HEnd.out.2⟩
     rcases Nat.lt_or_ge i k with h | h
     · exact HB.out.2.1 i z h hz
     ·
      obtain rfl:i=k:=by omega
      obtain rfl:=Option.some.inj (HX.out.symm.trans hz)
      exact HT.out
   | false=>
    have HEw:=cell_later HB.out.1 HE.out
    have HEa:Hid (wr.cell? ⟨3,0,none⟩=some (.iface 312 (.pointer (some (ad 3))))):=HEw
    have hE1:(wr.alloc (.cells #[.int .i64 x.num,.int .i64 x.beg,.int .i64 x.fin] 69)).cell? ⟨3,0,none⟩=some (.iface 312 (.pointer (some (ad 3)))):=cell_later ((Below.refl _ _).alloc (Nat.le_refl _) _) HEw
    have hcases:=named_false ht
    have HT:Hid (named m x=false):=ht
    clear ht HEw hb
    have HEnd:Hid (DelaysEnd ps l ad w (.returned (.tuple #[.slice none 0 0,.iface 75 (.pointer (some ⟨wr.heap.size+1,0,none⟩))])) ((wr.alloc (.cells #[.int .i64 x.num,.int .i64 x.beg,.int .i64 x.fin] 69)).alloc (.cells #[.int .i64 k,.iface 312 (.pointer (some (ad 3)))] 79)).drew):=by
     have hs:(wr.alloc (.cells #[.int .i64 x.num,.int .i64 x.beg,.int .i64 x.fin] 69)).heap.size=wr.heap.size+1:=by simp
     refine ⟨below_drewN ((HB.out.1.alloc HB.out.1.size _).alloc (by rw [hs];exact Nat.le_succ_of_le HB.out.1.size) _) 1,.inr ⟨k,x,wr.heap.size+1,HX.out,?_,?_,rfl,?_,?_⟩⟩
     ·
      intro i y hi hy
      rw [HN.out.2]
      exact HB.out.2.1 i y hi hy
     · rw [HN.out.2];exact HT.out
     · rw [World.cell?_drew,World.cell?_alloc_at _ _ _ _ hs.symm];rfl
     · rw [World.cell?_drew,World.cell?_alloc_at _ _ _ _ hs.symm];rfl
    rcases hcases with s1 | ⟨s1,s2⟩
    ·
     go_wp2_with fail
     go_region
     go_wp2_with fail
     go_ret2
     exact HEnd.out
    ·
     go_wp2_with fail
     go_region
     go_wp2_with fail
     go_ret2
     exact HEnd.out
  ·
   clear hok hdel hb
   go_wp2_with fail
   go_ret2
   refine ⟨HB.out.1,.inl ⟨D,by rw [HN.out.1];rfl,?_,fun i x hx=>?_⟩⟩
   ·
    obtain rfl:k=n:=by omega
    rw [HN.out.1];exact HB.out.2.2
   ·
    rw [HN.out.2]
    exact HB.out.2.1 i x (by have:=lt_of_get hx;have:=HN.out.1;omega) hx
end Go.Proofs.YtipdclphpkgceaaGreatDoor

namespace Go.Proofs.YtipdclphpkgceaaGreatDoor
section
variable {per:Int} {ps:List Pk} {l:List Sn}
theorem tick_most (ho:OkPks ps) (j:Nat):0 ≤ tickOf ps j ∧ tickOf ps j ≤ 1099511627776:=by
 unfold tickOf
 cases e:ps[j]? with
 | none=>simp only;omega
 | some p=>
  have:=okPk_true (ho.each _ p e).1
  simp only
  omega
theorem Conv.range (ho:OkPks ps) (hper:1 ≤ per ∧ per ≤ 1000) (h:Conv per ps l):∀ (k:Nat) x,l[k]? = some x → 0 ≤ x.beg ∧ x.beg ≤ x.fin ∧ x.fin ≤ 1099511627776+1500000 * ((k:Int)+1)
 | k,x,hx=>by
  obtain ⟨t,b,h1,h2,-,e⟩:=h k x hx
  have hl:lastFin (l.take k) ≤ 1099511627776+1500000 * (k:Int) ∧ 0 ≤ lastFin (l.take k):=by
   cases k with
   | zero=>exact ⟨by rw [List.take_zero,lastFin_nil];omega,by rw [List.take_zero,lastFin_nil];omega⟩
   | succ k=>
    have hkl:k < l.length:=by have:=lt_of_get hx;omega
    have e2:l[k]? = some l[k]:=List.getElem?_eq_getElem hkl
    have:=Conv.range ho hper h k l[k] e2
    rw [lastFin_take e2]
    omega
  have ht:0 ≤ t ∧ t ≤ 1099511627776+1500000 * (k:Int):=by
   rcases h1 with ⟨rfl,-⟩ | ⟨-,j,-,rfl,-⟩
   · omega
   · have:=tick_most ho j;omega
  have hb:0 ≤ per * bytesOf ps b ∧ per * bytesOf ps b ≤ 1500000:=by
   have e2:ps[b]? = some (ps[b]'h2.1):=List.getElem?_eq_getElem h2.1
   have:=okPk_true (ho.each _ _ e2).1
   rw [bytesOf_get e2]
   have a1:0 ≤ per * (ps[b]'h2.1).size:=Int.mul_nonneg (by omega) (by omega)
   have a2:per * (ps[b]'h2.1).size ≤ 1000 * 1500:=Int.mul_le_mul (by omega) (by omega) (by omega) (by omega)
   omega
  rw [e]
  simp only
  omega
end
end Go.Proofs.YtipdclphpkgceaaGreatDoor

namespace Go.Proofs.YtipdclphpkgceaaGreatDoor
open Go.RowKit
theorem conv_tame {per:Int} {ps:List Pk} {l:List Sn} (ho:OkPks ps) (h1:1 ≤ per) (h2:per ≤ 1000) (hc:Conv per ps l) (hl:l.length=ps.length):tameAll l:=fun i x hx=>by
 have h:=hc.range ho ⟨h1,h2⟩ i x hx
 have hi:=lt_of_get hx
 have hf:=ho.few
 have:1500000 * ((i:Int)+1) ≤ 1500000 * 301:=by omega
 exact decide_eq_true (by omega)
theorem conv_named {per:Int} {ps:List Pk} {l:List Sn} (hc:Conv per ps l):∀ (i:Nat) x,l[i]? = some x → named ps.length x=true:=fun i x hx=>by
 obtain ⟨t,b,-,hu,-,rfl⟩:=hc i x hx
 have:=hu.1
 exact decide_eq_true ⟨by show (0:Int) ≤ (b:Int);omega,by show (b:Int) < ps.length;omega⟩
theorem keepDelays (a:Option Addr) (cap:Nat) (ps:List Pk) (per:Int) (b:Option Addr) (bcap:Nat) (l:List Sn) (w:World) (ad:Nat → Addr) (he:Errs9 w ad) (hp:LiesP w a ps) (hl:LiesS w b l) (ho:OkPks ps) (h1:1 ≤ per) (h2:per ≤ 1000) (hc:Conv per ps l) (hll:l.length=ps.length) :
  Calls Tryz.prog 84 #[.slice a ps.length cap,.slice b l.length bcap] w fun e w'=>∃ D,e=.returned (.tuple #[.slice (some ⟨D,0,none⟩) l.length l.length,.nilIface]) ∧ (∀ (i:Nat) x,l[i]? = some x → w'.cell? ⟨D,i,none⟩=some (.int .i64 (x.fin - tickOf ps x.num.toNat))) ∧ Below w.heap.size w w':=by
 refine (delays_any a cap ps b bcap l w ad he.c3 hp hl (by rw [hll];exact ho.few) ho.few (conv_tame ho h1 h2 hc hll) (fun i q hq=>by have:=okPk_true (ho.each i q hq).1;omega)).mono ?_
 rintro e w' ⟨hb,⟨D,rfl,hD,-⟩ | ⟨j,x,F,hj,-,hno,-⟩⟩
 · exact ⟨D,rfl,fun i x hx=>hD.cell i x (lt_of_get hx) hx,hb⟩
 ·
  rw [conv_named hc j x hj] at hno
  cases hno
end Go.Proofs.YtipdclphpkgceaaGreatDoor

namespace Go.Proofs.YtipdclphpkgceaaGreatDoor
open Go.Lib
def cutW:List UInt8 → List UInt8 × List UInt8 × Bool
 | []=>([],[],false)
 | b :: l=>if b=32 then ([],l,true) else (b :: (cutW l).1,(cutW l).2.1,(cutW l).2.2)
def splitW:List UInt8 → List (List UInt8)
 | []=>[[]]
 | b :: l=>if b=32 then [] :: splitW l else match splitW l with | []=>[[b]] | x :: r=>(b :: x) :: r
theorem splitW_cons (l:List UInt8):∃ x r,splitW l=x :: r:=by
 cases l with
 | nil=>exact ⟨_,_,rfl⟩
 | cons b l=>
  unfold splitW
  split
  · exact ⟨_,_,rfl⟩
  ·
   cases splitW l with
   | nil=>exact ⟨_,_,rfl⟩
   | cons x r=>exact ⟨_,_,rfl⟩
theorem index_blank:∀ s:List UInt8,(index s [32] = -1 ∧ cutW s=(s,[],false) ∧ splitW s=[s]) ∨ ∃ i:Nat,index s [32]=i ∧ i < s.length ∧ cutW s=(s.take i,s.drop (i+1),true) ∧ splitW s=s.take i :: splitW (s.drop (i+1))
 | []=>.inl ⟨rfl,rfl,rfl⟩
 | b :: l=>by
  by_cases hb:b=32
  ·
   subst hb
   refine .inr ⟨0,?_,by simp,by simp [cutW],by simp [splitW]⟩
   unfold index
   rw [if_pos (by rfl)]
   rfl
  ·
   have hp:¬ [32].isPrefixOf (b :: l)=true:=by
    simp [List.isPrefixOf]
    exact fun h=>hb h.symm
   rcases index_blank l with ⟨h1,h2,h3⟩ | ⟨i,h1,h2,h3,h4⟩
   ·
    refine .inl ⟨?_,?_,?_⟩
    ·
     unfold index
     rw [if_neg hp,h1]
     rfl
    · simp [cutW,hb,h2]
    · simp [splitW,hb,h3]
   ·
    refine .inr ⟨i+1,?_,by simp;omega,?_,?_⟩
    ·
     unfold index
     rw [if_neg hp,h1,if_neg (by simp)]
     simp
    · simp [cutW,hb,h3]
    · simp [splitW,hb,h4]
theorem cut_blank (s:List UInt8):cut s [32]=cutW s:=by
 unfold cut
 rcases index_blank s with ⟨h1,h2,-⟩ | ⟨i,h1,h2,h3,-⟩
 · rw [h1,if_neg (by decide),h2]
 ·
  rw [h1,if_pos (by omega),h3]
  simp
theorem splitK_blank:∀ (fuel:Nat) (s:List UInt8),s.length < fuel → splitK [32] 0 (countFrom [32] fuel s) s=splitW s
 | 0,s,h=>by omega
 | fuel+1,s,h=>by
  rcases index_blank s with ⟨h1,-,h3⟩ | ⟨i,h1,h2,-,h4⟩
  ·
   unfold countFrom
   rw [h1,if_pos (by rfl),h3]
   rfl
  ·
   unfold countFrom
   rw [h1,if_neg (by simp),Nat.add_comm 1]
   unfold splitK
   rw [h1,if_neg (by simp),h4]
   simp only [Int.toNat_natCast,Nat.add_zero,List.length_cons,List.length_nil,Nat.zero_add]
   rw [splitK_blank fuel (s.drop (i+1)) (by rw [List.length_drop];omega)]
theorem split_blank (s:List UInt8):split s [32]=splitW s:=splitK_blank (s.length+1) s (by omega)
theorem splitW_len:∀ s:List UInt8,1 ≤ (splitW s).length ∧ (splitW s).length ≤ s.length+1
 | []=>by simp [splitW]
 | b :: l=>by
  obtain ⟨h1,h2⟩:=splitW_len l
  obtain ⟨x,r,e⟩:=splitW_cons l
  unfold splitW
  split
  · simp;omega
  ·
   rw [e] at h2 ⊢
   simp at h2 ⊢
   omega
theorem splitW_short:∀ (s:List UInt8),∀ x ∈ splitW s,x.length ≤ s.length
 | [],x,h=>by simp [splitW] at h;simp [h]
 | b :: l,x,h=>by
  have ih:=splitW_short l
  obtain ⟨y,r,e⟩:=splitW_cons l
  unfold splitW at h
  split at h
  ·
   rcases List.mem_cons.1 h with rfl | h
   · simp
   · have:=ih x h;simp;omega
  ·
   rw [e] at h ih
   simp only [List.mem_cons] at h
   rcases h with rfl | h
   · have:=ih y (by simp);simp;omega
   · have:=ih x (by simp [h]);simp;omega
theorem cutW_short (s:List UInt8):(cutW s).1.length ≤ s.length ∧ (cutW s).2.1.length ≤ s.length:=by
 rcases index_blank s with ⟨-,h,-⟩ | ⟨i,-,-,h,-⟩
 · rw [h];simp
 · rw [h];simp [List.length_take,List.length_drop];omega
end Go.Proofs.YtipdclphpkgceaaGreatDoor
