/- Own facts, put together: no statement of its own. -/
import Derived.Test.YtipdclphpkgceaaGreatDoorS24
import Derived.Deep.AppendLies
import Derived.Deep.LoopGhost
import Derived.Test.YtipdclphpkgceaaGreatDoorS13
set_option maxHeartbeats 4000000
set_option maxRecDepth 100000

namespace Go.Proofs.YtipdclphpkgceaaGreatDoor
open Go.RowKit
theorem own_open {w:World} {B:Nat} {v:Value} {zs:List Int} (h:w.ownsRow B 3 1 v zs.length (ints zs)):∃ ao cap,v=.slice ao zs.length cap ∧ zs.length ≤ cap ∧ cap ≤ maxLen:=by
 obtain ⟨h1,⟨rfl,h0⟩ | ⟨g,cap,cur,rfl,hB,hg,hn,hm,hc,ht⟩⟩:=h
 · exact ⟨none,0,by rw [h0],by omega,by simp [maxLen]⟩
 · exact ⟨_,cap,rfl,hn,hm⟩
theorem own_some {w:World} {B:Nat} {v:Value} {zs:List Int} (h:w.ownsRow B 3 1 v zs.length (ints zs)) (h0:0 < zs.length):∃ g cap,v=.slice (some ⟨g,0,none⟩) zs.length cap ∧ zs.length ≤ cap ∧ cap ≤ maxLen ∧ ∀ (i:Nat) x,zs[i]? = some x → w.cell? ⟨g,i,none⟩=some (.int .i64 x):=by
 have hh:=h
 obtain ⟨h1,⟨rfl,h0'⟩ | ⟨g,cap,cur,rfl,hB,hg,hn,hm,hc,ht⟩⟩:=h
 · omega
 ·
  refine ⟨g,cap,rfl,hn,hm,fun i x hx=>?_⟩
  have hi:i < zs.length:=by
   rcases Nat.lt_or_ge i zs.length with h' | h'
   · exact h'
   · simp [List.getElem?_eq_none h'] at hx
  rw [hh.cellAt i (by omega)]
  exact ints_get hx
def LeastTaken (B:Nat) (w:World) (r cap:Nat) (q:List Nat) (i:Nat) (e:Ending) (w':World):Prop:=
 e=.returned (.tuple #[.int .i64 (q.getD i 0:Nat),.slice (some ⟨r,0,none⟩) (q.length - 1) cap]) ∧ w'.ownsRow B 3 1 (.slice (some ⟨r,0,none⟩) (q.length - 1) cap) (q.length - 1) (ints (asInts (q.eraseIdx i))) ∧ But (fun j=>j=r) w w'
theorem takeLeastA (B:Nat) (f:Nat) (x1 x2:Value) (key:Nat → Int) (n r cap:Nat) (q:List Nat) (w:World) (hn:q.length ≤ 1000) (h0:0 < q.length) (hq:∀ k,k ∈ q → k < n)
  (h2:w.ownsRow B 3 1 (.slice (some ⟨r,0,none⟩) q.length cap) q.length (ints (asInts q))) (hlc:q.length ≤ cap) (hcm:cap ≤ maxLen)
  (hf:∀ args W,Sem.run Tryz.prog (callFunc f args) W=.ok (.enter f args) W)
  (hM:∀ m k,k < n → Calls Tryz.prog f #[.int .i64 ((k:Nat):Int),x1,x2] (w.drewN m) fun e w'=>e=.returned (.int .i64 (key k)) ∧ ∃ m',w'=(w.drewN m).drewN m') :
  Calls Tryz.prog 202 #[.slice (some ⟨r,0,none⟩) q.length cap,.func (.func f) #[] #[x1,x2]] w fun e w'=>LeastTaken B w r cap q (pickAt key q) e w':=by
 have HM:Hid (∀ m k,k < n → Calls Tryz.prog f #[.int .i64 ((k:Nat):Int),x1,x2] (w.drewN m) fun e w'=>e=.returned (.int .i64 (key k)) ∧ ∃ m',w'=(w.drewN m).drewN m'):=hM
 have hcell:=(fun (i:Nat) x (hx:(asInts q)[i]? = some x)=>(h2.cellAt i (by have:=lt_of_get hx;rw [asInts_length] at this;omega)).trans (ints_get hx):∀ (i:Nat) x,(asInts q)[i]? = some x → w.cell? ⟨r,i,none⟩=some (.int .i64 x))
 have H2:Hid (w.ownsRow B 3 1 (.slice (some ⟨r,0,none⟩) (asInts q).length cap) (asInts q).length (ints (asInts q)) ∧ cap ≤ maxLen ∧ (asInts q).length ≤ cap):=by rw [asInts_length];exact ⟨h2,hcm,hlc⟩
 have HC:Hid (∀ i,i < q.length → ∃ k,q[i]? = some k ∧ q.getD i 0=k ∧ k < n ∧ w.cell? ⟨r,i,none⟩=some (.int .i64 ((k:Nat):Int))):=fun i hi=>by
  obtain ⟨k,hk,hmem⟩:=get_some q i hi
  exact ⟨k,hk,by simp [List.getD,hk],hq k hmem,hcell i _ (asInts_get hk)⟩
 unfold maxLen at hcm
 clear h2 hq hM hcell
 obtain ⟨l,hl⟩:∃ l,q.length=l:=⟨_,rfl⟩
 have HL:Hid (q.length=l):=hl
 rw [hl] at hn h0 hlc HC ⊢
 clear hl
 go_enter Tryz.func202,Tryz.ntmps202
 go_wp2_with fail
 go_loopw [6,11] (fun fi i wr=>∃ k:Nat,k ≤ l ∧ i=.int .i64 k ∧ fi=.int .i64 (firstLeast key q k) ∧ ∃ m,wr=w.drewN m) (fun _ i _=>l - (intOf i).toNat)
 case atStart=>exact ⟨0,Nat.zero_le _,rfl,rfl,0,rfl⟩
 case round=>
  obtain ⟨k,hk,rfl,rfl,m,hm⟩:=hrel
  have HW:Hid (wr=w.drewN m):=hm
  by_cases hkl:k < l
  ·
   have hfl:firstLeast key q k < l:=by rw [← HL.out];exact firstLeast_lt key (by rw [HL.out];exact h0) (by rw [HL.out];exact hk)
   obtain ⟨fl,hfe⟩:∃ fl,firstLeast key q k=fl:=⟨_,rfl⟩
   obtain ⟨a,ha,had,han,ca⟩:=HC.out k hkl
   rw [hfe] at hfl ⊢
   obtain ⟨b,hb,hbd,hbn,cb⟩:=HC.out fl hfl
   have HE:Hid (firstLeast key q (k+1)=if key a < key b then k else fl):=by
    show firstLeast key q (k+1)=_
    simp only [firstLeast,had,hfe,hbd]
   have da:wr.cell? ⟨r,k,none⟩=some (.int .i64 (a:Int)):=by rw [hm];exact ca
   have db:wr.cell? ⟨r,fl,none⟩=some (.int .i64 (b:Int)):=by rw [hm];exact cb
   have HMa:Hid (∀ j,Calls Tryz.prog f #[.int .i64 ((a:Nat):Int),x1,x2] (wr.drewN j) fun e w'=>e=.returned (.int .i64 (key a)) ∧ ∃ m',w'=(wr.drewN j).drewN m'):=fun j=>by
    have:=HM.out (m+j) a han
    rw [hm,World.drewN_drewN]
    exact this
   have HMb:Hid (∀ j,Calls Tryz.prog f #[.int .i64 ((b:Nat):Int),x1,x2] (wr.drewN j) fun e w'=>e=.returned (.int .i64 (key b)) ∧ ∃ m',w'=(wr.drewN j).drewN m'):=fun j=>by
    have:=HM.out (m+j) b hbn
    rw [hm,World.drewN_drewN]
    exact this
   clear hfe ha had hb hbd ca cb hm
   by_cases hlt:key a < key b
   ·
    have HE':Hid (firstLeast key q (k+1)=k):=HE.out.trans (if_pos hlt)
    go_wp2_with fail
    go_quiet (first
     | exact Calls.quiet_of (HMa.out _)
     | exact Calls.quiet_of (HMb.out _))
    go_wp2_with fail
    go_roundw
    case rel=>exact ⟨k+1,by omega,by go_num,by rw [HE'.out],m+nq,by rw [HW.out,World.drewN_drewN]⟩
    case measure=>simp [intOf];omega
   ·
    have HE':Hid (firstLeast key q (k+1)=fl):=HE.out.trans (if_neg hlt)
    go_wp2_with fail
    go_quiet (first
     | exact Calls.quiet_of (HMa.out _)
     | exact Calls.quiet_of (HMb.out _))
    go_wp2_with fail
    go_roundw
    case rel=>exact ⟨k+1,by omega,by go_num,by rw [HE'.out],m+nq,by rw [HW.out,World.drewN_drewN]⟩
    case measure=>simp [intOf];omega
  ·
   obtain rfl:k=l:=by omega
   have hfl:firstLeast key q k < k:=by rw [← HL.out];exact firstLeast_lt key (by rw [HL.out];exact h0) (Nat.le_refl _)
   obtain ⟨fl,hfe⟩:∃ fl,firstLeast key q k=fl:=⟨_,rfl⟩
   rw [hfe] at hfl ⊢
   obtain ⟨b,hb,hbd,hbn,cb⟩:=HC.out fl hfl
   have db:wr.cell? ⟨r,fl,none⟩=some (.int .i64 (b:Int)):=by rw [hm];exact cb
   have HPick:Hid (pickAt key q=fl ∧ q.getD fl 0=b):=⟨by unfold pickAt;rw [HL.out];exact hfe,hbd⟩
   have HBw:Hid (But (fun j=>j=r) w wr):=by
    show But _ _ _
    rw [hm]
    exact .ofBelow (below_drewN (Below.refl _ _) _)
   have HDel:Hid (Calls Tryz.prog 221 #[.slice (some ⟨r,0,none⟩) k cap,.int .i64 (fl:Int),.int .i64 ((fl:Int)+1)] wr fun e w'=>e=.returned (.slice (some ⟨r,0,none⟩) (k - 1) cap) ∧ w'.ownsRow B 3 1 (.slice (some ⟨r,0,none⟩) (k - 1) cap) (k - 1) (ints (asInts (q.eraseIdx fl))) ∧ But (fun j=>j=r) wr w'):=by
    have hown:wr.ownsRow B 3 1 (.slice (some ⟨r,0,none⟩) (asInts q).length cap) (asInts q).length (ints (asInts q)):=by rw [hm];exact H2.out.1
    have hd:=delete_one B r cap fl (asInts q) wr hown (by rw [asInts_length,HL.out];exact hfl) H2.out.2.2 H2.out.2.1
    rw [asInts_length,HL.out,asInts_erase] at hd
    exact hd
   clear hfe hb hbd cb hm
   go_wp2_with fail
   refine HDel.out.mono ?_
   rintro e w2 ⟨rfl,hown2,hbut2⟩
   have HO:Hid (w2.ownsRow B 3 1 (.slice (some ⟨r,0,none⟩) (k - 1) cap) (k - 1) (ints (asInts (q.eraseIdx fl))) ∧ But (fun j=>j=r) wr w2):=⟨hown2,hbut2⟩
   clear hown2 hbut2
   go_wp2_with fail
   go_ret2
   rw [HPick.out.1]
   unfold LeastTaken
   rw [HL.out,HPick.out.2]
   exact ⟨rfl,HO.out.1,HBw.out.trans HO.out.2⟩
theorem takeLeastB (B:Nat) (f:Nat) (x1:Value) (key:Nat → Int) (n r cap:Nat) (q:List Nat) (w:World) (hn:q.length ≤ 1000) (h0:0 < q.length) (hq:∀ k,k ∈ q → k < n)
  (h2:w.ownsRow B 3 1 (.slice (some ⟨r,0,none⟩) q.length cap) q.length (ints (asInts q))) (hlc:q.length ≤ cap) (hcm:cap ≤ maxLen)
  (hf:∀ args W,Sem.run Tryz.prog (callFunc f args) W=.ok (.enter f args) W)
  (hM:∀ m k,k < n → Calls Tryz.prog f #[x1,.int .i64 ((k:Nat):Int)] (w.drewN m) fun e w'=>e=.returned (.int .i64 (key k)) ∧ ∃ m',w'=(w.drewN m).drewN m') :
  Calls Tryz.prog 202 #[.slice (some ⟨r,0,none⟩) q.length cap,.func (.func f) #[x1] #[]] w fun e w'=>LeastTaken B w r cap q (pickAt key q) e w':=by
 have HM:Hid (∀ m k,k < n → Calls Tryz.prog f #[x1,.int .i64 ((k:Nat):Int)] (w.drewN m) fun e w'=>e=.returned (.int .i64 (key k)) ∧ ∃ m',w'=(w.drewN m).drewN m'):=hM
 have hcell:=(fun (i:Nat) x (hx:(asInts q)[i]? = some x)=>(h2.cellAt i (by have:=lt_of_get hx;rw [asInts_length] at this;omega)).trans (ints_get hx):∀ (i:Nat) x,(asInts q)[i]? = some x → w.cell? ⟨r,i,none⟩=some (.int .i64 x))
 have H2:Hid (w.ownsRow B 3 1 (.slice (some ⟨r,0,none⟩) (asInts q).length cap) (asInts q).length (ints (asInts q)) ∧ cap ≤ maxLen ∧ (asInts q).length ≤ cap):=by rw [asInts_length];exact ⟨h2,hcm,hlc⟩
 have HC:Hid (∀ i,i < q.length → ∃ k,q[i]? = some k ∧ q.getD i 0=k ∧ k < n ∧ w.cell? ⟨r,i,none⟩=some (.int .i64 ((k:Nat):Int))):=fun i hi=>by
  obtain ⟨k,hk,hmem⟩:=get_some q i hi
  exact ⟨k,hk,by simp [List.getD,hk],hq k hmem,hcell i _ (asInts_get hk)⟩
 unfold maxLen at hcm
 clear h2 hq hM hcell
 obtain ⟨l,hl⟩:∃ l,q.length=l:=⟨_,rfl⟩
 have HL:Hid (q.length=l):=hl
 rw [hl] at hn h0 hlc HC ⊢
 clear hl
 go_enter Tryz.func202,Tryz.ntmps202
 go_wp2_with fail
 go_loopw [6,11] (fun fi i wr=>∃ k:Nat,k ≤ l ∧ i=.int .i64 k ∧ fi=.int .i64 (firstLeast key q k) ∧ ∃ m,wr=w.drewN m) (fun _ i _=>l - (intOf i).toNat)
 case atStart=>exact ⟨0,Nat.zero_le _,rfl,rfl,0,rfl⟩
 case round=>
  obtain ⟨k,hk,rfl,rfl,m,hm⟩:=hrel
  have HW:Hid (wr=w.drewN m):=hm
  by_cases hkl:k < l
  ·
   have hfl:firstLeast key q k < l:=by rw [← HL.out];exact firstLeast_lt key (by rw [HL.out];exact h0) (by rw [HL.out];exact hk)
   obtain ⟨fl,hfe⟩:∃ fl,firstLeast key q k=fl:=⟨_,rfl⟩
   obtain ⟨a,ha,had,han,ca⟩:=HC.out k hkl
   rw [hfe] at hfl ⊢
   obtain ⟨b,hb,hbd,hbn,cb⟩:=HC.out fl hfl
   have HE:Hid (firstLeast key q (k+1)=if key a < key b then k else fl):=by
    show firstLeast key q (k+1)=_
    simp only [firstLeast,had,hfe,hbd]
   have da:wr.cell? ⟨r,k,none⟩=some (.int .i64 (a:Int)):=by rw [hm];exact ca
   have db:wr.cell? ⟨r,fl,none⟩=some (.int .i64 (b:Int)):=by rw [hm];exact cb
   have HMa:Hid (∀ j,Calls Tryz.prog f #[x1,.int .i64 ((a:Nat):Int)] (wr.drewN j) fun e w'=>e=.returned (.int .i64 (key a)) ∧ ∃ m',w'=(wr.drewN j).drewN m'):=fun j=>by
    have:=HM.out (m+j) a han
    rw [hm,World.drewN_drewN]
    exact this
   have HMb:Hid (∀ j,Calls Tryz.prog f #[x1,.int .i64 ((b:Nat):Int)] (wr.drewN j) fun e w'=>e=.returned (.int .i64 (key b)) ∧ ∃ m',w'=(wr.drewN j).drewN m'):=fun j=>by
    have:=HM.out (m+j) b hbn
    rw [hm,World.drewN_drewN]
    exact this
   clear hfe ha had hb hbd ca cb hm
   by_cases hlt:key a < key b
   ·
    have HE':Hid (firstLeast key q (k+1)=k):=HE.out.trans (if_pos hlt)
    go_wp2_with fail
    go_quiet (first
     | exact Calls.quiet_of (HMa.out _)
     | exact Calls.quiet_of (HMb.out _))
    go_wp2_with fail
    go_roundw
    case rel=>exact ⟨k+1,by omega,by go_num,by rw [HE'.out],m+nq,by rw [HW.out,World.drewN_drewN]⟩
    case measure=>simp [intOf];omega
   ·
    have HE':Hid (firstLeast key q (k+1)=fl):=HE.out.trans (if_neg hlt)
    go_wp2_with fail
    go_quiet (first
     | exact Calls.quiet_of (HMa.out _)
     | exact Calls.quiet_of (HMb.out _))
    go_wp2_with fail
    go_roundw
    case rel=>exact ⟨k+1,by omega,by go_num,by rw [HE'.out],m+nq,by rw [HW.out,World.drewN_drewN]⟩
    case measure=>simp [intOf];omega
  ·
   obtain rfl:k=l:=by omega
   have hfl:firstLeast key q k < k:=by rw [← HL.out];exact firstLeast_lt key (by rw [HL.out];exact h0) (Nat.le_refl _)
   obtain ⟨fl,hfe⟩:∃ fl,firstLeast key q k=fl:=⟨_,rfl⟩
   rw [hfe] at hfl ⊢
   obtain ⟨b,hb,hbd,hbn,cb⟩:=HC.out fl hfl
   have db:wr.cell? ⟨r,fl,none⟩=some (.int .i64 (b:Int)):=by rw [hm];exact cb
   have HPick:Hid (pickAt key q=fl ∧ q.getD fl 0=b):=⟨by unfold pickAt;rw [HL.out];exact hfe,hbd⟩
   have HBw:Hid (But (fun j=>j=r) w wr):=by
    show But _ _ _
    rw [hm]
    exact .ofBelow (below_drewN (Below.refl _ _) _)
   have HDel:Hid (Calls Tryz.prog 221 #[.slice (some ⟨r,0,none⟩) k cap,.int .i64 (fl:Int),.int .i64 ((fl:Int)+1)] wr fun e w'=>e=.returned (.slice (some ⟨r,0,none⟩) (k - 1) cap) ∧ w'.ownsRow B 3 1 (.slice (some ⟨r,0,none⟩) (k - 1) cap) (k - 1) (ints (asInts (q.eraseIdx fl))) ∧ But (fun j=>j=r) wr w'):=by
    have hown:wr.ownsRow B 3 1 (.slice (some ⟨r,0,none⟩) (asInts q).length cap) (asInts q).length (ints (asInts q)):=by rw [hm];exact H2.out.1
    have hd:=delete_one B r cap fl (asInts q) wr hown (by rw [asInts_length,HL.out];exact hfl) H2.out.2.2 H2.out.2.1
    rw [asInts_length,HL.out,asInts_erase] at hd
    exact hd
   clear hfe hb hbd cb hm
   go_wp2_with fail
   refine HDel.out.mono ?_
   rintro e w2 ⟨rfl,hown2,hbut2⟩
   have HO:Hid (w2.ownsRow B 3 1 (.slice (some ⟨r,0,none⟩) (k - 1) cap) (k - 1) (ints (asInts (q.eraseIdx fl))) ∧ But (fun j=>j=r) wr w2):=⟨hown2,hbut2⟩
   clear hown2 hbut2
   go_wp2_with fail
   go_ret2
   rw [HPick.out.1]
   unfold LeastTaken
   rw [HL.out,HPick.out.2]
   exact ⟨rfl,HO.out.1,HBw.out.trans HO.out.2⟩
theorem rankRest (B:Nat) (W0:World) (g gm:Nat) (mv:Value) (D:Nat → Prop) (q:List Nat) (w:World) (h:HeldR B W0 g gm mv w D q) :
  Calls Tryz.prog 203 #[.pointer (some ⟨g,0,none⟩)] w fun e w'=>e=.returned (.int .i64 (q.length:Int)) ∧ w'=w:=by
 obtain ⟨v,h1,h2,h3,h4,h5⟩:=h.row
 rw [← asInts_length] at h2
 obtain ⟨ao,cap,rfl,hlc,hcm⟩:=own_open h2
 rw [asInts_length] at h1 hlc
 have c0:=cell_of_one h1
 unfold maxLen at hcm
 clear h1 h2 h3 h4 h5 h
 go_enter Tryz.func203,Tryz.ntmps203
 go_wp2
 go_ret
 exact ⟨rfl,rfl⟩
theorem rankPick (B:Nat) (W0:World) (g gm f:Nat) (x1 x2:Value) (key:Nat → Int) (n:Nat) (D:Nat → Prop) (q:List Nat) (w:World) (h:HeldR B W0 g gm (.func (.func f) #[] #[x1,x2]) w D q) (hn:q.length ≤ 1000) (h0:0 < q.length) (hq:∀ k,k ∈ q → k < n)
  (hf:∀ args W,Sem.run Tryz.prog (callFunc f args) W=.ok (.enter f args) W)
  (hM:∀ W k,Below B W0 W → k < n → Calls Tryz.prog f #[.int .i64 ((k:Nat):Int),x1,x2] W fun e w'=>e=.returned (.int .i64 (key k)) ∧ ∃ m,w'=W.drewN m) :
  Calls Tryz.prog 201 #[.pointer (some ⟨g,0,none⟩),.pointer (some ⟨gm,0,none⟩)] w fun e w'=>e=.returned (.int .i64 (q.getD (pickAt key q) 0:Nat)) ∧ QueLeft (HeldR B W0 g gm (.func (.func f) #[] #[x1,x2])) w w' D (q.eraseIdx (pickAt key q)):=by
 have HH:Hid (HeldR B W0 g gm (.func (.func f) #[] #[x1,x2]) w D q):=h
 obtain ⟨v,h1,h2,h3,h4,h5⟩:=h.row
 rw [← asInts_length] at h2
 obtain ⟨r,cap,rfl,hlc,hcm,hcell⟩:=own_some h2 (by rw [asInts_length];exact h0)
 have H2:Hid (w.ownsRow B 3 1 (.slice (some ⟨r,0,none⟩) (asInts q).length cap) (asInts q).length (ints (asInts q)) ∧ cap ≤ maxLen ∧ (asInts q).length ≤ cap):=⟨h2,hcm,hlc⟩
 rw [asInts_length] at h1 hlc
 have c0:=cell_of_one h1
 have cm:=cell_of_one h.mea
 have H1:Hid (w.heap[g]? = some (.cells #[.slice (some ⟨r,0,none⟩) q.length cap] 32 (0,0)) ∧ r ≠ g):=⟨h1,fun e=>h3 (by rw [e];rfl)⟩
 have HC:Hid (∀ i,i < q.length → ∃ k,q[i]? = some k ∧ q.getD i 0=k ∧ k < n ∧ w.cell? ⟨r,i,none⟩=some (.int .i64 ((k:Nat):Int))):=fun i hi=>by
  obtain ⟨k,hk,hmem⟩:=get_some q i hi
  exact ⟨k,hk,by simp [List.getD,hk],hq k hmem,hcell i _ (asInts_get hk)⟩
 have h2':w.ownsRow B 3 1 (.slice (some ⟨r,0,none⟩) q.length cap) q.length (ints (asInts q)):=by rw [asInts_length] at h2;exact h2
 have ht:=takeLeastA B f x1 x2 key n r cap q w hn h0 hq h2' hlc hcm hf (fun m' k hk=>hM _ k (below_drewN h.env _) hk)
 unfold LeastTaken at ht
 have hpl:=pickAt_lt key h0
 have HLen:Hid ((q.eraseIdx (pickAt key q)).length=q.length - 1):=by
  show _=_
  rw [List.length_eraseIdx,if_pos hpl]
 obtain ⟨x,hx⟩:∃ x,q.getD (pickAt key q) 0=x:=⟨_,rfl⟩
 obtain ⟨l,hl⟩:∃ l,q.length=l:=⟨_,rfl⟩
 obtain ⟨pk,hpk⟩:∃ pk,pickAt key q=pk:=⟨_,rfl⟩
 rw [hx]
 rw [hx,hl,hpk] at ht
 rw [hpk]
 rw [hpk] at HLen
 have HT:Hid (Calls Tryz.prog 202 #[.slice (some ⟨r,0,none⟩) l cap,.func (.func f) #[] #[x1,x2]] w fun e w'=>e=.returned (.tuple #[.int .i64 (x:Nat),.slice (some ⟨r,0,none⟩) (l - 1) cap]) ∧ w'.ownsRow B 3 1 (.slice (some ⟨r,0,none⟩) (l - 1) cap) (l - 1) (ints (asInts (q.eraseIdx pk))) ∧ But (fun j=>j=r) w w'):=ht
 have HL:Hid (q.length=l):=hl
 rw [hl] at c0 hn h0 hlc
 clear h1 h2 h3 h4 h5 h hq hM hcell h2' ht hpl hx hl hpk
 go_enter Tryz.func201,Tryz.ntmps201
 go_wp2_with fail
 refine HT.out.mono ?_
 rintro e w2 ⟨rfl,hown2,hbut2⟩
 have hg2:w2.heap[g]? = some (.cells #[.slice (some ⟨r,0,none⟩) l cap] 32 (0,0)):=by
  have:=H1.out.1
  rw [HL.out] at this
  exact (hbut2.block g (lt_of_block this) (fun e=>H1.out.2 e.symm)).trans this
 have c2:=cell_of_one hg2
 have f2:=free_of_one hg2
 have HO:Hid (w2.ownsRow B 3 1 (.slice (some ⟨r,0,none⟩) (l - 1) cap) (l - 1) (ints (asInts (q.eraseIdx pk))) ∧ But (fun j=>j=r) w w2):=⟨hown2,hbut2⟩
 clear hown2 hbut2 hg2
 go_wp2_with fail
 go_ret
 refine ⟨rfl,HH.out.stored (v:=.slice (some ⟨r,0,none⟩) q.length cap) H1.out.1 (Below.refl _ _) (HO.out.2.mono fun j hj=>by rw [hj];rfl) ?_ (fun j hj=>.inl hj)⟩
 rw [HLen.out,HL.out]
 exact HO.out.1
def ruleR (g gm:Nat):Value:=.agg #[.func (.func 200) #[] #[.pointer (some ⟨g,0,none⟩)],.func (.func 201) #[] #[.pointer (some ⟨g,0,none⟩),.pointer (some ⟨gm,0,none⟩)],.func (.func 203) #[] #[.pointer (some ⟨g,0,none⟩)]]
theorem rankRuleRest (B:Nat) (W0:World) (g gm:Nat) (mv:Value) (D:Nat → Prop) (q:List Nat) (w:World) (h:HeldR B W0 g gm mv w D q) :
  Calls Tryz.prog 286 #[ruleR g gm] w fun e w'=>e=.returned (.int .i64 (q.length:Int)) ∧ QueLeft (HeldR B W0 g gm mv) w w' D q:=by
 have HH:Hid (HeldR B W0 g gm mv w D q):=h
 clear h
 unfold ruleR
 go_enter Tryz.func286,Tryz.ntmps286
 go_wp2_with fail
 refine (rankRest B W0 g gm mv D q _ (HH.out.alloc _)).mono ?_
 rintro e w1 ⟨rfl,rfl⟩
 go_wp2_with fail
 go_ret
 exact ⟨rfl,HH.out.same ((Below.refl _ _).alloc (Nat.le_refl _) _)⟩
theorem rankRulePick (B:Nat) (W0:World) (g gm f:Nat) (x1 x2:Value) (key:Nat → Int) (n:Nat) (D:Nat → Prop) (q:List Nat) (w:World) (h:HeldR B W0 g gm (.func (.func f) #[] #[x1,x2]) w D q) (hn:q.length ≤ 1000) (h0:0 < q.length) (hq:∀ k,k ∈ q → k < n)
  (hf:∀ args W,Sem.run Tryz.prog (callFunc f args) W=.ok (.enter f args) W)
  (hM:∀ W k,Below B W0 W → k < n → Calls Tryz.prog f #[.int .i64 ((k:Nat):Int),x1,x2] W fun e w'=>e=.returned (.int .i64 (key k)) ∧ ∃ m,w'=W.drewN m) :
  Calls Tryz.prog 285 #[ruleR g gm] w fun e w'=>e=.returned (.int .i64 (q.getD (pickAt key q) 0:Nat)) ∧ QueLeft (HeldR B W0 g gm (.func (.func f) #[] #[x1,x2])) w w' D (q.eraseIdx (pickAt key q)):=by
 have HP:Hid (∀ w',HeldR B W0 g gm (.func (.func f) #[] #[x1,x2]) w' D q → Calls Tryz.prog 201 #[.pointer (some ⟨g,0,none⟩),.pointer (some ⟨gm,0,none⟩)] w' fun e w''=>e=.returned (.int .i64 (q.getD (pickAt key q) 0:Nat)) ∧ QueLeft (HeldR B W0 g gm (.func (.func f) #[] #[x1,x2])) w' w'' D (q.eraseIdx (pickAt key q))):=fun w' h'=>rankPick B W0 g gm f x1 x2 key n D q w' h' hn h0 hq hf hM
 have HH:Hid (HeldR B W0 g gm (.func (.func f) #[] #[x1,x2]) w D q):=h
 clear h hq hf hM
 unfold ruleR
 go_enter Tryz.func285,Tryz.ntmps285
 go_wp2_with fail
 refine (HP.out _ (HH.out.alloc _)).mono ?_
 rintro e w1 ⟨rfl,ho⟩
 have HO:Hid (QueLeft (HeldR B W0 g gm (.func (.func f) #[] #[x1,x2])) w w1 D (q.eraseIdx (pickAt key q))):=ho.after ((Below.refl _ _).alloc (Nat.le_refl _) _)
 clear ho
 go_wp2_with fail
 go_ret
 exact ⟨rfl,HO.out⟩
theorem rankRuleCome (B:Nat) (W0:World) (g gm:Nat) (mv:Value) (D:Nat → Prop) (q:List Nat) (k:Nat) (w:World) (h:HeldR B W0 g gm mv w D q) (hn:q.length ≤ 1000) :
  Calls Tryz.prog 284 #[ruleR g gm,.int .i64 (k:Int)] w fun e w'=>e=.returned (.tuple #[]) ∧ QueLeft (HeldR B W0 g gm mv) w w' D (q ++ [k]):=by
 have HH:Hid (HeldR B W0 g gm mv w D q):=h
 clear h
 unfold ruleR
 go_enter Tryz.func284,Tryz.ntmps284
 go_wp2_with fail
 refine (rankCome B W0 g gm mv D q k _ (HH.out.alloc _) hn).mono ?_
 rintro e w1 ⟨rfl,ho⟩
 have HO:Hid (QueLeft (HeldR B W0 g gm mv) w w1 D (q ++ [k])):=ho.after ((Below.refl _ _).alloc (Nat.le_refl _) _)
 clear ho
 go_wp2_with fail
 go_end0
 exact ⟨rfl,HO.out⟩
theorem leastFirst_any (mv:Value) (f:Nat) (x1 x2:Value) (hmv:mv=.func (.func f) #[] #[x1,x2]) (w:World) :
  Calls Tryz.prog 173 #[mv] w fun e w'=>e=.returned (.iface 266 (ruleR (w.heap.size+1) w.heap.size)) ∧ HeldR w.heap.size w (w.heap.size+1) w.heap.size mv w' (fun k=>k=w.heap.size+1 ∨ k=w.heap.size) [] ∧ Below w.heap.size w w':=by
 subst hmv
 unfold ruleR
 go_enter Tryz.func173,Tryz.ntmps173
 go_wp2_with fail
 go_ret
 have hb1:Below w.heap.size w (w.alloc (.cells #[.func (.func f) #[] #[x1,x2]] 171)):=(Below.refl _ _).alloc (Nat.le_refl _) _
 have hb:Below w.heap.size w ((w.alloc (.cells #[.func (.func f) #[] #[x1,x2]] 171)).alloc (.cells #[.slice none 0 0] 32)):=hb1.alloc hb1.size _
 have hs:(w.alloc (.cells #[.func (.func f) #[] #[x1,x2]] 171)).heap.size=w.heap.size+1:=by simp
 refine ⟨by simp,⟨hb,⟨.slice none 0 0,?_,World.ownsRow_nil _ _ _ _,(fun e=>by cases e),(fun e=>by cases e),fun k=>by simp [Value.ownBlock]⟩,?_,by omega,by omega,Nat.le_refl _⟩,hb⟩
 ·
  have:=heap_alloc_new (w.alloc (.cells #[.func (.func f) #[] #[x1,x2]] 171)) (.cells #[.slice none 0 0] 32)
  rwa [hs] at this
 ·
  rw [Below.heap_alloc _ _ _ (by rw [hs];omega)]
  exact heap_alloc_new w _
theorem Slides.cells {w:World} {B:Nat} {v:Value} {F:Nat → Prop} {xs:List Nat} (h:Slides w B v F xs):∃ ao cap,v=.slice ao xs.length cap ∧ xs.length ≤ cap ∧ cap ≤ maxLen ∧ (ao=none → xs=[] ∧ cap=0) ∧ LiesN w ao (asInts xs) ∧ ∀ ad,ao=some ad → ∀ (j k:Nat),xs[j]? = some k → w.cell? ⟨ad.block,ad.off+j,none⟩=some (.int .i64 (k:Int)):=by
 obtain ⟨ao,b,off,cap,rfl,hc,hm,hB⟩:=h.made
 have hle:=hc.le
 have key:∀ (j k:Nat),xs[j]? = some k → ao=some ⟨b,off,none⟩ ∧ w.cell? ⟨b,off+j,none⟩=some (.int .i64 (k:Int)):=fun j k hj=>by
  have hl:=(List.getElem?_eq_some_iff.1 hj).1
  refine ⟨hc.addr (by omega),hc.olds j _ ?_⟩
  simp [nums,hj]
 refine ⟨ao,cap,rfl,hle,hm,fun e=>?_,?_,fun ad had j k hj=>?_⟩
 ·
  have h0:cap=0:=by
   rcases Nat.eq_zero_or_pos cap with h0 | h0
   · exact h0
   · rw [hc.addr h0] at e;cases e
  exact ⟨List.length_eq_zero_iff.1 (by omega),h0⟩
 ·
  cases xs with
  | nil=>exact .inl rfl
  | cons k r=>
   refine .inr ⟨b,off,(key 0 k rfl).1,hc.lt (by simp at hle;omega),fun i x hx=>?_⟩
   simp only [asInts,List.getElem?_map] at hx
   cases hi:(k :: r)[i]? with
   | none=>rw [hi] at hx;cases hx
   | some z=>
    rw [hi] at hx
    have e:(z:Int)=x:=by simpa using hx
    rw [← e]
    exact (key i z hi).2
 ·
  obtain ⟨e1,e2⟩:=key j k hj
  rw [e1] at had
  cases had
  exact e2
theorem turnsRest (B:Nat) (W0:World) (g:Nat) (pv qv:Value) (D:Nat → Prop) (q:TQ) (w:World) (h:HeldT B W0 g pv qv w D q) :
  Calls Tryz.prog 206 #[.pointer (some ⟨g,0,none⟩)] w fun e w'=>e=.returned (.int .i64 (q.n:Int)) ∧ w'=w:=by
 obtain ⟨vq,F,rv,h1,h2⟩:=h.parts
 have c20:=h1.cells.cn
 clear h1 h2 h
 go_enter Tryz.func206,Tryz.ntmps206
 go_wp2
 go_ret
 exact ⟨rfl,rfl⟩
theorem turnsCan (B g:Nat) (pa:Option Addr) (pcap:Nat) (qv:Value) (ps:List Pk) (vq:Nat → Value) (F:Nat → Nat → Prop) (rv:Value) (d:Drr) (n:Nat) (w:World) (h:TurnsAt B g (.slice pa ps.length pcap) qv w vq F rv d n) (hl:LiesP w pa ps) (hlen:ps.length ≤ 300) (f k:Nat) (r:List Nat) (p:Pk) (hs:d.srv=some f) (hf:f < 8) (hk:d.qs f=k :: r) (hp:ps[k]? = some p) (b:Bool) (hb:decide (p.size ≤ d.cr f)=b) :
  Calls Tryz.prog 223 #[.pointer (some ⟨g,0,none⟩)] w fun e w'=>e=.returned (.bool b) ∧ ∃ m,w'=w.drewN m:=by
 have hkl:=lt_of_get hp
 obtain ⟨pb,off,rfl,hlt,hc⟩:=hl.place (by omega)
 have cp:=(hc k p hp).2.1
 have hsl:=h.queue f hf
 rw [hk] at hsl
 obtain ⟨qb,qo,cap,hv,hcap,hmx,ck,-,-,-⟩:=hsl.first
 have c0:=h.cells.c0
 have cs:=h.cells.cs
 have cq:=h.cells.cq f hf
 have cc:=h.cells.cc f hf
 rw [hv] at cq
 rw [hs] at cs
 have cs':w.cell? ⟨g,19,none⟩=some (.int .i64 (f:Int)):=cs
 obtain ⟨x,hx⟩:∃ x,d.cr f=x:=⟨_,rfl⟩
 obtain ⟨y,hy⟩:∃ y,p.size=y:=⟨_,rfl⟩
 rw [hx] at cc hb
 rw [hy] at cp hb
 obtain ⟨m,hm⟩:∃ m,r.length+1=m:=⟨_,rfl⟩
 rw [hm] at cq hcap
 have hm0:0 < m:=by omega
 have hml:m ≤ maxLen:=Nat.le_trans hcap hmx
 unfold maxLen at hmx hml
 have hmm:decide ((m:Int) ≤ 0)=false:=by simp;omega
 clear h hl hc hsl hv hs cs hk hp hx hy hm
 go_enter Tryz.func223,Tryz.ntmps223
 go_wp2_with fail
 go_quiet (fail)
 obtain ⟨V,hV⟩:∃ V,w.drewN nq=V:=⟨_,rfl⟩
 have HV:Hid (w.drewN nq=V):=hV
 have d0:V.cell? ⟨g,0,none⟩=some (.slice (some ⟨pb,off,none⟩) ps.length pcap):=by rw [← hV];exact c0
 have ds:V.cell? ⟨g,19,none⟩=some (.int .i64 (f:Int)):=by rw [← hV];exact cs'
 have dc:V.cell? ⟨g,10+f,none⟩=some (.int .i64 x):=by rw [← hV];exact cc
 have dp:V.cell? ⟨pb,off+k * 3+1,none⟩=some (.int .i64 y):=by rw [← hV];exact cp
 rw [hV]
 clear hV c0 cs' cc cp cq ck
 go_wp2_with fail
 go_quiet (fail)
 go_wp2_with fail
 go_ret
 exact ⟨rfl,_,by rw [← HV.out,World.drewN_drewN]⟩
end Go.Proofs.YtipdclphpkgceaaGreatDoor
