/- Own facts, put together: no statement of its own. -/
import Derived.Test.YtipdclphpkgceaaGreatDoorA34
import Derived.ArgAppend
import Derived.Deep.RegionHeldLaw
set_option maxHeartbeats 4000000
set_option maxRecDepth 100000

namespace Go.Proofs.YtipdclphpkgceaaGreatDoor
open Go.RowKit Go.Extern.Stop Go.Stop Go.Extern
theorem aI (a:Addr) (w:World):Calls Tryz.prog 28 #[.nilIface,.iface 312 (.pointer (some a))] w fun e w'=>e=.returned (.bool false) ∧ w'=w:=by
 have heq:(binOp .eql 25 .nilIface (.iface 312 (.pointer (some a)))).run Tryz.prog w=.ok (.bool false) w:=by kernel_rfl
 go_enter Tryz.func28,Tryz.ntmps28
 go_wp2_with fail
 go_ret
 exact ⟨rfl,rfl⟩
theorem Xr {w:World} {ad:Nat → Addr} {E:Value} {c p:Int} (he:AP w ad) (hE:AR w E c p) (hc:c=0 ∨ known c) :
  Calls Tryz.prog 28 #[E,.iface 312 (.pointer (some (ad 8)))] w fun e w'=>e=.returned (.bool (decide (c=9))) ∧ w'=w:=by
 rcases hc with rfl | hk
 ·
  rw [hE.none_ rfl]
  exact aI (ad 8) w
 ·
  rcases hE.code with ⟨-,h0,-⟩ | ⟨ad',he',k,hk9,hck,hEE⟩
  ·
   subst h0
   rcases hk with h | h <;> omega
  ·
   have hsx:six k:=by unfold six;rcases hk with h | h <;> omega
   have e1:ad' k=ad k:=he'.one he k hsx
   obtain ⟨cb,tb,hb⟩:=he.blk 8 (.inr rfl)
   by_cases h8:k=8
   ·
    subst h8
    have hd:decide (c=9)=true:=decide_eq_true (by omega)
    rw [hd]
    rcases hEE with ⟨rfl,-⟩ | ⟨pb,rfl,-,h3⟩
    ·
     rw [e1]
     exact Z0 (ad 8) w
    ·
     rw [e1] at h3
     exact Ow pb (ad 8) w h3
   ·
    have hd:decide (c=9)=false:=decide_eq_false (by omega)
    rw [hd]
    obtain ⟨ca,ta,ha⟩:=he.blk k hsx
    have hne:=he.ne k 8 hsx (.inr rfl) h8
    rcases hEE with ⟨rfl,-⟩ | ⟨pb,rfl,-,h3⟩
    ·
     rw [e1]
     exact Yz (ad k) (ad 8) ca cb ta tb w hne ha hb
    ·
     rw [e1] at h3
     exact MH pb (ad 8) (ad k) ca cb ta tb w h3 hne ha hb
def Gb (k:List UInt8) (w:World) (e:Ending) (w':World):Prop:=
 ∃ na ncap,e=.returned (.slice na (Bu k).length ncap) ∧ AV w' na (Bu k) ∧ (Bu k).length ≤ ncap ∧ ncap ≤ maxLen ∧ (na=none → Bu k=[] ∧ ncap=0) ∧ (∀ a,na=some a → w.heap.size ≤ a.block ∧ a.block < w'.heap.size) ∧ Below w.heap.size w w'
theorem L6 (k:List UInt8) (w:World):Calls Tryz.prog 101 #[Ah k] w fun e w'=>Gb k w e w':=by
 have ht:((⟨k.toArray⟩:ByteArray).toList == ByteArray.toList ⟨#[102,105,102,111]⟩)=decide (k=G7):=by
  rw [ByteArray.toList_mk,Hy]
  by_cases h:k=G7
  · rw [decide_eq_true h,h];decide
  ·
   rw [decide_eq_false h]
   simpa [G7] using h
 by_cases h:k=G7
 ·
  have HE:Hid (Gb k w (.returned (.slice none 0 0)) w):=⟨none,0,by simp [Bu,h],.inl (by simp [Bu,h]),by simp [Bu,h],by simp [maxLen],(fun _=>⟨by simp [Bu,h],rfl⟩),(fun a e=>by cases e),Below.refl _ _⟩
  rw [decide_eq_true h] at ht
  clear h
  obtain ⟨ks,hks⟩:∃ ks:ByteArray,⟨k.toArray⟩=ks:=⟨_,rfl⟩
  show Calls Tryz.prog 101 #[.string ⟨k.toArray⟩] w fun e w'=>Gb k w e w'
  rw [hks] at ht ⊢
  have ht':(ks.toList == [102,105,102,111])=true:=by rw [← Hy];exact ht
  go_enter Tryz.func101,Tryz.ntmps101
  go_wp2_with fail
  go_ret
  exact HE.out
 ·
  rw [decide_eq_false h] at ht
  have hf:Bu k=[1,1,1,1,1,1,1,1]:=by simp [Bu,h,Z6]
  have hb1:Below w.heap.size w (w.alloc (.cells #[.int .i64 1] 3)):=(Below.refl _ _).alloc (Nat.le_refl _) _
  have HR:Hid (Calls Tryz.prog 129 #[.slice (some ⟨w.heap.size,0,none⟩) 1 1,.int .i64 8] (w.alloc (.cells #[.int .i64 1] 3)) fun e w'=>Gb k w e w'):=by
   refine (Rv w.heap.size _ (by simp)).mono ?_
   rintro e w' ⟨G,rfl,hG,hl,hb⟩
   have hGl:G < w'.heap.size:=by
    rcases hl with h' | ⟨b,off,h',hlt,-⟩
    · cases h'
    · cases h';exact hlt
   exact ⟨some ⟨G,0,none⟩,8,by rw [hf];rfl,by rw [hf];exact hl,by rw [hf];decide,by simp [maxLen],(fun e=>by cases e),(fun a e=>by cases e;exact ⟨Nat.le_trans hb1.size hG,hGl⟩),hb1.trans (hb.mono hb1.size)⟩
  clear h hf hb1
  obtain ⟨ks,hks⟩:∃ ks:ByteArray,⟨k.toArray⟩=ks:=⟨_,rfl⟩
  show Calls Tryz.prog 101 #[.string ⟨k.toArray⟩] w fun e w'=>Gb k w e w'
  rw [hks] at ht ⊢
  have ht':(ks.toList == [102,105,102,111])=false:=by rw [← Hy];exact ht
  go_enter Tryz.func101,Tryz.ntmps101
  go_wp2_with fail
  refine HR.out.mono ?_
  rintro e w1 h
  obtain ⟨na,ncap,rfl,h2⟩:=h
  have HE:Hid (Gb k w (.returned (.slice na (Bu k).length ncap)) w1):=⟨na,ncap,rfl,h2⟩
  clear h2
  obtain ⟨r,hr⟩:∃ r,(Bu k).length=r:=⟨_,rfl⟩
  rw [hr] at HE ⊢
  clear hr
  go_wp2_with fail
  go_ret
  exact HE.out
theorem GJ {ls:List (Int × Int)} {c p:Int} (h:CW ls c p):c=0 ∨ c=2 ∨ c=3:=by
 rcases h with ⟨-,h,-⟩ | ⟨-,-,j,-,-,-,h,-⟩ | ⟨-,h,-⟩
 · exact .inr (.inr h)
 · exact .inr (.inl h)
 · exact .inl h
theorem FO {cs:List (List (Int × Int))} {k:Nat} {per:Int} {ns:List Int} {d p:Int} (h:DT cs k per ns d p):d=0 ∨ known d:=by
 unfold known
 rcases h with ⟨-,h,-⟩ | ⟨-,i,⟨ls,q,-,-,hf,-⟩,-⟩ | ⟨-,-,-,⟨-,h⟩ | ⟨-,-,⟨-,h⟩ | ⟨-,-,m,hd,h⟩⟩⟩
 · omega
 ·
  have:=GJ hf
  omega
 · omega
 · omega
 ·
  have:=hd.few
  omega
section
variable (w0:World) (ad:Nat → Addr) (N g cb:Nat) (hS:Site w0 ad N g cb) (s:Scr) (w:World) (hw:Below w0.heap.size w0 w) (hp:Aw w N g cb s) (ho:Bo s)
theorem Vj (w0:World) (ad:Nat → Addr) (N g cb:Nat) (hS:Site w0 ad N g cb) (s:Scr) (w:World) (hw:Below w0.heap.size w0 w) (hp:Aw w N g cb s) (ho:Bo s) (wb:Nat) (ws:List (List UInt8)) (hl:Bp w (some ⟨wb,0,none⟩) ws) (hs:DU ws) (c:Int) (s1:Scr) (hc:QU s ws c s1) :
  Calls Tryz.prog 74 #[.pointer (some ⟨g,0,none⟩),.slice (some ⟨wb,0,none⟩) ws.length ws.length] w fun e w'=>Bh N g cb s s1 c w e w':=by
 have he:=hS.env.below hw
 have HEt:Hid (∀ W,Below w.heap.size w W → c=1 → Bh N g cb s s1 c w (.returned (.iface 312 (.pointer (some (ad 0))))) W):=fun W hW h1=>by
  subst h1
  exact Ei hp hW (AY (he.below hW).errs 0 (by decide)) (by decide)
 have c0:=he.errs.c0
 have HS:Hid (Site w0 ad N g cb ∧ Below w0.heap.size w0 w ∧ Aw w N g cb s ∧ Bo s ∧ Env w ad):=⟨hS,hw,hp,ho,he⟩
 by_cases h2:ws.length=2
 ·
  obtain ⟨k,y,rfl⟩:∃ k y,ws=[k,y]:=by
   match ws,h2 with
   | [k,y],_=>exact ⟨k,y,rfl⟩
  obtain ⟨x0,x1,hlt⟩:w.cell? ⟨wb,0,none⟩=some (Ah k) ∧ w.cell? ⟨wb,1,none⟩=some (Ah y) ∧ wb < w.heap.size:=by
   obtain ⟨b,off,e,hlt,hc⟩:=hl.place (by simp)
   cases e
   exact ⟨hc 0 k rfl,hc 1 y rfl,hlt⟩
  have HRn:Hid (Calls Tryz.prog 100 #[Ah y] w fun e w'=>BO (ad 0) (Ev y) w e w'):=Fj ⟨y.toArray⟩ w (ad 0) he.errs.c0 (by have:=hs.2 y (by simp);show y.toArray.size ≤ _;simp;omega)
  have HC:Hid (QU s [k,y] c s1):=hc
  clear hl hs hc h2 hS hw hp ho he
  go_enter Tryz.func74,Tryz.ntmps74
  go_wp2_with fail
  refine HRn.out.mono ?_
  rintro e w1 ⟨hb1,⟨hn,rfl⟩ | ⟨per,hn,rfl⟩⟩
  ·
   have HE:Hid (Bh N g cb s s1 c w (.returned (.iface 312 (.pointer (some (ad 0))))) w1):=by
    refine HEt.out w1 hb1 ?_
    obtain ⟨h,-⟩ | ⟨k',y',e,⟨-,h,-⟩ | ⟨per,h,-⟩⟩:=HC.out
    · exact absurd rfl h
    · exact h
    ·
     cases e
     rw [hn] at h;cases h
   clear hn hb1
   go_wp2_with fail
   go_ret
   exact HE.out
  ·
   obtain ⟨hs1,d,p,hgi,hcd⟩:s1={ s with kb:=k,per:=per,ns:=Bu k } ∧ ∃ d p,DT s.cs (kindOf k) per (Bu k) d p ∧ ((d=9 ∧ c=1) ∨ (d ≠ 9 ∧ c=d)):=by
    obtain ⟨h,-⟩ | ⟨k',y',e,⟨h,-⟩ | ⟨per',h,e1,e2⟩⟩:=HC.out
    · exact absurd rfl h
    ·
     cases e
     rw [hn] at h;cases h
    ·
     cases e
     rw [hn] at h
     obtain rfl:=Option.some.inj h
     exact ⟨e1,e2⟩
   obtain ⟨na1,nc1,pv,hpi⟩:=HS.out.2.2.1
   have hp1:=hpi.below hb1
   have y0:=hp1.c0
   have y1:=hp1.c1
   have y2:=hp1.c2
   have y3:=hp1.c3
   have z0:=cell_later hb1 x0
   obtain ⟨okb,hkb⟩:∃ kb,s.kb=kb:=⟨_,rfl⟩
   obtain ⟨oper,hper⟩:∃ per,s.per=per:=⟨_,rfl⟩
   obtain ⟨r,hr⟩:∃ r,s.ns.length=r:=⟨_,rfl⟩
   rw [hkb] at y1
   rw [hper] at y2
   rw [hr] at y3
   have HB1:Hid (Below w.heap.size w w1 ∧ wb < w1.heap.size):=⟨hb1,Nat.lt_of_lt_of_le hlt hb1.size⟩
   have HD:Hid (s1={ s with kb:=k,per:=per,ns:=Bu k } ∧ DT s.cs (kindOf k) per (Bu k) d p ∧ ((d=9 ∧ c=1) ∨ (d ≠ 9 ∧ c=d))):=⟨hs1,hgi,hcd⟩
   clear hn hpi hp1 hkb hper hr x0 x1 c0 hb1 hs1 hgi hcd hlt HRn HC
   go_wp2_with fail
   have hb2:Below w1.heap.size w1 (w1.alloc (.cells #[.slice (some ⟨cb,0,none⟩) 8 8,Ah okb,.int .i64 oper,.slice na1 r nc1] 70)):=(Below.refl _ _).alloc (Nat.le_refl _) _
   have hga:=F5 w1 (.slice (some ⟨cb,0,none⟩) 8 8) ⟨okb.toArray⟩ oper (.slice na1 r nc1) 70
   have hfz:∀ i,(w1.alloc (.cells #[.slice (some ⟨cb,0,none⟩) 8 8,Ah okb,.int .i64 oper,.slice na1 r nc1] 70)).frozen? ⟨w1.heap.size,i,none⟩=false:=fun i=>World.frozen?_alloc_new w1 _ _ i
   obtain ⟨V1,hV1⟩:∃ V1,w1.alloc (.cells #[.slice (some ⟨cb,0,none⟩) 8 8,Ah okb,.int .i64 oper,.slice na1 r nc1] 70)=V1:=⟨_,rfl⟩
   rw [hV1] at hb2 hga hfz ⊢
   have hXl:w1.heap.size < V1.heap.size:=by rw [← hV1];simp
   obtain ⟨X,hX⟩:∃ X,w1.heap.size=X:=⟨_,rfl⟩
   have HX:Hid (w1.heap.size=X ∧ wb < X ∧ Below w1.heap.size w1 V1 ∧ X < V1.heap.size):=⟨hX,by rw [← hX];exact HB1.out.2,hb2,by rw [← hX];exact hXl⟩
   rw [hX] at hga hfz ⊢
   have HXg:Hid (∀ W,Below V1.heap.size V1 W → El W X (.slice (some ⟨cb,0,none⟩) 8 8) ⟨okb.toArray⟩ oper (.slice na1 r nc1) ∧ (∀ i,W.frozen? ⟨X,i,none⟩=false)):=fun W hW=>⟨hga.later hW,fun i=>by rw [hW.frozen (p:=⟨X,i,none⟩) HX.out.2.2.2];exact hfz i⟩
   have HFn:Hid (∀ W,Below V1.heap.size V1 W → Calls Tryz.prog 101 #[Ah k] W fun e w'=>Gb k W e w'):=fun W _=>L6 k W
   have hS:=cell_later hb2 z0
   have HSb:Hid (∀ W,Below V1.heap.size V1 W → W.cell? ⟨wb,0,none⟩=some (Ah k)):=fun W hW=>cell_later hW hS
   have HSs:Hid (∀ (W:World) i v,W.cell? ⟨wb,0,none⟩=some (Ah k) → (W.setCell ⟨X,i,none⟩ v).cell? ⟨wb,0,none⟩=some (Ah k)):=fun W i v hW=>by
    have:=HX.out.2.1
    rw [World.cell?_setCell_other _ _ _ _ (fun e=>by injection e with e;omega)]
    exact hW
   have HB:Hid (Below V1.heap.size V1 V1.drew):=below_drewN (Below.refl _ _) 1
   have hS:=HSb.out _ HB.out
   clear hb2 hga hfz hV1 hX hXl y0 y1 y2 y3 z0
   go_region_held3 (fun w'=>w'.cell? ⟨wb,0,none⟩=some (Ah k))
    (first | exact hS | exact HSs.out _ _ _ hS | exact HSs.out _ _ _ (HSs.out _ _ _ hS) | exact HSs.out _ _ _ (HSs.out _ _ _ (HSs.out _ _ _ hS)))
    (first
    | (go_at_call 101;refine (HFn.out _ HB.out).mono ?_;rintro e w6 ⟨na,ncap,rfl,q1,q2,q3,q4,q5,hb6⟩;have HF:Hid (AV w6 na (Bu k) ∧ (Bu k).length ≤ ncap ∧ ncap ≤ maxLen ∧ (na=none → Bu k=[] ∧ ncap=0) ∧ (∀ a,na=some a → V1.heap.size ≤ a.block ∧ a.block < w6.heap.size)):=⟨q1,q2,q3,q4,(fun a e=>⟨Nat.le_trans (by simp) (q5 a e).1,(q5 a e).2⟩)⟩;have HB:Hid (Below V1.heap.size V1 w6):=HB.out.trans (hb6.mono HB.out.size);have hS:=HSb.out _ HB.out;obtain ⟨⟨g0,g1,g2,g3⟩,hf6⟩:=HXg.out _ HB.out;have f1:=hf6 1;have f2:=hf6 2;have f3:=hf6 3;obtain ⟨m,hm⟩:∃ m,(Bu k).length=m:=⟨_,rfl⟩;have HM:Hid ((Bu k).length=m):=hm;rw [hm];clear hm hb6 q1 q2 q3 q4 q5 hf6))
   have hbV:Below w1.heap.size w1 (((w6.setCell ⟨X,1,none⟩ (Ah k)).setCell ⟨X,2,none⟩ (.int .i64 per)).setCell ⟨X,3,none⟩ (.slice na m ncap)):=by
    have hb6:=HX.out.2.2.1.trans (HB.out.mono HX.out.2.2.1.size)
    have hx:w1.heap.size ≤ X:=by rw [HX.out.1];exact Nat.le_refl _
    exact Dc (Dc (Dc hb6 hx _) hx _) hx _
   have hbt:But (fun b=>b=X) w6 (((w6.setCell ⟨X,1,none⟩ (Ah k)).setCell ⟨X,2,none⟩ (.int .i64 per)).setCell ⟨X,3,none⟩ (.slice na m ncap)):=But.setCell (p:=⟨X,3,none⟩) (But.setCell (p:=⟨X,2,none⟩) (But.setCell (p:=⟨X,1,none⟩) (But.refl (fun b=>b=X) w6) rfl _) rfl _) rfl _
   have e:∀ (W:World) (j k:Nat) (v:Value),j ≠ k → (W.setCell ⟨X,j,none⟩ v).cell? ⟨X,k,none⟩=W.cell? ⟨X,k,none⟩:=fun W j k v h=>World.cell?_setCell_other _ _ _ _ (by intro e';cases e';exact h rfl)
   have l0:(((w6.setCell ⟨X,1,none⟩ (Ah k)).setCell ⟨X,2,none⟩ (.int .i64 per)).setCell ⟨X,3,none⟩ (.slice na m ncap)).cell? ⟨X,0,none⟩=some (.slice (some ⟨cb,0,none⟩) 8 8):=by
    rw [e _ 3 0 _ (by decide),e _ 2 0 _ (by decide),e _ 1 0 _ (by decide)];exact g0
   have l1:(((w6.setCell ⟨X,1,none⟩ (Ah k)).setCell ⟨X,2,none⟩ (.int .i64 per)).setCell ⟨X,3,none⟩ (.slice na m ncap)).cell? ⟨X,1,none⟩=some (Ah k):=by
    rw [e _ 3 1 _ (by decide),e _ 2 1 _ (by decide)];exact World.cell?_setCell_same' _ _ _ (by rw [g1];rfl)
   have l2:(((w6.setCell ⟨X,1,none⟩ (Ah k)).setCell ⟨X,2,none⟩ (.int .i64 per)).setCell ⟨X,3,none⟩ (.slice na m ncap)).cell? ⟨X,2,none⟩=some (.int .i64 per):=by
    rw [e _ 3 2 _ (by decide)];exact World.cell?_setCell_same' _ _ _ (by rw [e _ 1 2 _ (by decide),g2];rfl)
   have l3:(((w6.setCell ⟨X,1,none⟩ (Ah k)).setCell ⟨X,2,none⟩ (.int .i64 per)).setCell ⟨X,3,none⟩ (.slice na m ncap)).cell? ⟨X,3,none⟩=some (.slice na m ncap):=
    World.cell?_setCell_same' _ _ _ (by rw [e _ 2 3 _ (by decide),e _ 1 3 _ (by decide),g3];rfl)
   obtain ⟨V2,hV2⟩:∃ V2,((w6.setCell ⟨X,1,none⟩ (Ah k)).setCell ⟨X,2,none⟩ (.int .i64 per)).setCell ⟨X,3,none⟩ (.slice na m ncap)=V2:=⟨_,rfl⟩
   rw [hV2] at hbV hbt l0 l1 l2 l3
   have HCh:Hid (Calls Tryz.prog 102 #[.pointer (some ⟨g,0,none⟩),.agg #[.slice (some ⟨cb,0,none⟩) 8 8,Ah k,.int .i64 per,.slice na m ncap]] V2 fun e w'=>Bh N g cb s s1 d V2 e w'):=by
    have hb2:=HB1.out.1.trans (hbV.mono HB1.out.1.size)
    obtain ⟨q1,q2,q3,q4,q5⟩:=HF.out
    have:=Pn w0 ad N g cb HS.out.1 s V2 (HS.out.2.1.trans (hb2.mono HS.out.2.1.size)) (HS.out.2.2.1.below hb2) HS.out.2.2.2.1 k per na ncap (Bu k) (Eg q1 hbt fun a ea=>by have:=(q5 a ea).1;have:=HX.out.2.2.2;show ¬ a.block=X;omega) q2 q3 q4 (fun a ea=>by
     have hf:=VT HS.out.2.2.1 hb2 (b:=a.block) (by have:=(q5 a ea).1;have:=HX.out.2.2.1.size;have:=HB1.out.1.size;omega)
     exact ⟨hf.1,Nat.lt_of_lt_of_le (q5 a ea).2 hbt.size,hf.2⟩) (by unfold Bu;split <;> decide) d p HD.out.2.1
    rw [HM.out] at this
    rw [HD.out.1]
    exact this
   have HV2:Hid (Below w.heap.size w V2):=HB1.out.1.trans (hbV.mono HB1.out.1.size)
   show Exit.then _ _ _ _ (((w6.setCell ⟨X,1,none⟩ (Ah k)).setCell ⟨X,2,none⟩ (.int .i64 per)).setCell ⟨X,3,none⟩ (.slice na m ncap))
   rw [hV2]
   clear hbV hbt e hV2 g0 g1 g2 g3 f1 f2 f3 hS HB HF HM HSs HSb HXg HFn HX
   go_wp2_with fail
   refine HCh.out.mono ?_
   rintro e w7 ⟨E,q,rfl,hE,hbt,hend⟩
   have hw7:=HS.out.1.later (HS.out.2.1.trans (HV2.out.mono HS.out.2.1.size)) hbt
   have he7:=HS.out.1.env.below hw7
   have c8:=he7.errs.c8
   have c0:=he7.errs.c0
   have HIs:Hid (Calls Tryz.prog 28 #[E,.iface 312 (.pointer (some (ad 8)))] w7 fun e w'=>e=.returned (.bool (decide (d=9))) ∧ w'=w7):=Xr he7.errs hE (FO HD.out.2.1)
   rcases HD.out.2.2 with ⟨hd,hcd⟩ | ⟨hd,hcd⟩
   ·
    have HE:Hid (Bh N g cb s s1 c w (.returned (.iface 312 (.pointer (some (ad 0))))) w7):=by
     rcases hend with ⟨h0,-⟩ | ⟨-,h⟩
     · omega
     ·
      subst hcd
      exact ⟨_,-1,rfl,AY he7.errs 0 (by decide),(But.ofBelow HV2.out).trans hbt,.inr ⟨by decide,h⟩⟩
    rw [decide_eq_true hd] at HIs
    clear hE hbt hend hw7 he7 hd hcd l0 l1 l2 l3
    go_wp2_with fail
    refine HIs.out.mono ?_
    rintro e w8 ⟨rfl,rfl⟩
    go_wp2_with fail
    go_ret
    exact HE.out
   ·
    have HE:Hid (Bh N g cb s s1 c w (.returned E) w7):=by
     rw [hcd]
     exact ⟨E,q,rfl,hE,(But.ofBelow HV2.out).trans hbt,hend⟩
    rw [decide_eq_false hd] at HIs
    clear hE hbt hend hw7 he7 hd hcd l0 l1 l2 l3
    go_wp2_with fail
    refine HIs.out.mono ?_
    rintro e w8 ⟨rfl,rfl⟩
    go_wp2_with fail
    go_ret
    exact HE.out
 ·
  have h2':((ws.length:Int) == 2)=false:=by simp;omega
  have HE:Hid (Bh N g cb s s1 c w (.returned (.iface 312 (.pointer (some (ad 0))))) w):=by
   refine HEt.out w (Below.refl _ _) ?_
   obtain ⟨-,h,-⟩ | ⟨k,y,h,-⟩:=hc
   · exact h
   · rw [h] at h2;exact absurd rfl h2
  obtain ⟨n,hn⟩:∃ n,ws.length=n:=⟨_,rfl⟩
  rw [hn] at h2' ⊢
  clear h2 hl hs hc hn hS hw hp ho he
  go_enter Tryz.func74,Tryz.ntmps74
  go_wp2_with fail
  go_ret
  exact HE.out
end
end Go.Proofs.YtipdclphpkgceaaGreatDoor

namespace Go.Proofs.YtipdclphpkgceaaGreatDoor
open Go.RowKit
theorem VY {w w':World} {N:Nat} {ps:List Pk} {q:Pk} {v':Value} (hN:N ≤ w.heap.size) (hown:w'.ownsRow w.heap.size 58 3 v' (ps.length+1) (BR ps ++ BR [q])):∃ g cap,v'=.slice (some ⟨g,0,none⟩) (ps.length+1) cap ∧ w.heap.size ≤ g ∧ DC w' N (.slice (some ⟨g,0,none⟩) (ps.length+1) cap) (ps ++ [q]):=by
 obtain ⟨g,cap,rfl,hg,-⟩:=World.ownsRow.form hown (by omega)
 refine ⟨g,cap,rfl,hg,?_⟩
 unfold DC
 rw [GA,List.length_append]
 exact CR hown hN
theorem KY {w w':World} {S:Nat → Prop} (h:w.grownBy w' none):But S w w':=⟨h.os,h.tape,h.output,h.size,fun k hk _=>h.block k hk (by simp)⟩
theorem Py {α:Type}:∀ (L:List α) (n:Nat) (a b c:α),n+3 ≤ L.length → (((L.set n a).set (n+1) b).set (n+2) c).take (n+3)=L.take n ++ [a,b,c]
 | x :: y :: z :: r,0,a,b,c,_=>by simp
 | x :: r,n+1,a,b,c,h=>by
  have:=Py r n a b c (by simp at h;omega)
  simp only [List.set_cons_succ,List.take_succ_cons,List.cons_append]
  rw [show n+2+1=n+3 by omega,this]
 | [],n,a,b,c,h=>by simp at h
 | [_],0,a,b,c,h=>by simp at h
 | [_,_],0,a,b,c,h=>by simp at h
theorem Pd {α:Type}:∀ (L:List α) (n:Nat) (a b c:α),(((L.set n a).set (n+1) b).set (n+2) c).take n=L.take n
 | L,0,a,b,c=>by simp
 | [],n+1,a,b,c=>by simp
 | x :: r,n+1,a,b,c=>by
  have:=Pd r n a b c
  rw [List.set_cons_succ,List.set_cons_succ,show n+1+2=n+2+1 by omega,List.set_cons_succ,List.take_succ_cons,List.take_succ_cons,this]
theorem Xx (w:World) (b i j k:Nat) (u v x:Value):But (fun m=>m=b) w (((w.setCell ⟨b,i,none⟩ u).setCell ⟨b,j,none⟩ v).setCell ⟨b,k,none⟩ x):=
 But.setCell (p:=⟨b,k,none⟩) (But.setCell (p:=⟨b,j,none⟩) (But.setCell (p:=⟨b,i,none⟩) (But.refl (fun m=>m=b) w) rfl _) rfl _) rfl _
theorem OH (q:Pk):BR [q]=[.int .i64 q.flow,.int .i64 q.size,.int .i64 q.tick]:=rfl
theorem MN (w:World) (N:Nat) (pv:Value) (ps:List Pk) (q:Pk) (ad:Addr) (c:Nat) (h:DC w N pv ps) (hN:N ≤ w.heap.size) (hq:AO w (some ad) [q]) (hn:ps.length ≤ 1000) :
  ∃ g cap w',(Builtin.append_ #[52,52] 52 #[pv,.slice (some ad) 1 c]).run Tryz.prog w=.ok (.slice (some ⟨g,0,none⟩) (ps.length+1) cap) w' ∧ DC w' N (.slice (some ⟨g,0,none⟩) (ps.length+1) cap) (ps ++ [q]) ∧ DC w' N pv ps ∧ But (fun k=>pv.ownBlock=some k) w w' ∧ (pv.ownBlock=some g ∨ w.heap.size ≤ g):=by
 obtain ⟨i0,hi,hz0,hz1,hz2⟩:=info_parts Tryz.infoPkt
 have hnews:=Mw hq
 have h1:=Nq [q]
 have h':=h
 obtain ⟨hlen,⟨rfl,h0⟩ | ⟨b,cap,cur,rfl,hB,hg,hc,hm,hcs,ht⟩⟩:=h'
 ·
  have e:ps=[]:=List.length_eq_zero_iff.1 h0
  subst e
  obtain ⟨v',w',hrun,r1,r2,-⟩:=run_append_own (P:=Tryz.prog) w w.heap.size 52 52 58 i0 _ 3 24 Tryz.underlying52 hi hz0 hz1 hz2 rfl (by decide) (.slice none 0 0) 0 [] (World.ownsRow_nil w _ _ _) ad 1 c (BR [q]) rfl hnews h1 (by simp [maxLen]) (by decide) (Nat.le_refl _)
  obtain ⟨g,cap,rfl,g1,g2⟩:=VY (ps:=[]) hN r1
  exact ⟨g,cap,w',hrun,g2,World.ownsRow_nil _ _ _ _,KY r2,.inr g1⟩
 ·
  by_cases hr:ps.length+1 ≤ cap
  ·
   have hsz:(BR [q]).length=3:=rfl
   have hcell:∀ j,j < 3 → (w.cell? ⟨b,0+ps.length * 3+j,none⟩).isSome=true:=fun j hj=>by
    rw [cell_of_row w b _ cur 58 (0,0) hg,Array.getElem?_eq_getElem (by rw [hcs];omega)];rfl
   have hrun:=run_append_room_cells (P:=Tryz.prog) w 52 52 58 i0 Tryz.underlying52 hi b 0 ps.length cap ad 1 c (BR [q]) (by rw [hz1];rfl) hnews h1 hr (fun j hj=>by rw [hz1];exact hcell j (by omega)) (fun j _=>frozen_of_row w b _ cur 58 hg)
   rw [hz1] at hrun
   have hw:w.setCells b (0+ps.length * 3) (BR [q])=((w.setCell ⟨b,0+ps.length * 3,none⟩ (.int .i64 q.flow)).setCell ⟨b,0+ps.length * 3+1,none⟩ (.int .i64 q.size)).setCell ⟨b,0+ps.length * 3+2,none⟩ (.int .i64 q.tick):=rfl
   rw [hw] at hrun
   have hbut:=Xx w b (0+ps.length * 3) (0+ps.length * 3+1) (0+ps.length * 3+2) (.int .i64 q.flow) (.int .i64 q.size) (.int .i64 q.tick)
   have hc3:ps.length * 3+3 ≤ cur.toList.length:=by
    have:cur.toList.length=cur.size:=by simp
    omega
   have k1:=heap_setCell_same w b (0+ps.length * 3) cur 58 (.int .i64 q.flow) hg
   have k2:=heap_setCell_same _ b (0+ps.length * 3+1) _ 58 (.int .i64 q.size) k1
   have k3:=heap_setCell_same _ b (0+ps.length * 3+2) _ 58 (.int .i64 q.tick) k2
   refine ⟨b,cap,_,hrun,⟨?_,.inr ⟨b,cap,_,?_,hB,k3,?_,hm,by simpa using hcs,?_⟩⟩,⟨hlen,.inr ⟨b,cap,_,rfl,hB,k3,hc,hm,by simpa using hcs,?_⟩⟩,hbut.mono (fun k hk=>by rw [hk];rfl),.inl rfl⟩
   · rw [Fa]
   · rw [List.length_append];rfl
   · rw [List.length_append];exact hr
   · rw [Array.toList_setIfInBounds,Array.toList_setIfInBounds,Array.toList_setIfInBounds,GA,OH,List.length_append,Nat.zero_add,show (ps.length + [q].length) * 3=ps.length * 3+3 by simp;omega,Py _ _ _ _ _ hc3,ht]
   · rw [Array.toList_setIfInBounds,Array.toList_setIfInBounds,Array.toList_setIfInBounds,Nat.zero_add,Pd,ht]
  ·
   obtain ⟨v',w',hrun,r1,r2⟩:=run_append_arg_grows (P:=Tryz.prog) w 52 52 58 i0 _ 3 24 Tryz.underlying52 hi hz0 hz1 hz2 rfl (by decide) ⟨b,0,none⟩ ps.length cap (BR ps) (Fa ps) (fun j u hu=>by
    have hl:=(List.getElem?_eq_some_iff.1 hu).1
    rw [Fa] at hl
    rw [Addr.add_lit,Nat.zero_add,World.ownsRow.cellAt h j hl]
    exact hu) ad 1 c (BR [q]) rfl hnews (by omega) (by unfold maxLen;omega) (by omega)
   obtain ⟨g,cap',rfl,g1,g2⟩:=VY hN r1
   exact ⟨g,cap',w',hrun,g2,Eo (S:=fun _=>False) h (KY r2) (fun _ _=>id),KY r2,.inr g1⟩
theorem LY {w:World} {ops:Array Oper} {o:Oper} {a:Act} {K:Act → World → Prop} {Q:Exit → Act → World → Prop} {E:Prop} (hgd:o.guard=none) (hty:o.type=52) (s x:Operand)
  (ho:o.op=.call { callee:=.builtin .append,args:=#[s,x],argTypes:=#[52,52] })
  (N:Nat) (pv:Value) (ps:List Pk) (q:Pk) (hs:a.eval s=pv) (h:DC w N pv ps) (hN:N ≤ w.heap.size) (ad:Addr) (c:Nat) (hx:a.eval x=.slice (some ad) 1 c) (hq:AO w (some ad) [q]) (hn:ps.length ≤ 1000)
  (hK:∀ g cap w',DC w' N (.slice (some ⟨g,0,none⟩) (ps.length+1) cap) (ps ++ [q]) → DC w' N pv ps → But (fun k=>pv.ownBlock=some k) w w' → (pv.ownBlock=some g ∨ w.heap.size ≤ g) → K (a.put o.dst (.slice (some ⟨g,0,none⟩) (ps.length+1) cap)) w') :
  if Region.wanted o (yielded ops a.tmps)=true then Oper.wp Tryz.prog o a w K Q else E:=by
 have hw:Region.wanted o (yielded ops a.tmps)=true:=by simp [Region.wanted,hgd]
 rw [if_pos hw]
 obtain ⟨g,cap,w',hrun,g1,g2,g3,g4⟩:=MN w N pv ps q ad c h hN hq hn
 unfold Oper.wp
 simp [execOp,ho,hty,resolve,invoke,builtin,hs,hx,hrun,Result.andThen]
 exact hK g cap w' g1 g2 g3 g4
theorem BP.keep {w w1:World} {N g cb:Nat} {na:Option Addr} {ncap:Nat} {pv:Value} {s:Scr} (h:BP w N g cb na ncap pv s) (hb:But (fun k=>pv.ownBlock=some k) w w1) (hp:DC w1 N pv s.ps):BP w1 N g cb na ncap pv s:=by
 have hgN:=h.gN
 have hcN:=h.cN
 have hwN:=h.wN
 have po:∀ k,pv.ownBlock=some k → N ≤ k ∧ k < w.heap.size:=fun k hk=>AX h.pks hk
 have g1:¬ pv.ownBlock=some g:=fun hk=>by have:=(po g hk).1;omega
 have c1:¬ pv.ownBlock=some cb:=fun hk=>by have:=(po cb hk).1;omega
 have gl:g < w.heap.size:=by omega
 have cl:cb < w.heap.size:=by omega
 have eg:∀ i,w1.cell? ⟨g,i,none⟩=w.cell? ⟨g,i,none⟩:=fun i=>hb.cell (p:=⟨g,i,none⟩) gl g1
 refine ⟨h.gN,h.cN,h.ne,Nat.le_trans h.wN hb.size,(eg 0).trans h.c0,(eg 1).trans h.c1,(eg 2).trans h.c2,(eg 3).trans h.c3,(eg 4).trans h.c4,fun i=>by rw [hb.frozen (p:=⟨g,i,none⟩) gl g1];exact h.fg i,fun i=>by rw [hb.frozen (p:=⟨cb,i,none⟩) cl c1];exact h.fc i,Eg h.nums hb (fun ad e=>(h.nfar ad e).2.2),h.nle,h.nmax,h.nnil,(fun ad e=>⟨(h.nfar ad e).1,Nat.lt_of_lt_of_le (h.nfar ad e).2.1 hb.size,(h.nfar ad e).2.2⟩),hp,fun i ls hi=>?_⟩
 obtain ⟨a,cap,hc⟩:=h.curves i ls hi
 exact ⟨a,cap,hc.but hb c1 fun ad e=>(hc.far ad e).2.2⟩
section
variable (w0:World) (ad:Nat → Addr) (N g cb:Nat) (hS:Site w0 ad N g cb) (s:Scr) (w:World) (hw:Below w0.heap.size w0 w) (hp:Aw w N g cb s) (ho:Bo s)
theorem Qx (w0:World) (ad:Nat → Addr) (N g cb:Nat) (hS:Site w0 ad N g cb) (s:Scr) (w:World) (hw:Below w0.heap.size w0 w) (hp:Aw w N g cb s) (ho:Bo s) (wb:Nat) (ws:List (List UInt8)) (hl:Bp w (some ⟨wb,0,none⟩) ws) (hs:DU ws) (c:Int) (s1:Scr) (hc:Kv s ws c s1) :
  Calls Tryz.prog 76 #[.pointer (some ⟨g,0,none⟩),.slice (some ⟨wb,0,none⟩) ws.length ws.length] w fun e w'=>Bh N g cb s s1 c w e w':=by
 have he:=hS.env.below hw
 have HEt:Hid (∀ W,Below w.heap.size w W → c=1 → Bh N g cb s s1 c w (.returned (.iface 312 (.pointer (some (ad 0))))) W):=fun W hW h1=>by
  subst h1
  exact Ei hp hW (AY (he.below hW).errs 0 (by decide)) (by decide)
 have c0:=he.errs.c0
 have HS:Hid (Site w0 ad N g cb ∧ Below w0.heap.size w0 w ∧ Aw w N g cb s ∧ Bo s ∧ Env w ad):=⟨hS,hw,hp,ho,he⟩
 by_cases h3:ws.length=3
 ·
  obtain ⟨x,y,z,rfl⟩:∃ x y z,ws=[x,y,z]:=by
   match ws,h3 with
   | [x,y,z],_=>exact ⟨x,y,z,rfl⟩
  have x0:w.cell? ⟨wb,0,none⟩=some (Ah x):=by
   obtain ⟨b,off,e,hlt,hc⟩:=hl.place (by simp)
   cases e
   exact hc 0 x rfl
  have HRd:Hid (Calls Tryz.prog 104 #[Ah x] w fun e w'=>BO (ad 0) (FE x) w e w'):=Ku ⟨x.toArray⟩ w (ad 0) he.errs.c0 (by have:=hs.2 x (by simp);show x.toArray.size ≤ _;simp;omega)
  have HRn:Hid (∀ W,Below w.heap.size w W → Calls Tryz.prog 103 #[.slice (some ⟨wb,1,none⟩) 2 2] W fun e w'=>GX (ad 0) (Du [y,z]) W e w'):=fun W hW=>F4 (some ⟨wb,1,none⟩) 2 [y,z] W (ad 0) (he.below hW).errs.c0 (M6 (ws:=[x,y,z]) (hl.below hW) fun _=>rfl) ⟨by simp,fun u hu=>hs.2 u (List.mem_cons_of_mem _ hu)⟩
  have HC:Hid (Kv s [x,y,z] c s1):=hc
  clear hl hs hc h3 hS hw hp ho he
  go_enter Tryz.func76,Tryz.ntmps76
  go_wp2_with fail
  refine HRd.out.mono ?_
  rintro e w1 ⟨hb1,⟨hf,rfl⟩ | ⟨f,hf,rfl⟩⟩
  ·
   have HE:Hid (Bh N g cb s s1 c w (.returned (.iface 312 (.pointer (some (ad 0))))) w1):=by
    refine HEt.out w1 hb1 ?_
    obtain ⟨h,-⟩ | ⟨x',y',z',e,⟨-,h,-⟩ | ⟨f,h,-⟩⟩:=HC.out
    · exact absurd rfl h
    · exact h
    ·
     cases e
     rw [hf] at h;cases h
   clear hf hb1
   go_wp2_with fail
   go_ret
   exact HE.out
  ·
   have HB1:Hid (Below w.heap.size w w1 ∧ FE x=some f):=⟨hb1,hf⟩
   clear hf hb1 c0
   go_wp2_with fail
   refine (HRn.out w1 HB1.out.1).mono ?_
   rintro e w2 ⟨hb2,⟨hns,rfl⟩ | ⟨ns,G,hns,rfl,hG,hGl,hln⟩⟩
   ·
    have HE:Hid (Bh N g cb s s1 c w (.returned (.iface 312 (.pointer (some (ad 0))))) w2):=by
     refine HEt.out w2 (HB1.out.1.trans (hb2.mono HB1.out.1.size)) ?_
     obtain ⟨h,-⟩ | ⟨x',y',z',e,⟨h,-⟩ | ⟨f',h,⟨-,h1,-⟩ | ⟨a,b,p,h1,-⟩⟩⟩:=HC.out
     · exact absurd rfl h
     ·
      cases e
      rw [HB1.out.2] at h;cases h
     · exact h1
     ·
      cases e
      rw [hns] at h1;cases h1
    clear hns hb2
    go_wp2_with fail
    go_ret
    exact HE.out
   ·
    obtain ⟨a,b,rfl⟩:∃ a b,ns=[a,b]:=by
     have:=DI hns
     match ns,this with
     | [a,b],_=>exact ⟨a,b,rfl⟩
    obtain ⟨p,hs1,hpf⟩:∃ p,s1={ s with ps:=s.ps ++ [⟨f,a,b⟩] } ∧ DY (s.ps ++ [⟨f,a,b⟩]) c p:=by
     obtain ⟨h,-⟩ | ⟨x',y',z',e,⟨h,-⟩ | ⟨f',h,⟨h1,-⟩ | ⟨a',b',p,h1,h2,h3⟩⟩⟩:=HC.out
     · exact absurd rfl h
     ·
      cases e
      rw [HB1.out.2] at h;cases h
     ·
      cases e
      rw [hns] at h1;cases h1
     ·
      cases e
      rw [HB1.out.2] at h
      obtain rfl:=Option.some.inj h
      rw [hns] at h1
      cases h1
      exact ⟨p,h2,h3⟩
    have hb:=HB1.out.1.trans (hb2.mono HB1.out.1.size)
    obtain ⟨na,nc,pv,hpi⟩:=HS.out.2.2.1
    have hp2:=hpi.below hb
    obtain ⟨v0,v1⟩:w2.cell? ⟨G,0,none⟩=some (.int .i64 a) ∧ w2.cell? ⟨G,1,none⟩=some (.int .i64 b):=by
     rcases hln with h | ⟨b',off,e,-,h⟩
     · cases h
     ·
      cases e
      exact ⟨h 0 a rfl,h 1 b rfl⟩
    have hbd:Below w2.heap.size w2 (w2.drew.alloc (.cells #[.int .i64 f,.int .i64 a,.int .i64 b] 58)):=((Below.refl _ _).drew).alloc (Nat.le_refl _) _
    have HW:Hid (BP (w2.drew.alloc (.cells #[.int .i64 f,.int .i64 a,.int .i64 b] 58)) N g cb na nc pv s ∧ Below w.heap.size w (w2.drew.alloc (.cells #[.int .i64 f,.int .i64 a,.int .i64 b] 58))):=⟨hp2.below hbd,hb.trans (hbd.mono hb.size)⟩
    have HQ:Hid (AO (w2.drew.alloc (.cells #[.int .i64 f,.int .i64 a,.int .i64 b] 58)) (some ⟨w2.heap.size,0,none⟩) [⟨f,a,b⟩]):=XE w2.drew f a b
    have HFr:Hid (pv.ownBlock ≠ some g ∧ pv.ownBlock ≠ some G ∧ g < w2.heap.size ∧ G < w2.heap.size):=by
     have h1:=hpi.gN
     have h2:=hpi.wN
     have h3:=HB1.out.1.size
     have h4:=hb.size
     exact ⟨fun e=>by have:=(AX hpi.pks e).1;omega,fun e=>by have:=(AX hpi.pks e).2;omega,by omega,hGl⟩
    have HD:Hid (s1={ s with ps:=s.ps ++ [⟨f,a,b⟩] } ∧ DY (s.ps ++ [⟨f,a,b⟩]) c p):=⟨hs1,hpf⟩
    have y4:=hp2.c4
    have hlen:s.ps.length ≤ 300:=HS.out.2.2.2.1.pks.few
    obtain ⟨n,hn⟩:∃ n,s.ps.length=n:=⟨_,rfl⟩
    have HN:Hid (s.ps.length=n):=hn
    have HCl:Hid (∀ W,Below w2.heap.size w2 W → W.cell? ⟨g,4,none⟩=some pv ∧ W.cell? ⟨G,0,none⟩=some (.int .i64 a) ∧ W.cell? ⟨G,1,none⟩=some (.int .i64 b)):=fun W hW=>⟨cell_later hW y4,cell_later hW v0,cell_later hW v1⟩
    clear hns hb2 hb hpi hp2 hln hG hGl hbd hs1 hpf hn
    go_wp2_with fail
    go_region_held_law (fun w'=>w'.cell? ⟨g,4,none⟩=some pv ∧ w'.cell? ⟨G,0,none⟩=some (.int .i64 a) ∧ w'.cell? ⟨G,1,none⟩=some (.int .i64 b)) (first | exact HCl.out _ (below_drewN (Below.refl _ _) 1) | exact HCl.out _ (((Below.refl _ _).drew).alloc (Nat.le_refl _) _) | exact hS)
     (first
      | (refine LY rfl rfl _ _ rfl N pv s.ps ⟨f,a,b⟩ rfl HW.out.1.pks HW.out.1.wN ⟨w2.heap.size,0,none⟩ 1 rfl HQ.out (by omega) ?_
         intro G5 cap5 w5 ho5 hk5 hb5 hat5
         have H5:Hid (DC w5 N (.slice (some ⟨G5,0,none⟩) (s.ps.length+1) cap5) (s.ps ++ [⟨f,a,b⟩]) ∧ DC w5 N pv s.ps ∧ But (fun k=>pv.ownBlock=some k) (w2.drew.alloc (.cells #[.int .i64 f,.int .i64 a,.int .i64 b] 58)) w5 ∧ (pv.ownBlock=some G5 ∨ (w2.drew.alloc (.cells #[.int .i64 f,.int .i64 a,.int .i64 b] 58)).heap.size ≤ G5)):=⟨ho5,hk5,hb5,hat5⟩
         have hS:w5.cell? ⟨g,4,none⟩=some pv ∧ w5.cell? ⟨G,0,none⟩=some (.int .i64 a) ∧ w5.cell? ⟨G,1,none⟩=some (.int .i64 b):=by
           obtain ⟨q1,q2,q3,q4⟩:=HFr.out
           obtain ⟨r1,r2,r3⟩:=HCl.out _ (((Below.refl _ _).drew).alloc (Nat.le_refl _) (.cells #[.int .i64 f,.int .i64 a,.int .i64 b] 58))
           have hsz:w2.heap.size ≤ (w2.drew.alloc (.cells #[.int .i64 f,.int .i64 a,.int .i64 b] 58)).heap.size:=by simp
           exact ⟨(hb5.cell (p:=⟨g,4,none⟩) (Nat.lt_of_lt_of_le q3 hsz) q1).trans r1,(hb5.cell (p:=⟨G,0,none⟩) (Nat.lt_of_lt_of_le q4 hsz) q2).trans r2,(hb5.cell (p:=⟨G,1,none⟩) (Nat.lt_of_lt_of_le q4 hsz) q2).trans r3⟩
         clear ho5 hk5 hb5 hat5)
      | fail)
    all_goals
     have HP5:Hid (BP w5 N g cb na nc pv s ∧ But (K3 N g cb) w w5 ∧ Below w0.heap.size w0 w5):=by
      have hbt:But (K3 N g cb) w w5:=(But.ofBelow HW.out.2).trans (H5.out.2.2.1.mono fun k hk=>.inr (.inr (AX HW.out.1.pks hk).1))
      exact ⟨HW.out.1.keep H5.out.2.2.1 H5.out.2.1,hbt,HS.out.1.later HS.out.2.1 hbt⟩
     have HCk:Hid (Calls Tryz.prog 105 #[.slice (some ⟨G5,0,none⟩) (n+1) cap5] w5 fun e w'=>∃ E,e=.returned E ∧ AR w' E c p ∧ Below w5.heap.size w5 w'):=by
      obtain ⟨a',cap',e1,e2⟩:=DC.value H5.out.1
      have e3:(s.ps ++ [(⟨f,a,b⟩:Pk)]).length=n+1:=by rw [List.length_append,HN.out];rfl
      rw [e3,HN.out] at e1
      cases e1
      have:=K7 (some ⟨G5,0,none⟩) cap5 (s.ps ++ [⟨f,a,b⟩]) w5 ad (HS.out.1.env.below HP5.out.2.2).errs e2.pks e2.cap e2.max c p HD.out.2
      rw [e3] at this
      exact this
     rw [HN.out] at H5 ⊢
     have HSt:Hid (∀ W,Below w5.heap.size w5 W → (∃ u,W.cell? ⟨g,4,none⟩=some u) ∧ W.frozen? ⟨g,4,none⟩=false ∧ (c=0 → Bh N g cb s s1 c w (.returned .nilIface) (W.setCell ⟨g,4,none⟩ (.slice (some ⟨G5,0,none⟩) (n+1) cap5))) ∧ (∀ E,AR W E c p → c ≠ 0 → Bh N g cb s s1 c w (.returned E) W)):=fun W hW=>by
      have hpW:=HP5.out.1.below hW
      have hbW:But (K3 N g cb) w W:=HP5.out.2.1.trans (.ofBelow hW)
      refine ⟨⟨_,hpW.c4⟩,hpW.fg 4,fun h0=>?_,fun E hE h0=>⟨E,p,rfl,hE,hbW,.inr ⟨h0,na,nc,pv,hpW⟩⟩⟩
      obtain ⟨k1,k2⟩:=HW.out.1.setPks (H5.out.2.2.1.trans (.ofBelow hW)) (H5.out.1.later hW) (fun k hk=>by
       have:G5=k:=Option.some.inj hk
       subst this
       exact H5.out.2.2.2) (w':=W.setCell ⟨g,4,none⟩ (.slice (some ⟨G5,0,none⟩) (n+1) cap5)) rfl
      subst h0
      exact ⟨.nilIface,-1,rfl,CG _,(But.ofBelow HW.out.2).trans k2,.inl ⟨rfl,na,nc,_,by rw [HD.out.1];exact k1⟩⟩
     clear hS H5 HW HQ HCl HFr HN hlen v0 v1 y4
     go_wp2_with fail
     refine HCk.out.mono ?_
     rintro e w6 ⟨E,rfl,hE,hb6⟩
     obtain ⟨⟨u,z1⟩,z2,z3,z4⟩:=HSt.out w6 hb6
     by_cases hc0:c=0
     ·
      obtain rfl:=hE.none_ hc0
      have HE:=(show Hid (Bh N g cb s s1 c w (.returned .nilIface) (w6.setCell ⟨g,4,none⟩ (.slice (some ⟨G5,0,none⟩) (n+1) cap5))) from z3 hc0)
      clear hE hb6 z3 z4 hc0 HSt HCk
      go_wp2_with fail
      go_ret
      exact HE.out
     ·
      have HE:=(show Hid (Bh N g cb s s1 c w (.returned E) w6) from z4 E hE hc0)
      obtain ⟨ty,v,rfl⟩:=hE.some_ hc0
      clear hE hb6 z3 z4 hc0 HSt HCk
      go_wp2_with fail
      go_ret
      exact HE.out
 ·
  have h3':((ws.length:Int) == 3)=false:=by simp;omega
  have HE:Hid (Bh N g cb s s1 c w (.returned (.iface 312 (.pointer (some (ad 0))))) w):=by
   refine HEt.out w (Below.refl _ _) ?_
   obtain ⟨-,h,-⟩ | ⟨x,y,z,h,-⟩:=hc
   · exact h
   · rw [h] at h3;exact absurd rfl h3
  obtain ⟨n,hn⟩:∃ n,ws.length=n:=⟨_,rfl⟩
  rw [hn] at h3' ⊢
  clear h3 hl hs hc hn hS hw hp ho he
  go_enter Tryz.func76,Tryz.ntmps76
  go_wp2_with fail
  go_ret
  exact HE.out
end
end Go.Proofs.YtipdclphpkgceaaGreatDoor
