/- Own facts, put together: no statement of its own. -/
import Derived.Test.YtipdclphpkgceaaGreatDoorA29
import Derived.Test.YtipdclphpkgceaaGreatDoorA12
import Derived.Test.YtipdclphpkgceaaGreatDoorA11
import Derived.Test.YtipdclphpkgceaaGreatDoorA24
import Derived.Test.YtipdclphpkgceaaGreatDoorA16
set_option maxHeartbeats 4000000
set_option maxRecDepth 100000

namespace Go.Proofs.YtipdclphpkgceaaGreatDoor
open Go.RowKit
structure Site (w0:World) (ad:Nat → Addr) (N g cb:Nat):Prop where
 env:Env w0 ad
 bg:w0.heap.size ≤ g
 bc:w0.heap.size ≤ cb
 bN:w0.heap.size ≤ N
theorem Site.later {w0 w w':World} {ad:Nat → Addr} {N g cb:Nat} (h:Site w0 ad N g cb) (hw:Below w0.heap.size w0 w) (hb:But (K3 N g cb) w w'):Below w0.heap.size w0 w':=
 hw.trans (hb.below hw.size fun k hk=>by
  have h1:=h.bg;have h2:=h.bc;have h3:=h.bN
  rcases hk with hk | hk | hk <;> omega)
def Aw (w:World) (N g cb:Nat) (s:Scr):Prop:=∃ na ncap pv,BP w N g cb na ncap pv s
theorem Aw.below {w w':World} {N g cb:Nat} {s:Scr} (h:Aw w N g cb s) (hb:Below w.heap.size w w'):Aw w' N g cb s:=by
 obtain ⟨na,ncap,pv,h⟩:=h
 exact ⟨na,ncap,pv,h.below hb⟩
def Bh (N g cb:Nat) (s s1:Scr) (c:Int) (w:World) (e:Ending) (w':World):Prop:=
 ∃ E p,e=.returned E ∧ AR w' E c p ∧ But (K3 N g cb) w w' ∧ ((c=0 ∧ Aw w' N g cb s1) ∨ (c ≠ 0 ∧ Aw w' N g cb s))
theorem Ei {N g cb:Nat} {s s1:Scr} {c p:Int} {w w':World} {E:Value} (hp:Aw w N g cb s) (hb:Below w.heap.size w w') (he:AR w' E c p) (hc:c ≠ 0):Bh N g cb s s1 c w (.returned E) w':=⟨E,p,rfl,he,.ofBelow hb,.inr ⟨hc,hp.below hb⟩⟩
theorem UX (wb n:Nat) (h:1 ≤ n) (hn:n ≤ 1000):∃ ta m,(∀ W:World,(Instr.slice 22 (.slice (some ⟨wb,0,none⟩) n n) (some (.int .i64 1)) none none).run Tryz.prog W=.ok (.slice ta m m) W) ∧ m=n - 1 ∧ (2 ≤ n → ta=some ⟨wb,1,none⟩):=by
 by_cases h1:n=1
 ·
  subst h1
  exact ⟨some ⟨wb,0,none⟩,0,fun W=>by kernel_rfl,rfl,fun h=>by omega⟩
 ·
  refine ⟨some ⟨wb,1,none⟩,n - 1,fun W=>?_,rfl,fun _=>rfl⟩
  have hz:(sizeOf (Tryz.prog.elem 22)).run Tryz.prog W=.ok 1 W:=by kernel_rfl
  rw [run_slice_l W 22 (some ⟨wb,0,none⟩) n n (by kernel_rfl) .i64 1 (by decide) (by omega),hz]
  simp [Result.andThen,sliced,Addr.add]
  exact h1
theorem Ra {ws:List (List UInt8)} {ls:List (Int × Int)} (h:DV ws=some ls):ls.length ≤ ws.length:=by
 unfold DV at h
 split at h
 · cases h
 ·
  obtain ⟨ns,h1,rfl⟩:=Option.map_eq_some_iff.1 h
  rw [Gv,DI h1]
  omega
theorem M6 {w:World} {wb:Nat} {ws:List (List UInt8)} {ta:Option Addr} (h:Bp w (some ⟨wb,0,none⟩) ws) (ht:2 ≤ ws.length → ta=some ⟨wb,1,none⟩):Bp w ta ws.tail:=by
 match ws,h,ht with
 | [],_,_=>exact .inl rfl
 | [_],_,_=>exact .inl rfl
 | x :: y :: r,h,ht=>
  obtain ⟨b,off,e,hlt,hc⟩:=h.place (by simp)
  cases e
  rw [ht (by simp)]
  refine .inr ⟨wb,1,rfl,hlt,fun i z hi=>?_⟩
  have:=hc (i+1) z (by simpa using hi)
  rwa [show 0+(i+1)=1+i by omega] at this
section
variable (w0:World) (ad:Nat → Addr) (N g cb:Nat) (hS:Site w0 ad N g cb) (s:Scr) (w:World) (hw:Below w0.heap.size w0 w) (hp:Aw w N g cb s) (ho:Bo s)
 (wb:Nat) (ws:List (List UInt8)) (hl:Bp w (some ⟨wb,0,none⟩) ws) (hs:DU ws)
theorem Tq (w0:World) (ad:Nat → Addr) (N g cb:Nat) (hS:Site w0 ad N g cb) (s:Scr) (w:World) (hw:Below w0.heap.size w0 w) (hp:Aw w N g cb s) (ho:Bo s) (wb:Nat) (ws:List (List UInt8)) (hl:Bp w (some ⟨wb,0,none⟩) ws) (hs:DU ws) (h1:1 ≤ ws.length) (c:Int) (s1:Scr) (hc:Mh s ws c s1) :
  Calls Tryz.prog 73 #[.pointer (some ⟨g,0,none⟩),.slice (some ⟨wb,0,none⟩) ws.length ws.length] w fun e w'=>Bh N g cb s s1 c w e w':=by
 have he:=hS.env.below hw
 obtain ⟨x,r,rfl⟩:∃ x r,ws=x :: r:=by
  cases ws with
  | nil=>simp at h1
  | cons x r=>exact ⟨x,r,rfl⟩
 have hx:w.cell? ⟨wb,0,none⟩=some (Ah x):=by
  obtain ⟨b,off,e,-,hc⟩:=hl.place h1
  cases e
  exact hc 0 x rfl
 obtain ⟨n,hn⟩:∃ n,(x :: r).length=n:=⟨_,rfl⟩
 obtain ⟨ta,m,hsl,hm,hta⟩:=UX wb n (by omega) (by rw [← hn];exact hs.1)
 have hmr:r.length=m:=by rw [hm,← hn];simp
 have HRf:Hid (Calls Tryz.prog 98 #[Ah x] w fun e w'=>BO (ad 0) (DN x) w e w'):=Lv ⟨x.toArray⟩ w (ad 0) he.errs.c0 (by have:=hs.2 x (by simp);show x.toArray.size ≤ _;simp;omega)
 have HRl:Hid (∀ W,Below w.heap.size w W → Calls Tryz.prog 99 #[.slice ta m m] W fun e w'=>IQ (ad 0) (DV r) W e w'):=fun W hW=>by
  have ht:Bp W ta r:=M6 (ws:=x :: r) (hl.below hW) (by rw [hn];exact hta)
  have:=QL ta m r W (ad 0) (he.below hW).errs.c0 ht ⟨by have:=hs.1;simp at this;omega,fun y hy=>hs.2 y (List.mem_cons_of_mem _ hy)⟩
  rwa [hmr] at this
 have hn0:0 < n:=by rw [← hn];simp
 have hsh:r.length ≤ 1000:=by have:=hs.1;simp at this;omega
 have HP:Hid (Aw w N g cb s):=hp
 have HO:Hid (Bo s):=ho
 have HEn:Hid (Env w ad):=he
 have HC:Hid (Mh s (x :: r) c s1):=hc
 rw [hn]
 clear hl hs he hc hn hm hta hmr h1 hp ho hw hS
 go_enter Tryz.func73,Tryz.ntmps73
 go_wp2_with fail
 refine HRf.out.mono ?_
 rintro e w1 ⟨hb1,⟨hf,rfl⟩ | ⟨f,hf,rfl⟩⟩
 ·
  have HE:Hid (Bh N g cb s s1 c w (.returned (.iface 312 (.pointer (some (ad 0))))) w1):=by
   obtain ⟨-,rfl,-⟩ | ⟨f',hf',-⟩:=HC.out
   · exact Ei HP.out hb1 (AY (HEn.out.below hb1).errs 0 (by decide)) (by decide)
   ·
    have h':DN x=some f':=hf'
    rw [hf] at h';cases h'
  clear hf hb1
  go_wp2_with fail
  go_ret
  exact HE.out
 ·
  have hf8:0 ≤ f ∧ f < 8:=by
   unfold DN at hf
   obtain ⟨z,-,hz⟩:=Option.bind_eq_some_iff.1 hf
   split at hz
   · rename_i h8;cases hz;exact h8
   · cases hz
  have HB1:Hid (Below w.heap.size w w1 ∧ DN x=some f):=⟨hb1,hf⟩
  clear hf hb1
  go_wp2_with fail
  refine (HRl.out w1 HB1.out.1).mono ?_
  rintro e w2 ⟨hb2,⟨hln,rfl⟩ | ⟨ls,G,hln,rfl,hG,hGl,hls⟩⟩
  ·
   have HE:Hid (Bh N g cb s s1 c w (.returned (.iface 312 (.pointer (some (ad 0))))) w2):=by
    have hb:=HB1.out.1.trans (hb2.mono HB1.out.1.size)
    obtain ⟨hf',-⟩ | ⟨f',-,⟨-,rfl,-⟩ | ⟨l',hl',-⟩⟩:=HC.out
    ·
     have h':DN x=none:=hf'
     rw [HB1.out.2] at h';cases h'
    · exact Ei HP.out hb (AY (HEn.out.below hb).errs 0 (by decide)) (by decide)
    ·
     have h':DV r=some l':=hl'
     rw [hln] at h';cases h'
   clear hln hb2
   go_wp2_with fail
   go_ret
   exact HE.out
  ·
   have hb:=HB1.out.1.trans (hb2.mono HB1.out.1.size)
   obtain ⟨hs1,hcc⟩:s1={ s with cs:=s.cs.set f.toNat ls } ∧ ((ls=[] ∧ c=0) ∨ (ls ≠ [] ∧ ∃ p,CW ls c p)):=by
    obtain ⟨hf',-⟩ | ⟨f',hf',⟨hl',-⟩ | ⟨l',hl',e1,e2⟩⟩:=HC.out
    ·
     have h':DN x=none:=hf'
     rw [HB1.out.2] at h';cases h'
    ·
     have h':DV r=none:=hl'
     rw [hln] at h';cases h'
    ·
     have h':DN x=some f':=hf'
     rw [HB1.out.2] at h'
     obtain rfl:=Option.some.inj h'
     have h':DV r=some l':=hl'
     rw [hln] at h'
     obtain rfl:=Option.some.inj h'
     exact ⟨e1,e2⟩
   obtain ⟨fn,rfl⟩:∃ fn:Nat,f=fn:=⟨f.toNat,by omega⟩
   have hfn:fn < 8:=by omega
   have hlm:ls.length ≤ maxLen:=by
    have:=Ra hln
    have:=hsh
    unfold maxLen
    omega
   obtain ⟨na,ncap,pv,hp⟩:=HP.out
   have hGN:w.heap.size ≤ G:=Nat.le_trans HB1.out.1.size hG
   have HSt:Hid (∀ W,Below w2.heap.size w2 W → W.cell? ⟨g,0,none⟩=some (.slice (some ⟨cb,0,none⟩) 8 8) ∧ (∃ u,W.cell? ⟨cb,fn,none⟩=some u) ∧ W.frozen? ⟨cb,fn,none⟩=false ∧ (c=0 → Bh N g cb s s1 c w (.returned .nilIface) (W.setCell ⟨cb,fn,none⟩ (.slice (some ⟨G,0,none⟩) ls.length ls.length)))):=fun W hW=>by
    have hbW:=hb.trans (hW.mono hb.size)
    have hpW:=hp.below hbW
    obtain ⟨l',hl',-⟩:=Ai s.cs fn (by rw [HO.out.gate.len];exact hfn)
    obtain ⟨a',cap',hc'⟩:=hpW.curves fn l' hl'
    refine ⟨hpW.c0,⟨_,hc'.cell⟩,hpW.fc fn,fun h0=>?_⟩
    obtain ⟨k1,k2⟩:=hpW.setCurve hfn HO.out.gate.len (ls:=ls) (G:=G) (Nat.le_trans hp.wN hGN) (Nat.lt_of_lt_of_le hGl hW.size) (fun hk=>by have:=(AX hp.pks hk).2;omega) (hls.below hW) hlm
    subst h0
    exact ⟨.nilIface,-1,rfl,CG _,(But.ofBelow hbW).trans k2,.inl ⟨rfl,na,ncap,pv,by rw [hs1];simpa using k1⟩⟩
   have HEr:Hid (∀ W E p,Below w2.heap.size w2 W → AR W E c p → c ≠ 0 → Bh N g cb s s1 c w (.returned E) W):=fun W E p hW hE hc0=>Ei HP.out (hb.trans (hW.mono hb.size)) hE hc0
   have HCk:Hid (∀ p,CW ls c p → Calls Tryz.prog 89 #[.slice (some ⟨G,0,none⟩) ls.length ls.length] w2 fun e w'=>∃ E,e=.returned E ∧ AR w' E c p ∧ Below w2.heap.size w2 w'):=fun p hp=>Sw _ _ ls w2 ad (HEn.out.below hb).errs hls (Nat.le_refl _) hlm c p hp
   obtain ⟨k,hk⟩:∃ k,ls.length=k:=⟨_,rfl⟩
   rw [hk] at HSt HCk hlm ⊢
   have hk0:(ls=[] ↔ k=0):=by rw [← hk];exact List.length_eq_zero_iff.symm
   unfold maxLen at hlm
   clear hln hb2 hb hs1 hp hGN hGl hG hls hk hf8 HB1 HRl HRf
   rcases hcc with ⟨h0,hc0⟩ | ⟨h0,p,hfl⟩
   ·
    obtain rfl:=hk0.1 h0
    obtain ⟨y0,⟨u,y1⟩,y2,y3⟩:=HSt.out w2 (Below.refl _ _)
    have HE:=(show Hid (Bh N g cb s s1 c w (.returned .nilIface) (w2.setCell ⟨cb,fn,none⟩ (.slice (some ⟨G,0,none⟩) 0 0))) from y3 hc0)
    clear h0 hk0 y3 HSt hc0
    go_wp2_with fail
    go_ret
    exact HE.out
   ·
    have hkz:0 < k:=Nat.pos_of_ne_zero fun e=>h0 (hk0.2 e)
    clear h0 hk0
    go_wp2_with fail
    refine (HCk.out p hfl).mono ?_
    rintro e w3 ⟨E,rfl,hE,hb3⟩
    by_cases hc0:c=0
    ·
     obtain rfl:=hE.none_ hc0
     obtain ⟨y0,⟨u,y1⟩,y2,y3⟩:=HSt.out w3 hb3
     have HE:=(show Hid (Bh N g cb s s1 c w (.returned .nilIface) (w3.setCell ⟨cb,fn,none⟩ (.slice (some ⟨G,0,none⟩) k k))) from y3 hc0)
     clear hE hb3 y3 HSt hc0 hfl
     go_wp2_with fail
     go_ret
     exact HE.out
    ·
     have HE:=(show Hid (Bh N g cb s s1 c w (.returned E) w3) from HEr.out w3 E p hb3 hE hc0)
     obtain ⟨ty,v,rfl⟩:=hE.some_ hc0
     clear hE hb3 HSt hc0 hfl
     go_wp2_with fail
     go_ret
     exact HE.out
end
def DW (per:Int) (ps:List Pk) (keys:List Int) (B:Nat) (w:World) (v:Value) (w':World):Prop:=∃ l,Ig w' w.heap.size v l ∧ DZ per ps keys l ∧ l.length=ps.length ∧ Below B w w'
theorem LH (a:Option Addr) (cap:Nat) (ps:List Pk) (per:Int) (keys:List Int) (B:Nat) (W0:World) (g gm f:Nat) (x1 x2:Value) (D0:Nat → Prop) (w:World) (hl:AO w a ps) (ho:Aj ps) (h1:1 ≤ per) (h2:per ≤ 1000) (ha:∀ ad,a=some ad → 0 < ps.length → ad.block < B) (h0:Bv B W0 g gm (.func (.func f) #[] #[x1,x2]) w D0 [])
  (hf:∀ args W,Sem.run Tryz.prog (callFunc f args) W=.ok (.enter f args) W)
  (hM:∀ W k,Below B W0 W → k < ps.length → Calls Tryz.prog f #[.int .i64 ((k:Nat):Int),x1,x2] W fun e w'=>e=.returned (.int .i64 (keys.getD k 0)) ∧ ∃ m,w'=W.drewN m) :
  Calls Tryz.prog 169 #[.slice a ps.length cap,.int .i64 per,.iface 266 (EK g gm)] w fun e w'=>∃ v,e=.returned v ∧ DW per ps keys B w v w':=by
 have hP:=Wp keys
 have hlaw:=NY (per:=per) (ps:=ps) hP (by omega) ho
 have hBw:B ≤ w.heap.size:=by
  obtain ⟨v,h,-⟩:=h0.row
  exact Nat.le_trans h0.apart.2.1 (Nat.le_of_lt (lt_of_block h))
 have hlen:∀ s,Reaches (waits fun i=>keys.getD i 0) per ps [] s → s.q.length ≤ 1000:=fun s hr=>by
  have hc:=hr.count hlaw
  have hn:=hr.next_le
  have:=ho.few
  have:(waits fun i=>keys.getD i 0).rest s.q=s.q.length:=rfl
  omega
 refine (NU (waits fun i=>keys.getD i 0) (Bv B W0 g gm (.func (.func f) #[] #[x1,x2])) per ps [] B _ _ _ (Zx B W0 g gm _) hlaw ho h1 h2 ?_ ?_ ?_ a cap w hl hBw ha D0 h0).mono ?_
 ·
  intro w D s p hr hp hh
  exact PY B W0 g gm _ D s.q s.next w hh (hlen s hr)
 ·
  intro w D s hr h0' hh
  have hr':=KQ hP (by omega) ho hr
  exact Qi B W0 g gm f x1 x2 (fun i=>keys.getD i 0) ps.length D s.q w hh (hlen s hr) h0' (fun k hk=>by have:=((hr'.wait k).1 hk).1;have:=hr'.le;omega) hf hM
 ·
  intro w D s hr hh
  rw [JZ _ (fun _=>rfl)]
  exact QK B W0 g gm _ D s.q w hh
 ·
  rintro e w' ⟨s,v,rfl,hr,hn,hrest,hown,hb⟩
  obtain ⟨e1,e2⟩:=Vx hP (by omega) ho hr hn hrest
  exact ⟨v,rfl,s.out,hown,e1,e2,hb⟩
structure Boxed (w W:World) (p q:Value):Prop where
 below:Below w.heap.size w W
 c1:W.cell? ⟨w.heap.size,0,none⟩=some p
 c2:W.cell? ⟨w.heap.size+1,0,none⟩=some q
 lt:w.heap.size+2 ≤ W.heap.size
theorem FY (w:World) (p q:Value) (t u:TypeId):Boxed w ((w.alloc (.cells #[p] t)).alloc (.cells #[q] u)) p q:=by
 have hs:(w.alloc (.cells #[p] t)).heap.size=w.heap.size+1:=by simp
 refine ⟨((Below.refl _ _).alloc (Nat.le_refl _) _).alloc (by rw [hs];omega) _,cell_later ((Below.refl _ _).alloc (Nat.le_refl _) _) (by simp),?_,by simp⟩
 rw [World.cell?_alloc_at _ _ _ _ hs.symm]
 rfl
theorem Boxed.later {w W W':World} {p q:Value} (h:Boxed w W p q) (hb:Below W.heap.size W W'):Boxed w W' p q:=
 ⟨h.below.trans (hb.mono h.below.size),cell_later hb h.c1,cell_later hb h.c2,Nat.le_trans h.lt hb.size⟩
theorem DW.from {per:Int} {ps:List Pk} {keys:List Int} {B:Nat} {w w1 w':World} {v:Value} (h:DW per ps keys B w1 v w') (hb:Below w.heap.size w w1) (hB:w.heap.size ≤ B):DW per ps keys w.heap.size w v w':=by
 obtain ⟨l,h1,h2,h3,h4⟩:=h
 exact ⟨l,CR h1 hb.size,h2,h3,hb.trans (h4.mono hB)⟩
theorem YD (args:Array Value) (W:World):Sem.run Tryz.prog (callFunc 172 args) W=.ok (.enter 172 args) W:=by kernel_rfl
theorem Mq (args:Array Value) (W:World):Sem.run Tryz.prog (callFunc 174 args) W=.ok (.enter 174 args) W:=by kernel_rfl
theorem QX (a:Option Addr) (cap:Nat) (ps:List Pk) (per:Int) (na:Option Addr) (ncap:Nat) (ns:List Int) (w W W3:World) (D0:Nat → Prop) (hl:AO w a ps) (hn:AV w na ns) (ho:Aj ps) (h1:1 ≤ per) (h2:per ≤ 1000) (h8:ns.length=8) (hB:Boxed w W (.slice a ps.length cap) (.slice na ns.length ncap))
  (h0:Bv W.heap.size W (W.heap.size+1) W.heap.size (.func (.func 172) #[] #[.pointer (some ⟨w.heap.size+1,0,none⟩),.pointer (some ⟨w.heap.size,0,none⟩)]) W3 D0 []) (hb3:Below W.heap.size W W3) :
  Calls Tryz.prog 169 #[.slice a ps.length cap,.int .i64 per,.iface 266 (EK (W.heap.size+1) W.heap.size)] W3 fun e w'=>∃ v,e=.returned v ∧ DW per ps (Cu ps ns) w.heap.size w v w':=by
 have hlW:=hl.below hB.below
 refine (LH a cap ps per (Cu ps ns) W.heap.size W _ _ 172 _ _ D0 W3 (hlW.below hb3) ho h1 h2 hlW.at_lt h0 YD (fun W' k hb hk=>?_)).mono ?_
 ·
  rw [QE hk]
  exact ZU ps ns w.heap.size (w.heap.size+1) a cap na ncap W' k ((hB.later hb).c1) ((hB.later hb).c2) (hlW.below hb) ((hn.below hB.below).below hb) ho h8 hk
 ·
  rintro e w' ⟨v,rfl,h⟩
  exact ⟨v,rfl,h.from (hB.below.trans (hb3.mono hB.below.size)) hB.below.size⟩
theorem QR (a:Option Addr) (cap:Nat) (ps:List Pk) (per:Int) (na:Option Addr) (ncap:Nat) (ns:List Int) (w W W3:World) (D0:Nat → Prop) (hl:AO w a ps) (hn:AV w na ns) (ho:Aj ps) (h1:1 ≤ per) (h2:per ≤ 1000) (h8:E5 0 1099511627776 ns) (hB:Boxed w W (.slice a ps.length cap) (.slice na ns.length ncap))
  (h0:Bv W.heap.size W (W.heap.size+1) W.heap.size (.func (.func 174) #[] #[.pointer (some ⟨w.heap.size,0,none⟩),.pointer (some ⟨w.heap.size+1,0,none⟩)]) W3 D0 []) (hb3:Below W.heap.size W W3) :
  Calls Tryz.prog 169 #[.slice a ps.length cap,.int .i64 per,.iface 266 (EK (W.heap.size+1) W.heap.size)] W3 fun e w'=>∃ v,e=.returned v ∧ DW per ps (Dj ps ns) w.heap.size w v w':=by
 have hlW:=hl.below hB.below
 refine (LH a cap ps per (Dj ps ns) W.heap.size W _ _ 174 _ _ D0 W3 (hlW.below hb3) ho h1 h2 hlW.at_lt h0 Mq (fun W' k hb hk=>?_)).mono ?_
 ·
  rw [Ru hk]
  exact aH ps ns w.heap.size (w.heap.size+1) a cap na ncap W' k ((hB.later hb).c1) ((hB.later hb).c2) (hlW.below hb) ((hn.below hB.below).below hb) ho h8 hk
 ·
  rintro e w' ⟨v,rfl,h⟩
  exact ⟨v,rfl,h.from (hB.below.trans (hb3.mono hB.below.size)) hB.below.size⟩
theorem UT (a:Option Addr) (cap:Nat) (ps:List Pk) (per:Int) (na:Option Addr) (ncap:Nat) (ns:List Int) (w:World) (hl:AO w a ps) (hn:AV w na ns) (ho:Aj ps) (h1:1 ≤ per) (h2:per ≤ 1000) (hk:E5 0 100 ns) :
  Calls Tryz.prog 144 #[.slice a ps.length cap,.int .i64 per,.slice na ns.length ncap] w fun e w'=>∃ v,e=.returned (.tuple #[v,.nilIface]) ∧ DW per ps (Cu ps ns) w.heap.size w v w':=by
 have HX0:=FY w (.slice a ps.length cap) (.slice na ns.length ncap) 52 32
 have HX:Hid (Boxed w ((w.alloc (.cells #[.slice a ps.length cap] 52)).alloc (.cells #[.slice na ns.length ncap] 32)) (.slice a ps.length cap) (.slice na ns.length ncap)):=HX0
 obtain ⟨-,k1,k2,-⟩:=HX0
 have HCheck:Hid (∀ W,Below w.heap.size w W → Calls Tryz.prog 168 #[.slice a ps.length cap,.int .i64 per] W fun e w'=>e=.returned .nilIface ∧ Below W.heap.size W w'):=fun W hb=>Cn a cap ps per W (hl.below hb) ho h1 h2
 have HUp:Hid (∀ W,Below w.heap.size w W → Calls Tryz.prog 171 #[.slice na ns.length ncap,.int .i64 100] W fun e w'=>e=.returned .nilIface ∧ Below W.heap.size W w'):=fun W hb=>Kn na ncap ns 100 W (hn.below hb) hk
 have HSend:Hid (∀ W W3 D0,Boxed w W (.slice a ps.length cap) (.slice na ns.length ncap) → Bv W.heap.size W (W.heap.size+1) W.heap.size (.func (.func 172) #[] #[.pointer (some ⟨w.heap.size+1,0,none⟩),.pointer (some ⟨w.heap.size,0,none⟩)]) W3 D0 [] → Below W.heap.size W W3 →
   Calls Tryz.prog 169 #[.slice a ps.length cap,.int .i64 per,.iface 266 (EK (W.heap.size+1) W.heap.size)] W3 fun e w'=>∃ v,e=.returned v ∧ DW per ps (Cu ps ns) w.heap.size w v w'):=fun W W3 D0 hB h0 hb3=>QX a cap ps per na ncap ns w W W3 D0 hl hn ho h1 h2 hk.len hB h0 hb3
 clear hl hn ho hk
 generalize hpl:ps.length=n at *
 generalize hnl:ns.length=m at *
 clear hpl hnl
 go_enter Tryz.func144,Tryz.ntmps144
 go_wp2_with fail
 refine (HCheck.out _ HX.out.below).mono ?_
 rintro e w1 ⟨rfl,hb⟩
 have HX1:Hid (Boxed w w1 (.slice a n cap) (.slice na m ncap)):=HX.out.later hb
 have c11:=HX1.out.c1
 have c12:=HX1.out.c2
 clear hb k1 k2
 go_wp2_with fail
 refine (HUp.out _ HX1.out.below).mono ?_
 rintro e w2 ⟨rfl,hb⟩
 have HX2:Hid (Boxed w w2 (.slice a n cap) (.slice na m ncap)):=HX1.out.later hb
 have c21:=HX2.out.c1
 have c22:=HX2.out.c2
 clear hb c11 c12
 have HLeast:Hid (Calls Tryz.prog 173 #[.func (.func 172) #[] #[.pointer (some ⟨w.heap.size+1,0,none⟩),.pointer (some ⟨w.heap.size,0,none⟩)]] w2.drew fun e w'=>e=.returned (.iface 266 (EK (w2.heap.size+1) w2.heap.size)) ∧ Bv w2.heap.size w2.drew (w2.heap.size+1) w2.heap.size (.func (.func 172) #[] #[.pointer (some ⟨w.heap.size+1,0,none⟩),.pointer (some ⟨w.heap.size,0,none⟩)]) w' (fun k=>k=w2.heap.size+1 ∨ k=w2.heap.size) [] ∧ Below w2.heap.size w2.drew w'):=IK _ 172 _ _ rfl w2.drew
 have HXd:Hid (Boxed w w2.drew (.slice a n cap) (.slice na m ncap)):=HX2.out.later (below_drewN (Below.refl _ _) 1)
 have HS2:Hid (∀ W3 D0,Bv w2.heap.size w2.drew (w2.heap.size+1) w2.heap.size (.func (.func 172) #[] #[.pointer (some ⟨w.heap.size+1,0,none⟩),.pointer (some ⟨w.heap.size,0,none⟩)]) W3 D0 [] → Below w2.heap.size w2.drew W3 →
   Calls Tryz.prog 169 #[.slice a n cap,.int .i64 per,.iface 266 (EK (w2.heap.size+1) w2.heap.size)] W3 fun e w'=>∃ v,e=.returned v ∧ DW per ps (Cu ps ns) w.heap.size w v w'):=fun W3 D0 h0 hb3=>HSend.out w2.drew W3 D0 HXd.out h0 hb3
 go_wp2_with fail
 go_region_with (first
  | (go_simp;go_at_call 173;go_must (refine HLeast.out.mono ?_;rintro e w3 ⟨rfl,hh,hb⟩;have c31:w3.cell? ⟨w.heap.size,0,none⟩=some (.slice a n cap):=(HXd.out.later hb).c1;have HC2:Hid (Calls Tryz.prog 169 #[.slice a n cap,.int .i64 per,.iface 266 (EK (w2.heap.size+1) w2.heap.size)] w3 fun e w'=>∃ v,e=.returned v ∧ DW per ps (Cu ps ns) w.heap.size w v w'):=HS2.out w3 _ hh hb;clear hh hb))
  | (go_simp;go_at_call 169;go_must (refine HC2.out.mono ?_;rintro e w4 ⟨v,rfl,hs⟩;have HE:Hid (DW per ps (Cu ps ns) w.heap.size w v w4):=hs;clear hs))
  | fail)
 all_goals (go_wp2_with fail)
 all_goals (go_ret2;exact ⟨v,rfl,HE.out⟩)
theorem Vt (a:Option Addr) (cap:Nat) (ps:List Pk) (per:Int) (na:Option Addr) (ncap:Nat) (ns:List Int) (w:World) (hl:AO w a ps) (hn:AV w na ns) (ho:Aj ps) (h1:1 ≤ per) (h2:per ≤ 1000) (hk:E5 0 1099511627776 ns) :
  Calls Tryz.prog 145 #[.slice a ps.length cap,.int .i64 per,.slice na ns.length ncap] w fun e w'=>∃ v,e=.returned (.tuple #[v,.nilIface]) ∧ DW per ps (Dj ps ns) w.heap.size w v w':=by
 have HX0:=FY w (.slice a ps.length cap) (.slice na ns.length ncap) 52 32
 have HX:Hid (Boxed w ((w.alloc (.cells #[.slice a ps.length cap] 52)).alloc (.cells #[.slice na ns.length ncap] 32)) (.slice a ps.length cap) (.slice na ns.length ncap)):=HX0
 obtain ⟨-,k1,k2,-⟩:=HX0
 have HCheck:Hid (∀ W,Below w.heap.size w W → Calls Tryz.prog 168 #[.slice a ps.length cap,.int .i64 per] W fun e w'=>e=.returned .nilIface ∧ Below W.heap.size W w'):=fun W hb=>Cn a cap ps per W (hl.below hb) ho h1 h2
 have HUp:Hid (∀ W,Below w.heap.size w W → Calls Tryz.prog 171 #[.slice na ns.length ncap,.int .i64 1099511627776] W fun e w'=>e=.returned .nilIface ∧ Below W.heap.size W w'):=fun W hb=>Kn na ncap ns 1099511627776 W (hn.below hb) hk
 have HSend:Hid (∀ W W3 D0,Boxed w W (.slice a ps.length cap) (.slice na ns.length ncap) → Bv W.heap.size W (W.heap.size+1) W.heap.size (.func (.func 174) #[] #[.pointer (some ⟨w.heap.size,0,none⟩),.pointer (some ⟨w.heap.size+1,0,none⟩)]) W3 D0 [] → Below W.heap.size W W3 →
   Calls Tryz.prog 169 #[.slice a ps.length cap,.int .i64 per,.iface 266 (EK (W.heap.size+1) W.heap.size)] W3 fun e w'=>∃ v,e=.returned v ∧ DW per ps (Dj ps ns) w.heap.size w v w'):=fun W W3 D0 hB h0 hb3=>QR a cap ps per na ncap ns w W W3 D0 hl hn ho h1 h2 hk hB h0 hb3
 clear hl hn ho hk
 generalize hpl:ps.length=n at *
 generalize hnl:ns.length=m at *
 clear hpl hnl
 go_enter Tryz.func145,Tryz.ntmps145
 go_wp2_with fail
 refine (HCheck.out _ HX.out.below).mono ?_
 rintro e w1 ⟨rfl,hb⟩
 have HX1:Hid (Boxed w w1 (.slice a n cap) (.slice na m ncap)):=HX.out.later hb
 have c11:=HX1.out.c1
 have c12:=HX1.out.c2
 clear hb k1 k2
 go_wp2_with fail
 refine (HUp.out _ HX1.out.below).mono ?_
 rintro e w2 ⟨rfl,hb⟩
 have HX2:Hid (Boxed w w2 (.slice a n cap) (.slice na m ncap)):=HX1.out.later hb
 have c21:=HX2.out.c1
 have c22:=HX2.out.c2
 clear hb c11 c12
 have HLeast:Hid (Calls Tryz.prog 173 #[.func (.func 174) #[] #[.pointer (some ⟨w.heap.size,0,none⟩),.pointer (some ⟨w.heap.size+1,0,none⟩)]] w2.drew fun e w'=>e=.returned (.iface 266 (EK (w2.heap.size+1) w2.heap.size)) ∧ Bv w2.heap.size w2.drew (w2.heap.size+1) w2.heap.size (.func (.func 174) #[] #[.pointer (some ⟨w.heap.size,0,none⟩),.pointer (some ⟨w.heap.size+1,0,none⟩)]) w' (fun k=>k=w2.heap.size+1 ∨ k=w2.heap.size) [] ∧ Below w2.heap.size w2.drew w'):=IK _ 174 _ _ rfl w2.drew
 have HXd:Hid (Boxed w w2.drew (.slice a n cap) (.slice na m ncap)):=HX2.out.later (below_drewN (Below.refl _ _) 1)
 have HS2:Hid (∀ W3 D0,Bv w2.heap.size w2.drew (w2.heap.size+1) w2.heap.size (.func (.func 174) #[] #[.pointer (some ⟨w.heap.size,0,none⟩),.pointer (some ⟨w.heap.size+1,0,none⟩)]) W3 D0 [] → Below w2.heap.size w2.drew W3 →
   Calls Tryz.prog 169 #[.slice a n cap,.int .i64 per,.iface 266 (EK (w2.heap.size+1) w2.heap.size)] W3 fun e w'=>∃ v,e=.returned v ∧ DW per ps (Dj ps ns) w.heap.size w v w'):=fun W3 D0 h0 hb3=>HSend.out w2.drew W3 D0 HXd.out h0 hb3
 go_wp2_with fail
 go_region_with (first
  | (go_simp;go_at_call 173;go_must (refine HLeast.out.mono ?_;rintro e w3 ⟨rfl,hh,hb⟩;have c31:w3.cell? ⟨w.heap.size,0,none⟩=some (.slice a n cap):=(HXd.out.later hb).c1;have HC2:Hid (Calls Tryz.prog 169 #[.slice a n cap,.int .i64 per,.iface 266 (EK (w2.heap.size+1) w2.heap.size)] w3 fun e w'=>∃ v,e=.returned v ∧ DW per ps (Dj ps ns) w.heap.size w v w'):=HS2.out w3 _ hh hb;clear hh hb))
  | (go_simp;go_at_call 169;go_must (refine HC2.out.mono ?_;rintro e w4 ⟨v,rfl,hs⟩;have HE:Hid (DW per ps (Dj ps ns) w.heap.size w v w4):=hs;clear hs))
  | fail)
 all_goals (go_wp2_with fail)
 all_goals (go_ret2;exact ⟨v,rfl,HE.out⟩)
theorem Q9 {R:TypeId → Value → World → Prop} (a:Option Addr) (n cap:Nat) (per:Int) (na:Option Addr) (m ncap:Nat) (w:World) (h:∀ W,Boxed w W (.slice a n cap) (.slice na m ncap) → Calls Tryz.prog 168 #[.slice a n cap,.int .i64 per] W fun e w'=>∃ ty v,e=.returned (.iface ty v) ∧ R ty v w') :
  Calls Tryz.prog 144 #[.slice a n cap,.int .i64 per,.slice na m ncap] w fun e w'=>∃ ty v,e=.returned (.tuple #[.slice none 0 0,.iface ty v]) ∧ R ty v w':=by
 have HX0:=FY w (.slice a n cap) (.slice na m ncap) 52 32
 have HX:Hid (Boxed w ((w.alloc (.cells #[.slice a n cap] 52)).alloc (.cells #[.slice na m ncap] 32)) (.slice a n cap) (.slice na m ncap)):=HX0
 obtain ⟨-,k1,k2,-⟩:=HX0
 have HC:Hid (∀ W,Boxed w W (.slice a n cap) (.slice na m ncap) → Calls Tryz.prog 168 #[.slice a n cap,.int .i64 per] W fun e w'=>∃ ty v,e=.returned (.iface ty v) ∧ R ty v w'):=h
 clear h
 go_enter Tryz.func144,Tryz.ntmps144
 go_wp2_with fail
 refine (HC.out _ HX.out).mono ?_
 rintro e w1 ⟨ty,v,rfl,hR⟩
 have HR:Hid (R ty v w1):=hR
 clear hR
 go_wp2_with fail
 go_ret2
 exact ⟨ty,v,rfl,HR.out⟩
theorem QA {R:TypeId → Value → World → Prop} (a:Option Addr) (n cap:Nat) (per:Int) (na:Option Addr) (m ncap:Nat) (w:World) (h:∀ W,Boxed w W (.slice a n cap) (.slice na m ncap) → Calls Tryz.prog 168 #[.slice a n cap,.int .i64 per] W fun e w'=>e=.returned .nilIface ∧ Below W.heap.size W w')
  (h2:∀ W,Boxed w W (.slice a n cap) (.slice na m ncap) → Calls Tryz.prog 171 #[.slice na m ncap,.int .i64 100] W fun e w'=>∃ ty v,e=.returned (.iface ty v) ∧ R ty v w') :
  Calls Tryz.prog 144 #[.slice a n cap,.int .i64 per,.slice na m ncap] w fun e w'=>∃ ty v,e=.returned (.tuple #[.slice none 0 0,.iface ty v]) ∧ R ty v w':=by
 have HX0:=FY w (.slice a n cap) (.slice na m ncap) 52 32
 have HX:Hid (Boxed w ((w.alloc (.cells #[.slice a n cap] 52)).alloc (.cells #[.slice na m ncap] 32)) (.slice a n cap) (.slice na m ncap)):=HX0
 obtain ⟨-,k1,k2,-⟩:=HX0
 have HC:Hid (∀ W,Boxed w W (.slice a n cap) (.slice na m ncap) → Calls Tryz.prog 168 #[.slice a n cap,.int .i64 per] W fun e w'=>e=.returned .nilIface ∧ Below W.heap.size W w'):=h
 have HU:Hid (∀ W,Boxed w W (.slice a n cap) (.slice na m ncap) → Calls Tryz.prog 171 #[.slice na m ncap,.int .i64 100] W fun e w'=>∃ ty v,e=.returned (.iface ty v) ∧ R ty v w'):=h2
 clear h h2
 go_enter Tryz.func144,Tryz.ntmps144
 go_wp2_with fail
 refine (HC.out _ HX.out).mono ?_
 rintro e w1 ⟨rfl,hb⟩
 have HX1:Hid (Boxed w w1 (.slice a n cap) (.slice na m ncap)):=HX.out.later hb
 have c12:=HX1.out.c2
 clear hb k1 k2
 go_wp2_with fail
 refine (HU.out _ HX1.out).mono ?_
 rintro e w2 ⟨ty,v,rfl,hR⟩
 have HR:Hid (R ty v w2):=hR
 clear hR
 go_wp2_with fail
 go_ret2
 exact ⟨ty,v,rfl,HR.out⟩
theorem Qf {R:TypeId → Value → World → Prop} (a:Option Addr) (n cap:Nat) (per:Int) (na:Option Addr) (m ncap:Nat) (w:World) (h:∀ W,Boxed w W (.slice a n cap) (.slice na m ncap) → Calls Tryz.prog 168 #[.slice a n cap,.int .i64 per] W fun e w'=>∃ ty v,e=.returned (.iface ty v) ∧ R ty v w') :
  Calls Tryz.prog 145 #[.slice a n cap,.int .i64 per,.slice na m ncap] w fun e w'=>∃ ty v,e=.returned (.tuple #[.slice none 0 0,.iface ty v]) ∧ R ty v w':=by
 have HX0:=FY w (.slice a n cap) (.slice na m ncap) 52 32
 have HX:Hid (Boxed w ((w.alloc (.cells #[.slice a n cap] 52)).alloc (.cells #[.slice na m ncap] 32)) (.slice a n cap) (.slice na m ncap)):=HX0
 obtain ⟨-,k1,k2,-⟩:=HX0
 have HC:Hid (∀ W,Boxed w W (.slice a n cap) (.slice na m ncap) → Calls Tryz.prog 168 #[.slice a n cap,.int .i64 per] W fun e w'=>∃ ty v,e=.returned (.iface ty v) ∧ R ty v w'):=h
 clear h
 go_enter Tryz.func145,Tryz.ntmps145
 go_wp2_with fail
 refine (HC.out _ HX.out).mono ?_
 rintro e w1 ⟨ty,v,rfl,hR⟩
 have HR:Hid (R ty v w1):=hR
 clear hR
 go_wp2_with fail
 go_ret2
 exact ⟨ty,v,rfl,HR.out⟩
theorem Ri {R:TypeId → Value → World → Prop} (a:Option Addr) (n cap:Nat) (per:Int) (na:Option Addr) (m ncap:Nat) (w:World) (h:∀ W,Boxed w W (.slice a n cap) (.slice na m ncap) → Calls Tryz.prog 168 #[.slice a n cap,.int .i64 per] W fun e w'=>e=.returned .nilIface ∧ Below W.heap.size W w')
  (h2:∀ W,Boxed w W (.slice a n cap) (.slice na m ncap) → Calls Tryz.prog 171 #[.slice na m ncap,.int .i64 1099511627776] W fun e w'=>∃ ty v,e=.returned (.iface ty v) ∧ R ty v w') :
  Calls Tryz.prog 145 #[.slice a n cap,.int .i64 per,.slice na m ncap] w fun e w'=>∃ ty v,e=.returned (.tuple #[.slice none 0 0,.iface ty v]) ∧ R ty v w':=by
 have HX0:=FY w (.slice a n cap) (.slice na m ncap) 52 32
 have HX:Hid (Boxed w ((w.alloc (.cells #[.slice a n cap] 52)).alloc (.cells #[.slice na m ncap] 32)) (.slice a n cap) (.slice na m ncap)):=HX0
 obtain ⟨-,k1,k2,-⟩:=HX0
 have HC:Hid (∀ W,Boxed w W (.slice a n cap) (.slice na m ncap) → Calls Tryz.prog 168 #[.slice a n cap,.int .i64 per] W fun e w'=>e=.returned .nilIface ∧ Below W.heap.size W w'):=h
 have HU:Hid (∀ W,Boxed w W (.slice a n cap) (.slice na m ncap) → Calls Tryz.prog 171 #[.slice na m ncap,.int .i64 1099511627776] W fun e w'=>∃ ty v,e=.returned (.iface ty v) ∧ R ty v w'):=h2
 clear h h2
 go_enter Tryz.func145,Tryz.ntmps145
 go_wp2_with fail
 refine (HC.out _ HX.out).mono ?_
 rintro e w1 ⟨rfl,hb⟩
 have HX1:Hid (Boxed w w1 (.slice a n cap) (.slice na m ncap)):=HX.out.later hb
 have c12:=HX1.out.c2
 clear hb k1 k2
 go_wp2_with fail
 refine (HU.out _ HX1.out).mono ?_
 rintro e w2 ⟨ty,v,rfl,hR⟩
 have HR:Hid (R ty v w2):=hR
 clear hR
 go_wp2_with fail
 go_ret2
 exact ⟨ty,v,rfl,HR.out⟩
end Go.Proofs.YtipdclphpkgceaaGreatDoor
