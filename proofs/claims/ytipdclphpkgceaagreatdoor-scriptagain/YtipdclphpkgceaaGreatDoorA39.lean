/- Own facts, put together: no statement of its own. -/
import Derived.Test.YtipdclphpkgceaaGreatDoorA38
import Derived.Deep.AppendLies
import Derived.Laws.BytesArg
set_option maxHeartbeats 4000000
set_option maxRecDepth 100000

namespace Go.Proofs.YtipdclphpkgceaaGreatDoor
open Go.RowKit
theorem Lf {s:Scr} (ho:Bo s) {f:Nat} {l:List (Int × Int)} (hl:l=[] ∨ Ag l):Bo { s with cs:=s.cs.set f l }:=by
 refine ⟨⟨by simpa using ho.gate.len,fun i ls hi h=>?_,ho.gate.kind,ho.gate.per,ho.gate.nums⟩,ho.pks⟩
 have h':(s.cs.set f l)[i]? = some ls:=h
 by_cases e:f=i
 ·
  subst e
  rw [List.getElem?_set_self (by rw [ho.gate.len];exact hi)] at h'
  obtain rfl:=Option.some.inj h'
  exact hl
 ·
  rw [List.getElem?_set_ne e] at h'
  exact ho.gate.curves i ls hi h'
theorem LP {cs:List (List (Int × Int))} {k:Nat} {per:Int} {ns:List Int} {p:Int} (h:DT cs k per ns 0 p):FD cs k per ns:=by
 rcases h.num with ⟨-,-,h⟩ | ⟨h,-⟩
 · exact h
 · omega
theorem ZM {s s':Scr} {x out:List UInt8} (ho:Bo s) (h:Says s x out s'):Bo s':=by
 obtain ⟨c,o,s1,hob,⟨rfl,-,rfl⟩ | ⟨-,-,rfl⟩⟩:=h
 ·
  have no:¬ (0:Int)=1:=by decide
  rcases hob with ⟨-,h⟩ | ⟨-,h⟩
  ·
   rcases h with ⟨-,h,-⟩ | ⟨-,h,-⟩ | ⟨-,h,-⟩ | ⟨-,h,-⟩ | ⟨-,rfl,-⟩ | ⟨-,-,-,-,-,h,-⟩
   ·
    rcases h with ⟨-,h,-⟩ | ⟨f,-,⟨-,h,-⟩ | ⟨l,-,rfl,⟨h,-⟩ | ⟨-,p,h⟩⟩⟩
    · exact absurd h no
    · exact absurd h no
    · exact Lf ho (.inl h)
    · exact Lf ho (.inr h.ok.1)
   ·
    rcases h with ⟨-,h,-⟩ | ⟨k,n,-,⟨-,h,-⟩ | ⟨per,-,rfl,d,p,hg,⟨-,h⟩ | ⟨-,h⟩⟩⟩
    · exact absurd h no
    · exact absurd h no
    · exact absurd h no
    ·
     subst h
     exact ⟨LP hg,ho.pks⟩
   ·
    rcases h with ⟨-,h,-⟩ | ⟨-,⟨-,h,-⟩ | ⟨ns,p,-,rfl,h⟩⟩
    · exact absurd h no
    · exact absurd h no
    · exact ⟨LP h,ho.pks⟩
   ·
    rcases h with ⟨-,h,-⟩ | ⟨a,b,d,-,⟨-,h,-⟩ | ⟨f,-,⟨-,h,-⟩ | ⟨a',b',p,-,rfl,h⟩⟩⟩
    · exact absurd h no
    · exact absurd h no
    · exact absurd h no
    ·
     refine ⟨ho.gate,?_⟩
     rcases h.num with ⟨-,-,h⟩ | h
     · exact h
     · omega
   · exact ho
   · exact absurd h no
  ·
   rcases h with ⟨-,-,-,rfl⟩ | ⟨-,rfl,-⟩ | ⟨-,rfl,-⟩ | ⟨-,rfl,-⟩ | ⟨-,-,-,-,h,-⟩
   · exact ⟨ho.gate,Eh⟩
   · exact ho
   · exact ho
   · exact ho
   · exact absurd h no
 · exact ho
section
variable (w0:World) (ad:Nat → Addr) (N g cb:Nat) (hS:Site w0 ad N g cb) (s:Scr) (w:World) (hw:Below w0.heap.size w0 w) (hp:Aw w N g cb s) (ho:Bo s)
theorem SN (w0:World) (ad:Nat → Addr) (N g cb:Nat) (hS:Site w0 ad N g cb) (s:Scr) (w:World) (hw:Below w0.heap.size w0 w) (hp:Aw w N g cb s) (ho:Bo s):∃ c p,JG s.cs (kindOf s.kb) s.per s.ns s.ps c p ∧ 0 ≤ c ∧ (c=0 → ∃ qs l,CV (Af s.cs) (kindOf s.kb) s.per s.ns s.ps qs l):=by
 obtain ⟨c,p,hr⟩:=Yg s.cs (G6 s.kb) s.per s.ns s.ps
 refine ⟨c,p,hr,by rcases IP hr with h | h | h <;> omega,fun h0=>?_⟩
 subst h0
 obtain ⟨k1,k2,k3⟩:=RU hr
 obtain ⟨na,nc,pv,hpi⟩:=hp
 have hg:=hpi.gate ho.gate.len (Jk ho (ns:=s.ns) (by rcases ho.gate.nums.len with h | h;rw [h.2];decide;omega))
 obtain ⟨pa,pcap,-,hpl⟩:=DC.value hpi.pks
 have:=Jo.good (some ⟨cb,0,none⟩) 8 s.cs ⟨s.kb.toArray⟩ s.per na nc s.ns pa pcap s.ps w ad (hS.env.below hw).errs hg hpl (by rw [ByteArray.toList_mk];exact k1) k2 k3
 obtain ⟨e,w',fr,⟨qa,qcap,la,lcap,qs,l,-,-,-,hgr,-⟩,-⟩:=this []
 rw [ByteArray.toList_mk] at hgr
 exact ⟨qs,l,hgr⟩
theorem Uo (w0:World) (ad:Nat → Addr) (N g cb:Nat) (hS:Site w0 ad N g cb) (s:Scr) (w:World) (hw:Below w0.heap.size w0 w) (hp:Aw w N g cb s) (ho:Bo s):∃ c n,Mi s c n ∧ 0 ≤ c:=by
 obtain ⟨na,nc,pv,hpi⟩:=hp
 have hg:=hpi.gate ho.gate.len (Jk ho (ns:=s.ns) (by rcases ho.gate.nums.len with h | h;rw [h.2];decide;omega))
 have:=Iw.good (some ⟨cb,0,none⟩) 8 s.cs ⟨s.kb.toArray⟩ s.per na nc s.ns w ad (hS.env.below hw).errs hg (by rw [ByteArray.toList_mk];exact ho.gate)
 obtain ⟨e,w',fr,⟨o,hb,-⟩,-⟩:=this []
 rw [ByteArray.toList_mk] at hb
 cases o with
 | none=>exact ⟨4,0,⟨none,hb,.inl ⟨rfl,rfl⟩⟩,by decide⟩
 | some n=>exact ⟨0,n,⟨some n,hb,.inr ⟨rfl,rfl⟩⟩,by decide⟩
theorem ZR (w0:World) (ad:Nat → Addr) (N g cb:Nat) (hS:Site w0 ad N g cb) (s:Scr) (w:World) (hw:Below w0.heap.size w0 w) (hp:Aw w N g cb s) (ho:Bo s) (x:List UInt8):∃ out s',Says s x out s':=by
 have mk:∀ {c o s1},Kt s x c o s1 → (c=0 ∨ known c) → ∃ out s',Says s x out s':=fun {c o s1} h hk=>by
  rcases hk with h0 | h0
  · exact ⟨o,s1,c,o,s1,h,.inl ⟨h0,rfl,rfl⟩⟩
  · exact ⟨Di c,s,c,o,s1,h,.inr ⟨by rcases h0 with h | h <;> omega,rfl,rfl⟩⟩
 have mk':∀ {c o s1},Kt s x c o s1 → ∃ out s',Says s x out s':=fun h=>mk h (Lx s h)
 cases hb:(Go.Lib.cut x [32]).2.2 with
 | true=>
  obtain ⟨nm,hnm⟩:∃ nm,(Go.Lib.cut x [32]).1=nm:=⟨_,rfl⟩
  obtain ⟨ws,hws⟩:∃ ws,Go.Lib.split (Go.Lib.cut x [32]).2.1 [32]=ws:=⟨_,rfl⟩
  have go:∀ {c o s1},PE s nm ws c o s1 → ∃ out s',Says s x out s':=fun h=>mk' (.inl ⟨hb,by rw [hnm,hws];exact h⟩)
  by_cases n1:nm=EJ
  ·
   cases hf:DN (ws.headD []) with
   | none=>exact go (c:=1) (o:=AU) (s1:=s) (.inl ⟨n1,.inl ⟨hf,rfl,rfl⟩,fun h=>by cases h⟩)
   | some f=>
    cases hl:DV ws.tail with
    | none=>exact go (c:=1) (o:=AU) (s1:=s) (.inl ⟨n1,.inr ⟨f,hf,.inl ⟨hl,rfl,rfl⟩⟩,fun h=>by cases h⟩)
    | some l=>
     by_cases h0:l=[]
     · exact go (c:=0) (o:=AU) (.inl ⟨n1,.inr ⟨f,hf,.inr ⟨l,hl,rfl,.inl ⟨h0,rfl⟩⟩⟩,fun _=>rfl⟩)
     ·
      obtain ⟨c,p,hfl⟩:=Nf l
      exact go (c:=c) (o:=AU) (.inl ⟨n1,.inr ⟨f,hf,.inr ⟨l,hl,rfl,.inr ⟨h0,p,hfl⟩⟩⟩,fun _=>rfl⟩)
  by_cases n2:nm=Jz
  ·
   by_cases h2:ws.length=2
   ·
    obtain ⟨k,y,rfl⟩:∃ k y,ws=[k,y]:=by
     match ws,h2 with
     | [k,y],_=>exact ⟨k,y,rfl⟩
    cases hn:Ev y with
    | none=>exact go (c:=1) (o:=AU) (s1:=s) (.inr (.inl ⟨n2,.inr ⟨k,y,rfl,.inl ⟨hn,rfl,rfl⟩⟩,fun h=>by cases h⟩))
    | some per=>
     obtain ⟨d,p,hg⟩:=KW s.cs (G6 k) per (Bu k)
     by_cases h9:d=9
     · exact go (c:=1) (o:=AU) (.inr (.inl ⟨n2,.inr ⟨k,y,rfl,.inr ⟨per,hn,rfl,d,p,hg,.inl ⟨h9,rfl⟩⟩⟩,fun h=>by cases h⟩))
     · exact go (c:=d) (o:=AU) (.inr (.inl ⟨n2,.inr ⟨k,y,rfl,.inr ⟨per,hn,rfl,d,p,hg,.inr ⟨h9,rfl⟩⟩⟩,fun _=>rfl⟩))
   · exact go (c:=1) (o:=AU) (s1:=s) (.inr (.inl ⟨n2,.inl ⟨h2,rfl,rfl⟩,fun h=>by cases h⟩))
  by_cases n3:nm=FZ
  ·
   by_cases h8:ws.length=8
   ·
    cases hn:Du ws with
    | none=>exact go (c:=1) (o:=AU) (s1:=s) (.inr (.inr (.inl ⟨n3,.inr ⟨h8,.inl ⟨hn,rfl,rfl⟩⟩,fun h=>by cases h⟩)))
    | some ns=>
     obtain ⟨d,p,hg⟩:=KW s.cs (G6 s.kb) s.per ns
     exact go (c:=d) (o:=AU) (.inr (.inr (.inl ⟨n3,.inr ⟨h8,.inr ⟨ns,p,hn,rfl,hg⟩⟩,fun _=>rfl⟩)))
   · exact go (c:=1) (o:=AU) (s1:=s) (.inr (.inr (.inl ⟨n3,.inl ⟨h8,rfl,rfl⟩,fun h=>by cases h⟩)))
  by_cases n4:nm=CQ
  ·
   by_cases h3:ws.length=3
   ·
    obtain ⟨a,b,d,rfl⟩:∃ a b d,ws=[a,b,d]:=by
     match ws,h3 with
     | [a,b,d],_=>exact ⟨a,b,d,rfl⟩
    cases hf:FE a with
    | none=>exact go (c:=1) (o:=AU) (s1:=s) (.inr (.inr (.inr (.inl ⟨n4,.inr ⟨a,b,d,rfl,.inl ⟨hf,rfl,rfl⟩⟩,fun h=>by cases h⟩))))
    | some f=>
     cases hn:Du [b,d] with
     | none=>exact go (c:=1) (o:=AU) (s1:=s) (.inr (.inr (.inr (.inl ⟨n4,.inr ⟨a,b,d,rfl,.inr ⟨f,hf,.inl ⟨hn,rfl,rfl⟩⟩⟩,fun h=>by cases h⟩))))
     | some ns=>
      obtain ⟨y,z,rfl⟩:∃ y z,ns=[y,z]:=by
       have:=DI hn
       match ns,this with
       | [y,z],_=>exact ⟨y,z,rfl⟩
      obtain ⟨c,p,hpf⟩:=Ls (s.ps ++ [⟨f,y,z⟩])
      exact go (c:=c) (o:=AU) (.inr (.inr (.inr (.inl ⟨n4,.inr ⟨a,b,d,rfl,.inr ⟨f,hf,.inr ⟨y,z,p,hn,rfl,hpf⟩⟩⟩,fun _=>rfl⟩))))
   · exact go (c:=1) (o:=AU) (s1:=s) (.inr (.inr (.inr (.inl ⟨n4,.inl ⟨h3,rfl,rfl⟩,fun h=>by cases h⟩))))
  by_cases n5:nm=atW
  ·
   by_cases h2:ws.length=2
   ·
    obtain ⟨a,b,rfl⟩:∃ a b,ws=[a,b]:=by
     match ws,h2 with
     | [a,b],_=>exact ⟨a,b,rfl⟩
    cases hf:DN a with
    | none=>exact go (c:=1) (o:=AU) (s1:=s) (.inr (.inr (.inr (.inr (.inl ⟨n5,rfl,0,.inr ⟨a,b,rfl,.inl ⟨hf,rfl⟩⟩,fun h=>by cases h⟩)))))
    | some f=>
     cases hn:Ev b with
     | none=>exact go (c:=1) (o:=AU) (s1:=s) (.inr (.inr (.inr (.inr (.inl ⟨n5,rfl,0,.inr ⟨a,b,rfl,.inr ⟨f,hf,.inl ⟨hn,rfl⟩⟩⟩,fun h=>by cases h⟩)))))
     | some t=>
      obtain ⟨c,p,hfl⟩:=Nf (Af s.cs f.toNat)
      exact go (c:=c) (s1:=s) (.inr (.inr (.inr (.inr (.inl ⟨n5,rfl,_,.inr ⟨a,b,rfl,.inr ⟨f,hf,.inr ⟨t,p,hn,hfl,fun _=>rfl⟩⟩⟩,fun _=>rfl⟩)))))
   · exact go (c:=1) (o:=AU) (s1:=s) (.inr (.inr (.inr (.inr (.inl ⟨n5,rfl,0,.inl ⟨h2,rfl⟩,fun h=>by cases h⟩)))))
  exact go (c:=1) (o:=AU) (s1:=s) (.inr (.inr (.inr (.inr (.inr ⟨n1,n2,n3,n4,n5,rfl,rfl⟩)))))
 | false=>
  obtain ⟨nm,hnm⟩:∃ nm,(Go.Lib.cut x [32]).1=nm:=⟨_,rfl⟩
  have go:∀ {c o s1},Alone s nm c o s1 → ∃ out s',Says s x out s':=fun h=>mk' (.inr ⟨hb,by rw [hnm];exact h⟩)
  by_cases n1:nm=La
  · exact go (.inl ⟨n1,rfl,rfl,rfl⟩)
  by_cases n2:nm=Oq
  ·
   obtain ⟨c,p,hr,-,hq⟩:=SN w0 ad N g cb hS s w hw hp ho
   by_cases h0:c=0
   ·
    obtain ⟨qs,l,hgr⟩:=hq h0
    exact go (c:=c) (o:=EN l) (.inr (.inl ⟨n2,rfl,l,⟨p,hr,fun _=>⟨qs,hgr⟩⟩,fun _=>rfl⟩))
   · exact go (c:=c) (o:=[]) (.inr (.inl ⟨n2,rfl,[],⟨p,hr,fun h=>absurd h h0⟩,fun h=>absurd h h0⟩))
  by_cases n3:nm=Gx
  ·
   obtain ⟨c,n,hbd,-⟩:=Uo w0 ad N g cb hS s w hw hp ho
   exact go (c:=c) (.inr (.inr (.inl ⟨n3,rfl,n,hbd,fun _=>rfl⟩)))
  by_cases n4:nm=Gz
  ·
   obtain ⟨c,p,hr,-,hq⟩:=SN w0 ad N g cb hS s w hw hp ho
   by_cases h0:c=0
   ·
    obtain ⟨qs,l,hgr⟩:=hq h0
    exact go (c:=c) (.inr (.inr (.inr (.inl ⟨n4,rfl,FT qs l,⟨p,hr,fun _=>⟨qs,l,hgr,rfl⟩⟩,fun _=>rfl⟩))))
   · exact go (c:=c) (o:=[]) (.inr (.inr (.inr (.inl ⟨n4,rfl,0,⟨p,hr,fun h=>absurd h h0⟩,fun h=>absurd h h0⟩))))
  exact go (c:=1) (o:=AU) (s1:=s) (.inr (.inr (.inr (.inr ⟨n1,n2,n3,n4,rfl,rfl⟩))))
end
theorem UH (w:World) (t1 t2:TypeId) (N:Nat) (hN1:w.heap.size+1 < N) (W:World) (hW:Below ((w.alloc (.cells (madeCells #[.slice none 0 0] 8) t1)).alloc (.cells #[.slice (some ⟨w.heap.size,0,none⟩) 8 8,.string ⟨#[102,105,102,111]⟩,.int .i64 1,.slice none 0 0,.slice none 0 0] t2)).heap.size ((w.alloc (.cells (madeCells #[.slice none 0 0] 8) t1)).alloc (.cells #[.slice (some ⟨w.heap.size,0,none⟩) 8 8,.string ⟨#[102,105,102,111]⟩,.int .i64 1,.slice none 0 0,.slice none 0 0] t2)) W) (hN2:N ≤ W.heap.size) :
  BP W N (w.heap.size+1) w.heap.size none 0 (.slice none 0 0) Cb:=by
 obtain ⟨V1,hV1⟩:∃ V1,w.alloc (.cells (madeCells #[.slice none 0 0] 8) t1)=V1:=⟨_,rfl⟩
 have hs1:V1.heap.size=w.heap.size+1:=by rw [← hV1];simp
 have hc1:∀ i,i < 8 → V1.cell? ⟨w.heap.size,i,none⟩=some (.slice none 0 0):=fun i hi=>by
  rw [← hV1,World.cell?_alloc_at _ _ _ _ rfl];exact Km _ _ _ hi
 have hf1:∀ i,V1.frozen? ⟨w.heap.size,i,none⟩=false:=fun i=>by rw [← hV1];exact World.frozen?_alloc_new w _ _ i
 rw [hV1] at hW
 obtain ⟨V2,hV2⟩:∃ V2,V1.alloc (.cells #[.slice (some ⟨w.heap.size,0,none⟩) 8 8,.string ⟨#[102,105,102,111]⟩,.int .i64 1,.slice none 0 0,.slice none 0 0] t2)=V2:=⟨_,rfl⟩
 have hb2:Below V1.heap.size V1 V2:=by rw [← hV2];exact (Below.refl _ _).alloc (Nat.le_refl _) _
 have hcell:∀ i,V2.cell? ⟨w.heap.size+1,i,none⟩=(#[.slice (some ⟨w.heap.size,0,none⟩) 8 8,.string ⟨#[102,105,102,111]⟩,.int .i64 1,.slice none 0 0,.slice none 0 0]:Array Value)[i]?:=fun i=>by
  rw [← hV2,← hs1,World.cell?_alloc_at _ _ _ _ rfl]
 have hfz:∀ i,V2.frozen? ⟨w.heap.size+1,i,none⟩=false:=fun i=>by rw [← hV2,← hs1];exact World.frozen?_alloc_new V1 _ _ i
 have hs2:V2.heap.size=w.heap.size+2:=by rw [← hV2];simp [hs1]
 rw [hV2] at hW
 refine ⟨hN1,by omega,by omega,hN2,cell_later hW (hcell 0),cell_later hW (hcell 1),cell_later hW (hcell 2),cell_later hW (hcell 3),cell_later hW (hcell 4),fun i=>?_,fun i=>?_,.inl rfl,by simp [Cb],by simp [maxLen],fun _=>⟨rfl,rfl⟩,(fun ad e=>by cases e),World.ownsRow_nil _ _ _ _,fun i ls hi=>?_⟩
 · rw [hW.frozen (p:=⟨w.heap.size+1,i,none⟩) (by show w.heap.size+1 < _;omega)];exact hfz i
 · rw [hW.frozen (p:=⟨w.heap.size,i,none⟩) (by show w.heap.size < _;omega),hb2.frozen (p:=⟨w.heap.size,i,none⟩) (by show w.heap.size < _;omega)];exact hf1 i
 ·
  have hl:ls=[]:=List.eq_of_mem_replicate (List.mem_of_getElem? hi)
  subst hl
  have hi8:i < 8:=Ad hi
  exact ⟨none,0,cell_later hW (cell_later hb2 (hc1 i hi8)),.inl rfl,Nat.le_refl _,by simp [maxLen],fun _=>⟨rfl,rfl⟩,fun ad e=>by cases e⟩
theorem Q5 (w:World):Calls Tryz.prog 14 #[] w fun e w'=>e=.returned (.pointer (some ⟨w.heap.size+1,0,none⟩)) ∧ w'=(w.alloc (.cells (madeCells #[.slice none 0 0] 8) 62)).alloc (.cells #[.slice (some ⟨w.heap.size,0,none⟩) 8 8,.string ⟨#[102,105,102,111]⟩,.int .i64 1,.slice none 0 0,.slice none 0 0] 72):=by
 have hmk:=RH
 go_enter Tryz.func14,Tryz.ntmps14
 go_wp2
 go_ret
 exact ⟨by simp,by simp⟩
def Mo (Told:Nat → List UInt8 → Prop) (Good:Nat → Scr → Prop) (lines:List (List UInt8)) (w:World) (e:Ending) (w':World):Prop:=
 ∃ O outs s',e=.returned (.tuple #[.slice (some ⟨O,0,none⟩) lines.length lines.length,.nilIface]) ∧ Bp w' (some ⟨O,0,none⟩) outs ∧ (∀ (i:Nat) o,outs[i]? = some o → Told i o) ∧ Good lines.length s' ∧ EM Cb lines outs s' ∧ Below w.heap.size w w'
theorem Hu (a:Option Addr) (cap:Nat) (lines:List (List UInt8)) (w:World) (ad:Nat → Addr) (he:Env w ad) (hl:Bp w a lines) (hn:lines.length ≤ 100) (hs:∀ x ∈ lines,x.length ≤ 900) (Told:Nat → List UInt8 → Prop) (Good:Nat → Scr → Prop) (h0:Good 0 Cb)
  (hstep:∀ (i:Nat) x s,lines[i]? = some x → Good i s → Bo s → (∃ out s',Says s x out s') → ∃ out s',Says s x out s' ∧ Told i out ∧ Good (i+1) s') :
  Calls Tryz.prog 7 #[.slice a lines.length cap] w fun e w'=>Mo Told Good lines w e w':=by
 have HL:Hid (∀ (i:Nat) x,lines[i]? = some x → ∃ b off,a=some ⟨b,off,none⟩ ∧ w.cell? ⟨b,off+i,none⟩=some (Ah x)):=fun i x hi=>by
  obtain ⟨b,off,h1,-,h2⟩:=hl.place (by have:=Ad hi;omega)
  exact ⟨b,off,h1,h2 i x hi⟩
 have HS:Hid (∀ x ∈ lines,x.length ≤ 900):=hs
 have HSt:Hid (∀ (i:Nat) x s,lines[i]? = some x → Good i s → Bo s → (∃ out s',Says s x out s') → ∃ out s',Says s x out s' ∧ Told i out ∧ Good (i+1) s'):=hstep
 have HG0:Hid (Good 0 Cb):=h0
 obtain ⟨n,hnn⟩:∃ n,lines.length=n:=⟨_,rfl⟩
 have HN:Hid (lines.length=n):=hnn
 rw [hnn] at hn
 obtain ⟨B,hB⟩:∃ B,w.heap.size=B:=⟨_,rfl⟩
 have HB:Hid (w.heap.size=B):=hB
 have HNP:=(show Hid (Calls Tryz.prog 14 #[] w fun e w'=>e=.returned (.pointer (some ⟨w.heap.size+1,0,none⟩)) ∧ w'=(w.alloc (.cells (madeCells #[.slice none 0 0] 8) 62)).alloc (.cells #[.slice (some ⟨w.heap.size,0,none⟩) 8 8,.string ⟨#[102,105,102,111]⟩,.int .i64 1,.slice none 0 0,.slice none 0 0] 72)) from Q5 w)
 have hpl:=UH w 62 72
 have hbp:Below w.heap.size w ((w.alloc (.cells (madeCells #[.slice none 0 0] 8) 62)).alloc (.cells #[.slice (some ⟨w.heap.size,0,none⟩) 8 8,.string ⟨#[102,105,102,111]⟩,.int .i64 1,.slice none 0 0,.slice none 0 0] 72)):=((Below.refl _ _).alloc (Nat.le_refl _) _).alloc (by simp) _
 obtain ⟨V,hV⟩:∃ V,(w.alloc (.cells (madeCells #[.slice none 0 0] 8) 62)).alloc (.cells #[.slice (some ⟨w.heap.size,0,none⟩) 8 8,.string ⟨#[102,105,102,111]⟩,.int .i64 1,.slice none 0 0,.slice none 0 0] 72)=V:=⟨_,rfl⟩
 have hVs:V.heap.size=w.heap.size+2:=by rw [← hV];simp
 rw [hV] at HNP hpl hbp
 have hmk:=O8 n (by omega)
 have hb1:Below V.heap.size V (V.alloc (.cells (madeCells #[.string ByteArray.empty] n) 9)):=(Below.refl _ _).alloc (Nat.le_refl _) _
 have hv1:Bj (V.alloc (.cells (madeCells #[.string ByteArray.empty] n) 9)) V.heap.size n (DR []):=KN V n (.string ByteArray.empty) 9
 obtain ⟨V1,hV1⟩:∃ V1,V.alloc (.cells (madeCells #[.string ByteArray.empty] n) 9)=V1:=⟨_,rfl⟩
 have hV1s:V1.heap.size=w.heap.size+3:=by rw [← hV1];simp [hVs]
 rw [hV1] at hb1 hv1
 have hmk1:(Instr.makeSlice 22 (.int .i64 n) (.int .i64 n)).run Tryz.prog V=.ok (.slice (some ⟨B+2,0,none⟩) n n) V1:=by rw [hmk V,hV1,hVs,hB]
 rw [hVs,hB] at hv1
 have HV1:Hid (Aw V1 (B+3) (B+1) B Cb ∧ Below w.heap.size w V1 ∧ Bj V1 (B+2) n (DR [])):=by
  refine ⟨⟨none,0,.slice none 0 0,?_⟩,hbp.trans (hb1.mono hbp.size),hv1⟩
  have:=hpl (B+3) (by omega) V1 hb1 (by omega)
  rw [hB] at this
  exact this
 have HSi:Hid (Site w ad (B+3) (B+1) B):=⟨he,by omega,by omega,by omega⟩
 rw [hB] at HNP
 rw [hnn]
 clear he hl hs hstep h0 hnn hB hpl hbp hV hVs hmk hb1 hv1 hV1 hV1s
 go_enter Tryz.func7,Tryz.ntmps7
 have hd:decide ((100:Int) < (n:Int))=false:=decide_eq_false (by omega)
 go_wp2_with fail
 refine HNP.out.mono ?_
 rintro e w1 ⟨rfl,hw1⟩
 subst hw1
 go_wp2_with fail
 go_loopw [18] (fun i wr=>∃ k:Nat,∃ outs s,k ≤ n ∧ i=.int .i64 k ∧ outs.length=k ∧ Aw wr (B+3) (B+1) B s ∧ Bo s ∧ Below w.heap.size w wr ∧ Bj wr (B+2) n (DR outs) ∧ EM Cb (lines.take k) outs s ∧ Good k s ∧ ∀ (i:Nat) o,outs[i]? = some o → Told i o) (fun i _=>n - (intOf i).toNat)
 case atStart=>exact ⟨0,[],Cb,Nat.zero_le _,rfl,rfl,HV1.out.1,SG,HV1.out.2.1,HV1.out.2.2,⟨rfl,rfl⟩,HG0.out,fun i o h=>by simp at h⟩
 case round=>
  obtain ⟨k,outs,s,hk,rfl,hol,hpl,hok,hbw,hv,hsa,hgd,htd⟩:=hrel
  by_cases hkn:k < n
  ·
   obtain ⟨x,hx,hxm⟩:=Ai lines k (by rw [HN.out];exact hkn)
   obtain ⟨b,off,rfl,hc⟩:=HL.out k x hx
   have hc1:=cell_later hbw hc
   obtain ⟨out,s',hsay,htold,hgood⟩:=HSt.out k x s hx hgd hok (ZR w ad (B+3) (B+1) B HSi.out s wr hbw hpl hok x)
   have HA:Hid (Calls Tryz.prog 15 #[.pointer (some ⟨B+1,0,none⟩),Ah x] wr fun e w'=>e=.returned (Ah out) ∧ But (K3 (B+3) (B+1) B) wr w' ∧ Aw w' (B+3) (B+1) B s'):=Wt w ad (B+3) (B+1) B HSi.out s wr hbw hpl hok x (HS.out x hxm) out s' hsay
   have hts:lines.take (k+1)=lines.take k ++ [x]:=by rw [List.take_add_one,hx];rfl
   have HNx:Hid (Bo s' ∧ Below w.heap.size w wr ∧ Bj wr (B+2) n (DR outs) ∧ EM Cb (lines.take (k+1)) (outs ++ [out]) s' ∧ Good (k+1) s' ∧ (∀ (i:Nat) o,(outs ++ [out])[i]? = some o → Told i o) ∧ outs.length=k):=by
    refine ⟨ZM hok hsay,hbw,hv,by rw [hts];exact Ka hsa hsay,hgood,fun i o hi=>?_,hol⟩
    rcases EG hi with ⟨-,h⟩ | ⟨rfl,rfl⟩
    · exact htd i o h
    · rw [hol];exact htold
   clear hol hpl hok hbw hv hsa hgd htd hx hxm hc hsay htold hgood hts
   go_wp2_with fail
   refine HA.out.mono ?_
   rintro e w2 ⟨rfl,hb2,hp2⟩
   obtain ⟨q1,q2,q3,q4,q5,q6,q7⟩:=HNx.out
   have hv2:=q3.but hb2 (fun h=>by rcases h with h | h | h <;> omega)
   have y1:=hv2.cell k hkn
   have y2:=hv2.frozen k
   have HF:Hid (Aw (w2.setCell ⟨B+2,k,none⟩ (Ah out)) (B+3) (B+1) B s' ∧ Below w.heap.size w (w2.setCell ⟨B+2,k,none⟩ (Ah out)) ∧ Bj (w2.setCell ⟨B+2,k,none⟩ (Ah out)) (B+2) n (DR (outs ++ [out])) ∧ (outs ++ [out]).length=k+1):=by
    refine ⟨?_,Dc (HSi.out.later q2 hb2) (by show w.heap.size ≤ B+2;rw [HB.out];omega) _,?_,by simp [q7]⟩
    ·
     obtain ⟨na,nc,pv,h⟩:=hp2
     exact ⟨na,nc,pv,h.far (b:=B+2) (by omega) (by omega) (by omega) k (Ah out)⟩
    ·
     rw [← Mr,q7]
     exact hv2.put hkn _
   clear q1 q2 q3 q4 q5 q6 q7 hv2 hb2 hp2
   go_wp2_with fail
   go_roundw
   case rel=>exact ⟨k+1,outs ++ [out],s',by omega,by go_num,HF.out.2.2.2,HF.out.1,HNx.out.1,HF.out.2.1,HF.out.2.2.1,HNx.out.2.2.2.1,HNx.out.2.2.2.2.1,HNx.out.2.2.2.2.2.1⟩
   case measure=>simp [intOf];omega
  ·
   obtain rfl:k=n:=by omega
   have HE:Hid (Mo Told Good lines w (.returned (.tuple #[.slice (some ⟨B+2,0,none⟩) k k,.nilIface])) wr):=by
    refine ⟨B+2,outs,s,by rw [HN.out],.inr ⟨B+2,0,rfl,hv.lt,fun i o hi=>?_⟩,htd,by rw [HN.out];exact hgd,?_,hbw⟩
    ·
     have hil:=Ad hi
     rw [Nat.zero_add,hv.cell i (by omega)]
     unfold DR
     rw [List.getD_eq_getElem?_getD,hi]
     rfl
    ·
     rw [show lines.take k=lines by rw [← HN.out,List.take_length]] at hsa
     exact hsa
   clear hol hpl hok hbw hv hsa hgd htd
   go_wp2_with fail
   go_ret2
   exact HE.out
theorem JD (a b:Option Addr) (cap1 cap2:Nat) (xs:List (List UInt8)) (w:World) (h1:Bp w a xs) (h2:Bp w b xs) (hm:xs.length ≤ 1000) :
  Calls Tryz.prog 11 #[.slice a xs.length cap1,.slice b xs.length cap2] w fun e w'=>e=.returned (.bool true) ∧ Below w.heap.size w w':=by
 have HL:Hid (∀ (i:Nat) x,xs[i]? = some x → ∃ b1 o1 b2 o2,a=some ⟨b1,o1,none⟩ ∧ b=some ⟨b2,o2,none⟩ ∧ w.cell? ⟨b1,o1+i,none⟩=some (Ah x) ∧ w.cell? ⟨b2,o2+i,none⟩=some (Ah x)):=fun i x hi=>by
  obtain ⟨b1,o1,e1,-,k1⟩:=h1.place (by have:=Ad hi;omega)
  obtain ⟨b2,o2,e2,-,k2⟩:=h2.place (by have:=Ad hi;omega)
  exact ⟨b1,o1,b2,o2,e1,e2,k1 i x hi,k2 i x hi⟩
 obtain ⟨n,hn⟩:∃ n,xs.length=n:=⟨_,rfl⟩
 have HN:Hid (xs.length=n):=hn
 rw [hn] at hm ⊢
 clear h1 h2 hn
 go_enter Tryz.func11,Tryz.ntmps11
 go_wp2_with fail
 go_loopw [5] (fun i wr=>∃ k:Nat,k ≤ n ∧ i=.int .i64 k ∧ ∃ q,wr=w.drewN q) (fun i _=>n - (intOf i).toNat)
 case atStart=>exact ⟨0,Nat.zero_le _,rfl,0,rfl⟩
 case round=>
  obtain ⟨k,hk,rfl,q,rfl⟩:=hrel
  by_cases hkn:k < n
  ·
   obtain ⟨x,hx,-⟩:=Ai xs k (by rw [HN.out];exact hkn)
   obtain ⟨b1,o1,b2,o2,rfl,rfl,k1,k2⟩:=HL.out k x hx
   obtain ⟨sx,hsx⟩:∃ sx:ByteArray,⟨x.toArray⟩=sx:=⟨_,rfl⟩
   have k1':w.cell? ⟨b1,o1+k,none⟩=some (.string sx):=by rw [k1,← hsx]
   have k2':w.cell? ⟨b2,o2+k,none⟩=some (.string sx):=by rw [k2,← hsx]
   have heq:(sx.toList == sx.toList)=true:=by simp
   clear hx k1 k2 hsx
   go_wp2_with fail
   go_quiet (fail)
   go_wp2_with fail
   go_roundw
   case rel=>exact ⟨k+1,by omega,by go_num,_,rfl⟩
   case measure=>simp [intOf];omega
  ·
   obtain rfl:k=n:=by omega
   go_wp2_with fail
   go_ret
   exact ⟨rfl,below_drewN (Below.refl _ _) q⟩
def hpk:Pk:=⟨0,3,5⟩
def hs1:Scr:=⟨Jw,G7,2,[],[]⟩
def hs2:Scr:=⟨Jw,G7,2,[],[hpk]⟩
def hl0:List UInt8:=[108,105,110,107,32,102,105,102,111,32,50]
def hl1:List UInt8:=[112,97,99,107,101,116,32,48,32,51,32,53]
theorem Tz:Ci Jw 8:=fun _ _ _ h=>.inl (List.eq_of_mem_replicate (List.mem_of_getElem? h))
theorem YG:Aj [hpk]:=⟨by decide,fun i p h=>by
 match i,h with
 | 0,h=>cases h;exact ⟨rfl,by decide⟩
 | i+1,h=>simp at h⟩
theorem bn:Says Cb hl0 AU hs1:=by
 refine ⟨0,AU,hs1,.inl ?_,.inl ⟨rfl,rfl,rfl⟩⟩
 rw [E8,show GQ hl0=(Jz,[102,105,102,111,32,50],true) by decide]
 refine ⟨rfl,.inr (.inl ⟨rfl,.inr ⟨G7,[50],by rw [Gq];decide,.inr ⟨2,by decide,by simp [hs1,Cb,Bu],0,-1,?_,.inr ⟨by decide,rfl⟩⟩⟩,fun _=>rfl⟩)⟩
 rw [show Bu G7=[] by simp [Bu]]
 exact .inr (.inr ⟨rfl,Tz,rfl,.inr ⟨by decide,by decide,.inr ⟨by decide,by decide,0,.inl ⟨rfl,.inr ⟨rfl,rfl⟩⟩,rfl⟩⟩⟩)
theorem bu:Says hs1 hl1 AU hs2:=by
 refine ⟨0,AU,hs2,.inl ?_,.inl ⟨rfl,rfl,rfl⟩⟩
 rw [E8,show GQ hl1=(CQ,[48,32,51,32,53],true) by decide]
 exact ⟨rfl,.inr (.inr (.inr (.inl ⟨rfl,.inr ⟨[48],[51],[53],by rw [Gq];decide,.inr ⟨0,by decide,.inr ⟨3,5,-1,by decide,rfl,.inr (.inr ⟨YG,rfl,rfl⟩)⟩⟩⟩,fun _=>rfl⟩)))⟩
theorem O6 {c p:Int} (h:JG hs2.cs (kindOf hs2.kb) hs2.per hs2.ns hs2.ps c p):c=0:=by
 have e1:kindOf hs2.kb=1:=rfl
 rw [e1] at h
 rcases h with ⟨h,hc⟩ | ⟨-,h,hc⟩ | ⟨-,-,i,h,-⟩ | ⟨-,-,-,h,-⟩
 ·
  rcases h with ⟨h,-⟩ | ⟨-,i,⟨ls,q,h1,h2,-⟩,-⟩ | ⟨-,-,-,⟨h,-⟩ | ⟨-,-,⟨h,-⟩ | ⟨-,-,d,hd,hcd⟩⟩⟩
  · exact absurd rfl h
  · exact absurd (List.eq_of_mem_replicate (List.mem_of_getElem? h1)) h2
  · cases h
  · exact absurd (by decide) h
  ·
   rcases hd with ⟨-,⟨-,h⟩ | ⟨h,-⟩⟩ | ⟨h,-⟩ | ⟨h,-⟩ | ⟨h,-⟩ | ⟨h,-⟩
   · exact absurd rfl h
   · omega
   · cases h
   · cases h
   · cases h
   · cases h
 ·
  rcases h with ⟨h,-⟩ | ⟨-,j,q,k,h1,-,hb,-⟩ | ⟨-,h,-⟩
  · exact absurd h (by decide)
  ·
   have h1':([hpk]:List Pk)[j]? = some q:=h1
   match j,h1',hb with
   | 0,h1',hb=>
    cases h1'
    rcases hb with ⟨h,-⟩ | ⟨-,h,-⟩
    · exact absurd h (by decide)
    · exact absurd h (by decide)
   | j+1,h1',_=>simp at h1'
  · exact h
 · exact absurd h (UK [hpk] i)
 · exact h
theorem Po {qs:List Pk} {l:List Sn} (h:CV (Af hs2.cs) (kindOf hs2.kb) hs2.per hs2.ns hs2.ps qs l):qs=[hpk] ∧ l=[⟨0,5,11⟩]:=by
 have h':CV (Af Jw) 1 2 [] [hpk] qs l:=h
 obtain ⟨rfl,h5⟩:=X0 YG h'
 refine ⟨rfl,?_⟩
 rcases h5 with ⟨-,rfl⟩ | ⟨e,-⟩ | ⟨e,-⟩ | ⟨e,-⟩ | ⟨e,-⟩
 · rfl
 · cases e
 · cases e
 · cases e
 · cases e
theorem aD:Go.Lib.itoa 0=[48]:=by unfold Go.Lib.itoa;rw [if_neg (by decide),Go.Lib.decDigits,dif_pos (by decide)];rfl
theorem aA:Go.Lib.itoa 5=[53]:=by unfold Go.Lib.itoa;rw [if_neg (by decide),Go.Lib.decDigits,dif_pos (by decide)];rfl
theorem ax:Go.Lib.itoa 6=[54]:=by unfold Go.Lib.itoa;rw [if_neg (by decide),Go.Lib.decDigits,dif_pos (by decide)];rfl
theorem ZT:Go.Lib.itoa 11=[49,49]:=by
 unfold Go.Lib.itoa
 rw [if_neg (by decide),Go.Lib.decDigits,dif_neg (by decide),Go.Lib.decDigits,dif_pos (by decide)]
 rfl
theorem bq {out:List UInt8} {s':Scr} (h:Says hs2 Oq out s'):out=[48,58,53,45,49,49] ∧ s'=hs2:=by
 obtain ⟨c,o,s1,hob,hc⟩:=h
 unfold Kt at hob
 rw [E8,show GQ Oq=(Oq,[],false) by decide] at hob
 rcases hob with ⟨h,-⟩ | ⟨-,h⟩
 · cases h
 ·
  rcases h with ⟨h,-⟩ | ⟨-,rfl,l,⟨p,hr,hq⟩,hco⟩ | ⟨h,-⟩ | ⟨h,-⟩ | ⟨-,h,-⟩
  · exact absurd h (by decide)
  ·
   have h0:=O6 hr
   obtain ⟨qs,hq⟩:=hq h0
   obtain ⟨-,rfl⟩:=Po hq
   rcases hc with ⟨-,rfl,rfl⟩ | ⟨h,-⟩
   ·
    rw [hco h0]
    refine ⟨?_,rfl⟩
    simp [EN,Go.Lib.join_one,Dl,aD,aA,ZT]
   · omega
  · exact absurd h (by decide)
  · exact absurd h (by decide)
  · exact absurd rfl h
theorem aV {out:List UInt8} {s':Scr} (h:Says hs2 Gz out s'):out=[54] ∧ s'=hs2:=by
 obtain ⟨c,o,s1,hob,hc⟩:=h
 unfold Kt at hob
 rw [E8,show GQ Gz=(Gz,[],false) by decide] at hob
 rcases hob with ⟨h,-⟩ | ⟨-,h⟩
 · cases h
 ·
  rcases h with ⟨h,-⟩ | ⟨h,-⟩ | ⟨h,-⟩ | ⟨-,rfl,n,⟨p,hr,hq⟩,hco⟩ | ⟨-,-,-,h,-⟩
  · exact absurd h (by decide)
  · exact absurd h (by decide)
  · exact absurd h (by decide)
  ·
   have h0:=O6 hr
   obtain ⟨qs,l,hq2,rfl⟩:=hq h0
   obtain ⟨rfl,rfl⟩:=Po hq2
   rcases hc with ⟨-,rfl,rfl⟩ | ⟨h,-⟩
   ·
    rw [hco h0]
    exact ⟨ax,rfl⟩
   · omega
  · exact absurd rfl h
theorem bz {out:List UInt8} {s':Scr} (h:Says hs2 Gx out s'):out=Di 4 ∧ s'=hs2:=by
 obtain ⟨c,o,s1,hob,hc⟩:=h
 unfold Kt at hob
 rw [E8,show GQ Gx=(Gx,[],false) by decide] at hob
 rcases hob with ⟨h,-⟩ | ⟨-,h⟩
 · cases h
 ·
  rcases h with ⟨h,-⟩ | ⟨h,-⟩ | ⟨-,rfl,n,⟨o',hb,ho⟩,hco⟩ | ⟨h,-⟩ | ⟨-,-,h,-⟩
  · exact absurd h (by decide)
  · exact absurd h (by decide)
  ·
   have hn:o'=none:=by
    rcases hb with ⟨-,h⟩ | ⟨L,hL,-⟩
    · exact h
    · exact absurd rfl hL.1
   subst hn
   rcases ho with ⟨-,h4⟩ | ⟨h,-⟩
   ·
    subst h4
    rcases hc with ⟨h,-⟩ | ⟨-,h1,h2⟩
    · cases h
    · exact ⟨h1,h2⟩
   · cases h
  · exact absurd h (by decide)
  · exact absurd rfl h
def Hm:List (List UInt8):=[hl0,hl1,Oq,Gz,Gx]
def JB:List (List UInt8):=[AU,AU,[48,58,53,45,49,49],[54],Di 4]
def aK:Nat → Scr
 | 0=>Cb
 | 1=>hs1
 | _=>hs2
theorem O7 (w:World) (xs:List (List UInt8)) (t:TypeId):Bp (w.alloc (.cells ((xs.map Ah).toArray) t)) (some ⟨w.heap.size,0,none⟩) xs:=by
 refine .inr ⟨w.heap.size,0,rfl,by simp,fun i x hi=>?_⟩
 rw [World.cell?_alloc_at _ _ _ _ rfl,Nat.zero_add,List.getElem?_toArray,List.getElem?_map,hi]
 rfl
theorem XP (w:World) (ad:Nat → Addr) (he:Env w ad) (a:Option Addr) (hl:Bp w a Hm) :
  Calls Tryz.prog 7 #[.slice a 5 5] w fun e w'=>∃ O,e=.returned (.tuple #[.slice (some ⟨O,0,none⟩) 5 5,.nilIface]) ∧ Bp w' (some ⟨O,0,none⟩) JB ∧ Below w.heap.size w w':=by
 have:=Hu a 5 Hm w ad he hl (by decide) (by decide) (fun i o=>JB[i]? = some o) (fun i s=>s=aK i) rfl (fun i x s hi hg ho hex=>by
  subst hg
  match i,hi,hex with
  | 0,hi,_=>cases hi;exact ⟨_,_,bn,rfl,rfl⟩
  | 1,hi,_=>cases hi;exact ⟨_,_,bu,rfl,rfl⟩
  | 2,hi,hex=>
   cases hi
   obtain ⟨out,s',h⟩:=hex
   obtain ⟨rfl,rfl⟩:=bq h
   exact ⟨_,_,h,rfl,rfl⟩
  | 3,hi,hex=>
   cases hi
   obtain ⟨out,s',h⟩:=hex
   obtain ⟨rfl,rfl⟩:=aV h
   exact ⟨_,_,h,rfl,rfl⟩
  | 4,hi,hex=>
   cases hi
   obtain ⟨out,s',h⟩:=hex
   obtain ⟨rfl,rfl⟩:=bz h
   exact ⟨_,_,h,rfl,rfl⟩
  | i+5,hi,_=>simp [Hm] at hi)
 refine this.mono ?_
 rintro e w' ⟨O,outs,s',rfl,h1,h2,-,h4,h5⟩
 have hlen:=Gh h4
 have eo:outs=JB:=by
  apply List.ext_getElem?
  intro i
  rcases Nat.lt_or_ge i 5 with hi | hi
  ·
   obtain ⟨o,ho,-⟩:=Ai outs i (by rw [hlen];exact hi)
   rw [ho]
   exact (h2 i o ho).symm
  · rw [List.getElem?_eq_none (by rw [hlen];exact hi),List.getElem?_eq_none (by exact hi)]
 subst eo
 exact ⟨O,rfl,h1,h5⟩
theorem X8 (w:World) (ad:Nat → Addr) (he:Env w ad):Calls Tryz.prog 6 #[] w fun e w'=>e=.returned (.bool true) ∧ Below w.heap.size w w':=by
 have hb1:Below w.heap.size w (w.alloc (.cells ((Hm.map Ah).toArray) 9)):=(Below.refl _ _).alloc (Nat.le_refl _) _
 have HR:Hid (Calls Tryz.prog 7 #[.slice (some ⟨w.heap.size,0,none⟩) 5 5] (w.alloc (.cells ((Hm.map Ah).toArray) 9)) fun e w'=>∃ O,e=.returned (.tuple #[.slice (some ⟨O,0,none⟩) 5 5,.nilIface]) ∧ Bp w' (some ⟨O,0,none⟩) JB ∧ Below (w.alloc (.cells ((Hm.map Ah).toArray) 9)).heap.size (w.alloc (.cells ((Hm.map Ah).toArray) 9)) w'):=XP _ ad (he.below hb1) _ (O7 w Hm 9)
 have HB1:Hid (Below w.heap.size w (w.alloc (.cells ((Hm.map Ah).toArray) 9))):=hb1
 clear he hb1
 go_enter Tryz.func6,Tryz.ntmps6
 go_wp2_with fail
 refine HR.out.mono ?_
 rintro e w1 ⟨O,rfl,h1,h2⟩
 have hb2:Below w.heap.size w w1:=HB1.out.trans (h2.mono HB1.out.size)
 have HSm:Hid (Calls Tryz.prog 11 #[.slice (some ⟨O,0,none⟩) 5 5,.slice (some ⟨w1.heap.size,0,none⟩) 5 5] (w1.alloc (.cells ((JB.map Ah).toArray) 9)) fun e w'=>e=.returned (.bool true) ∧ Below (w1.alloc (.cells ((JB.map Ah).toArray) 9)).heap.size (w1.alloc (.cells ((JB.map Ah).toArray) 9)) w'):=JD (some ⟨O,0,none⟩) (some ⟨w1.heap.size,0,none⟩) 5 5 JB _ (h1.below ((Below.refl _ _).alloc (Nat.le_refl _) _)) (O7 w1 JB 9) (by decide)
 have HB2:Hid (Below w.heap.size w (w1.alloc (.cells ((JB.map Ah).toArray) 9))):=hb2.alloc hb2.size _
 clear h1 h2 hb2 HR HB1
 go_wp2_with fail
 refine HSm.out.mono ?_
 rintro e w2 ⟨rfl,h3⟩
 have HB3:Hid (Below w.heap.size w w2):=HB2.out.trans (h3.mono HB2.out.size)
 clear h3
 go_wp2_with fail
 go_ret
 exact ⟨rfl,HB3.out⟩
def GR (w:World) (B:Nat) (v:Value) (xs:List (List UInt8)):Prop:=w.ownsRow B 9 1 v xs.length (xs.map Ah)
theorem Zi (w:World) (B:Nat):GR w B (.slice none 0 0) []:=World.ownsRow_nil _ _ _ _
theorem GR.value {w:World} {B:Nat} {v:Value} {xs:List (List UInt8)} (h:GR w B v xs):∃ a cap,v=.slice a xs.length cap ∧ Bp w a xs ∧ xs.length ≤ cap:=by
 have h':=h
 obtain ⟨-,⟨rfl,h0⟩ | ⟨b,cap,cur,rfl,hB,hg,hc,hm,hcs,ht⟩⟩:=h'
 · exact ⟨none,0,by rw [h0],.inl (List.length_eq_zero_iff.1 h0),by omega⟩
 ·
  refine ⟨_,cap,rfl,.inr ⟨b,0,rfl,?_,fun i x hi=>?_⟩,hc⟩
  ·
   rcases Nat.lt_or_ge b w.heap.size with h' | h'
   · exact h'
   · rw [Array.getElem?_eq_none h'] at hg;cases hg
  ·
   have hil:=Ad hi
   rw [Nat.zero_add,World.ownsRow.cellAt h i (by omega),List.getElem?_map,hi]
   rfl
theorem GR.below {w w':World} {B:Nat} {v:Value} {xs:List (List UInt8)} (h:GR w B v xs) (hb:Below w.heap.size w w'):GR w' B v xs:=Av h fun g _ hg=>hb.block g hg
def Uw (w:World) (B:Nat) (v:Value) (xs:List (List UInt8)) (x:List UInt8) (g cap:Nat) (w':World):Prop:=
 GR w' B (.slice (some ⟨g,0,none⟩) (xs.length+1) cap) (xs ++ [x]) ∧ But (fun k=>v.ownBlock=some k) w w' ∧ (v.ownBlock=some g ∨ w.heap.size ≤ g) ∧ g < w'.heap.size
theorem SL (w:World) (B:Nat) (v:Value) (xs:List (List UInt8)) (x:List UInt8) (h:GR w B v xs) (hB:B ≤ w.heap.size) (hn:xs.length ≤ 1000) (ad:Addr) (c:Nat) (hx:w.cell? ad=some (Ah x)) :
  ∃ g cap w',(Builtin.append_ #[22,22] 22 #[v,.slice (some ad) 1 c]).run Tryz.prog w=.ok (.slice (some ⟨g,0,none⟩) (xs.length+1) cap) w' ∧ Uw w B v xs x g cap w':=by
 obtain ⟨i0,hi,hz0,hz1,hz2⟩:=info_parts Tryz.infoStr
 obtain ⟨g,cap,w',hrun,r1,r2,r3,r4⟩:=run_append_lies (P:=Tryz.prog) w 22 22 B 9 i0 _ 1 16 Tryz.underlying22 hi hz0 hz1 hz2 rfl (by decide) v xs.length (xs.map Ah) h ad 1 c [Ah x] rfl (fun j u hu=>by
  have hj:=Ad hu
  obtain rfl:j=0:=by simpa using hj
  obtain rfl:u=Ah x:=by simpa using hu.symm
  have e0:ad.add 0=ad:=by cases ad;simp [Addr.add]
  rw [e0,hx]) (by simp [Value.oneCell']) (by decide) (by unfold maxLen;omega) (by omega) hB _ rfl
 refine ⟨g,cap,w',hrun,?_,⟨r2.os,r2.tape,r2.output,r2.size,fun k hk hs=>r2.block k hk (fun e=>hs e.symm)⟩,?_,r4⟩
 ·
  unfold GR
  rw [List.length_append,List.map_append]
  exact r1
 ·
  rcases r3 with r3 | r3
  · exact .inl r3
  · exact .inr (by rw [r3];exact Nat.le_refl _)
theorem wpList_append_text (w:World) {ops:Array Oper} {rest:List Oper} {o:Oper} {a:Act} {Q:Exit → Act → World → Prop} (hgd:o.guard=none) (hty:o.type=22) (s x:Operand)
  (ho:o.op=.call { callee:=.builtin .append,args:=#[s,x],argTypes:=#[22,22] })
  (B:Nat) (v:Value) (xs:List (List UInt8)) (y:List UInt8) (hs:a.eval s=v) (h:GR w B v xs) (hB:B ≤ w.heap.size) (hn:xs.length ≤ 1000) (ad:Addr) (c:Nat) (hx:a.eval x=.slice (some ad) 1 c) (hy:w.cell? ad=some (Ah y))
  (hK:∀ g cap w',Uw w B v xs y g cap w' → wpList Tryz.prog ops Q rest (a.put o.dst (.slice (some ⟨g,0,none⟩) (xs.length+1) cap)) w'):wpList Tryz.prog ops Q (o :: rest) a w:=by
 refine wpList_plain hgd fun K hK'=>?_
 obtain ⟨g,cap,w',hrun,g1⟩:=SL w B v xs y h hB hn ad c hy
 unfold Oper.wp
 simp [execOp,ho,hty,resolve,invoke,builtin,hs,hx,hrun,Result.andThen]
 exact hK' _ _ (hK g cap w' g1)
theorem VS (d:Nat) (h:d < 10) (w:World) :
  Calls Tryz.prog 54 #[.int .i64 (48+(d:Int))] w fun e w'=>e=.returned (Ah [UInt8.ofNat (48+d)]) ∧ Below w.heap.size w w':=by
 have HB:Hid (∀ o:Obj,Below w.heap.size w (w.alloc o)):=fun o=>(Below.refl _ _).alloc (Nat.le_refl _) _
 have hcv:∀ z:Int,(convert 165 9 (.slice (some ⟨w.heap.size,0,none⟩) 1 1)).run Tryz.prog (w.alloc (.cells #[.int .u8 z] 5))=.ok (.string (strOfNums [z])) (w.alloc (.cells #[.int .u8 z] 5)):=fun z=>
  run_convert_bytes_arg _ 165 5 Tryz.underlying165 Tryz.underlying5 w.heap.size 0 1 1 [z] rfl (fun i hi=>by
   obtain rfl:i=0:=by omega
   rw [World.cell?_alloc_at _ _ _ _ rfl];rfl) 9 Tryz.underlying9
 rcases (show d=0 ∨ d=1 ∨ d=2 ∨ d=3 ∨ d=4 ∨ d=5 ∨ d=6 ∨ d=7 ∨ d=8 ∨ d=9 by omega) with rfl | rfl | rfl | rfl | rfl | rfl | rfl | rfl | rfl | rfl
 all_goals
  clear h
  go_enter Tryz.func54,Tryz.ntmps54
  go_wp2
  go_ret
  exact ⟨rfl,HB.out _⟩
theorem XV (m:Nat):(-(m:Int)).tdiv 10 = -((m / 10:Nat):Int):=by
 rw [Int.neg_tdiv];rfl
theorem XW (m:Nat):(-(m:Int)).tmod 10 = -((m % 10:Nat):Int):=by
 rw [Int.neg_tmod];rfl
theorem VD (m:Nat) (h:m ≤ 9223372036854775807):(Go.Lib.decDigits m).length ≤ 1000:=by
 rw [← Go.Lib.itoa_nonneg]
 have:=Go.Lib.itoa_length_le (m:Int) (by omega) (by omega)
 omega
theorem Zk (m:Nat):m ≤ 9223372036854775807 → ∀ w,Calls Tryz.prog 29 #[.int .i64 (-(m:Int))] w fun e w'=>e=.returned (Ah (Go.Lib.decDigits m)) ∧ Below w.heap.size w w':=by
 induction m using Nat.strongRecOn with
 | _ m ih=>
 intro hm w
 by_cases h10:m < 10
 ·
  have HBy:Hid (Calls Tryz.prog 54 #[.int .i64 (48+(m:Int))] w fun e w'=>e=.returned (Ah (Go.Lib.decDigits m)) ∧ Below w.heap.size w w'):=by
   rw [Go.Lib.decDigits_one h10]
   exact VS m h10 w
  have hg:decide (-10 < -(m:Int))=true:=decide_eq_true (by omega)
  have hs:48 - -(m:Int)=48+m:=by omega
  clear ih
  go_enter Tryz.func29,Tryz.ntmps29
  go_wp2_with fail
  refine HBy.out.mono ?_
  rintro e w1 ⟨rfl,hb⟩
  go_wp2_with fail
  go_ret
  exact ⟨rfl,hb⟩
 ·
  have HRe:Hid (Calls Tryz.prog 29 #[.int .i64 (-((m / 10:Nat):Int))] w fun e w'=>e=.returned (Ah (Go.Lib.decDigits (m / 10))) ∧ Below w.heap.size w w'):=ih (m / 10) (by omega) (by omega) w
  have HBy:Hid (∀ W,Calls Tryz.prog 54 #[.int .i64 (48+((m % 10:Nat):Int))] W fun e w'=>e=.returned (Ah [UInt8.ofNat (48+m % 10)]) ∧ Below W.heap.size W w'):=fun W=>VS (m % 10) (by omega) W
  have hg:decide (-10 < -(m:Int))=false:=decide_eq_false (by omega)
  have hq:=XV m
  have hr:=XW m
  have hct:=Il (Go.Lib.decDigits (m / 10)) [UInt8.ofNat (48+m % 10)] (VD _ (by omega)) (by simp)
  have hdd:Go.Lib.decDigits (m / 10) ++ [UInt8.ofNat (48+m % 10)]=Go.Lib.decDigits m:=by
   conv=>rhs;rw [Go.Lib.decDigits]
   rw [dif_neg h10]
  rw [hdd] at hct
  obtain ⟨x,hx⟩:∃ x:Int,-(m:Int)=x:=⟨_,rfl⟩
  obtain ⟨y,hy⟩:∃ y:Int,-((m / 10:Nat):Int)=y:=⟨_,rfl⟩
  obtain ⟨r,hr'⟩:∃ r:Int,((m % 10:Nat):Int)=r:=⟨_,rfl⟩
  have r0:0 ≤ r:=by omega
  have r9:r ≤ 9:=by omega
  have x0 : -9223372036854775808 ≤ x:=by omega
  have x1:x ≤ 0:=by omega
  have y0 : -9223372036854775808 ≤ y:=by omega
  have y1:y ≤ 0:=by omega
  rw [hx] at hg hq hr ⊢
  rw [hy] at hq HRe
  rw [hr'] at hr HBy
  have hs:48 - -r=48+r:=by omega
  obtain ⟨dm,hdm⟩:∃ dm,Go.Lib.decDigits m=dm:=⟨_,rfl⟩
  rw [hdm] at hct ⊢
  obtain ⟨dq,hdq⟩:∃ dq,Go.Lib.decDigits (m / 10)=dq:=⟨_,rfl⟩
  rw [hdq] at hct HRe
  obtain ⟨u8,hu8⟩:∃ u8,UInt8.ofNat (48+m % 10)=u8:=⟨_,rfl⟩
  rw [hu8] at hct HBy
  clear ih hdd hm h10 hx hy hr' hdm hdq hu8
  go_enter Tryz.func29,Tryz.ntmps29
  go_wp2_with fail
  refine HRe.out.mono ?_
  rintro e w1 ⟨rfl,hb⟩
  have HB1:Hid (Below w.heap.size w w1):=hb
  clear hb
  go_wp2_with fail
  refine (HBy.out w1).mono ?_
  rintro e w2 ⟨rfl,hb⟩
  have HB2:Hid (Below w.heap.size w w2):=HB1.out.trans (hb.mono HB1.out.size)
  clear hb
  go_wp2_with fail
  go_ret
  exact ⟨rfl,HB2.out⟩
theorem Uf (n:Int) (h0:0 ≤ n) (h1:n ≤ 9223372036854775807) (w:World) :
  Calls Tryz.prog 18 #[.int .i64 n] w fun e w'=>e=.returned (Ah (Go.Lib.itoa n)) ∧ Below w.heap.size w w':=by
 obtain ⟨m,rfl⟩:∃ m:Nat,n=(m:Int):=⟨n.toNat,by omega⟩
 have HBe:Hid (Calls Tryz.prog 29 #[.int .i64 (-(m:Int))] w fun e w'=>e=.returned (Ah (Go.Lib.itoa (m:Int))) ∧ Below w.heap.size w w'):=by
  rw [Go.Lib.itoa_nonneg]
  exact Zk m (by omega) w
 obtain ⟨d,hd⟩:∃ d,Go.Lib.itoa (m:Int)=d:=⟨_,rfl⟩
 rw [hd] at HBe ⊢
 have hg:decide ((m:Int) < 0)=false:=decide_eq_false (by omega)
 clear hd
 go_enter Tryz.func18,Tryz.ntmps18
 go_wp2_with fail
 refine HBe.out.mono ?_
 rintro e w1 ⟨rfl,hb⟩
 go_wp2_with fail
 go_ret
 exact ⟨rfl,hb⟩
end Go.Proofs.YtipdclphpkgceaaGreatDoor
