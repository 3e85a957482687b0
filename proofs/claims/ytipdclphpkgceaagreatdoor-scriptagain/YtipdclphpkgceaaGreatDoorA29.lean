/- Own facts, put together: no statement of its own. -/
import Derived.Test.YtipdclphpkgceaaGreatDoorA06
import Derived.Test.YtipdclphpkgceaaGreatDoorA26
import Derived.Test.YtipdclphpkgceaaGreatDoorA28
import Derived.Deep.RegionHeld3
import Derived.Deep.DeepCutAuto
import Derived.Lib.ItoaLen
import Derived.Test.YtipdclphpkgceaaGreatDoorA23
import Derived.Test.YtipdclphpkgceaaGreatDoorA22
import Derived.Laws.CopyOwn
import Derived.Deep.RegionLaw
import Derived.Test.YtipdclphpkgceaaGreatDoorA15
import Derived.Test.YtipdclphpkgceaaGreatDoorA09
set_option maxHeartbeats 4000000
set_option maxRecDepth 100000

namespace Go.Proofs.YtipdclphpkgceaaGreatDoor
open Go.Lib
structure Scr where
 cs:List (List (Int × Int))
 kb:List UInt8
 per:Int
 ns:List Int
 ps:List Pk
structure Bo (s:Scr):Prop where
 gate:FD s.cs (kindOf s.kb) s.per s.ns
 pks:Aj s.ps
def G7:List UInt8:=[102,105,102,111]
def Cb:Scr:=⟨Jw,G7,1,[],[]⟩
def Z6:List Int:=[1,1,1,1,1,1,1,1]
def Bu (k:List UInt8):List Int:=if k=G7 then [] else Z6
theorem YQ:FD Jw 1 1 []:=⟨rfl,fun i ls _ h=>.inl (List.eq_of_mem_replicate (List.mem_of_getElem? h)),by decide,by decide,.inl ⟨rfl,.inr ⟨rfl,rfl⟩⟩⟩
theorem SG:Bo Cb:=⟨YQ,Eh⟩
theorem DF.len {k:Nat} {ns:List Int} (h:DF k ns 0):(k=1 ∧ ns=[]) ∨ ns.length=8:=by
 rcases h with ⟨h,⟨e,-⟩ | ⟨-,e⟩⟩ | ⟨-,⟨e,-⟩ | ⟨e,-⟩ | ⟨-,h⟩⟩ | ⟨-,⟨e,-⟩ | ⟨e,-⟩ | ⟨-,h⟩⟩ | ⟨-,⟨e,-⟩ | ⟨e,-⟩ | ⟨-,h⟩⟩ | ⟨-,⟨e,-⟩ | ⟨e,-⟩ | ⟨-,h⟩⟩
 · cases e
 · exact .inl ⟨h,e⟩
 · cases e
 · cases e
 · exact .inr h.1
 · cases e
 · cases e
 · exact .inr h.1
 · cases e
 · cases e
 · exact .inr h.1
 · cases e
 · cases e
 · exact .inr h.1
def Mh (s:Scr) (ws:List (List UInt8)) (c:Int) (s1:Scr):Prop:=
 (DN (ws.headD [])=none ∧ c=1 ∧ s1=s) ∨
 ∃ f,DN (ws.headD [])=some f ∧ ((DV ws.tail=none ∧ c=1 ∧ s1=s) ∨
  ∃ l,DV ws.tail=some l ∧ s1={ s with cs:=s.cs.set f.toNat l } ∧ ((l=[] ∧ c=0) ∨ (l ≠ [] ∧ ∃ p,CW l c p)))
def QU (s:Scr) (ws:List (List UInt8)) (c:Int) (s1:Scr):Prop:=
 (ws.length ≠ 2 ∧ c=1 ∧ s1=s) ∨
 ∃ k n,ws=[k,n] ∧ ((Ev n=none ∧ c=1 ∧ s1=s) ∨
  ∃ per,Ev n=some per ∧ s1={ s with kb:=k,per:=per,ns:=Bu k } ∧ ∃ d p,DT s.cs (kindOf k) per (Bu k) d p ∧ ((d=9 ∧ c=1) ∨ (d ≠ 9 ∧ c=d)))
def Jg (s:Scr) (ws:List (List UInt8)) (c:Int) (s1:Scr):Prop:=
 (ws.length ≠ 8 ∧ c=1 ∧ s1=s) ∨
 (ws.length=8 ∧ ((Du ws=none ∧ c=1 ∧ s1=s) ∨ ∃ ns p,Du ws=some ns ∧ s1={ s with ns:=ns } ∧ DT s.cs (kindOf s.kb) s.per ns c p))
def Kv (s:Scr) (ws:List (List UInt8)) (c:Int) (s1:Scr):Prop:=
 (ws.length ≠ 3 ∧ c=1 ∧ s1=s) ∨
 ∃ x y z,ws=[x,y,z] ∧ ((FE x=none ∧ c=1 ∧ s1=s) ∨
  ∃ f,FE x=some f ∧ ((Du [y,z]=none ∧ c=1 ∧ s1=s) ∨
   ∃ a b p,Du [y,z]=some [a,b] ∧ s1={ s with ps:=s.ps ++ [⟨f,a,b⟩] } ∧ DY (s.ps ++ [⟨f,a,b⟩]) c p))
def Zu (s:Scr) (ws:List (List UInt8)) (c n:Int):Prop:=
 (ws.length ≠ 2 ∧ c=1) ∨
 ∃ x y,ws=[x,y] ∧ ((DN x=none ∧ c=1) ∨
  ∃ f,DN x=some f ∧ ((Ev y=none ∧ c=1) ∨
   ∃ t p,Ev y=some t ∧ CW (Af s.cs f.toNat) c p ∧ (c=0 → n=Bt t (Af s.cs f.toNat))))
def XY (s:Scr) (c:Int) (l:List Sn):Prop:=
 ∃ p,JG s.cs (kindOf s.kb) s.per s.ns s.ps c p ∧ (c=0 → ∃ qs,CV (Af s.cs) (kindOf s.kb) s.per s.ns s.ps qs l)
def Ef (qs:List Pk) (l:List Sn):List Int:=l.map fun x=>x.fin - Ay qs x.num.toNat
def FT (qs:List Pk) (l:List Sn):Int:=match Ef qs l with | []=>0 | z :: zs=>zs.foldl max z
def Qj (s:Scr) (c n:Int):Prop:=
 ∃ p,JG s.cs (kindOf s.kb) s.per s.ns s.ps c p ∧ (c=0 → ∃ qs l,CV (Af s.cs) (kindOf s.kb) s.per s.ns s.ps qs l ∧ n=FT qs l)
def Mi (s:Scr) (c n:Int):Prop:=
 ∃ o,Co BK BS CF s.cs (kindOf s.kb) s.per o ∧ ((o=none ∧ c=4) ∨ (o=some n ∧ c=0))
def La:List UInt8:=[99,108,101,97,114]
def Oq:List UInt8:=[114,117,110]
def Gx:List UInt8:=[98,111,117,110,100]
def Gz:List UInt8:=[119,111,114,115,116]
def EJ:List UInt8:=[99,117,114,118,101]
def Jz:List UInt8:=[108,105,110,107]
def FZ:List UInt8:=[110,117,109,98,101,114,115]
def CQ:List UInt8:=[112,97,99,107,101,116]
def atW:List UInt8:=[97,116]
def EN (l:List Sn):List UInt8:=if l=[] then LB else join (l.map fun x=>Dl x.num x.beg x.fin) [32]
def Alone (s:Scr) (name:List UInt8) (c:Int) (o:List UInt8) (s1:Scr):Prop:=
 (name=La ∧ c=0 ∧ o=AU ∧ s1={ s with ps:=[] }) ∨
 (name=Oq ∧ s1=s ∧ ∃ l,XY s c l ∧ (c=0 → o=EN l)) ∨
 (name=Gx ∧ s1=s ∧ ∃ n,Mi s c n ∧ (c=0 → o=itoa n)) ∨
 (name=Gz ∧ s1=s ∧ ∃ n,Qj s c n ∧ (c=0 → o=itoa n)) ∨
 (name ≠ La ∧ name ≠ Oq ∧ name ≠ Gx ∧ name ≠ Gz ∧ c=1 ∧ s1=s)
def PE (s:Scr) (name:List UInt8) (ws:List (List UInt8)) (c:Int) (o:List UInt8) (s1:Scr):Prop:=
 (name=EJ ∧ Mh s ws c s1 ∧ (c=0 → o=AU)) ∨
 (name=Jz ∧ QU s ws c s1 ∧ (c=0 → o=AU)) ∨
 (name=FZ ∧ Jg s ws c s1 ∧ (c=0 → o=AU)) ∨
 (name=CQ ∧ Kv s ws c s1 ∧ (c=0 → o=AU)) ∨
 (name=atW ∧ s1=s ∧ ∃ n,Zu s ws c n ∧ (c=0 → o=itoa n)) ∨
 (name ≠ EJ ∧ name ≠ Jz ∧ name ≠ FZ ∧ name ≠ CQ ∧ name ≠ atW ∧ c=1 ∧ s1=s)
def Kt (s:Scr) (line:List UInt8) (c:Int) (o:List UInt8) (s1:Scr):Prop:=
 ((cut line [32]).2.2=true ∧ PE s (cut line [32]).1 (split (cut line [32]).2.1 [32]) c o s1) ∨
 ((cut line [32]).2.2=false ∧ Alone s (cut line [32]).1 c o s1)
def Says (s:Scr) (line out:List UInt8) (s':Scr):Prop:=
 ∃ c o s1,Kt s line c o s1 ∧ ((c=0 ∧ out=o ∧ s'=s1) ∨ (0 < c ∧ out=Di c ∧ s'=s))
def EM:Scr → List (List UInt8) → List (List UInt8) → Scr → Prop
 | s,[],outs,s'=>outs=[] ∧ s'=s
 | s,x :: xs,outs,s'=>∃ o s1 rest,Says s x o s1 ∧ EM s1 xs rest s' ∧ outs=o :: rest
theorem Ka:∀ {s:Scr} {xs outs:List (List UInt8)} {s1:Scr} {x o:List UInt8} {s2:Scr},EM s xs outs s1 → Says s1 x o s2 → EM s (xs ++ [x]) (outs ++ [o]) s2
 | s,[],outs,s1,x,o,s2,h,k=>by
  obtain ⟨rfl,rfl⟩:=h
  exact ⟨o,s2,[],k,⟨rfl,rfl⟩,rfl⟩
 | s,y :: ys,outs,s1,x,o,s2,h,k=>by
  obtain ⟨o1,t,rest,h1,h2,rfl⟩:=h
  exact ⟨o1,t,rest ++ [o],h1,Ka h2 k,rfl⟩
theorem Gh:∀ {s:Scr} {xs outs:List (List UInt8)} {s':Scr},EM s xs outs s' → outs.length=xs.length
 | s,[],outs,s',h=>by simp [h.1]
 | s,x :: xs,outs,s',h=>by
  obtain ⟨o,s1,rest,h1,h2,rfl⟩:=h
  simp [Gh h2]
end Go.Proofs.YtipdclphpkgceaaGreatDoor

namespace Go.Proofs.YtipdclphpkgceaaGreatDoor
open Go.RowKit
theorem Sr (la:Option Addr) (n lcap:Nat) (ty:TypeId) (v:Value) (w:World) :
  Calls Tryz.prog 43 #[.slice la n lcap,.iface ty v] w fun e w'=>e=.returned (.tuple #[Ah [],.iface ty v]) ∧ w'=w:=by
 go_enter Tryz.func43,Tryz.ntmps43
 go_wp2
 go_ret2
 exact ⟨rfl,rfl⟩
theorem Re (la:Option Addr) (lcap:Nat) (w:World) :
  Calls Tryz.prog 43 #[.slice la 0 lcap,.nilIface] w fun e w'=>e=.returned (.tuple #[Ah LB,.nilIface]) ∧ w'=w:=by
 go_enter Tryz.func43,Tryz.ntmps43
 go_wp2
 go_ret2
 exact ⟨rfl,rfl⟩
theorem Tryz.infoStr:(Tryz.prog.info? 9).map (fun i=>(i.zero,i.size,i.bytes))=some (some (.string ByteArray.empty),1,16):=by kernel_rfl
theorem O8 (n:Nat) (hn:n ≤ 1000) (w':World):(Instr.makeSlice 22 (.int .i64 n) (.int .i64 n)).run Tryz.prog w'=.ok (.slice (some ⟨w'.heap.size,0,none⟩) n n) (w'.alloc (.cells (madeCells #[.string ByteArray.empty] n) 9)):=by
 obtain ⟨i0,hi,hz0,hz1,hz2⟩:=info_parts Tryz.infoStr
 have:=run_make (P:=Tryz.prog) w' 22 9 i0 (.string ByteArray.empty) Tryz.underlying22 hi hz0 .i64 .i64 n n (by omega) (by omega) (by rw [hz2];omega) (by omega)
 simpa [hz1,Value.cells] using this
def DR (xs:List (List UInt8)) (j:Nat):Value:=Ah (xs.getD j [])
theorem Mr (xs:List (List UInt8)) (x:List UInt8):OW (DR xs) xs.length (Ah x)=DR (xs ++ [x]):=by
 funext i
 unfold OW DR
 by_cases h:i=xs.length
 · subst h;simp
 ·
  rw [if_neg h]
  rcases Nat.lt_or_ge i xs.length with h' | h'
  · simp [List.getElem?_append_left h']
  · simp [List.getElem?_eq_none h',List.getElem?_eq_none (show (xs ++ [x]).length ≤ i by simp;omega)]
def JH (l:List Sn):Prop:=∀ x ∈ l,∀ z,z=x.num ∨ z=x.beg ∨ z=x.fin → -9223372036854775808 ≤ z ∧ z ≤ 9223372036854775807
theorem Il (x y:List UInt8) (hx:x.length ≤ 1000) (hy:y.length ≤ 1000) (W:World):(Op.stringOp .add ⟨x.toArray⟩ ⟨y.toArray⟩).run Tryz.prog W=.ok (Ah (x ++ y)) W:=
 run_string_add_lists W x y (by omega) (by omega)
theorem Yn (l:List Sn) (hl:JH l) (h:l.length ≤ 1000):(Go.Lib.join (l.map fun x=>Dl x.num x.beg x.fin) [32]).length ≤ 140737488355328:=by
 have each:∀ x ∈ l,(Dl x.num x.beg x.fin).length ≤ 100:=fun x hx=>by
  have h1:=Go.Lib.itoa_length_le x.num (hl x hx _ (.inl rfl)).1 (hl x hx _ (.inl rfl)).2
  have h2:=Go.Lib.itoa_length_le x.beg (hl x hx _ (.inr (.inl rfl))).1 (hl x hx _ (.inr (.inl rfl))).2
  have h3:=Go.Lib.itoa_length_le x.fin (hl x hx _ (.inr (.inr rfl))).1 (hl x hx _ (.inr (.inr rfl))).2
  simp [Dl]
  omega
 have key:∀ r:List Sn,(∀ x ∈ r,(Dl x.num x.beg x.fin).length ≤ 100) → (Go.Lib.joinTail [32] (r.map fun x=>Dl x.num x.beg x.fin)).length ≤ 101 * r.length:=by
  intro r
  induction r with
  | nil=>intro _;simp [Go.Lib.joinTail]
  | cons y r ih=>
   intro h
   have h1:=ih fun x hx=>h x (List.mem_cons_of_mem _ hx)
   have h2:=h y List.mem_cons_self
   simp only [Go.Lib.joinTail,List.map_cons,List.flatten_cons,List.length_append,List.length_cons,List.length_nil] at h1 ⊢
   omega
 cases l with
 | nil=>simp [Go.Lib.join_nil]
 | cons y r=>
  rw [List.map_cons,Go.Lib.join_cons,List.length_append]
  have h1:=key r fun x hx=>each x (List.mem_cons_of_mem _ hx)
  have h2:=each y List.mem_cons_self
  simp at h
  omega
theorem XJ {wr:World} {G k:Nat} {l:List Sn} (hv:Bj wr G k (DR (l.map fun x=>Dl x.num x.beg x.fin))) (hk:l.length=k) (hn:k ≤ 1000) (hr:JH l) :
  Calls Tryz.prog 80 #[.slice (some ⟨G,0,none⟩) k k,.string ⟨#[32]⟩] wr fun e w'=>e=.returned (Ah (Go.Lib.join (l.map fun x=>Dl x.num x.beg x.fin) [32])) ∧ Below wr.heap.size wr w':=by
 have hj:=Yn l hr (by rw [hk];exact hn)
 obtain ⟨xs,hxs⟩:∃ xs,(l.map fun x=>Dl x.num x.beg x.fin)=xs:=⟨_,rfl⟩
 have hl:xs.length=k:=by rw [← hxs,List.length_map,hk]
 rw [hxs] at hv hj ⊢
 have:=ZV G 0 k xs wr (fun i y hi=>by
  have hil:=Ad hi
  rw [Nat.zero_add,hv.cell i (by omega)]
  unfold DR
  rw [List.getD_eq_getElem?_getD,hi]
  rfl) hv.lt (by omega) (by omega) hj
 rw [hl] at this
 exact this
theorem TE (la:Option Addr) (lcap:Nat) (l:List Sn) (w:World) (hl:Gu w la l) (h0:1 ≤ l.length) (hn:l.length ≤ 1000) (hi:M7 w) (hr:JH l) :
  Calls Tryz.prog 43 #[.slice la l.length lcap,.nilIface] w fun e w'=>e=.returned (.tuple #[Ah (Go.Lib.join (l.map fun x=>Dl x.num x.beg x.fin) [32]),.nilIface]) ∧ Below w.heap.size w w':=by
 obtain ⟨b,off,rfl,-,hcell⟩:=hl.place h0
 have HC:Hid (∀ (i:Nat) x,l[i]? = some x → w.cell? ⟨b,off+i * 3,none⟩=some (.int .i64 x.num) ∧ w.cell? ⟨b,off+i * 3+1,none⟩=some (.int .i64 x.beg) ∧ w.cell? ⟨b,off+i * 3+2,none⟩=some (.int .i64 x.fin)):=hcell
 have HI:Hid (M7 w):=hi
 have HR:Hid (JH l):=hr
 obtain ⟨n,hnn⟩:∃ n,l.length=n:=⟨_,rfl⟩
 have HN:Hid (l.length=n):=hnn
 rw [hnn] at h0 hn ⊢
 have hmk:=O8 n hn
 have hb1:Below w.heap.size w (w.alloc (.cells (madeCells #[.string ByteArray.empty] n) 9)):=(Below.refl _ _).alloc (Nat.le_refl _) _
 have hv1:Bj (w.alloc (.cells (madeCells #[.string ByteArray.empty] n) 9)) w.heap.size n (DR []):=KN w n (.string ByteArray.empty) 9
 obtain ⟨V,hV⟩:∃ V,w.alloc (.cells (madeCells #[.string ByteArray.empty] n) 9)=V:=⟨_,rfl⟩
 rw [hV] at hb1 hv1
 obtain ⟨G,hG⟩:∃ G,w.heap.size=G:=⟨_,rfl⟩
 have HG:Hid (w.heap.size=G):=hG
 have hmk1:(Instr.makeSlice 22 (.int .i64 n) (.int .i64 n)).run Tryz.prog w=.ok (.slice (some ⟨G,0,none⟩) n n) V:=by rw [hmk w,hV,hG]
 rw [hG] at hv1
 have HV:Hid (Below w.heap.size w V ∧ Bj V G n (DR [])):=⟨hb1,hv1⟩
 have dn:((n:Int) == 0)=false:=by simp;omega
 clear hl hcell hi hr hb1 hv1 hV hmk hG hnn
 go_enter Tryz.func43,Tryz.ntmps43
 go_wp2_with fail
 go_loopw [20] (fun i wr=>∃ k:Nat,k ≤ n ∧ i=.int .i64 k ∧ Below w.heap.size w wr ∧ Bj wr G n (DR ((l.take k).map fun x=>Dl x.num x.beg x.fin))) (fun i _=>n - (intOf i).toNat)
 case atStart=>exact ⟨0,Nat.zero_le _,rfl,HV.out.1,HV.out.2⟩
 case round=>
  obtain ⟨k,hk,rfl,hb,hv⟩:=hrel
  by_cases hkn:k < n
  ·
   obtain ⟨x,hx,hxm⟩:=Ai l k (by rw [HN.out];exact hkn)
   obtain ⟨c0,c1,c2⟩:=HC.out k x hx
   have d0:=cell_later hb c0
   have d1:=cell_later hb c1
   have d2:=cell_later hb c2
   have HIn:Hid (∀ z,z=x.num ∨ z=x.beg ∨ z=x.fin → -9223372036854775808 ≤ z ∧ z ≤ 9223372036854775807):=HR.out x hxm
   have hts:(l.take (k+1)).map (fun x=>Dl x.num x.beg x.fin)=(l.take k).map (fun x=>Dl x.num x.beg x.fin) ++ [Dl x.num x.beg x.fin]:=by rw [List.take_add_one,hx];simp
   have hlen:((l.take k).map fun x=>Dl x.num x.beg x.fin).length=k:=by rw [List.length_map,List.length_take,HN.out];omega
   have HW:Hid (Below w.heap.size w wr ∧ Bj wr G n (DR ((l.take k).map fun x=>Dl x.num x.beg x.fin))):=⟨hb,hv⟩
   have hsw:Dl x.num x.beg x.fin=Go.Lib.itoa x.num ++ [58] ++ Go.Lib.itoa x.beg ++ [45] ++ Go.Lib.itoa x.fin:=by unfold Dl;rfl
   obtain ⟨xs,hxs⟩:∃ xs,(l.take k).map (fun x=>Dl x.num x.beg x.fin)=xs:=⟨_,rfl⟩
   obtain ⟨x1,hx1⟩:∃ x1,Dl x.num x.beg x.fin=x1:=⟨_,rfl⟩
   rw [hxs] at hts hlen HW
   rw [hx1] at hts hsw
   obtain ⟨pn,hpn⟩:∃ z,x.num=z:=⟨_,rfl⟩
   obtain ⟨pf,hpf⟩:∃ z,x.beg=z:=⟨_,rfl⟩
   obtain ⟨pt,hpt⟩:∃ z,x.fin=z:=⟨_,rfl⟩
   rw [hpn] at d0 HIn hsw
   rw [hpf] at d1 HIn hsw
   rw [hpt] at d2 HIn hsw
   have HTs:Hid ((l.take (k+1)).map (fun x=>Dl x.num x.beg x.fin)=xs ++ [x1] ∧ xs.length=k ∧ x1=Go.Lib.itoa pn ++ [58] ++ Go.Lib.itoa pf ++ [45] ++ Go.Lib.itoa pt):=⟨hts,hlen,hsw⟩
   clear hb hv c0 c1 c2 hx hxm hts hlen hsw hxs hx1 hpn hpf hpt
   have hl1:=Go.Lib.itoa_length_le pn (HIn.out _ (.inl rfl)).1 (HIn.out _ (.inl rfl)).2
   have hl2:=Go.Lib.itoa_length_le pf (HIn.out _ (.inr (.inl rfl))).1 (HIn.out _ (.inr (.inl rfl))).2
   have hl3:=Go.Lib.itoa_length_le pt (HIn.out _ (.inr (.inr rfl))).1 (HIn.out _ (.inr (.inr rfl))).2
   have HIt:Hid (∀ z W,(z=pn ∨ z=pf ∨ z=pt) → Below wr.heap.size wr W → Calls Tryz.prog 79 #[.int .i64 z] W fun e w'=>e=.returned (.string ⟨(Go.Lib.itoa z).toArray⟩) ∧ Below W.heap.size W w'):=fun z W hz hW=>HI.out W (HW.out.1.trans (hW.mono HW.out.1.size)) z (HIn.out z hz).1 (HIn.out z hz).2
   obtain ⟨s1,hs1⟩:∃ s1,Go.Lib.itoa pn=s1:=⟨_,rfl⟩
   obtain ⟨s2,hs2⟩:∃ s2,Go.Lib.itoa pf=s2:=⟨_,rfl⟩
   obtain ⟨s3,hs3⟩:∃ s3,Go.Lib.itoa pt=s3:=⟨_,rfl⟩
   have HI1:Hid (∀ W,Below wr.heap.size wr W → Calls Tryz.prog 79 #[.int .i64 pn] W fun e w'=>e=.returned (.string ⟨s1.toArray⟩) ∧ Below W.heap.size W w'):=fun W hW=>by rw [← hs1];exact HIt.out pn W (.inl rfl) hW
   have HI2:Hid (∀ W,Below wr.heap.size wr W → Calls Tryz.prog 79 #[.int .i64 pf] W fun e w'=>e=.returned (.string ⟨s2.toArray⟩) ∧ Below W.heap.size W w'):=fun W hW=>by rw [← hs2];exact HIt.out pf W (.inr (.inl rfl)) hW
   have HI3:Hid (∀ W,Below wr.heap.size wr W → Calls Tryz.prog 79 #[.int .i64 pt] W fun e w'=>e=.returned (.string ⟨s3.toArray⟩) ∧ Below W.heap.size W w'):=fun W hW=>by rw [← hs3];exact HIt.out pt W (.inr (.inr rfl)) hW
   rw [hs1] at hl1 HTs
   rw [hs2] at hl2 HTs
   rw [hs3] at hl3 HTs
   have k1:=Il s1 [58] (by omega) (by decide)
   have k2:=Il (s1 ++ [58]) s2 (by simp;omega) (by omega)
   have k3:=Il (s1 ++ [58] ++ s2) [45] (by simp;omega) (by decide)
   have k4:=Il (s1 ++ [58] ++ s2 ++ [45]) s3 (by simp;omega) (by omega)
   obtain ⟨t1,ht1⟩:∃ t,s1 ++ [58]=t:=⟨_,rfl⟩
   rw [ht1] at k1 k2 k3 k4 HTs
   obtain ⟨t2,ht2⟩:∃ t,t1 ++ s2=t:=⟨_,rfl⟩
   rw [ht2] at k2 k3 k4 HTs
   obtain ⟨t3,ht3⟩:∃ t,t2 ++ [45]=t:=⟨_,rfl⟩
   rw [ht3] at k3 k4 HTs
   obtain ⟨t4,ht4⟩:∃ t,t3 ++ s3=t:=⟨_,rfl⟩
   rw [ht4] at k4 HTs
   clear hl1 hl2 hl3 hs1 hs2 hs3 ht1 ht2 ht3 ht4 HIt HIn
   go_wp2_with fail
   have hb1:Below wr.heap.size wr (wr.alloc (.cells #[.int .i64 pn,.int .i64 pf,.int .i64 pt] 69)):=(Below.refl _ _).alloc (Nat.le_refl _) _
   have hx1:(wr.alloc (.cells #[.int .i64 pn,.int .i64 pf,.int .i64 pt] 69)).cell? ⟨wr.heap.size,0,none⟩=some (.int .i64 pn) ∧ (wr.alloc (.cells #[.int .i64 pn,.int .i64 pf,.int .i64 pt] 69)).cell? ⟨wr.heap.size,1,none⟩=some (.int .i64 pf) ∧ (wr.alloc (.cells #[.int .i64 pn,.int .i64 pf,.int .i64 pt] 69)).cell? ⟨wr.heap.size,2,none⟩=some (.int .i64 pt):=⟨by simp,by simp,by simp⟩
   obtain ⟨V1,hV1⟩:∃ V1,wr.alloc (.cells #[.int .i64 pn,.int .i64 pf,.int .i64 pt] 69)=V1:=⟨_,rfl⟩
   rw [hV1] at hb1 hx1 ⊢
   obtain ⟨X,hX⟩:∃ X,wr.heap.size=X:=⟨_,rfl⟩
   have HX:Hid (wr.heap.size=X ∧ G < X):=⟨hX,by rw [← hX];exact HW.out.2.lt⟩
   rw [hX] at hx1 ⊢
   have HSb:Hid (∀ W,Below V1.heap.size V1 W → W.cell? ⟨X,0,none⟩=some (.int .i64 pn) ∧ W.cell? ⟨X,1,none⟩=some (.int .i64 pf) ∧ W.cell? ⟨X,2,none⟩=some (.int .i64 pt)):=fun W hW=>⟨cell_later hW hx1.1,cell_later hW hx1.2.1,cell_later hW hx1.2.2⟩
   have HV1:Hid (Below wr.heap.size wr V1):=hb1
   have HG1:Hid (∀ W,Below V1.heap.size V1 W → ∃ u,W.cell? ⟨G,k,none⟩=some u ∧ W.frozen? ⟨G,k,none⟩=false):=fun W hW=>by
    have hv:=(HW.out.2.below HV1.out).below hW
    exact ⟨_,hv.cell k hkn,hv.frozen k⟩
   have HB:Hid (Below V1.heap.size V1 V1.drew):=below_drewN (Below.refl _ _) 1
   have HSs:Hid (∀ W,Below V1.heap.size V1 W → (W.setCell ⟨G,k,none⟩ (Ah t4)).cell? ⟨X,0,none⟩=some (.int .i64 pn) ∧ (W.setCell ⟨G,k,none⟩ (Ah t4)).cell? ⟨X,1,none⟩=some (.int .i64 pf) ∧ (W.setCell ⟨G,k,none⟩ (Ah t4)).cell? ⟨X,2,none⟩=some (.int .i64 pt)):=fun W hW=>by
    have hne:=HX.out.2
    rw [World.cell?_setCell_other _ _ _ _ (fun e=>by injection e with e;omega),World.cell?_setCell_other _ _ _ _ (fun e=>by injection e with e;omega),World.cell?_setCell_other _ _ _ _ (fun e=>by injection e with e;omega)]
    exact HSb.out W hW
   have hS:=HSb.out _ HB.out
   clear hb1 hx1 hV1 hX d0 d1 d2
   go_region_held3 (fun w'=>w'.cell? ⟨X,0,none⟩=some (.int .i64 pn) ∧ w'.cell? ⟨X,1,none⟩=some (.int .i64 pf) ∧ w'.cell? ⟨X,2,none⟩=some (.int .i64 pt))
    (first | exact hS | exact HSs.out _ HB.out)
    (first
    | (go_at_call 79;refine (HI1.out _ (HV1.out.trans (HB.out.mono HV1.out.size))).mono ?_;rintro e w6 ⟨rfl,hb6⟩;have HB:Hid (Below V1.heap.size V1 w6):=HB.out.trans (hb6.mono HB.out.size);have hS:=HSb.out _ HB.out;obtain ⟨u6,hu6,hf6⟩:=HG1.out _ HB.out;clear hb6)
    | (go_at_call 79;refine (HI2.out _ (HV1.out.trans (HB.out.mono HV1.out.size))).mono ?_;rintro e w6 ⟨rfl,hb6⟩;have HB:Hid (Below V1.heap.size V1 w6):=HB.out.trans (hb6.mono HB.out.size);have hS:=HSb.out _ HB.out;obtain ⟨u6,hu6,hf6⟩:=HG1.out _ HB.out;clear hb6)
    | (go_at_call 79;refine (HI3.out _ (HV1.out.trans (HB.out.mono HV1.out.size))).mono ?_;rintro e w6 ⟨rfl,hb6⟩;have HB:Hid (Below V1.heap.size V1 w6):=HB.out.trans (hb6.mono HB.out.size);have hS:=HSb.out _ HB.out;obtain ⟨u6,hu6,hf6⟩:=HG1.out _ HB.out;clear hb6))
   have HNx:Hid (Below w.heap.size w (w6.setCell ⟨G,k,none⟩ (.string ⟨t4.toArray⟩)) ∧ Bj (w6.setCell ⟨G,k,none⟩ (.string ⟨t4.toArray⟩)) G n (DR ((l.take (k+1)).map fun x=>Dl x.num x.beg x.fin))):=by
    have hb6:=HV1.out.trans (HB.out.mono HV1.out.size)
    obtain ⟨q1,q2,q3⟩:=HTs.out
    refine ⟨Dc (HW.out.1.trans (hb6.mono HW.out.1.size)) (by show w.heap.size ≤ G;rw [HG.out];exact Nat.le_refl _) _,?_⟩
    rw [q1,← Mr,q2,q3]
    exact (HW.out.2.below hb6).put hkn _
   obtain ⟨V2,hV2⟩:∃ V2,w6.setCell ⟨G,k,none⟩ (.string ⟨t4.toArray⟩)=V2:=⟨_,rfl⟩
   rw [hV2] at HNx ⊢
   clear hV2 hS hu6 hf6 HB HSs HSb HG1 HV1 HX HI1 HI2 HI3 k1 k2 k3 k4 HTs HW
   go_wp2_with fail
   go_roundw
   case rel=>exact ⟨k+1,by omega,by go_num,HNx.out.1,HNx.out.2⟩
   case measure=>simp [intOf];omega
  ·
   obtain rfl:k=n:=by omega
   rw [show l.take k=l by rw [← HN.out,List.take_length]] at hv
   have HE:Hid (Below w.heap.size w wr):=hb
   have HJ:Hid (Calls Tryz.prog 80 #[.slice (some ⟨G,0,none⟩) k k,.string ⟨#[32]⟩] wr fun e w'=>e=.returned (Ah (Go.Lib.join (l.map fun x=>Dl x.num x.beg x.fin) [32])) ∧ Below wr.heap.size wr w'):=XJ hv HN.out hn HR.out
   clear hv hb
   go_wp2_with fail
   refine HJ.out.mono ?_
   rintro e w1 ⟨rfl,hb1⟩
   have HE1:Hid (Below w.heap.size w w1):=HE.out.trans (hb1.mono HE.out.size)
   clear hb1
   go_wp2_with fail
   go_ret2
   exact ⟨rfl,HE1.out⟩
end Go.Proofs.YtipdclphpkgceaaGreatDoor

namespace Go.Proofs.YtipdclphpkgceaaGreatDoor
open Go.RowKit Go.Shelf
def EH (k:Nat):List Value:=List.replicate k (.int .i64 1) ++ List.replicate (8 - k) (.int .i64 0)
theorem Tryz.sizeInt1:(Tryz.prog.info? 3).map (·.size)=some 1:=by kernel_rfl
theorem bC (w:World):Calls Tryz.prog 153 #[.int .u64 1,.int .u64 8] w fun e w'=>e=.returned (.tuple #[.int .u64 0,.int .u64 8]) ∧ w'=w:=
 Any.bits_Mul Tryz.lays212 1 8 (by decide) (by decide) w
theorem VR {g o dl dc:Nat} {a:Addr} {sl sc:Nat} {cur cs next:List Value} (W:World) (hg:W.heap[g]? = some (.cells cur.toArray 3 (0,0))) (hn:cs.length=Nat.min sl dl) (hs:∀ j v,cs[j]? = some v → W.cell? (a.add j)=some v) (hf:o+cs.length ≤ cur.length) (h1:∀ v ∈ cs,v.oneCell'=true)
  (hx:cur.take o ++ cs ++ cur.drop (o+cs.length)=next) {B:Nat} {w:World} (hb:Below B w W) (hB:B ≤ g) :
  ∃ V,(Builtin.copy_ #[32,32] 3 #[.slice (some ⟨g,o,none⟩) dl dc,.slice (some a) sl sc]).run Tryz.prog W=.ok (.int .i64 cs.length) V ∧ V.heap[g]? = some (.cells next.toArray 3 (0,0)) ∧ Below B w V:=by
 have:=run_copy_row (P:=Tryz.prog) W 32 32 3 3 g o dl dc a sl sc cur.toArray 3 cs Tryz.underlying32 Tryz.sizeInt1 hg hn hs (by simpa using hf) h1
 refine ⟨_,this,?_,below_setRow hb hB _⟩
 rw [← hx]
 exact setRow_heap W g _ _ 3 _ hg
theorem NP {k G:Nat} (hk:k=1 ∨ k=2 ∨ k=4) (W:World) (hg:W.heap[G]? = some (.cells (EH k).toArray 3 (0,0))) {B:Nat} {w:World} (hb:Below B w W) (hB:B ≤ G) :
  ∃ V,(Builtin.copy_ #[32,32] 3 #[.slice (some ⟨G,k,none⟩) (8 - k) (8 - k),.slice (some ⟨G,0,none⟩) k 8]).run Tryz.prog W=.ok (.int .i64 k) V ∧ V.heap[G]? = some (.cells (EH (k+k)).toArray 3 (0,0)) ∧ Below B w V:=by
 have hl:(List.replicate k (Value.int .i64 1)).length=k:=by simp
 have:=VR (o:=k) (dl:=8 - k) (dc:=8 - k) (a:=⟨G,0,none⟩) (sl:=k) (sc:=8) (cs:=List.replicate k (Value.int .i64 1)) (next:=EH (k+k)) W hg (by rw [hl];rcases hk with rfl | rfl | rfl <;> rfl) (fun j v hj=>by
  have hj':=Ad hj
  rw [hl] at hj'
  have hv:v=.int .i64 1:=List.eq_of_mem_replicate (List.mem_of_getElem? hj)
  subst hv
  rw [Addr.add_lit,cell_of_row W G _ _ _ _ hg]
  unfold EH
  rw [List.getElem?_toArray,List.getElem?_append_left (by simp;omega),List.getElem?_replicate,if_pos (by omega)]) (by rw [hl];rcases hk with rfl | rfl | rfl <;> decide) (fun v hv=>by rw [List.eq_of_mem_replicate hv];rfl) (by rcases hk with rfl | rfl | rfl <;> rfl) hb hB
 rw [hl] at this
 exact this
theorem Rv (b:Nat) (w:World) (hc:w.cell? ⟨b,0,none⟩=some (.int .i64 1)) :
  Calls Tryz.prog 129 #[.slice (some ⟨b,0,none⟩) 1 1,.int .i64 8] w fun e w'=>∃ G,e=.returned (.slice (some ⟨G,0,none⟩) 8 8) ∧ w.heap.size ≤ G ∧ AV w' (some ⟨G,0,none⟩) [1,1,1,1,1,1,1,1] ∧ Below w.heap.size w w':=by
 have hmk:=NL 8 (by decide)
 have hb1:Below w.heap.size w (w.alloc (.cells (madeCells #[.int .i64 0] 8) 3)):=(Below.refl _ _).alloc (Nat.le_refl _) _
 have hc1:(w.alloc (.cells (madeCells #[.int .i64 0] 8) 3)).cell? ⟨b,0,none⟩=some (.int .i64 1):=cell_later hb1 hc
 have hg1:(w.alloc (.cells (madeCells #[.int .i64 0] 8) 3)).heap[w.heap.size]? = some (.cells (EH 0).toArray 3 (0,0)):=by
  have e:madeCells #[.int .i64 0] 8=(EH 0).toArray:=by
   apply Array.toList_inj.1
   rw [toList_madeCells_one]
   rfl
  rw [heap_alloc_new,e]
 obtain ⟨V,hV⟩:∃ V,w.alloc (.cells (madeCells #[.int .i64 0] 8) 3)=V:=⟨_,rfl⟩
 rw [hV] at hb1 hc1 hg1
 obtain ⟨G,hG⟩:∃ G,w.heap.size=G:=⟨_,rfl⟩
 rw [hG] at hg1
 have hmk1:(Instr.makeSlice 32 (.int .i64 8) (.int .i64 8)).run Tryz.prog w=.ok (.slice (some ⟨G,0,none⟩) 8 8) V:=by
  have:=hmk w
  rw [hV,hG] at this
  exact this
 have HV:Hid (Below w.heap.size w V ∧ V.cell? ⟨b,0,none⟩=some (.int .i64 1) ∧ V.heap[G]? = some (.cells (EH 0).toArray 3 (0,0))):=⟨hb1,hc1,hg1⟩
 have HG:Hid (w.heap.size ≤ G):=by show _ ≤ _;omega
 obtain ⟨V2,hcp,hg2,hb2⟩:=VR (g:=G) (o:=0) (dl:=8) (dc:=8) (a:=⟨b,0,none⟩) (sl:=1) (sc:=1) (cs:=[Value.int .i64 1]) (next:=EH 1) V HV.out.2.2 rfl (fun j v hj=>by
  have hj':=Ad hj
  obtain rfl:j=0:=by simpa using hj'
  obtain rfl:v=.int .i64 1:=by simpa using hj.symm
  exact HV.out.2.1) (by decide) (by simp [Value.oneCell']) rfl HV.out.1 HG.out
 have HR:Hid (V2.heap[G]? = some (.cells (EH 1).toArray 3 (0,0)) ∧ Below w.heap.size w V2):=⟨hg2,hb2⟩
 have HM:Hid (Calls Tryz.prog 153 #[.int .u64 1,.int .u64 8] w fun e w'=>e=.returned (.tuple #[.int .u64 0,.int .u64 8]) ∧ w'=w):=bC w
 clear hb1 hc1 hg1 hV hmk hc hG hg2 hb2
 go_enter Tryz.func129,Tryz.ntmps129
 go_wp2_with fail
 refine HM.out.mono ?_
 rintro e w1 ⟨rfl,hw1⟩
 rw [hw1]
 clear hw1
 go_wp2_with fail
 go_loopw [8] (fun n wr=>∃ k:Nat,(k=1 ∨ k=2 ∨ k=4 ∨ k=8) ∧ n=.int .i64 k ∧ wr.heap[G]? = some (.cells (EH k).toArray 3 (0,0)) ∧ Below w.heap.size w wr) (fun n _=>8 - (intOf n).toNat)
 case atStart=>exact ⟨1,.inl rfl,rfl,HR.out.1,HR.out.2⟩
 case round=>
  obtain ⟨k,hk,rfl,hg,hb⟩:=hrel
  rcases hk with rfl | rfl | rfl | rfl
  ·
   obtain ⟨V3,hcp0,hg3,hb3⟩:=NP (k:=1) (G:=G) (.inl rfl) wr.drew hg (w:=w) (B:=w.heap.size) hb.drew HG.out
   have HR3:Hid (V3.heap[G]? = some (.cells (EH 2).toArray 3 (0,0)) ∧ Below w.heap.size w V3):=⟨hg3,hb3⟩
   have hcp3:(Builtin.copy_ #[32,32] 3 #[.slice (some ⟨G,1,none⟩) 7 7,.slice (some ⟨G,0,none⟩) 1 8]).run Tryz.prog wr.drew=.ok (.int .i64 1) V3:=hcp0
   clear hg hb hg3 hb3 hcp hcp0
   go_wp2_with fail
   go_region
   go_wp2_with fail
   go_roundw
   case rel=>exact ⟨2,.inr (.inl rfl),rfl,HR3.out.1,HR3.out.2⟩
   case measure=>simp [intOf]
  ·
   obtain ⟨V3,hcp0,hg3,hb3⟩:=NP (k:=2) (G:=G) (.inr (.inl rfl)) wr.drew hg (w:=w) (B:=w.heap.size) hb.drew HG.out
   have HR3:Hid (V3.heap[G]? = some (.cells (EH 4).toArray 3 (0,0)) ∧ Below w.heap.size w V3):=⟨hg3,hb3⟩
   have hcp3:(Builtin.copy_ #[32,32] 3 #[.slice (some ⟨G,2,none⟩) 6 6,.slice (some ⟨G,0,none⟩) 2 8]).run Tryz.prog wr.drew=.ok (.int .i64 2) V3:=hcp0
   clear hg hb hg3 hb3 hcp hcp0
   go_wp2_with fail
   go_region
   go_wp2_with fail
   go_roundw
   case rel=>exact ⟨4,.inr (.inr (.inl rfl)),rfl,HR3.out.1,HR3.out.2⟩
   case measure=>simp [intOf]
  ·
   obtain ⟨V3,hcp0,hg3,hb3⟩:=NP (k:=4) (G:=G) (.inr (.inr rfl)) wr.drew hg (w:=w) (B:=w.heap.size) hb.drew HG.out
   have HR3:Hid (V3.heap[G]? = some (.cells (EH 8).toArray 3 (0,0)) ∧ Below w.heap.size w V3):=⟨hg3,hb3⟩
   have hcp3:(Builtin.copy_ #[32,32] 3 #[.slice (some ⟨G,4,none⟩) 4 4,.slice (some ⟨G,0,none⟩) 4 8]).run Tryz.prog wr.drew=.ok (.int .i64 4) V3:=hcp0
   clear hg hb hg3 hb3 hcp hcp0
   go_wp2_with fail
   go_region
   go_wp2_with fail
   go_roundw
   case rel=>exact ⟨8,.inr (.inr (.inr rfl)),rfl,HR3.out.1,HR3.out.2⟩
   case measure=>simp [intOf]
  ·
   have HE:Hid (∃ G',Ending.returned (.slice (some ⟨G,0,none⟩) 8 8)=.returned (.slice (some ⟨G',0,none⟩) 8 8) ∧ w.heap.size ≤ G' ∧ AV wr (some ⟨G',0,none⟩) [1,1,1,1,1,1,1,1] ∧ Below w.heap.size w wr):=by
    refine ⟨G,rfl,HG.out,.inr ⟨G,0,rfl,?_,fun i x hi=>?_⟩,hb⟩
    ·
     rcases Nat.lt_or_ge G wr.heap.size with h' | h'
     · exact h'
     · rw [Array.getElem?_eq_none h'] at hg;cases hg
    ·
     have hx:x=1:=by
      have:=List.mem_of_getElem? hi
      simpa using this
     have hi8:=Ad hi
     rw [cell_of_row wr G _ _ _ _ hg,Nat.zero_add,hx]
     unfold EH
     rw [List.getElem?_toArray,List.getElem?_append_left (by simpa using hi8),List.getElem?_replicate,if_pos (by simpa using hi8)]
   clear hg hb hcp
   go_wp2_with fail
   go_ret
   exact HE.out
end Go.Proofs.YtipdclphpkgceaaGreatDoor

namespace Go.Proofs.YtipdclphpkgceaaGreatDoor
open Go.RowKit
theorem Jj {S:Nat → Prop} {w w':World} {a:Option Addr} {ls:List (Int × Int)} (h:AL w a ls) (hb:But S w w') (hs:∀ ad,a=some ad → ¬ S ad.block):AL w' a ls:=by
 rcases h with rfl | ⟨b,off,rfl,hlt,hc⟩
 · exact .inl rfl
 ·
  have hn:¬ S b:=hs _ rfl
  refine .inr ⟨b,off,rfl,Nat.lt_of_lt_of_le hlt hb.size,fun i x y hi=>?_⟩
  rw [hb.cell (p:=⟨b,off+i * 2,none⟩) hlt hn,hb.cell (p:=⟨b,off+i * 2+1,none⟩) hlt hn]
  exact hc i x y hi
structure Mk (w:World) (N cb:Nat) (pv:Value) (i:Nat) (ls:List (Int × Int)) (a:Option Addr) (cap:Nat):Prop where
 cell:w.cell? ⟨cb,i,none⟩=some (.slice a ls.length cap)
 lies:AL w a ls
 le:ls.length ≤ cap
 max:cap ≤ maxLen
 nil:a=none → ls=[] ∧ cap=0
 far:∀ ad,a=some ad → N ≤ ad.block ∧ ad.block < w.heap.size ∧ pv.ownBlock ≠ some ad.block
structure BP (w:World) (N g cb:Nat) (na:Option Addr) (ncap:Nat) (pv:Value) (s:Scr):Prop where
 gN:g < N
 cN:cb < N
 ne:g ≠ cb
 wN:N ≤ w.heap.size
 c0:w.cell? ⟨g,0,none⟩=some (.slice (some ⟨cb,0,none⟩) 8 8)
 c1:w.cell? ⟨g,1,none⟩=some (Ah s.kb)
 c2:w.cell? ⟨g,2,none⟩=some (.int .i64 s.per)
 c3:w.cell? ⟨g,3,none⟩=some (.slice na s.ns.length ncap)
 c4:w.cell? ⟨g,4,none⟩=some pv
 fg:∀ i,w.frozen? ⟨g,i,none⟩=false
 fc:∀ i,w.frozen? ⟨cb,i,none⟩=false
 nums:AV w na s.ns
 nle:s.ns.length ≤ ncap
 nmax:ncap ≤ maxLen
 nnil:na=none → s.ns=[] ∧ ncap=0
 nfar:∀ ad,na=some ad → N ≤ ad.block ∧ ad.block < w.heap.size ∧ pv.ownBlock ≠ some ad.block
 pks:DC w N pv s.ps
 curves:∀ (i:Nat) ls,s.cs[i]? = some ls → ∃ a cap,Mk w N cb pv i ls a cap
def K3 (N g cb:Nat) (k:Nat):Prop:=k=g ∨ k=cb ∨ N ≤ k
section
variable {w w':World} {N g cb:Nat} {na:Option Addr} {ncap:Nat} {pv:Value} {s:Scr}
theorem Mk.but {S:Nat → Prop} {i:Nat} {ls:List (Int × Int)} {a:Option Addr} {cap:Nat} (h:Mk w N cb pv i ls a cap) (hb:But S w w') (h1:¬ S cb) (h2:∀ ad,a=some ad → ¬ S ad.block):Mk w' N cb pv i ls a cap:=
 ⟨by rw [hb.cell (p:=⟨cb,i,none⟩) (Ck h.cell) h1];exact h.cell,Jj h.lies hb h2,h.le,h.max,h.nil,fun ad e=>⟨(h.far ad e).1,Nat.lt_of_lt_of_le (h.far ad e).2.1 hb.size,(h.far ad e).2.2⟩⟩
theorem BP.below (h:BP w N g cb na ncap pv s) (hb:Below w.heap.size w w'):BP w' N g cb na ncap pv s:=by
 refine ⟨h.gN,h.cN,h.ne,Nat.le_trans h.wN hb.size,cell_later hb h.c0,cell_later hb h.c1,cell_later hb h.c2,cell_later hb h.c3,cell_later hb h.c4,fun i=>?_,fun i=>?_,h.nums.below hb,h.nle,h.nmax,h.nnil,fun ad e=>⟨(h.nfar ad e).1,Nat.lt_of_lt_of_le (h.nfar ad e).2.1 hb.size,(h.nfar ad e).2.2⟩,h.pks.later hb,fun i ls hi=>?_⟩
 · rw [hb.frozen (p:=⟨g,i,none⟩) (Nat.lt_of_lt_of_le h.gN h.wN)];exact h.fg i
 · rw [hb.frozen (p:=⟨cb,i,none⟩) (Nat.lt_of_lt_of_le h.cN h.wN)];exact h.fc i
 ·
  obtain ⟨a,cap,hc⟩:=h.curves i ls hi
  exact ⟨a,cap,hc.but (S:=fun _=>False) (.ofBelow hb) id fun _ _=>id⟩
theorem BP.gate (h:BP w N g cb na ncap pv s) (hl:s.cs.length=8) (hs:ay s.cs s.ns):Dk w (some ⟨cb,0,none⟩) 8 s.cs na ncap s.ns:=
 ⟨.inr ⟨cb,0,rfl,Nat.lt_of_lt_of_le h.cN h.wN,fun i ls hi=>by
  obtain ⟨a,cap,hc⟩:=h.curves i ls hi
  rw [Nat.zero_add]
  exact ⟨a,cap,hc.cell,hc.lies,hc.le,hc.max,hc.nil⟩⟩,by omega,by simp [maxLen],h.nums,h.nle,h.nmax,h.nnil,hs⟩
theorem DC.value {w:World} {B:Nat} {v:Value} {ps:List Pk} (h:DC w B v ps):∃ a cap,v=.slice a ps.length cap ∧ CE w a cap ps:=by
 have h':=h
 obtain ⟨-,⟨rfl,h0⟩ | ⟨b,cap,cur,rfl,hB,hg,hc,hm,hcs,ht⟩⟩:=h'
 ·
  have e:ps=[]:=List.length_eq_zero_iff.1 h0
  subst e
  exact ⟨none,0,rfl,.inl rfl,by simp,by simp [maxLen],fun _=>⟨rfl,rfl⟩⟩
 ·
  refine ⟨_,cap,rfl,?_,hc,hm,fun e=>by cases e⟩
  have hlt:b < w.heap.size:=by
   rcases Nat.lt_or_ge b w.heap.size with h' | h'
   · exact h'
   · rw [Array.getElem?_eq_none h'] at hg;cases hg
  refine .inr ⟨b,0,rfl,hlt,fun i p hi=>?_⟩
  have hil:=Ad hi
  have key:∀ j,j < 3 → w.cell? ⟨b,i * 3+j,none⟩=(BR ps)[i * 3+j]?:=fun j hj=>World.ownsRow.cellAt h (i * 3+j) (by omega)
  obtain ⟨q0,q1,q2⟩:=JI ps i p hi
  have k0:=key 0 (by omega)
  have k1:=key 1 (by omega)
  have k2:=key 2 (by omega)
  rw [Nat.zero_add]
  exact ⟨k0.trans q0,k1.trans q1,k2.trans q2⟩
theorem BP.setCurve (h:BP w N g cb na ncap pv s) {f:Nat} (hf:f < 8) (hl:s.cs.length=8) {ls:List (Int × Int)} {G:Nat} (hG:N ≤ G) (hGl:G < w.heap.size) (hp:pv.ownBlock ≠ some G) (hls:AL w (some ⟨G,0,none⟩) ls) (hm:ls.length ≤ maxLen) :
  BP (w.setCell ⟨cb,f,none⟩ (.slice (some ⟨G,0,none⟩) ls.length ls.length)) N g cb na ncap pv { s with cs:=s.cs.set f ls } ∧ But (K3 N g cb) w (w.setCell ⟨cb,f,none⟩ (.slice (some ⟨G,0,none⟩) ls.length ls.length)):=by
 have hb:But (fun k=>k=cb) w (w.setCell ⟨cb,f,none⟩ (.slice (some ⟨G,0,none⟩) ls.length ls.length)):=But.setCell (p:=⟨cb,f,none⟩) (But.refl (fun k=>k=cb) w) rfl _
 have gl:=Nat.lt_of_lt_of_le h.gN h.wN
 have e:∀ i,(w.setCell ⟨cb,f,none⟩ (.slice (some ⟨G,0,none⟩) ls.length ls.length)).cell? ⟨g,i,none⟩=w.cell? ⟨g,i,none⟩:=fun i=>hb.cell (p:=⟨g,i,none⟩) gl h.ne
 have hcN:=h.cN
 refine ⟨⟨h.gN,h.cN,h.ne,Nat.le_trans h.wN hb.size,(e 0).trans h.c0,(e 1).trans h.c1,(e 2).trans h.c2,(e 3).trans h.c3,(e 4).trans h.c4,fun i=>by rw [World.frozen?_setCell];exact h.fg i,fun i=>by rw [World.frozen?_setCell];exact h.fc i,Eg h.nums hb (fun ad e'=>by have:=(h.nfar ad e').1;show ¬ ad.block=cb;omega),h.nle,h.nmax,h.nnil,(fun ad e=>⟨(h.nfar ad e).1,Nat.lt_of_lt_of_le (h.nfar ad e).2.1 hb.size,(h.nfar ad e).2.2⟩),Eo h.pks hb (fun k hk=>by have:=(AX h.pks hk).1;show ¬ k=cb;omega),fun i l' hi=>?_⟩,hb.mono fun k hk=>.inr (.inl hk)⟩
 have hi':(s.cs.set f ls)[i]? = some l':=hi
 by_cases hfi:f=i
 ·
  subst hfi
  rw [List.getElem?_set_self (by omega)] at hi'
  obtain rfl:=Option.some.inj hi'
  obtain ⟨a,cap,hc⟩:=h.curves f s.cs[f] (List.getElem?_eq_getElem (by omega))
  exact ⟨some ⟨G,0,none⟩,ls.length,World.cell?_setCell_same' _ _ _ (by rw [hc.cell];rfl),Jj hls hb (fun ad e'=>by cases e';show ¬ G=cb;omega),Nat.le_refl _,hm,(fun e'=>by cases e'),fun ad e'=>by cases e';exact ⟨hG,Nat.lt_of_lt_of_le hGl hb.size,hp⟩⟩
 ·
  rw [List.getElem?_set_ne hfi] at hi'
  obtain ⟨a,cap,hc⟩:=h.curves i l' hi'
  refine ⟨a,cap,?_,Jj hc.lies hb (fun ad e'=>by have:=(hc.far ad e').1;show ¬ ad.block=cb;omega),hc.le,hc.max,hc.nil,fun ad e=>⟨(hc.far ad e).1,Nat.lt_of_lt_of_le (hc.far ad e).2.1 hb.size,(hc.far ad e).2.2⟩⟩
  rw [World.cell?_setCell_other _ _ _ _ (by intro e';cases e';exact hfi rfl)]
  exact hc.cell
theorem BP.setGate (h:BP w N g cb na ncap pv s) (kb:List UInt8) (per:Int) {na':Option Addr} {ncap':Nat} {ns:List Int} (hn:AV w na' ns) (h1:ns.length ≤ ncap') (h2:ncap' ≤ maxLen) (h3:na'=none → ns=[] ∧ ncap'=0) (h4:∀ ad,na'=some ad → N ≤ ad.block ∧ ad.block < w.heap.size ∧ pv.ownBlock ≠ some ad.block) {w':World}
  (hb:But (fun k=>k=g) w w') (hc:∀ i,i < 5 → w'.cell? ⟨g,i,none⟩=(#[.slice (some ⟨cb,0,none⟩) 8 8,Ah kb,.int .i64 per,.slice na' ns.length ncap',pv]:Array Value)[i]?) (hfz:∀ i,w'.frozen? ⟨g,i,none⟩=false) :
  BP w' N g cb na' ncap' pv { s with kb:=kb,per:=per,ns:=ns } ∧ But (K3 N g cb) w w':=by
 have hgN:=h.gN
 have cl:=Nat.lt_of_lt_of_le h.cN h.wN
 refine ⟨⟨h.gN,h.cN,h.ne,Nat.le_trans h.wN hb.size,hc 0 (by omega),hc 1 (by omega),hc 2 (by omega),hc 3 (by omega),hc 4 (by omega),hfz,fun i=>by rw [hb.frozen (p:=⟨cb,i,none⟩) cl h.ne.symm];exact h.fc i,Eg hn hb (fun ad e'=>by have:=(h4 ad e').1;show ¬ ad.block=g;omega),h1,h2,h3,(fun ad e=>⟨(h4 ad e).1,Nat.lt_of_lt_of_le (h4 ad e).2.1 hb.size,(h4 ad e).2.2⟩),Eo h.pks hb (fun k hk=>by have:=(AX h.pks hk).1;show ¬ k=g;omega),fun i l' hi=>?_⟩,hb.mono fun k hk=>.inl hk⟩
 obtain ⟨a,cap,hc'⟩:=h.curves i l' hi
 exact ⟨a,cap,hc'.but hb h.ne.symm fun ad e'=>by have:=(hc'.far ad e').1;show ¬ ad.block=g;omega⟩
theorem BP.setPks (h:BP w N g cb na ncap pv s) {pv':Value} {ps:List Pk} {w1 w':World} (hb1:But (fun k=>pv.ownBlock=some k) w w1) (hp:DC w1 N pv' ps) (hnew:∀ k,pv'.ownBlock=some k → pv.ownBlock=some k ∨ w.heap.size ≤ k)
  (hw':w'=w1.setCell ⟨g,4,none⟩ pv'):BP w' N g cb na ncap pv' { s with ps:=ps } ∧ But (K3 N g cb) w w':=by
 subst hw'
 have hgN:=h.gN
 have hcN:=h.cN
 have hwN:=h.wN
 have hne:=h.ne
 have gl:g < w.heap.size:=by omega
 have cl:cb < w.heap.size:=by omega
 have po:∀ k,pv.ownBlock=some k → N ≤ k ∧ k < w.heap.size:=fun k hk=>AX h.pks hk
 have pn:∀ k,pv'.ownBlock=some k → N ≤ k:=fun k hk=>(AX hp hk).1
 have hb2:But (fun k=>k=g ∨ pv.ownBlock=some k) w (w1.setCell ⟨g,4,none⟩ pv'):=But.setCell (p:=⟨g,4,none⟩) (hb1.mono fun k hk=>.inr hk) (.inl rfl) _
 have g1:¬ pv.ownBlock=some g:=fun hk=>by have:=(po g hk).1;omega
 have c1:¬ pv.ownBlock=some cb:=fun hk=>by have:=(po cb hk).1;omega
 have eg:∀ i,w1.cell? ⟨g,i,none⟩=w.cell? ⟨g,i,none⟩:=fun i=>hb1.cell (p:=⟨g,i,none⟩) gl g1
 have e:∀ i,i ≠ 4 → (w1.setCell ⟨g,4,none⟩ pv').cell? ⟨g,i,none⟩=w.cell? ⟨g,i,none⟩:=fun i hi=>by
  rw [World.cell?_setCell_other _ _ _ _ (by intro e';cases e';exact hi rfl)]
  exact eg i
 have far:∀ ad:Addr,N ≤ ad.block → ad.block < w.heap.size → pv.ownBlock ≠ some ad.block → ¬ (ad.block=g ∨ pv.ownBlock=some ad.block) ∧ pv'.ownBlock ≠ some ad.block:=fun ad q1 q2 q3=>by
  refine ⟨fun q=>?_,fun q=>?_⟩
  ·
   rcases q with q | q
   · omega
   · exact q3 q
  ·
   rcases hnew _ q with q' | q'
   · exact q3 q'
   · omega
 have nf:∀ ad,na=some ad → ¬ (ad.block=g ∨ pv.ownBlock=some ad.block) ∧ pv'.ownBlock ≠ some ad.block:=fun ad e'=>far ad (h.nfar ad e').1 (h.nfar ad e').2.1 (h.nfar ad e').2.2
 refine ⟨⟨h.gN,h.cN,h.ne,Nat.le_trans h.wN hb2.size,(e 0 (by omega)).trans h.c0,(e 1 (by omega)).trans h.c1,(e 2 (by omega)).trans h.c2,(e 3 (by omega)).trans h.c3,World.cell?_setCell_same' _ _ _ (by rw [eg,h.c4];rfl),fun i=>?_,fun i=>?_,Eg h.nums hb2 (fun ad e'=>(nf ad e').1),h.nle,h.nmax,h.nnil,(fun ad e'=>⟨(h.nfar ad e').1,Nat.lt_of_lt_of_le (h.nfar ad e').2.1 hb2.size,(nf ad e').2⟩),?_,fun i l' hi=>?_⟩,?_⟩
 · rw [World.frozen?_setCell,hb1.frozen (p:=⟨g,i,none⟩) gl g1];exact h.fg i
 · rw [World.frozen?_setCell,hb1.frozen (p:=⟨cb,i,none⟩) cl c1];exact h.fc i
 · exact Eo hp (S:=fun k=>k=g) (But.setCell (p:=⟨g,4,none⟩) (But.refl (fun k=>k=g) w1) rfl _) fun k hk=>by have:=pn k hk;show ¬ k=g;omega
 ·
  obtain ⟨a,cap,hc⟩:=h.curves i l' hi
  have cf:∀ ad,a=some ad → ¬ (ad.block=g ∨ pv.ownBlock=some ad.block) ∧ pv'.ownBlock ≠ some ad.block:=fun ad e'=>far ad (hc.far ad e').1 (hc.far ad e').2.1 (hc.far ad e').2.2
  refine ⟨a,cap,?_,Jj hc.lies hb2 (fun ad e'=>(cf ad e').1),hc.le,hc.max,hc.nil,fun ad e'=>⟨(hc.far ad e').1,Nat.lt_of_lt_of_le (hc.far ad e').2.1 hb2.size,(cf ad e').2⟩⟩
  rw [hb2.cell (p:=⟨cb,i,none⟩) cl (fun q=>by rcases q with q | q;exact hne q.symm;exact c1 q)]
  exact hc.cell
 ·
  refine hb2.mono fun k hk=>?_
  rcases hk with hk | hk
  · exact .inl hk
  · exact .inr (.inr (po k hk).1)
theorem BP.far (h:BP w N g cb na ncap pv s) {b:Nat} (hb:b < N) (hg:b ≠ g) (hc:b ≠ cb) (i:Nat) (u:Value):BP (w.setCell ⟨b,i,none⟩ u) N g cb na ncap pv s:=by
 have hbt:But (fun k=>k=b) w (w.setCell ⟨b,i,none⟩ u):=But.setCell (p:=⟨b,i,none⟩) (But.refl (fun k=>k=b) w) rfl _
 have hgN:=h.gN
 have hcN:=h.cN
 have hwN:=h.wN
 have eg:∀ i',(w.setCell ⟨b,i,none⟩ u).cell? ⟨g,i',none⟩=w.cell? ⟨g,i',none⟩:=fun i'=>hbt.cell (p:=⟨g,i',none⟩) (by show g < _;omega) (fun e=>hg e.symm)
 refine ⟨h.gN,h.cN,h.ne,Nat.le_trans h.wN hbt.size,(eg 0).trans h.c0,(eg 1).trans h.c1,(eg 2).trans h.c2,(eg 3).trans h.c3,(eg 4).trans h.c4,fun i'=>by rw [World.frozen?_setCell];exact h.fg i',fun i'=>by rw [World.frozen?_setCell];exact h.fc i',Eg h.nums hbt (fun ad e=>by have:=(h.nfar ad e).1;show ¬ ad.block=b;omega),h.nle,h.nmax,h.nnil,(fun ad e=>⟨(h.nfar ad e).1,Nat.lt_of_lt_of_le (h.nfar ad e).2.1 hbt.size,(h.nfar ad e).2.2⟩),Eo h.pks hbt (fun k hk=>by have:=(AX h.pks hk).1;show ¬ k=b;omega),fun i' ls hi=>?_⟩
 obtain ⟨a,cap,hc'⟩:=h.curves i' ls hi
 exact ⟨a,cap,hc'.but hbt (fun e=>hc e.symm) fun ad e=>by have:=(hc'.far ad e).1;show ¬ ad.block=b;omega⟩
end
end Go.Proofs.YtipdclphpkgceaaGreatDoor
