/- Own facts, put together: no statement of its own. -/
import Derived.Test.YtipdclphpkgceaaGreatDoorS30
import Derived.Test.YtipdclphpkgceaaGreatDoorS16
import Derived.Test.YtipdclphpkgceaaGreatDoorS28
import Derived.Test.YtipdclphpkgceaaGreatDoorS15
import Derived.Test.YtipdclphpkgceaaGreatDoorS05
import Derived.Test.YtipdclphpkgceaaGreatDoorS01
import Derived.Deep.RegionHeld3
import Derived.Deep.DeepCutAuto
import Derived.Lib.ItoaLen
import Derived.Test.YtipdclphpkgceaaGreatDoorS24
import Derived.Laws.CopyOwn
import Derived.Deep.RegionLaw
set_option maxHeartbeats 4000000
set_option maxRecDepth 100000

namespace Go.Proofs.YtipdclphpkgceaaGreatDoor
open Go.RowKit
def leL (x y:Int × Int):Bool:=decide (y.2 < x.2 ∨ (y.2=x.2 ∧ y.1 ≤ x.1))
theorem sorted_is (L:List (Int × Int)):∃ l,l.Perm L ∧ SortedL l:=by
 refine ⟨L.mergeSort leL,List.mergeSort_perm L leL,fun i j x y hij hx hy=>?_⟩
 have hp:=List.pairwise_mergeSort (le:=leL) (fun a b c h1 h2=>by simp only [leL,decide_eq_true_eq] at *;omega) (fun a b=>by simp only [leL,Bool.or_eq_true,decide_eq_true_eq];omega) L
 have:=List.pairwise_iff_getElem.1 hp i j (lt_of_get hx) (lt_of_get hy) hij
 rw [(List.getElem?_eq_some_iff.1 hx).2,(List.getElem?_eq_some_iff.1 hy).2] at this
 exact of_decide_eq_true this
theorem tidyIs_of {L R:List (Int × Int)} (h:KeptTo L L.length R):TidyIs L R:=by
 obtain ⟨l,hp,hs⟩:=sorted_is L
 exact ⟨l,hp,hs,kept_low h hp hs⟩
theorem TidyIs.one {P L L':List (Int × Int)} (h:TidyIs P L) (h':TidyIs P L'):L=L':=by
 obtain ⟨l,hp,hs,rfl⟩:=h
 obtain ⟨l',hp',hs',rfl⟩:=h'
 refine falls_same (low_falls hs) (low_falls hs') fun a=>?_
 rw [List.mem_reverse,List.mem_reverse,mem_low hp hs,mem_low hp' hs']
theorem sumWay:SumWay SumRel where
 ok:=fun la lb L h1 h2 h=>by
  rcases h with ⟨-,h,-⟩ | ⟨hok,R,⟨l,hp,hs,rfl⟩,⟨-,h,-⟩ | ⟨h6,-,rfl⟩⟩
  · omega
  · omega
  ·
   have hpos:=low_nonempty hs (by rw [hp.length_eq];exact eachL_pos h1.1 h2.1)
   refine ⟨by rw [List.length_reverse];exact hpos,h6,fun a ha=>?_⟩
   rcases lowT_sub l [] a (List.mem_reverse.1 ha) with h | h
   · cases h
   · exact hok a (hp.mem_iff.1 h)
 num:=fun la lb c L h=>by
  rcases sumRel_num h with h | h | h <;> omega
 one:=fun la lb c L c' L' _ _ h h'=>by
  rcases h with ⟨h,rfl,rfl⟩ | ⟨hok,R,ht,h⟩
  ·
   rcases h' with ⟨-,rfl,rfl⟩ | ⟨hok',-⟩
   · exact ⟨rfl,rfl⟩
   · exact absurd hok' h
  ·
   rcases h' with ⟨hn,-⟩ | ⟨-,R',ht',h'⟩
   · exact absurd hok hn
   ·
    obtain rfl:=ht.one ht'
    rcases h with ⟨h6,rfl,rfl⟩ | ⟨h6,rfl,rfl⟩
    ·
     rcases h' with ⟨-,rfl,rfl⟩ | ⟨h6',-⟩
     · exact ⟨rfl,rfl⟩
     · omega
    ·
     rcases h' with ⟨h6',-⟩ | ⟨-,rfl,rfl⟩
     · omega
     · exact ⟨rfl,rfl⟩
def DelayBy (per:Int) (L:List (Int × Int)) (o:Option Int):Prop:=(∃ d,o=some d ∧ DelayIs per L d ∧ leastR L * per ≤ 1000) ∨ (o=none ∧ 1000 < leastR L * per)
def BusyBy (per:Int) (L:List (Int × Int)) (o:Option Int):Prop:=(∃ n,o=some (per * n) ∧ BusyIs per L n) ∨ (o=none ∧ BusyNot per L)
theorem DelayIs.le {per d d':Int} {L:List (Int × Int)} (hL:okCurve L) (h1:1 ≤ per) (h:DelayIs per L d) (h':DelayIs per L d'):d ≤ d':=by
 obtain ⟨k,e,hh,-,-,-⟩:=h.at_
 obtain ⟨c0,c1⟩:=has_at L k hL hh
 have u:=h'.upper _ c0
 have m:=Int.mul_le_mul_of_nonneg_left c1 (show 0 ≤ per by omega)
 unfold waitOf at e
 omega
theorem delay_one_by (per:Int) (L:List (Int × Int)) (o o':Option Int) (hL:okCurve L) (h1:1 ≤ per) (_:per ≤ 1000) (h:DelayBy per L o) (h':DelayBy per L o'):o=o':=by
 rcases h with ⟨d,rfl,hd,hs⟩ | ⟨rfl,hs⟩
 ·
  rcases h' with ⟨d',rfl,hd',-⟩ | ⟨-,hs'⟩
  ·
   have a1:=hd.le hL h1 hd'
   have a2:=hd'.le hL h1 hd
   rw [show d=d' by omega]
  · omega
 ·
  rcases h' with ⟨d',-,-,hs'⟩ | ⟨rfl,-⟩
  · omega
  · rfl
theorem BusyIs.le {per n m:Int} {L:List (Int × Int)} (hL:okCurve L) (h1:1 ≤ per) (h:BusyIs per L n) (h':BusyIs per L m):n ≤ m:=by
 rcases Int.lt_or_le m n with hlt | hle
 ·
  rcases h.least with h2 | h2
  · have:=h'.one;omega
  ·
   have:=busy_le hL h1 h'.one (show m ≤ n - 1 by omega) h'.is_
   rw [this] at h2
   cases h2
 · exact hle
theorem busy_one_by (per:Int) (L:List (Int × Int)) (o o':Option Int) (hL:okCurve L) (h1:1 ≤ per) (_:per ≤ 1000) (h:BusyBy per L o) (h':BusyBy per L o'):o=o':=by
 rcases h with ⟨n,rfl,hn⟩ | ⟨rfl,hn⟩
 ·
  rcases h' with ⟨m,rfl,hm⟩ | ⟨-,hm⟩
  ·
   have a1:=hn.le hL h1 hm
   have a2:=hm.le hL h1 hn
   rw [show n=m by omega]
  ·
   have:=hm n hn.one hn.most
   rw [hn.is_] at this
   cases this
 ·
  rcases h' with ⟨m,-,hm⟩ | ⟨rfl,-⟩
  ·
   have:=hn m hm.one hm.most
   rw [hm.is_] at this
   cases this
  · rfl
end Go.Proofs.YtipdclphpkgceaaGreatDoor

namespace Go.Proofs.YtipdclphpkgceaaGreatDoor
open Go.Lib
structure Scr where
 cs:List (List (Int × Int))
 kb:List UInt8
 per:Int
 ns:List Int
 ps:List Pk
structure ScrOk (s:Scr):Prop where
 gate:GateOk s.cs (kindOf s.kb) s.per s.ns
 pks:OkPks s.ps
def fifoW:List UInt8:=[102,105,102,111]
def firstScr:Scr:=⟨bare8,fifoW,1,[],[]⟩
def onesW:List Int:=[1,1,1,1,1,1,1,1]
def firstNs (k:List UInt8):List Int:=if k=fifoW then [] else onesW
theorem bare8_ok:GateOk bare8 1 1 []:=⟨rfl,fun i ls _ h=>.inl (List.eq_of_mem_replicate (List.mem_of_getElem? h)),by decide,by decide,.inl ⟨rfl,.inr ⟨rfl,rfl⟩⟩⟩
theorem firstScr_ok:ScrOk firstScr:=⟨bare8_ok,okPks_none⟩
theorem KindFault.len {k:Nat} {ns:List Int} (h:KindFault k ns 0):(k=1 ∧ ns=[]) ∨ ns.length=8:=by
 rcases h with ⟨h,⟨e,-⟩ | ⟨-,e⟩⟩ | ⟨-,⟨e,-⟩ | ⟨e,-⟩ | ⟨-,h⟩⟩ | ⟨-,⟨e,-⟩ | ⟨e,-⟩ | ⟨-,h⟩⟩ | ⟨-,⟨e,-⟩ | ⟨e,-⟩ | ⟨-,h⟩⟩ | ⟨-,⟨e,-⟩ | ⟨e,-⟩ | ⟨-,h⟩⟩
 · cases e
 · exact .inl ⟨h,e⟩
 · cases e
 · cases e
 · exact .inr h.1
 · cases e
 · cases e
 · exact .inr h.1
 · cases e
 · cases e
 · exact .inr h.1
 · cases e
 · cases e
 · exact .inr h.1
def CurveTo (s:Scr) (ws:List (List UInt8)) (c:Int) (s1:Scr):Prop:=
 (flowW (ws.headD [])=none ∧ c=1 ∧ s1=s) ∨
 ∃ f,flowW (ws.headD [])=some f ∧ ((linesW ws.tail=none ∧ c=1 ∧ s1=s) ∨
  ∃ l,linesW ws.tail=some l ∧ s1={ s with cs:=s.cs.set f.toNat l } ∧ ((l=[] ∧ c=0) ∨ (l ≠ [] ∧ ∃ p,FaultIs l c p)))
def LinkTo (s:Scr) (ws:List (List UInt8)) (c:Int) (s1:Scr):Prop:=
 (ws.length ≠ 2 ∧ c=1 ∧ s1=s) ∨
 ∃ k n,ws=[k,n] ∧ ((numW n=none ∧ c=1 ∧ s1=s) ∨
  ∃ per,numW n=some per ∧ s1={ s with kb:=k,per:=per,ns:=firstNs k } ∧ ∃ d p,GateIs s.cs (kindOf k) per (firstNs k) d p ∧ ((d=9 ∧ c=1) ∨ (d ≠ 9 ∧ c=d)))
def NumbersTo (s:Scr) (ws:List (List UInt8)) (c:Int) (s1:Scr):Prop:=
 (ws.length ≠ 8 ∧ c=1 ∧ s1=s) ∨
 (ws.length=8 ∧ ((numsW ws=none ∧ c=1 ∧ s1=s) ∨ ∃ ns p,numsW ws=some ns ∧ s1={ s with ns:=ns } ∧ GateIs s.cs (kindOf s.kb) s.per ns c p))
def PacketTo (s:Scr) (ws:List (List UInt8)) (c:Int) (s1:Scr):Prop:=
 (ws.length ≠ 3 ∧ c=1 ∧ s1=s) ∨
 ∃ x y z,ws=[x,y,z] ∧ ((digitW x=none ∧ c=1 ∧ s1=s) ∨
  ∃ f,digitW x=some f ∧ ((numsW [y,z]=none ∧ c=1 ∧ s1=s) ∨
   ∃ a b p,numsW [y,z]=some [a,b] ∧ s1={ s with ps:=s.ps ++ [⟨f,a,b⟩] } ∧ PksFault (s.ps ++ [⟨f,a,b⟩]) c p))
def AtTo (s:Scr) (ws:List (List UInt8)) (c n:Int):Prop:=
 (ws.length ≠ 2 ∧ c=1) ∨
 ∃ x y,ws=[x,y] ∧ ((flowW x=none ∧ c=1) ∨
  ∃ f,flowW x=some f ∧ ((numW y=none ∧ c=1) ∨
   ∃ t p,numW y=some t ∧ FaultIs (curveFl s.cs f.toNat) c p ∧ (c=0 → n=curveAt t (curveFl s.cs f.toNat))))
def RunTo (s:Scr) (c:Int) (l:List Sn):Prop:=
 ∃ p,RunIs s.cs (kindOf s.kb) s.per s.ns s.ps c p ∧ (c=0 → ∃ qs,GateRun (curveFl s.cs) (kindOf s.kb) s.per s.ns s.ps qs l)
def lateOf (qs:List Pk) (l:List Sn):List Int:=l.map fun x=>x.fin - tickOf qs x.num.toNat
def worstOf (qs:List Pk) (l:List Sn):Int:=match lateOf qs l with | []=>0 | z :: zs=>zs.foldl max z
def WorstTo (s:Scr) (c n:Int):Prop:=
 ∃ p,RunIs s.cs (kindOf s.kb) s.per s.ns s.ps c p ∧ (c=0 → ∃ qs l,GateRun (curveFl s.cs) (kindOf s.kb) s.per s.ns s.ps qs l ∧ n=worstOf qs l)
def BoundTo (s:Scr) (c n:Int):Prop:=
 ∃ o,BoundIs SumRel DelayBy BusyBy s.cs (kindOf s.kb) s.per o ∧ ((o=none ∧ c=4) ∨ (o=some n ∧ c=0))
def clearW:List UInt8:=[99,108,101,97,114]
def runW:List UInt8:=[114,117,110]
def boundW:List UInt8:=[98,111,117,110,100]
def worstW:List UInt8:=[119,111,114,115,116]
def curveW:List UInt8:=[99,117,114,118,101]
def linkW:List UInt8:=[108,105,110,107]
def numbersW:List UInt8:=[110,117,109,98,101,114,115]
def packetW:List UInt8:=[112,97,99,107,101,116]
def atW:List UInt8:=[97,116]
def sentText (l:List Sn):List UInt8:=if l=[] then nothingText else join (l.map fun x=>sentW x.num x.beg x.fin) [32]
def Alone (s:Scr) (name:List UInt8) (c:Int) (o:List UInt8) (s1:Scr):Prop:=
 (name=clearW ∧ c=0 ∧ o=okText ∧ s1={ s with ps:=[] }) ∨
 (name=runW ∧ s1=s ∧ ∃ l,RunTo s c l ∧ (c=0 → o=sentText l)) ∨
 (name=boundW ∧ s1=s ∧ ∃ n,BoundTo s c n ∧ (c=0 → o=itoa n)) ∨
 (name=worstW ∧ s1=s ∧ ∃ n,WorstTo s c n ∧ (c=0 → o=itoa n)) ∨
 (name ≠ clearW ∧ name ≠ runW ∧ name ≠ boundW ∧ name ≠ worstW ∧ c=1 ∧ s1=s)
def WithWords (s:Scr) (name:List UInt8) (ws:List (List UInt8)) (c:Int) (o:List UInt8) (s1:Scr):Prop:=
 (name=curveW ∧ CurveTo s ws c s1 ∧ (c=0 → o=okText)) ∨
 (name=linkW ∧ LinkTo s ws c s1 ∧ (c=0 → o=okText)) ∨
 (name=numbersW ∧ NumbersTo s ws c s1 ∧ (c=0 → o=okText)) ∨
 (name=packetW ∧ PacketTo s ws c s1 ∧ (c=0 → o=okText)) ∨
 (name=atW ∧ s1=s ∧ ∃ n,AtTo s ws c n ∧ (c=0 → o=itoa n)) ∨
 (name ≠ curveW ∧ name ≠ linkW ∧ name ≠ numbersW ∧ name ≠ packetW ∧ name ≠ atW ∧ c=1 ∧ s1=s)
def Obeys (s:Scr) (line:List UInt8) (c:Int) (o:List UInt8) (s1:Scr):Prop:=
 ((cut line [32]).2.2=true ∧ WithWords s (cut line [32]).1 (split (cut line [32]).2.1 [32]) c o s1) ∨
 ((cut line [32]).2.2=false ∧ Alone s (cut line [32]).1 c o s1)
def Says (s:Scr) (line out:List UInt8) (s':Scr):Prop:=
 ∃ c o s1,Obeys s line c o s1 ∧ ((c=0 ∧ out=o ∧ s'=s1) ∨ (0 < c ∧ out=errText c ∧ s'=s))
def SaysAll:Scr → List (List UInt8) → List (List UInt8) → Scr → Prop
 | s,[],outs,s'=>outs=[] ∧ s'=s
 | s,x :: xs,outs,s'=>∃ o s1 rest,Says s x o s1 ∧ SaysAll s1 xs rest s' ∧ outs=o :: rest
theorem saysAll_snoc:∀ {s:Scr} {xs outs:List (List UInt8)} {s1:Scr} {x o:List UInt8} {s2:Scr},SaysAll s xs outs s1 → Says s1 x o s2 → SaysAll s (xs ++ [x]) (outs ++ [o]) s2
 | s,[],outs,s1,x,o,s2,h,k=>by
  obtain ⟨rfl,rfl⟩:=h
  exact ⟨o,s2,[],k,⟨rfl,rfl⟩,rfl⟩
 | s,y :: ys,outs,s1,x,o,s2,h,k=>by
  obtain ⟨o1,t,rest,h1,h2,rfl⟩:=h
  exact ⟨o1,t,rest ++ [o],h1,saysAll_snoc h2 k,rfl⟩
theorem saysAll_length:∀ {s:Scr} {xs outs:List (List UInt8)} {s':Scr},SaysAll s xs outs s' → outs.length=xs.length
 | s,[],outs,s',h=>by simp [h.1]
 | s,x :: xs,outs,s',h=>by
  obtain ⟨o,s1,rest,h1,h2,rfl⟩:=h
  simp [saysAll_length h2]
end Go.Proofs.YtipdclphpkgceaaGreatDoor

namespace Go.Proofs.YtipdclphpkgceaaGreatDoor
open Go.RowKit
theorem saySent_err (la:Option Addr) (n lcap:Nat) (ty:TypeId) (v:Value) (w:World) :
  Calls Tryz.prog 43 #[.slice la n lcap,.iface ty v] w fun e w'=>e=.returned (.tuple #[strW [],.iface ty v]) ∧ w'=w:=by
 go_enter Tryz.func43,Tryz.ntmps43
 go_wp2
 go_ret2
 exact ⟨rfl,rfl⟩
theorem saySent_none (la:Option Addr) (lcap:Nat) (w:World) :
  Calls Tryz.prog 43 #[.slice la 0 lcap,.nilIface] w fun e w'=>e=.returned (.tuple #[strW nothingText,.nilIface]) ∧ w'=w:=by
 go_enter Tryz.func43,Tryz.ntmps43
 go_wp2
 go_ret2
 exact ⟨rfl,rfl⟩
theorem Tryz.infoStr:(Tryz.prog.info? 9).map (fun i=>(i.zero,i.size,i.bytes))=some (some (.string ByteArray.empty),1,16):=by kernel_rfl
theorem make_strs (n:Nat) (hn:n ≤ 1000) (w':World):(Instr.makeSlice 22 (.int .i64 n) (.int .i64 n)).run Tryz.prog w'=.ok (.slice (some ⟨w'.heap.size,0,none⟩) n n) (w'.alloc (.cells (madeCells #[.string ByteArray.empty] n) 9)):=by
 obtain ⟨i0,hi,hz0,hz1,hz2⟩:=info_parts Tryz.infoStr
 have:=run_make (P:=Tryz.prog) w' 22 9 i0 (.string ByteArray.empty) Tryz.underlying22 hi hz0 .i64 .i64 n n (by omega) (by omega) (by rw [hz2];omega) (by omega)
 simpa [hz1,Value.cells] using this
def wordsF (xs:List (List UInt8)) (j:Nat):Value:=strW (xs.getD j [])
theorem wordsF_put (xs:List (List UInt8)) (x:List UInt8):putV (wordsF xs) xs.length (strW x)=wordsF (xs ++ [x]):=by
 funext i
 unfold putV wordsF
 by_cases h:i=xs.length
 · subst h;simp
 ·
  rw [if_neg h]
  rcases Nat.lt_or_ge i xs.length with h' | h'
  · simp [List.getElem?_append_left h']
  · simp [List.getElem?_eq_none h',List.getElem?_eq_none (show (xs ++ [x]).length ≤ i by simp;omega)]
def InInts (l:List Sn):Prop:=∀ x ∈ l,∀ z,z=x.num ∨ z=x.beg ∨ z=x.fin → -9223372036854775808 ≤ z ∧ z ≤ 9223372036854775807
theorem cat_is (x y:List UInt8) (hx:x.length ≤ 1000) (hy:y.length ≤ 1000) (W:World):(Op.stringOp .add ⟨x.toArray⟩ ⟨y.toArray⟩).run Tryz.prog W=.ok (strW (x ++ y)) W:=
 run_string_add_lists W x y (by omega) (by omega)
theorem join_len (l:List Sn) (hl:InInts l) (h:l.length ≤ 1000):(Go.Lib.join (l.map fun x=>sentW x.num x.beg x.fin) [32]).length ≤ 140737488355328:=by
 have each:∀ x ∈ l,(sentW x.num x.beg x.fin).length ≤ 100:=fun x hx=>by
  have h1:=Go.Lib.itoa_length_le x.num (hl x hx _ (.inl rfl)).1 (hl x hx _ (.inl rfl)).2
  have h2:=Go.Lib.itoa_length_le x.beg (hl x hx _ (.inr (.inl rfl))).1 (hl x hx _ (.inr (.inl rfl))).2
  have h3:=Go.Lib.itoa_length_le x.fin (hl x hx _ (.inr (.inr rfl))).1 (hl x hx _ (.inr (.inr rfl))).2
  simp [sentW]
  omega
 have key:∀ r:List Sn,(∀ x ∈ r,(sentW x.num x.beg x.fin).length ≤ 100) → (Go.Lib.joinTail [32] (r.map fun x=>sentW x.num x.beg x.fin)).length ≤ 101 * r.length:=by
  intro r
  induction r with
  | nil=>intro _;simp [Go.Lib.joinTail]
  | cons y r ih=>
   intro h
   have h1:=ih fun x hx=>h x (List.mem_cons_of_mem _ hx)
   have h2:=h y List.mem_cons_self
   simp only [Go.Lib.joinTail,List.map_cons,List.flatten_cons,List.length_append,List.length_cons,List.length_nil] at h1 ⊢
   omega
 cases l with
 | nil=>simp [Go.Lib.join_nil]
 | cons y r=>
  rw [List.map_cons,Go.Lib.join_cons,List.length_append]
  have h1:=key r fun x hx=>each x (List.mem_cons_of_mem _ hx)
  have h2:=each y List.mem_cons_self
  simp at h
  omega
theorem joinWords {wr:World} {G k:Nat} {l:List Sn} (hv:ValsAt wr G k (wordsF (l.map fun x=>sentW x.num x.beg x.fin))) (hk:l.length=k) (hn:k ≤ 1000) (hr:InInts l) :
  Calls Tryz.prog 80 #[.slice (some ⟨G,0,none⟩) k k,.string ⟨#[32]⟩] wr fun e w'=>e=.returned (strW (Go.Lib.join (l.map fun x=>sentW x.num x.beg x.fin) [32])) ∧ Below wr.heap.size wr w':=by
 have hj:=join_len l hr (by rw [hk];exact hn)
 obtain ⟨xs,hxs⟩:∃ xs,(l.map fun x=>sentW x.num x.beg x.fin)=xs:=⟨_,rfl⟩
 have hl:xs.length=k:=by rw [← hxs,List.length_map,hk]
 rw [hxs] at hv hj ⊢
 have:=join_is G 0 k xs wr (fun i y hi=>by
  have hil:=lt_of_get hi
  rw [Nat.zero_add,hv.cell i (by omega)]
  unfold wordsF
  rw [List.getD_eq_getElem?_getD,hi]
  rfl) hv.lt (by omega) (by omega) hj
 rw [hl] at this
 exact this
theorem saySent_is (la:Option Addr) (lcap:Nat) (l:List Sn) (w:World) (hl:LiesS w la l) (h0:1 ≤ l.length) (hn:l.length ≤ 1000) (hi:ItoaOk w) (hr:InInts l) :
  Calls Tryz.prog 43 #[.slice la l.length lcap,.nilIface] w fun e w'=>e=.returned (.tuple #[strW (Go.Lib.join (l.map fun x=>sentW x.num x.beg x.fin) [32]),.nilIface]) ∧ Below w.heap.size w w':=by
 obtain ⟨b,off,rfl,-,hcell⟩:=hl.place h0
 have HC:Hid (∀ (i:Nat) x,l[i]? = some x → w.cell? ⟨b,off+i * 3,none⟩=some (.int .i64 x.num) ∧ w.cell? ⟨b,off+i * 3+1,none⟩=some (.int .i64 x.beg) ∧ w.cell? ⟨b,off+i * 3+2,none⟩=some (.int .i64 x.fin)):=hcell
 have HI:Hid (ItoaOk w):=hi
 have HR:Hid (InInts l):=hr
 obtain ⟨n,hnn⟩:∃ n,l.length=n:=⟨_,rfl⟩
 have HN:Hid (l.length=n):=hnn
 rw [hnn] at h0 hn ⊢
 have hmk:=make_strs n hn
 have hb1:Below w.heap.size w (w.alloc (.cells (madeCells #[.string ByteArray.empty] n) 9)):=(Below.refl _ _).alloc (Nat.le_refl _) _
 have hv1:ValsAt (w.alloc (.cells (madeCells #[.string ByteArray.empty] n) 9)) w.heap.size n (wordsF []):=vals_made w n (.string ByteArray.empty) 9
 obtain ⟨V,hV⟩:∃ V,w.alloc (.cells (madeCells #[.string ByteArray.empty] n) 9)=V:=⟨_,rfl⟩
 rw [hV] at hb1 hv1
 obtain ⟨G,hG⟩:∃ G,w.heap.size=G:=⟨_,rfl⟩
 have HG:Hid (w.heap.size=G):=hG
 have hmk1:(Instr.makeSlice 22 (.int .i64 n) (.int .i64 n)).run Tryz.prog w=.ok (.slice (some ⟨G,0,none⟩) n n) V:=by rw [hmk w,hV,hG]
 rw [hG] at hv1
 have HV:Hid (Below w.heap.size w V ∧ ValsAt V G n (wordsF [])):=⟨hb1,hv1⟩
 have dn:((n:Int) == 0)=false:=by simp;omega
 clear hl hcell hi hr hb1 hv1 hV hmk hG hnn
 go_enter Tryz.func43,Tryz.ntmps43
 go_wp2_with fail
 go_loopw [20] (fun i wr=>∃ k:Nat,k ≤ n ∧ i=.int .i64 k ∧ Below w.heap.size w wr ∧ ValsAt wr G n (wordsF ((l.take k).map fun x=>sentW x.num x.beg x.fin))) (fun i _=>n - (intOf i).toNat)
 case atStart=>exact ⟨0,Nat.zero_le _,rfl,HV.out.1,HV.out.2⟩
 case round=>
  obtain ⟨k,hk,rfl,hb,hv⟩:=hrel
  by_cases hkn:k < n
  ·
   obtain ⟨x,hx,hxm⟩:=get_some l k (by rw [HN.out];exact hkn)
   obtain ⟨c0,c1,c2⟩:=HC.out k x hx
   have d0:=cell_later hb c0
   have d1:=cell_later hb c1
   have d2:=cell_later hb c2
   have HIn:Hid (∀ z,z=x.num ∨ z=x.beg ∨ z=x.fin → -9223372036854775808 ≤ z ∧ z ≤ 9223372036854775807):=HR.out x hxm
   have hts:(l.take (k+1)).map (fun x=>sentW x.num x.beg x.fin)=(l.take k).map (fun x=>sentW x.num x.beg x.fin) ++ [sentW x.num x.beg x.fin]:=by rw [List.take_add_one,hx];simp
   have hlen:((l.take k).map fun x=>sentW x.num x.beg x.fin).length=k:=by rw [List.length_map,List.length_take,HN.out];omega
   have HW:Hid (Below w.heap.size w wr ∧ ValsAt wr G n (wordsF ((l.take k).map fun x=>sentW x.num x.beg x.fin))):=⟨hb,hv⟩
   have hsw:sentW x.num x.beg x.fin=Go.Lib.itoa x.num ++ [58] ++ Go.Lib.itoa x.beg ++ [45] ++ Go.Lib.itoa x.fin:=by unfold sentW;rfl
   obtain ⟨xs,hxs⟩:∃ xs,(l.take k).map (fun x=>sentW x.num x.beg x.fin)=xs:=⟨_,rfl⟩
   obtain ⟨x1,hx1⟩:∃ x1,sentW x.num x.beg x.fin=x1:=⟨_,rfl⟩
   rw [hxs] at hts hlen HW
   rw [hx1] at hts hsw
   obtain ⟨pn,hpn⟩:∃ z,x.num=z:=⟨_,rfl⟩
   obtain ⟨pf,hpf⟩:∃ z,x.beg=z:=⟨_,rfl⟩
   obtain ⟨pt,hpt⟩:∃ z,x.fin=z:=⟨_,rfl⟩
   rw [hpn] at d0 HIn hsw
   rw [hpf] at d1 HIn hsw
   rw [hpt] at d2 HIn hsw
   have HTs:Hid ((l.take (k+1)).map (fun x=>sentW x.num x.beg x.fin)=xs ++ [x1] ∧ xs.length=k ∧ x1=Go.Lib.itoa pn ++ [58] ++ Go.Lib.itoa pf ++ [45] ++ Go.Lib.itoa pt):=⟨hts,hlen,hsw⟩
   clear hb hv c0 c1 c2 hx hxm hts hlen hsw hxs hx1 hpn hpf hpt
   have hl1:=Go.Lib.itoa_length_le pn (HIn.out _ (.inl rfl)).1 (HIn.out _ (.inl rfl)).2
   have hl2:=Go.Lib.itoa_length_le pf (HIn.out _ (.inr (.inl rfl))).1 (HIn.out _ (.inr (.inl rfl))).2
   have hl3:=Go.Lib.itoa_length_le pt (HIn.out _ (.inr (.inr rfl))).1 (HIn.out _ (.inr (.inr rfl))).2
   have HIt:Hid (∀ z W,(z=pn ∨ z=pf ∨ z=pt) → Below wr.heap.size wr W → Calls Tryz.prog 79 #[.int .i64 z] W fun e w'=>e=.returned (.string ⟨(Go.Lib.itoa z).toArray⟩) ∧ Below W.heap.size W w'):=fun z W hz hW=>HI.out W (HW.out.1.trans (hW.mono HW.out.1.size)) z (HIn.out z hz).1 (HIn.out z hz).2
   obtain ⟨s1,hs1⟩:∃ s1,Go.Lib.itoa pn=s1:=⟨_,rfl⟩
   obtain ⟨s2,hs2⟩:∃ s2,Go.Lib.itoa pf=s2:=⟨_,rfl⟩
   obtain ⟨s3,hs3⟩:∃ s3,Go.Lib.itoa pt=s3:=⟨_,rfl⟩
   have HI1:Hid (∀ W,Below wr.heap.size wr W → Calls Tryz.prog 79 #[.int .i64 pn] W fun e w'=>e=.returned (.string ⟨s1.toArray⟩) ∧ Below W.heap.size W w'):=fun W hW=>by rw [← hs1];exact HIt.out pn W (.inl rfl) hW
   have HI2:Hid (∀ W,Below wr.heap.size wr W → Calls Tryz.prog 79 #[.int .i64 pf] W fun e w'=>e=.returned (.string ⟨s2.toArray⟩) ∧ Below W.heap.size W w'):=fun W hW=>by rw [← hs2];exact HIt.out pf W (.inr (.inl rfl)) hW
   have HI3:Hid (∀ W,Below wr.heap.size wr W → Calls Tryz.prog 79 #[.int .i64 pt] W fun e w'=>e=.returned (.string ⟨s3.toArray⟩) ∧ Below W.heap.size W w'):=fun W hW=>by rw [← hs3];exact HIt.out pt W (.inr (.inr rfl)) hW
   rw [hs1] at hl1 HTs
   rw [hs2] at hl2 HTs
   rw [hs3] at hl3 HTs
   have k1:=cat_is s1 [58] (by omega) (by decide)
   have k2:=cat_is (s1 ++ [58]) s2 (by simp;omega) (by omega)
   have k3:=cat_is (s1 ++ [58] ++ s2) [45] (by simp;omega) (by decide)
   have k4:=cat_is (s1 ++ [58] ++ s2 ++ [45]) s3 (by simp;omega) (by omega)
   obtain ⟨t1,ht1⟩:∃ t,s1 ++ [58]=t:=⟨_,rfl⟩
   rw [ht1] at k1 k2 k3 k4 HTs
   obtain ⟨t2,ht2⟩:∃ t,t1 ++ s2=t:=⟨_,rfl⟩
   rw [ht2] at k2 k3 k4 HTs
   obtain ⟨t3,ht3⟩:∃ t,t2 ++ [45]=t:=⟨_,rfl⟩
   rw [ht3] at k3 k4 HTs
   obtain ⟨t4,ht4⟩:∃ t,t3 ++ s3=t:=⟨_,rfl⟩
   rw [ht4] at k4 HTs
   clear hl1 hl2 hl3 hs1 hs2 hs3 ht1 ht2 ht3 ht4 HIt HIn
   go_wp2_with fail
   have hb1:Below wr.heap.size wr (wr.alloc (.cells #[.int .i64 pn,.int .i64 pf,.int .i64 pt] 69)):=(Below.refl _ _).alloc (Nat.le_refl _) _
   have hx1:(wr.alloc (.cells #[.int .i64 pn,.int .i64 pf,.int .i64 pt] 69)).cell? ⟨wr.heap.size,0,none⟩=some (.int .i64 pn) ∧ (wr.alloc (.cells #[.int .i64 pn,.int .i64 pf,.int .i64 pt] 69)).cell? ⟨wr.heap.size,1,none⟩=some (.int .i64 pf) ∧ (wr.alloc (.cells #[.int .i64 pn,.int .i64 pf,.int .i64 pt] 69)).cell? ⟨wr.heap.size,2,none⟩=some (.int .i64 pt):=⟨by simp,by simp,by simp⟩
   obtain ⟨V1,hV1⟩:∃ V1,wr.alloc (.cells #[.int .i64 pn,.int .i64 pf,.int .i64 pt] 69)=V1:=⟨_,rfl⟩
   rw [hV1] at hb1 hx1 ⊢
   obtain ⟨X,hX⟩:∃ X,wr.heap.size=X:=⟨_,rfl⟩
   have HX:Hid (wr.heap.size=X ∧ G < X):=⟨hX,by rw [← hX];exact HW.out.2.lt⟩
   rw [hX] at hx1 ⊢
   have HSb:Hid (∀ W,Below V1.heap.size V1 W → W.cell? ⟨X,0,none⟩=some (.int .i64 pn) ∧ W.cell? ⟨X,1,none⟩=some (.int .i64 pf) ∧ W.cell? ⟨X,2,none⟩=some (.int .i64 pt)):=fun W hW=>⟨cell_later hW hx1.1,cell_later hW hx1.2.1,cell_later hW hx1.2.2⟩
   have HV1:Hid (Below wr.heap.size wr V1):=hb1
   have HG1:Hid (∀ W,Below V1.heap.size V1 W → ∃ u,W.cell? ⟨G,k,none⟩=some u ∧ W.frozen? ⟨G,k,none⟩=false):=fun W hW=>by
    have hv:=(HW.out.2.below HV1.out).below hW
    exact ⟨_,hv.cell k hkn,hv.frozen k⟩
   have HB:Hid (Below V1.heap.size V1 V1.drew):=below_drewN (Below.refl _ _) 1
   have HSs:Hid (∀ W,Below V1.heap.size V1 W → (W.setCell ⟨G,k,none⟩ (strW t4)).cell? ⟨X,0,none⟩=some (.int .i64 pn) ∧ (W.setCell ⟨G,k,none⟩ (strW t4)).cell? ⟨X,1,none⟩=some (.int .i64 pf) ∧ (W.setCell ⟨G,k,none⟩ (strW t4)).cell? ⟨X,2,none⟩=some (.int .i64 pt)):=fun W hW=>by
    have hne:=HX.out.2
    rw [World.cell?_setCell_other _ _ _ _ (fun e=>by injection e with e;omega),World.cell?_setCell_other _ _ _ _ (fun e=>by injection e with e;omega),World.cell?_setCell_other _ _ _ _ (fun e=>by injection e with e;omega)]
    exact HSb.out W hW
   have hS:=HSb.out _ HB.out
   clear hb1 hx1 hV1 hX d0 d1 d2
   go_region_held3 (fun w'=>w'.cell? ⟨X,0,none⟩=some (.int .i64 pn) ∧ w'.cell? ⟨X,1,none⟩=some (.int .i64 pf) ∧ w'.cell? ⟨X,2,none⟩=some (.int .i64 pt))
    (first | exact hS | exact HSs.out _ HB.out)
    (first
    | (go_at_call 79;refine (HI1.out _ (HV1.out.trans (HB.out.mono HV1.out.size))).mono ?_;rintro e w6 ⟨rfl,hb6⟩;have HB:Hid (Below V1.heap.size V1 w6):=HB.out.trans (hb6.mono HB.out.size);have hS:=HSb.out _ HB.out;obtain ⟨u6,hu6,hf6⟩:=HG1.out _ HB.out;clear hb6)
    | (go_at_call 79;refine (HI2.out _ (HV1.out.trans (HB.out.mono HV1.out.size))).mono ?_;rintro e w6 ⟨rfl,hb6⟩;have HB:Hid (Below V1.heap.size V1 w6):=HB.out.trans (hb6.mono HB.out.size);have hS:=HSb.out _ HB.out;obtain ⟨u6,hu6,hf6⟩:=HG1.out _ HB.out;clear hb6)
    | (go_at_call 79;refine (HI3.out _ (HV1.out.trans (HB.out.mono HV1.out.size))).mono ?_;rintro e w6 ⟨rfl,hb6⟩;have HB:Hid (Below V1.heap.size V1 w6):=HB.out.trans (hb6.mono HB.out.size);have hS:=HSb.out _ HB.out;obtain ⟨u6,hu6,hf6⟩:=HG1.out _ HB.out;clear hb6))
   have HNx:Hid (Below w.heap.size w (w6.setCell ⟨G,k,none⟩ (.string ⟨t4.toArray⟩)) ∧ ValsAt (w6.setCell ⟨G,k,none⟩ (.string ⟨t4.toArray⟩)) G n (wordsF ((l.take (k+1)).map fun x=>sentW x.num x.beg x.fin))):=by
    have hb6:=HV1.out.trans (HB.out.mono HV1.out.size)
    obtain ⟨q1,q2,q3⟩:=HTs.out
    refine ⟨below_store (HW.out.1.trans (hb6.mono HW.out.1.size)) (by show w.heap.size ≤ G;rw [HG.out];exact Nat.le_refl _) _,?_⟩
    rw [q1,← wordsF_put,q2,q3]
    exact (HW.out.2.below hb6).put hkn _
   obtain ⟨V2,hV2⟩:∃ V2,w6.setCell ⟨G,k,none⟩ (.string ⟨t4.toArray⟩)=V2:=⟨_,rfl⟩
   rw [hV2] at HNx ⊢
   clear hV2 hS hu6 hf6 HB HSs HSb HG1 HV1 HX HI1 HI2 HI3 k1 k2 k3 k4 HTs HW
   go_wp2_with fail
   go_roundw
   case rel=>exact ⟨k+1,by omega,by go_num,HNx.out.1,HNx.out.2⟩
   case measure=>simp [intOf];omega
  ·
   obtain rfl:k=n:=by omega
   rw [show l.take k=l by rw [← HN.out,List.take_length]] at hv
   have HE:Hid (Below w.heap.size w wr):=hb
   have HJ:Hid (Calls Tryz.prog 80 #[.slice (some ⟨G,0,none⟩) k k,.string ⟨#[32]⟩] wr fun e w'=>e=.returned (strW (Go.Lib.join (l.map fun x=>sentW x.num x.beg x.fin) [32])) ∧ Below wr.heap.size wr w'):=joinWords hv HN.out hn HR.out
   clear hv hb
   go_wp2_with fail
   refine HJ.out.mono ?_
   rintro e w1 ⟨rfl,hb1⟩
   have HE1:Hid (Below w.heap.size w w1):=HE.out.trans (hb1.mono HE.out.size)
   clear hb1
   go_wp2_with fail
   go_ret2
   exact ⟨rfl,HE1.out⟩
end Go.Proofs.YtipdclphpkgceaaGreatDoor

namespace Go.Proofs.YtipdclphpkgceaaGreatDoor
open Go.RowKit Go.Shelf
def onesTo (k:Nat):List Value:=List.replicate k (.int .i64 1) ++ List.replicate (8 - k) (.int .i64 0)
theorem Tryz.sizeInt1:(Tryz.prog.info? 3).map (·.size)=some 1:=by kernel_rfl
theorem mul8 (w:World):Calls Tryz.prog 153 #[.int .u64 1,.int .u64 8] w fun e w'=>e=.returned (.tuple #[.int .u64 0,.int .u64 8]) ∧ w'=w:=
 Any.bits_Mul Tryz.lays212 1 8 (by decide) (by decide) w
theorem copyRow {g o dl dc:Nat} {a:Addr} {sl sc:Nat} {cur cs next:List Value} (W:World) (hg:W.heap[g]? = some (.cells cur.toArray 3 (0,0))) (hn:cs.length=Nat.min sl dl) (hs:∀ j v,cs[j]? = some v → W.cell? (a.add j)=some v) (hf:o+cs.length ≤ cur.length) (h1:∀ v ∈ cs,v.oneCell'=true)
  (hx:cur.take o ++ cs ++ cur.drop (o+cs.length)=next) {B:Nat} {w:World} (hb:Below B w W) (hB:B ≤ g) :
  ∃ V,(Builtin.copy_ #[32,32] 3 #[.slice (some ⟨g,o,none⟩) dl dc,.slice (some a) sl sc]).run Tryz.prog W=.ok (.int .i64 cs.length) V ∧ V.heap[g]? = some (.cells next.toArray 3 (0,0)) ∧ Below B w V:=by
 have:=run_copy_row (P:=Tryz.prog) W 32 32 3 3 g o dl dc a sl sc cur.toArray 3 cs Tryz.underlying32 Tryz.sizeInt1 hg hn hs (by simpa using hf) h1
 refine ⟨_,this,?_,below_setRow hb hB _⟩
 rw [← hx]
 exact setRow_heap W g _ _ 3 _ hg
theorem copySelf {k G:Nat} (hk:k=1 ∨ k=2 ∨ k=4) (W:World) (hg:W.heap[G]? = some (.cells (onesTo k).toArray 3 (0,0))) {B:Nat} {w:World} (hb:Below B w W) (hB:B ≤ G) :
  ∃ V,(Builtin.copy_ #[32,32] 3 #[.slice (some ⟨G,k,none⟩) (8 - k) (8 - k),.slice (some ⟨G,0,none⟩) k 8]).run Tryz.prog W=.ok (.int .i64 k) V ∧ V.heap[G]? = some (.cells (onesTo (k+k)).toArray 3 (0,0)) ∧ Below B w V:=by
 have hl:(List.replicate k (Value.int .i64 1)).length=k:=by simp
 have:=copyRow (o:=k) (dl:=8 - k) (dc:=8 - k) (a:=⟨G,0,none⟩) (sl:=k) (sc:=8) (cs:=List.replicate k (Value.int .i64 1)) (next:=onesTo (k+k)) W hg (by rw [hl];rcases hk with rfl | rfl | rfl <;> rfl) (fun j v hj=>by
  have hj':=lt_of_get hj
  rw [hl] at hj'
  have hv:v=.int .i64 1:=List.eq_of_mem_replicate (List.mem_of_getElem? hj)
  subst hv
  rw [Addr.add_lit,cell_of_row W G _ _ _ _ hg]
  unfold onesTo
  rw [List.getElem?_toArray,List.getElem?_append_left (by simp;omega),List.getElem?_replicate,if_pos (by omega)]) (by rw [hl];rcases hk with rfl | rfl | rfl <;> decide) (fun v hv=>by rw [List.eq_of_mem_replicate hv];rfl) (by rcases hk with rfl | rfl | rfl <;> rfl) hb hB
 rw [hl] at this
 exact this
theorem repeat_ones (b:Nat) (w:World) (hc:w.cell? ⟨b,0,none⟩=some (.int .i64 1)) :
  Calls Tryz.prog 129 #[.slice (some ⟨b,0,none⟩) 1 1,.int .i64 8] w fun e w'=>∃ G,e=.returned (.slice (some ⟨G,0,none⟩) 8 8) ∧ w.heap.size ≤ G ∧ LiesN w' (some ⟨G,0,none⟩) [1,1,1,1,1,1,1,1] ∧ Below w.heap.size w w':=by
 have hmk:=make_intsN 8 (by decide)
 have hb1:Below w.heap.size w (w.alloc (.cells (madeCells #[.int .i64 0] 8) 3)):=(Below.refl _ _).alloc (Nat.le_refl _) _
 have hc1:(w.alloc (.cells (madeCells #[.int .i64 0] 8) 3)).cell? ⟨b,0,none⟩=some (.int .i64 1):=cell_later hb1 hc
 have hg1:(w.alloc (.cells (madeCells #[.int .i64 0] 8) 3)).heap[w.heap.size]? = some (.cells (onesTo 0).toArray 3 (0,0)):=by
  have e:madeCells #[.int .i64 0] 8=(onesTo 0).toArray:=by
   apply Array.toList_inj.1
   rw [toList_madeCells_one]
   rfl
  rw [heap_alloc_new,e]
 obtain ⟨V,hV⟩:∃ V,w.alloc (.cells (madeCells #[.int .i64 0] 8) 3)=V:=⟨_,rfl⟩
 rw [hV] at hb1 hc1 hg1
 obtain ⟨G,hG⟩:∃ G,w.heap.size=G:=⟨_,rfl⟩
 rw [hG] at hg1
 have hmk1:(Instr.makeSlice 32 (.int .i64 8) (.int .i64 8)).run Tryz.prog w=.ok (.slice (some ⟨G,0,none⟩) 8 8) V:=by
  have:=hmk w
  rw [hV,hG] at this
  exact this
 have HV:Hid (Below w.heap.size w V ∧ V.cell? ⟨b,0,none⟩=some (.int .i64 1) ∧ V.heap[G]? = some (.cells (onesTo 0).toArray 3 (0,0))):=⟨hb1,hc1,hg1⟩
 have HG:Hid (w.heap.size ≤ G):=by show _ ≤ _;omega
 obtain ⟨V2,hcp,hg2,hb2⟩:=copyRow (g:=G) (o:=0) (dl:=8) (dc:=8) (a:=⟨b,0,none⟩) (sl:=1) (sc:=1) (cs:=[Value.int .i64 1]) (next:=onesTo 1) V HV.out.2.2 rfl (fun j v hj=>by
  have hj':=lt_of_get hj
  obtain rfl:j=0:=by simpa using hj'
  obtain rfl:v=.int .i64 1:=by simpa using hj.symm
  exact HV.out.2.1) (by decide) (by simp [Value.oneCell']) rfl HV.out.1 HG.out
 have HR:Hid (V2.heap[G]? = some (.cells (onesTo 1).toArray 3 (0,0)) ∧ Below w.heap.size w V2):=⟨hg2,hb2⟩
 have HM:Hid (Calls Tryz.prog 153 #[.int .u64 1,.int .u64 8] w fun e w'=>e=.returned (.tuple #[.int .u64 0,.int .u64 8]) ∧ w'=w):=mul8 w
 clear hb1 hc1 hg1 hV hmk hc hG hg2 hb2
 go_enter Tryz.func129,Tryz.ntmps129
 go_wp2_with fail
 refine HM.out.mono ?_
 rintro e w1 ⟨rfl,hw1⟩
 rw [hw1]
 clear hw1
 go_wp2_with fail
 go_loopw [8] (fun n wr=>∃ k:Nat,(k=1 ∨ k=2 ∨ k=4 ∨ k=8) ∧ n=.int .i64 k ∧ wr.heap[G]? = some (.cells (onesTo k).toArray 3 (0,0)) ∧ Below w.heap.size w wr) (fun n _=>8 - (intOf n).toNat)
 case atStart=>exact ⟨1,.inl rfl,rfl,HR.out.1,HR.out.2⟩
 case round=>
  obtain ⟨k,hk,rfl,hg,hb⟩:=hrel
  rcases hk with rfl | rfl | rfl | rfl
  ·
   obtain ⟨V3,hcp0,hg3,hb3⟩:=copySelf (k:=1) (G:=G) (.inl rfl) wr.drew hg (w:=w) (B:=w.heap.size) hb.drew HG.out
   have HR3:Hid (V3.heap[G]? = some (.cells (onesTo 2).toArray 3 (0,0)) ∧ Below w.heap.size w V3):=⟨hg3,hb3⟩
   have hcp3:(Builtin.copy_ #[32,32] 3 #[.slice (some ⟨G,1,none⟩) 7 7,.slice (some ⟨G,0,none⟩) 1 8]).run Tryz.prog wr.drew=.ok (.int .i64 1) V3:=hcp0
   clear hg hb hg3 hb3 hcp hcp0
   go_wp2_with fail
   go_region
   go_wp2_with fail
   go_roundw
   case rel=>exact ⟨2,.inr (.inl rfl),rfl,HR3.out.1,HR3.out.2⟩
   case measure=>simp [intOf]
  ·
   obtain ⟨V3,hcp0,hg3,hb3⟩:=copySelf (k:=2) (G:=G) (.inr (.inl rfl)) wr.drew hg (w:=w) (B:=w.heap.size) hb.drew HG.out
   have HR3:Hid (V3.heap[G]? = some (.cells (onesTo 4).toArray 3 (0,0)) ∧ Below w.heap.size w V3):=⟨hg3,hb3⟩
   have hcp3:(Builtin.copy_ #[32,32] 3 #[.slice (some ⟨G,2,none⟩) 6 6,.slice (some ⟨G,0,none⟩) 2 8]).run Tryz.prog wr.drew=.ok (.int .i64 2) V3:=hcp0
   clear hg hb hg3 hb3 hcp hcp0
   go_wp2_with fail
   go_region
   go_wp2_with fail
   go_roundw
   case rel=>exact ⟨4,.inr (.inr (.inl rfl)),rfl,HR3.out.1,HR3.out.2⟩
   case measure=>simp [intOf]
  ·
   obtain ⟨V3,hcp0,hg3,hb3⟩:=copySelf (k:=4) (G:=G) (.inr (.inr rfl)) wr.drew hg (w:=w) (B:=w.heap.size) hb.drew HG.out
   have HR3:Hid (V3.heap[G]? = some (.cells (onesTo 8).toArray 3 (0,0)) ∧ Below w.heap.size w V3):=⟨hg3,hb3⟩
   have hcp3:(Builtin.copy_ #[32,32] 3 #[.slice (some ⟨G,4,none⟩) 4 4,.slice (some ⟨G,0,none⟩) 4 8]).run Tryz.prog wr.drew=.ok (.int .i64 4) V3:=hcp0
   clear hg hb hg3 hb3 hcp hcp0
   go_wp2_with fail
   go_region
   go_wp2_with fail
   go_roundw
   case rel=>exact ⟨8,.inr (.inr (.inr rfl)),rfl,HR3.out.1,HR3.out.2⟩
   case measure=>simp [intOf]
  ·
   have HE:Hid (∃ G',Ending.returned (.slice (some ⟨G,0,none⟩) 8 8)=.returned (.slice (some ⟨G',0,none⟩) 8 8) ∧ w.heap.size ≤ G' ∧ LiesN wr (some ⟨G',0,none⟩) [1,1,1,1,1,1,1,1] ∧ Below w.heap.size w wr):=by
    refine ⟨G,rfl,HG.out,.inr ⟨G,0,rfl,?_,fun i x hi=>?_⟩,hb⟩
    ·
     rcases Nat.lt_or_ge G wr.heap.size with h' | h'
     · exact h'
     · rw [Array.getElem?_eq_none h'] at hg;cases hg
    ·
     have hx:x=1:=by
      have:=List.mem_of_getElem? hi
      simpa using this
     have hi8:=lt_of_get hi
     rw [cell_of_row wr G _ _ _ _ hg,Nat.zero_add,hx]
     unfold onesTo
     rw [List.getElem?_toArray,List.getElem?_append_left (by simpa using hi8),List.getElem?_replicate,if_pos (by simpa using hi8)]
   clear hg hb hcp
   go_wp2_with fail
   go_ret
   exact HE.out
end Go.Proofs.YtipdclphpkgceaaGreatDoor
