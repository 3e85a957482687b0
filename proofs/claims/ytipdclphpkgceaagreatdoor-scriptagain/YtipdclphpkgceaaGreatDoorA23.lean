/- Own facts, put together: no statement of its own. -/
import Derived.Lib.OwnBridge
import Derived.Deep.AppendLies
import Derived.Test.YtipdclphpkgceaaGreatDoorA10
import Derived.Test.YtipdclphpkgceaaGreatDoorA22
import Derived.HandedShaped
import Derived.Lib.AppendIntMem
import Derived.Shelf.Vars
import Derived.Deep.Strs
import Derived.Lay
import Derived.Test.YtipdclphpkgceaaGreatDoorA01
import Derived.Deep.DeepHandedRow
import Derived.Test.YtipdclphpkgceaaGreatDoorA11
import Derived.Test.YtipdclphpkgceaaGreatDoorA04
set_option maxHeartbeats 4000000
set_option maxRecDepth 100000

namespace Go.Proofs.YtipdclphpkgceaaGreatDoor
open Go.RowKit Go.Shelf
open Go.Sort hiding Below
theorem YN (ad:Addr) (cap:Nat) (ls:List (Int × Int)) (w:World) (hl:AL w (some ad) ls) (hn:ls.length ≤ 1000) :
  Calls Tryz.prog 211 #[.slice (some ad) ls.length cap] w fun e w'=>∃ v,e=.returned v ∧ A9 w' w.heap.size v ls ∧ Below w.heap.size w w':=by
 obtain ⟨i0,hi,hz0,hz1,hz2⟩:=info_parts Tryz.infoLine
 have hb0:Below w.heap.size w (w.alloc (.cells #[] 83)):=(Below.refl _ _).alloc (Nat.le_refl _) _
 have H1:Hid (∀ j u,(Ar ls)[j]? = some u → (w.alloc (.cells #[] 83)).cell? (ad.add j)=some u):=FW (hl.below hb0)
 have H2:Hid ((Ar ls).length=ls.length * 2):=Fg ls
 have H3:Hid (∀ u ∈ Ar ls,u.oneCell'=true):=Ed ls
 have H4:Hid ((w.alloc (.cells #[] 83)).ownsRow w.heap.size 83 2 (.slice (some ⟨w.heap.size,0,none⟩) 0 0) 0 []):=World.ownsRow_lit w #[] 0 (Nat.le_refl _) (by simp [maxLen]) (by simp)
 have HB0:Hid (Below w.heap.size w (w.alloc (.cells #[] 83))):=hb0
 clear hl hb0
 have hnil:=fun wx=>Go.Lib.run_eql_slice_nil (P:=Tryz.prog) wx 62 83 (some ad) ls.length cap 0 0 Tryz.underlying62
 go_enter Tryz.func211,Tryz.ntmps211
 go_wp2_with (at_builtin;refine wpList_append_own _ rfl _ _ 62 rfl w.heap.size 83 i0 (.agg #[.int .i64 0,.int .i64 0]) 2 16 Tryz.underlying62 hi hz0 hz1 hz2 rfl (by decide) (.slice (some ⟨w.heap.size,0,none⟩) 0 0) 0 [] rfl H4.out ad ls.length cap (Ar ls) rfl H2.out H1.out H3.out (by unfold maxLen;omega) (by omega) (by simp) ?_;intro v' w3 hown' hgrow3 hnil3)
 go_ret
 refine ⟨_,rfl,by simpa [A9] using hown',?_⟩
 exact HB0.out.grown hgrow3 (by simp) (fun k hk=>by injection hk with hk;subst hk;exact Nat.le_refl _)
def Tx (x:Int × Int):List Value:=[.int .i64 x.1,.int .i64 x.2]
theorem ltL (x y:Int × Int):ltOf cmpL x y=decide (y.2 < x.2 ∨ (y.2=x.2 ∧ y.1 < x.1)):=by
 unfold ltOf cmpL
 by_cases h:y.2=x.2
 ·
  rw [if_pos (Pb.2 h)]
  rw [decide_eq_decide,H6]
  omega
 ·
  rw [if_neg (fun e=>h (Pb.1 e))]
  rw [decide_eq_decide,H6]
  omega
theorem bD:SWO (ltOf cmpL) where
 irrefl x:=by rw [ltL];simp
 trans x y z h1 h2:=by rw [ltL] at *;simp at *;omega
 ntrans x y z h1 h2:=by rw [ltL] at *;simp at *;omega
theorem Tryz.isAggLine (w:World):(isAgg 83).run Tryz.prog w=.ok true w:=by kernel_rfl
theorem Tryz.sizeOfLine (w:World):(Go.sizeOf 83).run Tryz.prog w=.ok 2 w:=by kernel_rfl
theorem O1 {w:World} {B g cap:Nat} {ls:List (Int × Int)} (h:A9 w B (.slice (some ⟨g,0,none⟩) ls.length cap) ls):HoldsK Tx 2 w g 0 ls.toArray:=by
 intro j hj
 rw [size_flatK] at hj
 have hj':j < ls.length * 2:=by simpa using hj
 rw [get_flatK _ _ _ _ hj]
 have hc:=World.ownsRow.cellAt h j hj'
 have hf:=World.ownsRow.frozenAt h j
 rw [Nat.zero_add]
 refine ⟨?_,hf⟩
 rw [hc]
 have hi:j / 2 < ls.length:=by omega
 have hg:=Nj ls (j / 2) (ls[j / 2]).1 (ls[j / 2]).2 (by simp [hi])
 have he:(ls.toArray)[j / 2]! = ls[j / 2]:=by simp [hi]
 rw [he]
 rcases (show j % 2=0 ∨ j % 2=1 by omega) with h0 | h1
 ·
  rw [h0]
  have e:j / 2 * 2=j:=by omega
  rw [e] at hg
  exact hg.1
 ·
  rw [h1]
  have e:j / 2 * 2+1=j:=by omega
  rw [e] at hg
  exact hg.2
theorem NF {w:World} {g:Nat} {ls:List (Int × Int)} (h:HoldsK Tx 2 w g 0 ls.toArray) (hg:g < w.heap.size):AL w (some ⟨g,0,none⟩) ls:=by
 refine .inr ⟨g,0,rfl,hg,fun i x y hi=>?_⟩
 have hil:i < ls.length:=by
  rcases Nat.lt_or_ge i ls.length with h | h
  · exact h
  · simp [List.getElem?_eq_none h] at hi
 have h0:=(h.cell (i:=i) (c:=0) (by simpa using hil) (by decide)).1
 have h1:=(h.cell (i:=i) (c:=1) (by simpa using hil) (by decide)).1
 have he:(ls.toArray)[i]! = (x,y):=by
  simp [hil] at hi
  simp [hil,hi]
 rw [he] at h0 h1
 exact ⟨h0,h1⟩
theorem below_grow {B:Nat} {w0 w:World} (h:Go.RowKit.Below B w0 w) (os:Array Obj) (hB:B ≤ w.heap.size):Go.RowKit.Below B w0 (grow w os):=
 h.trans ⟨rfl,rfl,rfl,by simp,fun k hk=>by show (w.heap ++ os)[k]? = _;rw [Array.getElem?_append_left (by omega)]⟩
def CO (ls:List (Int × Int)):Prop:=∀ (i j:Nat) (x y:Int × Int),i < j → ls[i]? = some x → ls[j]? = some y → y.2 < x.2 ∨ (y.2=x.2 ∧ y.1 ≤ x.1)
theorem RN (ad:Addr) (cap:Nat) (ls:List (Int × Int)) (w:World) (hl:AL w (some ad) ls) (h1:1 ≤ ls.length) (hn:ls.length ≤ 1000) :
  Calls Tryz.prog 181 #[.slice (some ad) ls.length cap] w fun e w'=>∃ g cap' ls',e=.returned (.slice (some ⟨g,0,none⟩) ls'.length cap') ∧ ls'.Perm ls ∧ CO ls' ∧ AL w' (some ⟨g,0,none⟩) ls' ∧ Below w.heap.size w w':=by
 have HC:=(show Hid (Calls Tryz.prog 211 #[.slice (some ad) ls.length cap] w fun e w'=>∃ v,e=.returned v ∧ A9 w' w.heap.size v ls ∧ Below w.heap.size w w') from YN ad cap ls w hl hn)
 clear hl
 go_enter Tryz.func181,Tryz.ntmps181
 go_wp2_with fail
 refine HC.out.mono ?_
 rintro e w1 ⟨v,rfl,ho,hb⟩
 obtain ⟨g,cap1,rfl,hg⟩:∃ g cap1,v=.slice (some ⟨g,0,none⟩) ls.length cap1 ∧ w.heap.size ≤ g ∧ g < w1.heap.size:=by
  obtain ⟨g,cap1,hv,hb1,hb2⟩:=World.ownsRow.form ho h1
  exact ⟨g,cap1,hv,hb1,hb2⟩
 have hH:=O1 ho
 have eg:∀ args w,(callFunc 213 args).run Tryz.prog w=.ok (.enter 213 args) w:=enters_of Tryz.func213 (by kernel_rfl) rfl
 have hcon:=AnyQ.slices_SortFunc Tryz.sortL 2 Tryz.isAggLine Tryz.sizeOfLine Tx (fun _=>rfl) (fun x v hv=>by simp [Tx] at hv;rcases hv with rfl | rfl <;> rfl) cmpL bD 213 #[] g 0 cap1 ls.toArray w1 eg (fun _ _ _ _ x y=>Ua x y _) hH hg.2 (by simp;omega)
 change Calls Tryz.prog 212 _ _ _ at hcon
 rw [List.size_toArray] at hcon
 have HS:=(show Hid (Calls Tryz.prog 212 #[.slice (some ⟨g,0,none⟩) ls.length cap1,.func (.func 213) #[] #[]] w1 fun e w'=>e=.returned (.tuple #[]) ∧ ∃ d' n os,PermIn 0 ls.length ls.toArray d' ∧ SortedIn (ltOf cmpL) 0 ls.length d' ∧ w'=sortWorldK Tx 2 w1 g 0 n d' os) from hcon)
 have HH:Hid (HoldsK Tx 2 w1 g 0 ls.toArray):=hH
 have HB:Hid (Below w.heap.size w w1):=hb
 clear hcon hH ho hb eg
 go_wp2_with fail
 refine HS.out.mono ?_
 rintro e w2 ⟨rfl,d',n,os,hp,hs,hw2⟩
 have hsz:d'.size=ls.length:=by have:=hp.1;simpa using this
 have hH2:HoldsK Tx 2 w2 g 0 d':=by
  rw [hw2]
  exact holdsK_grow _ _ _ _ _ _ _ (by simp [putRowK,putRow,mapBlock];exact hg.2) (holdsK_putRowK _ _ _ _ _ ls.toArray d' HH.out (by simpa using hsz))
 have hb2:Below w.heap.size w w2:=by
  rw [hw2]
  have h1:Below w.heap.size w (putRowK Tx 2 (Sort.ahead w1 n) g 0 d'):=Go.Lib.below_putRow HB.out hg.1
  exact below_grow h1 os (by have:=HB.out.size;have:=h1.size;exact this)
 have hg2:g < w2.heap.size:=by
  rw [hw2]
  simp [sortWorldK,putRowK,putRow,mapBlock]
  omega
 have hd:d'.toList.toArray=d':=by simp
 have hlen:d'.toList.length=ls.length:=by simpa using hsz
 have hperm:d'.toList.Perm ls:=by
  have:=hp.2.2
  rw [Array.extract_eq_self_of_le (by omega),Array.extract_eq_self_of_le (by simp)] at this
  simpa using this
 have hsort:CO d'.toList:=by
  intro i j x y hij hx hy
  have hjl:j < d'.toList.length:=by
   rcases Nat.lt_or_ge j d'.toList.length with h | h
   · exact h
   · simp [List.getElem?_eq_none h] at hy
  have:=hs i j (Nat.zero_le _) hij (by omega)
  rw [ltL] at this
  have hx':d'[i]! = x:=by rw [Array.getElem?_toList] at hx;rw [getElem!_def,hx]
  have hy':d'[j]! = y:=by rw [Array.getElem?_toList] at hy;rw [getElem!_def,hy]
  rw [hx',hy'] at this
  have:=of_decide_eq_false this
  omega
 have HR:Hid (d'.toList.Perm ls ∧ CO d'.toList ∧ AL w2 (some ⟨g,0,none⟩) d'.toList ∧ Below w.heap.size w w2):=⟨hperm,hsort,NF (by rw [hd];exact hH2) hg2,hb2⟩
 have HN:Hid (d'.toList.length=ls.length):=hlen
 clear hw2 hH2 hb2 hg2 hd hlen hperm hsort hp hs hsz
 go_wp2_with fail
 go_ret
 exact ⟨g,cap1,d'.toList,by rw [HN.out];rfl,HR.out.1,HR.out.2.1,HR.out.2.2.1,HR.out.2.2.2⟩
end Go.Proofs.YtipdclphpkgceaaGreatDoor

namespace Go.Proofs.YtipdclphpkgceaaGreatDoor
open Go.ChangeShapes Go.WideShapes Go.ChangeAt Go.RowKit Go.Shelf
theorem Tryz.oneRow:((List.range 342).filter fun t=>Tryz.prog.rowNamed t [101,114,114,111,114])=[25]:=by kernel_rfl
theorem Tryz.sizeTypes:Tryz.prog.types.size=342:=by kernel_rfl
theorem Tryz.handleErr:typeHandle Tryz.prog 25=.pointer (some ⟨16,25,none⟩):=by kernel_rfl
theorem Tryz.gType:Tryz.prog.globalNamed "errors.errorType" = some 9:=by kernel_rfl
def aZ (a0 a1 a2 a3 a4 a5 a6 a7 a8:Addr):Nat → Addr
 | 0=>a0 | 1=>a1 | 2=>a2 | 3=>a3 | 4=>a4 | 5=>a5 | 6=>a6 | 7=>a7 | _=>a8
theorem Un {W:World} {a b:Addr} {s u:ByteArray} {x y:List UInt8} (ha:W.cell? a=some (.string s)) (hb:W.cell? b=some (.string u)) (hs:s.data.toList=x) (hu:u.data.toList=y) (h:x ≠ y):a ≠ b:=by
 rintro rfl
 rw [ha] at hb
 injection hb with hb
 injection hb with hb
 subst hb
 exact h (hs.symm.trans hu)
theorem Sv (i j:Nat) (hi:six i) (hj:six j) (h:i ≠ j):Di ((i:Int)+1) ≠ Di ((j:Int)+1):=by
 have hi':i=0 ∨ i=1 ∨ i=2 ∨ i=3 ∨ i=4 ∨ i=8:=by unfold six at hi;omega
 have hj':j=0 ∨ j=1 ∨ j=2 ∨ j=3 ∨ j=4 ∨ j=8:=by unfold six at hj;omega
 rcases hi' with rfl | rfl | rfl | rfl | rfl | rfl <;> rcases hj' with rfl | rfl | rfl | rfl | rfl | rfl <;> first | exact absurd rfl h | decide
theorem W9 {W:World} (h2:handlesMet Tryz.prog [("errors.errorType",Rows.laid_errors_errorType)] W):W.cell? ⟨9,0,none⟩=some (.iface 151 (.agg #[.pointer (some ⟨16,25,none⟩)])):=by
 obtain ⟨name,u,ty,e1,e2,e3,e4,e5⟩:=h2 _ (List.mem_singleton.2 rfl)
 have en:name=[101,114,114,111,114]:=(Option.some.inj e1).symm
 subst en
 obtain rfl:u=151:=Option.some.inj (e2.symm.trans (by kernel_rfl))
 have hm:ty ∈ (List.range 342).filter fun t=>Tryz.prog.rowNamed t [101,114,114,111,114]:=List.mem_filter.2 ⟨List.mem_range.2 (by rw [← Tryz.sizeTypes];exact e3),e4⟩
 rw [Tryz.oneRow] at hm
 obtain rfl:=List.mem_singleton.1 hm
 rw [Tryz.handleErr] at e5
 simpa using World.var?_cell Tryz.gType e5 0
theorem Wo {W:World} (h:W.ShapedOpen Tryz.prog):∃ m,W.cell? ⟨10,0,none⟩=some (.int .i64 m):=
 cell_of_shapedOpen_int (t:=3) (zero:=#[.int .i64 0]) h (of_decide_eq_true (by kernel_rfl)) (by kernel_rfl) rfl (by kernel_rfl) (by kernel_rfl) Tryz.underlying3
def ZG:String:=(Rows.scriptReadsRow.laid[2]'(by decide)).1
theorem ZC {W:World} (h:∀ V,Below W.heap.size W V → Go.Lib.TabIs Tryz.prog V ZG .u64 Go.Lib.pow10Tab):M7 W:=fun V hV n h0 h1=>
 (Any.strconv_Itoa Tryz.laysM171 n h0 h1 V (h V hV)).mono fun e w' ⟨he,k,os,hw⟩=>⟨he,by rw [hw];exact below_grow (below_drewN (Below.refl _ _) k) os (by simp)⟩
def Tp (P:Program) (os:Os):World:=
 { World.holding P os ⟨#[],#[],[]⟩ with heap:=⟨Lay.setRows (World.holding P os ⟨#[],#[],[]⟩).heap.toList [(9,[.iface 151 (.agg #[.pointer (some ⟨16,25,none⟩)])])]⟩ }
def IJ (P:Program) (os:Os) (laid:List (String × DataW Unit)):World:=(Tp P os).layVars P (laid.filter fun x=>x.2.handleName?.isNone)
theorem Xa (os:Os) (laid:List (String × DataW Unit)):(IJ Tryz.prog os laid).os=os:=World.layVars_os _ _ _
theorem Ui {os:Os} {laid:List (String × DataW Unit)} (args:Array Value)
  (hf:(Tp Tryz.prog os).layFits Tryz.prog (laid.filter fun x=>x.2.handleName?.isNone) []=true)
  (hi:(Tp Tryz.prog os).layIfaces Tryz.prog (laid.filter fun x=>x.2.handleName?.isNone) (IJ Tryz.prog os laid)=true) :
  laidMet Tryz.prog (laid.filter fun x=>x.2.handleName?.isNone) ((IJ Tryz.prog os laid).forCall (fun _ _=>0) ⟨#[],args,[]⟩).memory:=by
 obtain ⟨L,hL⟩:∃ L,(laid.filter fun x=>x.2.handleName?.isNone)=L:=⟨_,rfl⟩
 have hall:∀ x ∈ L,(L.map (·.1)).contains x.1=true:=fun x hx=>List.contains_iff_mem.2 (List.mem_map_of_mem hx)
 have e1:(L.filter fun x=>(L.map (·.1)).contains x.1)=L:=List.filter_eq_self.2 hall
 have e2:(L.filter fun x=>!(L.map (·.1)).contains x.1)=[]:=List.filter_eq_nil_iff.2 fun x hx=>by rw [hall x hx];decide
 have hs:IJ Tryz.prog os laid=(Tp Tryz.prog os).layVars Tryz.prog L:=by unfold IJ;rw [hL]
 rw [hL] at hf hi ⊢
 have h:laidMet Tryz.prog L (IJ Tryz.prog os laid):=laidMet_layVars (w0:=Tp Tryz.prog os) (L.map (·.1)) [] (by rw [e1,hs]) (by rw [e1];exact hf) (by rw [e1];exact hi) (by rw [e2];exact LaidIn.none)
 exact h.of_heap (by simp [World.memory,World.forCall,Input.heap])
end Go.Proofs.YtipdclphpkgceaaGreatDoor

namespace Go.Proofs.YtipdclphpkgceaaGreatDoor
open Go.RowKit Go.Extern.Stop Go.Stop Go.Extern
theorem Tryz.errMethE (v:Value) (w:World):(Go.method 442 312 v "Error").run Tryz.prog w=.ok (287,v) w:=by kernel_rfl
theorem Tryz.errMethF (v:Value) (w:World):(Go.method 442 75 v "Error").run Tryz.prog w=.ok (266,v) w:=by kernel_rfl
theorem IL (a:Addr) (s:ByteArray) (w:World) (h:w.cell? a=some (.string s)) :
  Calls Tryz.prog 287 #[.pointer (some a)] w fun e w'=>e=.returned (.string s) ∧ w'=w:=by
 obtain ⟨b,o,sp⟩:=a
 have hsp:sp=none:=by simpa using World.cell?_spot h
 subst hsp
 go_enter Tryz.func287,Tryz.ntmps287
 go_wp2
 go_ret
 exact ⟨rfl,rfl⟩
theorem VE (pb:Nat) (a:Addr) (s:ByteArray) (w:World) (h1:w.cell? ⟨pb,1,none⟩=some (.iface 312 (.pointer (some a)))) (h:w.cell? a=some (.string s)) :
  Calls Tryz.prog 266 #[.pointer (some ⟨pb,0,none⟩)] w fun e w'=>e=.returned (.string s) ∧ w'=w:=by
 have hm:=Tryz.errMethE
 have HC:Hid (Calls Tryz.prog 287 #[.pointer (some a)] w fun e w'=>e=.returned (.string s) ∧ w'=w):=IL a s w h
 clear h
 go_enter Tryz.func266,Tryz.ntmps266
 go_wp2_with fail
 refine HC.out.mono ?_
 rintro e w1 ⟨rfl,rfl⟩
 go_wp2_with fail
 go_ret
 exact ⟨rfl,rfl⟩
def known (c:Int):Prop:=(1 ≤ c ∧ c ≤ 5) ∨ c=9
theorem Vg {w:World} {E:Value} {c p:Int} (h:AR w E c p) (hc:known c) :
  (∃ a,E=.iface 312 (.pointer (some a)) ∧ w.cell? a=some (Ah (Di c))) ∨
  (∃ pb a,E=.iface 75 (.pointer (some ⟨pb,0,none⟩)) ∧ w.cell? ⟨pb,1,none⟩=some (.iface 312 (.pointer (some a))) ∧ w.cell? a=some (Ah (Di c))):=by
 have c0:c ≠ 0:=by rcases hc with h | h <;> omega
 rcases h.code with ⟨-,hn,-⟩ | ⟨ad,he,k,hk,hck,hE⟩
 · exact absurd hn c0
 ·
  subst hck
  obtain ⟨s,h1,h2⟩:=he.txt k (by unfold six;rcases hc with h | h <;> omega)
  have e:Value.string s=Ah (Di ((k:Int)+1)):=by
   show _=Value.string ⟨_⟩
   rw [← h2]
  rw [e] at h1
  rcases hE with ⟨rfl,-⟩ | ⟨pb,rfl,-,h3⟩
  · exact .inl ⟨_,rfl,h1⟩
  · exact .inr ⟨pb,_,rfl,h3,h1⟩
theorem FB (w:World):Calls Tryz.prog 42 #[.nilIface] w fun e w'=>e=.returned (.tuple #[Ah AU,.nilIface]) ∧ w'=w:=by
 go_enter Tryz.func42,Tryz.ntmps42
 go_wp2
 go_ret2
 exact ⟨rfl,rfl⟩
theorem Gm (ty:TypeId) (v:Value) (w:World):Calls Tryz.prog 42 #[.iface ty v] w fun e w'=>e=.returned (.tuple #[Ah [],.iface ty v]) ∧ w'=w:=by
 go_enter Tryz.func42,Tryz.ntmps42
 go_wp2
 go_ret2
 exact ⟨rfl,rfl⟩
theorem GH (n:Int) (w:World) (hi:M7 w) (h0 : -9223372036854775808 ≤ n) (h1:n ≤ 9223372036854775807):Calls Tryz.prog 45 #[.int .i64 n,.nilIface] w fun e w'=>e=.returned (.tuple #[Ah (Go.Lib.itoa n),.nilIface]) ∧ Below w.heap.size w w':=by
 have HC:Hid (Calls Tryz.prog 79 #[.int .i64 n] w fun e w'=>e=.returned (.string ⟨(Go.Lib.itoa n).toArray⟩) ∧ Below w.heap.size w w'):=hi w (Below.refl _ _) n h0 h1
 clear hi
 go_enter Tryz.func45,Tryz.ntmps45
 go_wp2_with fail
 refine HC.out.mono ?_
 rintro e w1 ⟨rfl,hb⟩
 have HB:Hid (Below w.heap.size w w1):=hb
 clear hb
 go_wp2_with fail
 go_ret2
 exact ⟨rfl,HB.out⟩
theorem GI (n:Int) (ty:TypeId) (v:Value) (w:World):Calls Tryz.prog 45 #[.int .i64 n,.iface ty v] w fun e w'=>e=.returned (.tuple #[Ah [],.iface ty v]) ∧ w'=w:=by
 go_enter Tryz.func45,Tryz.ntmps45
 go_wp2
 go_ret2
 exact ⟨rfl,rfl⟩
end Go.Proofs.YtipdclphpkgceaaGreatDoor

namespace Go.Proofs.YtipdclphpkgceaaGreatDoor
open Go.RowKit
def Zg:Option Nat → Int
 | some f=>f
 | none=>-1
structure Br (w:World) (g:Nat) (pv qv:Value) (vq:Nat → Value) (cr:Nat → Int) (rv:Value) (sv:Int) (n:Nat):Prop where
 c0:w.cell? ⟨g,0,none⟩=some pv
 c1:w.cell? ⟨g,1,none⟩=some qv
 cq:∀ f,f < 8 → w.cell? ⟨g,2+f,none⟩=some (vq f)
 cc:∀ f,f < 8 → w.cell? ⟨g,10+f,none⟩=some (.int .i64 (cr f))
 cr_:w.cell? ⟨g,18,none⟩=some rv
 cs:w.cell? ⟨g,19,none⟩=some (.int .i64 sv)
 cn:w.cell? ⟨g,20,none⟩=some (.int .i64 (n:Int))
 free:∀ i,w.frozen? ⟨g,i,none⟩=false
section
variable {w w':World} {g:Nat} {pv qv:Value} {vq:Nat → Value} {cr:Nat → Int} {rv:Value} {sv:Int} {n:Nat}
theorem Br.lt (h:Br w g pv qv vq cr rv sv n):g < w.heap.size:=Ck h.c0
theorem Br.but {S:Nat → Prop} (h:Br w g pv qv vq cr rv sv n) (hb:But S w w') (hs:¬ S g):Br w' g pv qv vq cr rv sv n:=by
 have e:∀ i,w'.cell? ⟨g,i,none⟩=w.cell? ⟨g,i,none⟩:=fun i=>hb.cell (p:=⟨g,i,none⟩) h.lt hs
 exact ⟨by rw [e];exact h.c0,by rw [e];exact h.c1,fun f hf=>by rw [e];exact h.cq f hf,fun f hf=>by rw [e];exact h.cc f hf,by rw [e];exact h.cr_,by rw [e];exact h.cs,by rw [e];exact h.cn,fun i=>by rw [hb.frozen (p:=⟨g,i,none⟩) h.lt hs];exact h.free i⟩
theorem far (w:World) (g i j:Nat) (v:Value) (h:i ≠ j):(w.setCell ⟨g,i,none⟩ v).cell? ⟨g,j,none⟩=w.cell? ⟨g,j,none⟩:=
 World.cell?_setCell_other _ _ _ _ (fun e=>h (by injection e))
theorem Br.setQ (h:Br w g pv qv vq cr rv sv n) {f:Nat} (hf:f < 8) (v:Value):Br (w.setCell ⟨g,2+f,none⟩ v) g pv qv (Au vq f v) cr rv sv n:=by
 refine ⟨by rw [far _ _ _ _ _ (by omega)];exact h.c0,by rw [far _ _ _ _ _ (by omega)];exact h.c1,fun j hj=>?_,fun j hj=>by rw [far _ _ _ _ _ (by omega)];exact h.cc j hj,by rw [far _ _ _ _ _ (by omega)];exact h.cr_,by rw [far _ _ _ _ _ (by omega)];exact h.cs,by rw [far _ _ _ _ _ (by omega)];exact h.cn,fun i=>by rw [World.frozen?_setCell];exact h.free i⟩
 by_cases e:j=f
 ·
  subst e
  rw [Aq]
  exact World.cell?_setCell_same _ _ _ (h.cq j hj)
 ·
  rw [Al _ _ e,far _ _ _ _ _ (by omega)]
  exact h.cq j hj
theorem Br.setC (h:Br w g pv qv vq cr rv sv n) {f:Nat} (hf:f < 8) (x:Int):Br (w.setCell ⟨g,10+f,none⟩ (.int .i64 x)) g pv qv vq (Au cr f x) rv sv n:=by
 refine ⟨by rw [far _ _ _ _ _ (by omega)];exact h.c0,by rw [far _ _ _ _ _ (by omega)];exact h.c1,fun j hj=>by rw [far _ _ _ _ _ (by omega)];exact h.cq j hj,fun j hj=>?_,by rw [far _ _ _ _ _ (by omega)];exact h.cr_,by rw [far _ _ _ _ _ (by omega)];exact h.cs,by rw [far _ _ _ _ _ (by omega)];exact h.cn,fun i=>by rw [World.frozen?_setCell];exact h.free i⟩
 by_cases e:j=f
 ·
  subst e
  rw [Aq]
  exact World.cell?_setCell_same _ _ _ (h.cc j hj)
 ·
  rw [Al _ _ e,far _ _ _ _ _ (by omega)]
  exact h.cc j hj
theorem Br.setR (h:Br w g pv qv vq cr rv sv n) (v:Value):Br (w.setCell ⟨g,18,none⟩ v) g pv qv vq cr v sv n:=
 ⟨by rw [far _ _ _ _ _ (by omega)];exact h.c0,by rw [far _ _ _ _ _ (by omega)];exact h.c1,fun j hj=>by rw [far _ _ _ _ _ (by omega)];exact h.cq j hj,fun j hj=>by rw [far _ _ _ _ _ (by omega)];exact h.cc j hj,World.cell?_setCell_same _ _ _ h.cr_,by rw [far _ _ _ _ _ (by omega)];exact h.cs,by rw [far _ _ _ _ _ (by omega)];exact h.cn,fun i=>by rw [World.frozen?_setCell];exact h.free i⟩
theorem Br.setS (h:Br w g pv qv vq cr rv sv n) (x:Int):Br (w.setCell ⟨g,19,none⟩ (.int .i64 x)) g pv qv vq cr rv x n:=
 ⟨by rw [far _ _ _ _ _ (by omega)];exact h.c0,by rw [far _ _ _ _ _ (by omega)];exact h.c1,fun j hj=>by rw [far _ _ _ _ _ (by omega)];exact h.cq j hj,fun j hj=>by rw [far _ _ _ _ _ (by omega)];exact h.cc j hj,by rw [far _ _ _ _ _ (by omega)];exact h.cr_,World.cell?_setCell_same _ _ _ h.cs,by rw [far _ _ _ _ _ (by omega)];exact h.cn,fun i=>by rw [World.frozen?_setCell];exact h.free i⟩
theorem Br.setN (h:Br w g pv qv vq cr rv sv n) (x:Nat):Br (w.setCell ⟨g,20,none⟩ (.int .i64 (x:Int))) g pv qv vq cr rv sv x:=
 ⟨by rw [far _ _ _ _ _ (by omega)];exact h.c0,by rw [far _ _ _ _ _ (by omega)];exact h.c1,fun j hj=>by rw [far _ _ _ _ _ (by omega)];exact h.cq j hj,fun j hj=>by rw [far _ _ _ _ _ (by omega)];exact h.cc j hj,by rw [far _ _ _ _ _ (by omega)];exact h.cr_,by rw [far _ _ _ _ _ (by omega)];exact h.cs,World.cell?_setCell_same _ _ _ h.cn,fun i=>by rw [World.frozen?_setCell];exact h.free i⟩
end
def AC (g:Nat) (F:Nat → Nat → Prop) (rv:Value) (k:Nat):Prop:=k=g ∨ (∃ f,f < 8 ∧ F f k) ∨ rv.ownBlock=some k
structure Ao (B g:Nat) (pv qv:Value) (w:World) (vq:Nat → Value) (F:Nat → Nat → Prop) (rv:Value) (d:Drr) (n:Nat):Prop where
 cells:Br w g pv qv vq d.cr rv (Zg d.srv) n
 queue:∀ f,f < 8 → Bc w B (vq f) (F f) (d.qs f)
 row:w.ownsRow B 3 1 rv d.row.length (ints (Am d.row))
 apart:∀ f,f < 8 → ¬ F f g ∧ (∀ k,F f k → rv.ownBlock ≠ some k) ∧ ∀ f' k,f' < 8 → F f k → F f' k → f=f'
 rowg:rv.ownBlock ≠ some g
 le:B ≤ g
section
variable {B g:Nat} {pv qv:Value} {w w':World} {vq:Nat → Value} {F:Nat → Nat → Prop} {rv:Value} {d:Drr} {n:Nat}
theorem Ao.foot (h:Ao B g pv qv w vq F rv d n):∀ k,AC g F rv k → B ≤ k ∧ k < w.heap.size:=by
 rintro k (rfl | ⟨f,hf,hk⟩ | hk)
 · exact ⟨h.le,h.cells.lt⟩
 · exact (h.queue f hf).foot k hk
 · exact AX h.row hk
theorem Ao.but {S:Nat → Prop} (h:Ao B g pv qv w vq F rv d n) (hb:But S w w') (hs:∀ k,AC g F rv k → ¬ S k):Ao B g pv qv w' vq F rv d n:=
 ⟨h.cells.but hb (hs g (.inl rfl)),fun f hf=>(h.queue f hf).but hb (fun k hk=>hs k (.inr (.inl ⟨f,hf,hk⟩))),Av h.row (fun k hv hk=>hb.block k hk (hs k (.inr (.inr hv)))),h.apart,h.rowg,h.le⟩
theorem Ao.later (h:Ao B g pv qv w vq F rv d n) (hb:Below w.heap.size w w'):Ao B g pv qv w' vq F rv d n:=h.but (S:=fun _=>False) (.ofBelow hb) (fun _ _ h=>h)
theorem Eu (w:World) (g i:Nat) (v:Value):But (fun k=>k=g) w (w.setCell ⟨g,i,none⟩ v):=But.setCell (S:=fun k=>k=g) (But.refl _ w) (p:=⟨g,i,none⟩) rfl v
theorem Ao.apartG (h:Ao B g pv qv w vq F rv d n) (i:Nat) (v:Value):(∀ f,f < 8 → Bc (w.setCell ⟨g,i,none⟩ v) B (vq f) (F f) (d.qs f)) ∧ (w.setCell ⟨g,i,none⟩ v).ownsRow B 3 1 rv d.row.length (ints (Am d.row)):=
 ⟨fun f hf=>(h.queue f hf).but (Eu w g i v) (fun k hk e=>(h.apart f hf).1 (by rw [← e];exact hk)),Av h.row (fun k hv hk=>(Eu w g i v).block k hk (fun e=>h.rowg (by rw [← e];exact hv)))⟩
theorem Ao.setC (h:Ao B g pv qv w vq F rv d n) {f:Nat} (hf:f < 8) (x:Int):Ao B g pv qv (w.setCell ⟨g,10+f,none⟩ (.int .i64 x)) vq F rv { d with cr:=Au d.cr f x } n:=
 ⟨h.cells.setC hf x,(h.apartG _ _).1,(h.apartG _ _).2,h.apart,h.rowg,h.le⟩
theorem Ao.setS (h:Ao B g pv qv w vq F rv d n) {x:Int} (s:Option Nat) (hs:Zg s=x):Ao B g pv qv (w.setCell ⟨g,19,none⟩ (.int .i64 x)) vq F rv { d with srv:=s } n:=
 ⟨by rw [← hs];exact h.cells.setS _,(h.apartG _ _).1,(h.apartG _ _).2,h.apart,h.rowg,h.le⟩
theorem Ao.setN (h:Ao B g pv qv w vq F rv d n) {x:Int} (m:Nat) (hx:(m:Int)=x):Ao B g pv qv (w.setCell ⟨g,20,none⟩ (.int .i64 x)) vq F rv d m:=
 ⟨by rw [← hx];exact h.cells.setN m,(h.apartG _ _).1,(h.apartG _ _).2,h.apart,h.rowg,h.le⟩
theorem Ao.setR (h:Ao B g pv qv w vq F rv d n) {w2:World} {v':Value} {r':List Nat} (hbut:But (fun k=>rv.ownBlock=some k) w w2) (hown:w2.ownsRow B 3 1 v' r'.length (ints (Am r'))) (hnew:∀ k,v'.ownBlock=some k → rv.ownBlock=some k ∨ w.heap.size ≤ k) :
  Ao B g pv qv (w2.setCell ⟨g,18,none⟩ v') vq F v' { d with row:=r' } n:=by
 have hg:v'.ownBlock ≠ some g:=fun e=>by
  rcases hnew g e with h' | h'
  · exact h.rowg h'
  · have:=h.cells.lt;omega
 refine ⟨(h.cells.but hbut (fun e=>h.rowg e)).setR v',fun f hf=>?_,?_,fun f hf=>⟨(h.apart f hf).1,fun k hk e=>?_,(h.apart f hf).2.2⟩,hg,h.le⟩
 · exact ((h.queue f hf).but hbut (fun k hk e=>(h.apart f hf).2.1 k hk e)).but (Eu w2 g 18 v') (fun k hk e=>(h.apart f hf).1 (by rw [← e];exact hk))
 · exact Av hown (fun k hv hk=>(Eu w2 g 18 v').block k hk (fun e=>hg (by rw [← e];exact hv)))
 ·
  rcases hnew k e with h' | h'
  · exact (h.apart f hf).2.1 k hk h'
  · have:=((h.queue f hf).foot k hk).2;omega
theorem Ao.setQ (h:Ao B g pv qv w vq F rv d n) {f:Nat} (hf:f < 8) {w2:World} {v':Value} {F':Nat → Prop} {q':List Nat} (hbut:But (F f) w w2) (hsl:Bc w2 B v' F' q') (hnew:∀ k,F' k → F f k ∨ w.heap.size ≤ k) :
  Ao B g pv qv (w2.setCell ⟨g,2+f,none⟩ v') (Au vq f v') (Au F f F') rv { d with qs:=Au d.qs f q' } n:=by
 have hFg:¬ F' g:=fun e=>by
  rcases hnew g e with h' | h'
  · exact (h.apart f hf).1 h'
  · have:=h.cells.lt;omega
 have hG:=Eu w2 g (2+f) v'
 refine ⟨(h.cells.but hbut (h.apart f hf).1).setQ hf v',fun j hj=>?_,?_,fun j hj=>?_,h.rowg,h.le⟩
 ·
  by_cases e:j=f
  ·
   subst e
   show Bc _ B (Au vq j v' j) (Au F j F' j) (Au d.qs j q' j)
   rw [Aq,Aq,Aq]
   exact hsl.but hG (fun k hk e=>hFg (by rw [← e];exact hk))
  ·
   show Bc _ B (Au vq f v' j) (Au F f F' j) (Au d.qs f q' j)
   rw [Al _ _ e,Al _ _ e,Al _ _ e]
   exact ((h.queue j hj).but hbut (fun k hk hk'=>e ((h.apart j hj).2.2 f k hf hk hk'))).but hG (fun k hk e'=>(h.apart j hj).1 (by rw [← e'];exact hk))
 · refine Av (Av h.row (fun k hv hk=>hbut.block k hk (fun hF=>(h.apart f hf).2.1 k hF hv))) (fun k hv hk=>hG.block k hk (fun e=>h.rowg (by rw [← e];exact hv)))
 ·
  have key:∀ i,i < 8 → ∀ k,Au F f F' i k → (i=f ∧ F' k) ∨ (i ≠ f ∧ F i k):=fun i _ k hk=>by
   by_cases e:i=f
   · subst e;rw [Aq] at hk;exact .inl ⟨rfl,hk⟩
   · rw [Al _ _ e] at hk;exact .inr ⟨e,hk⟩
  have hold:∀ k,F' k → ∀ i,i < 8 → i ≠ f → F i k → False:=fun k hk i hi hne hik=>by
   rcases hnew k hk with h' | h'
   · exact hne ((h.apart i hi).2.2 f k hf hik h')
   · have:=((h.queue i hi).foot k hik).2;omega
  refine ⟨fun hk=>?_,fun k hk e=>?_,fun j' k hj' hk hk'=>?_⟩
  ·
   rcases key j hj g hk with ⟨-,hk⟩ | ⟨-,hk⟩
   · exact hFg hk
   · exact (h.apart j hj).1 hk
  ·
   rcases key j hj k hk with ⟨-,hk⟩ | ⟨-,hk⟩
   ·
    rcases hnew k hk with h' | h'
    · exact (h.apart f hf).2.1 k h' e
    · have:=(AX h.row e).2;omega
   · exact (h.apart j hj).2.1 k hk e
  ·
   rcases key j hj k hk with ⟨e1,hk⟩ | ⟨e1,hk⟩
   ·
    rcases key j' hj' k hk' with ⟨e2,hk'⟩ | ⟨e2,hk'⟩
    · rw [e1,e2]
    · exact (hold k hk j' hj' e2 hk').elim
   ·
    rcases key j' hj' k hk' with ⟨e2,hk'⟩ | ⟨e2,hk'⟩
    · exact (hold k hk' j hj e1 hk).elim
    · exact (h.apart j hj).2.2 j' k hj' hk hk'
end
structure Bz (B:Nat) (W0:World) (g:Nat) (pv qv:Value) (w:World) (D:Nat → Prop) (q:TQ):Prop where
 env:Below B W0 w
 parts:∃ vq F rv,Ao B g pv qv w vq F rv q.d q.n ∧ ∀ k,D k ↔ AC g F rv k
section
variable {B:Nat} {W0:World} {g:Nat} {pv qv:Value} {w w':World} {D:Nat → Prop} {q:TQ}
theorem Bz.foot (h:Bz B W0 g pv qv w D q):∀ k,D k → B ≤ k ∧ k < w.heap.size:=by
 obtain ⟨vq,F,rv,h1,h2⟩:=h.parts
 exact fun k hk=>h1.foot k ((h2 k).1 hk)
theorem Bz.le (h:Bz B W0 g pv qv w D q):B ≤ w.heap.size:=by
 obtain ⟨vq,F,rv,h1,h2⟩:=h.parts
 have:=h1.cells.lt
 have:=h1.le
 omega
theorem Bz.but {S:Nat → Prop} (h:Bz B W0 g pv qv w D q) (hb:But S w w') (hs:∀ k,D k → ¬ S k) (hB:∀ k,S k → B ≤ k):Bz B W0 g pv qv w' D q:=by
 obtain ⟨vq,F,rv,h1,h2⟩:=h.parts
 exact ⟨h.env.trans (hb.below h.le hB),vq,F,rv,h1.but hb (fun k hk=>hs k ((h2 k).2 hk)),h2⟩
theorem Bz.later (h:Bz B W0 g pv qv w D q) (hb:Below w.heap.size w w'):Bz B W0 g pv qv w' D q:=h.but (S:=fun _=>False) (.ofBelow hb) (fun _ _ h=>h) (fun _ h=>h.elim)
theorem Bz.alloc (h:Bz B W0 g pv qv w D q) (o:Obj):Bz B W0 g pv qv (w.alloc o) D q:=h.later ((Below.refl _ _).alloc (Nat.le_refl _) _)
theorem YX (B:Nat) (W0:World) (g:Nat) (pv qv:Value):Gc (Bz B W0 g pv qv) B:=⟨fun _ _ _ h=>h.foot,fun _ _ _ _ _ h hb hs hB=>h.but hb hs hB⟩
theorem Bz.same (h:Bz B W0 g pv qv w D q) (hb:Below w.heap.size w w'):Az (Bz B W0 g pv qv) w w' D q:=⟨D,h.later hb,.ofBelow hb,fun _ hk=>.inl hk⟩
theorem Bz.leaves {vq':Nat → Value} {F F':Nat → Nat → Prop} {rv rv':Value} {q':TQ} (h:Bz B W0 g pv qv w D q) (hD:∀ k,D k ↔ AC g F rv k) (hbut:But D w w') (hat:Ao B g pv qv w' vq' F' rv' q'.d q'.n) (hnew:∀ k,AC g F' rv' k → AC g F rv k ∨ w.heap.size ≤ k):Az (Bz B W0 g pv qv) w w' D q':=
 ⟨AC g F' rv',⟨h.env.trans (hbut.below h.le fun k hk=>(h.foot k hk).1),vq',F',rv',hat,fun _=>Iff.rfl⟩,hbut,fun k hk=>by
  rcases hnew k hk with h' | h'
  · exact .inl ((hD k).2 h')
  · exact .inr h'⟩
end
theorem NK {w:World} {B:Nat} {v:Value} {zs:List Int} (h:w.ownsRow B 3 1 v zs.length (ints zs)):∃ ao cap,v=.slice ao zs.length cap ∧ zs.length ≤ cap ∧ cap ≤ maxLen:=by
 obtain ⟨h1,⟨rfl,h0⟩ | ⟨g,cap,cur,rfl,hB,hg,hn,hm,hc,ht⟩⟩:=h
 · exact ⟨none,0,by rw [h0],by omega,by simp [maxLen]⟩
 · exact ⟨_,cap,rfl,hn,hm⟩
theorem M8 {w:World} {B:Nat} {v:Value} {zs:List Int} (h:w.ownsRow B 3 1 v zs.length (ints zs)) (h0:0 < zs.length):∃ g cap,v=.slice (some ⟨g,0,none⟩) zs.length cap ∧ zs.length ≤ cap ∧ cap ≤ maxLen ∧ ∀ (i:Nat) x,zs[i]? = some x → w.cell? ⟨g,i,none⟩=some (.int .i64 x):=by
 have hh:=h
 obtain ⟨h1,⟨rfl,h0'⟩ | ⟨g,cap,cur,rfl,hB,hg,hn,hm,hc,ht⟩⟩:=h
 · omega
 ·
  refine ⟨g,cap,rfl,hn,hm,fun i x hx=>?_⟩
  have hi:i < zs.length:=by
   rcases Nat.lt_or_ge i zs.length with h' | h'
   · exact h'
   · simp [List.getElem?_eq_none h'] at hx
  rw [hh.cellAt i (by omega)]
  exact G9 hx
def EW (B:Nat) (w:World) (r cap:Nat) (q:List Nat) (i:Nat) (e:Ending) (w':World):Prop:=
 e=.returned (.tuple #[.int .i64 (q.getD i 0:Nat),.slice (some ⟨r,0,none⟩) (q.length - 1) cap]) ∧ w'.ownsRow B 3 1 (.slice (some ⟨r,0,none⟩) (q.length - 1) cap) (q.length - 1) (ints (Am (q.eraseIdx i))) ∧ But (fun j=>j=r) w w'
theorem TD (B:Nat) (f:Nat) (x1 x2:Value) (key:Nat → Int) (n r cap:Nat) (q:List Nat) (w:World) (hn:q.length ≤ 1000) (h0:0 < q.length) (hq:∀ k,k ∈ q → k < n)
  (h2:w.ownsRow B 3 1 (.slice (some ⟨r,0,none⟩) q.length cap) q.length (ints (Am q))) (hlc:q.length ≤ cap) (hcm:cap ≤ maxLen)
  (hf:∀ args W,Sem.run Tryz.prog (callFunc f args) W=.ok (.enter f args) W)
  (hM:∀ m k,k < n → Calls Tryz.prog f #[.int .i64 ((k:Nat):Int),x1,x2] (w.drewN m) fun e w'=>e=.returned (.int .i64 (key k)) ∧ ∃ m',w'=(w.drewN m).drewN m') :
  Calls Tryz.prog 202 #[.slice (some ⟨r,0,none⟩) q.length cap,.func (.func f) #[] #[x1,x2]] w fun e w'=>EW B w r cap q (Ba key q) e w':=by
 have HM:Hid (∀ m k,k < n → Calls Tryz.prog f #[.int .i64 ((k:Nat):Int),x1,x2] (w.drewN m) fun e w'=>e=.returned (.int .i64 (key k)) ∧ ∃ m',w'=(w.drewN m).drewN m'):=hM
 have hcell:=(fun (i:Nat) x (hx:(Am q)[i]? = some x)=>(h2.cellAt i (by have:=Ad hx;rw [AA] at this;omega)).trans (G9 hx):∀ (i:Nat) x,(Am q)[i]? = some x → w.cell? ⟨r,i,none⟩=some (.int .i64 x))
 have H2:Hid (w.ownsRow B 3 1 (.slice (some ⟨r,0,none⟩) (Am q).length cap) (Am q).length (ints (Am q)) ∧ cap ≤ maxLen ∧ (Am q).length ≤ cap):=by rw [AA];exact ⟨h2,hcm,hlc⟩
 have HC:Hid (∀ i,i < q.length → ∃ k,q[i]? = some k ∧ q.getD i 0=k ∧ k < n ∧ w.cell? ⟨r,i,none⟩=some (.int .i64 ((k:Nat):Int))):=fun i hi=>by
  obtain ⟨k,hk,hmem⟩:=Ai q i hi
  exact ⟨k,hk,by simp [List.getD,hk],hq k hmem,hcell i _ (JL hk)⟩
 unfold maxLen at hcm
 clear h2 hq hM hcell
 obtain ⟨l,hl⟩:∃ l,q.length=l:=⟨_,rfl⟩
 have HL:Hid (q.length=l):=hl
 rw [hl] at hn h0 hlc HC ⊢
 clear hl
 go_enter Tryz.func202,Tryz.ntmps202
 go_wp2_with fail
 go_loopw [6,11] (fun fi i wr=>∃ k:Nat,k ≤ l ∧ i=.int .i64 k ∧ fi=.int .i64 (AB key q k) ∧ ∃ m,wr=w.drewN m) (fun _ i _=>l - (intOf i).toNat)
 case atStart=>exact ⟨0,Nat.zero_le _,rfl,rfl,0,rfl⟩
 case round=>
  obtain ⟨k,hk,rfl,rfl,m,hm⟩:=hrel
  have HW:Hid (wr=w.drewN m):=hm
  by_cases hkl:k < l
  ·
   have hfl:AB key q k < l:=by rw [← HL.out];exact DX key (by rw [HL.out];exact h0) (by rw [HL.out];exact hk)
   obtain ⟨fl,hfe⟩:∃ fl,AB key q k=fl:=⟨_,rfl⟩
   obtain ⟨a,ha,had,han,ca⟩:=HC.out k hkl
   rw [hfe] at hfl ⊢
   obtain ⟨b,hb,hbd,hbn,cb⟩:=HC.out fl hfl
   have HE:Hid (AB key q (k+1)=if key a < key b then k else fl):=by
    show AB key q (k+1)=_
    simp only [AB,had,hfe,hbd]
   have da:wr.cell? ⟨r,k,none⟩=some (.int .i64 (a:Int)):=by rw [hm];exact ca
   have db:wr.cell? ⟨r,fl,none⟩=some (.int .i64 (b:Int)):=by rw [hm];exact cb
   have HMa:Hid (∀ j,Calls Tryz.prog f #[.int .i64 ((a:Nat):Int),x1,x2] (wr.drewN j) fun e w'=>e=.returned (.int .i64 (key a)) ∧ ∃ m',w'=(wr.drewN j).drewN m'):=fun j=>by
    have:=HM.out (m+j) a han
    rw [hm,World.drewN_drewN]
    exact this
   have HMb:Hid (∀ j,Calls Tryz.prog f #[.int .i64 ((b:Nat):Int),x1,x2] (wr.drewN j) fun e w'=>e=.returned (.int .i64 (key b)) ∧ ∃ m',w'=(wr.drewN j).drewN m'):=fun j=>by
    have:=HM.out (m+j) b hbn
    rw [hm,World.drewN_drewN]
    exact this
   clear hfe ha had hb hbd ca cb hm
   by_cases hlt:key a < key b
   ·
    have HE':Hid (AB key q (k+1)=k):=HE.out.trans (if_pos hlt)
    go_wp2_with fail
    go_quiet (first
     | exact Calls.quiet_of (HMa.out _)
     | exact Calls.quiet_of (HMb.out _))
    go_wp2_with fail
    go_roundw
    case rel=>exact ⟨k+1,by omega,by go_num,by rw [HE'.out],m+nq,by rw [HW.out,World.drewN_drewN]⟩
    case measure=>simp [intOf];omega
   ·
    have HE':Hid (AB key q (k+1)=fl):=HE.out.trans (if_neg hlt)
    go_wp2_with fail
    go_quiet (first
     | exact Calls.quiet_of (HMa.out _)
     | exact Calls.quiet_of (HMb.out _))
    go_wp2_with fail
    go_roundw
    case rel=>exact ⟨k+1,by omega,by go_num,by rw [HE'.out],m+nq,by rw [HW.out,World.drewN_drewN]⟩
    case measure=>simp [intOf];omega
  ·
   obtain rfl:k=l:=by omega
   have hfl:AB key q k < k:=by rw [← HL.out];exact DX key (by rw [HL.out];exact h0) (Nat.le_refl _)
   obtain ⟨fl,hfe⟩:∃ fl,AB key q k=fl:=⟨_,rfl⟩
   rw [hfe] at hfl ⊢
   obtain ⟨b,hb,hbd,hbn,cb⟩:=HC.out fl hfl
   have db:wr.cell? ⟨r,fl,none⟩=some (.int .i64 (b:Int)):=by rw [hm];exact cb
   have HPick:Hid (Ba key q=fl ∧ q.getD fl 0=b):=⟨by unfold Ba;rw [HL.out];exact hfe,hbd⟩
   have HBw:Hid (But (fun j=>j=r) w wr):=by
    show But _ _ _
    rw [hm]
    exact .ofBelow (below_drewN (Below.refl _ _) _)
   have HDel:Hid (Calls Tryz.prog 221 #[.slice (some ⟨r,0,none⟩) k cap,.int .i64 (fl:Int),.int .i64 ((fl:Int)+1)] wr fun e w'=>e=.returned (.slice (some ⟨r,0,none⟩) (k - 1) cap) ∧ w'.ownsRow B 3 1 (.slice (some ⟨r,0,none⟩) (k - 1) cap) (k - 1) (ints (Am (q.eraseIdx fl))) ∧ But (fun j=>j=r) wr w'):=by
    have hown:wr.ownsRow B 3 1 (.slice (some ⟨r,0,none⟩) (Am q).length cap) (Am q).length (ints (Am q)):=by rw [hm];exact H2.out.1
    have hd:=J3 B r cap fl (Am q) wr hown (by rw [AA,HL.out];exact hfl) H2.out.2.2 H2.out.2.1
    rw [AA,HL.out,KF] at hd
    exact hd
   clear hfe hb hbd cb hm
   go_wp2_with fail
   refine HDel.out.mono ?_
   rintro e w2 ⟨rfl,hown2,hbut2⟩
   have HO:Hid (w2.ownsRow B 3 1 (.slice (some ⟨r,0,none⟩) (k - 1) cap) (k - 1) (ints (Am (q.eraseIdx fl))) ∧ But (fun j=>j=r) wr w2):=⟨hown2,hbut2⟩
   clear hown2 hbut2
   go_wp2_with fail
   go_ret2
   rw [HPick.out.1]
   unfold EW
   rw [HL.out,HPick.out.2]
   exact ⟨rfl,HO.out.1,HBw.out.trans HO.out.2⟩
theorem Ug (B:Nat) (f:Nat) (x1:Value) (key:Nat → Int) (n r cap:Nat) (q:List Nat) (w:World) (hn:q.length ≤ 1000) (h0:0 < q.length) (hq:∀ k,k ∈ q → k < n)
  (h2:w.ownsRow B 3 1 (.slice (some ⟨r,0,none⟩) q.length cap) q.length (ints (Am q))) (hlc:q.length ≤ cap) (hcm:cap ≤ maxLen)
  (hf:∀ args W,Sem.run Tryz.prog (callFunc f args) W=.ok (.enter f args) W)
  (hM:∀ m k,k < n → Calls Tryz.prog f #[x1,.int .i64 ((k:Nat):Int)] (w.drewN m) fun e w'=>e=.returned (.int .i64 (key k)) ∧ ∃ m',w'=(w.drewN m).drewN m') :
  Calls Tryz.prog 202 #[.slice (some ⟨r,0,none⟩) q.length cap,.func (.func f) #[x1] #[]] w fun e w'=>EW B w r cap q (Ba key q) e w':=by
 have HM:Hid (∀ m k,k < n → Calls Tryz.prog f #[x1,.int .i64 ((k:Nat):Int)] (w.drewN m) fun e w'=>e=.returned (.int .i64 (key k)) ∧ ∃ m',w'=(w.drewN m).drewN m'):=hM
 have hcell:=(fun (i:Nat) x (hx:(Am q)[i]? = some x)=>(h2.cellAt i (by have:=Ad hx;rw [AA] at this;omega)).trans (G9 hx):∀ (i:Nat) x,(Am q)[i]? = some x → w.cell? ⟨r,i,none⟩=some (.int .i64 x))
 have H2:Hid (w.ownsRow B 3 1 (.slice (some ⟨r,0,none⟩) (Am q).length cap) (Am q).length (ints (Am q)) ∧ cap ≤ maxLen ∧ (Am q).length ≤ cap):=by rw [AA];exact ⟨h2,hcm,hlc⟩
 have HC:Hid (∀ i,i < q.length → ∃ k,q[i]? = some k ∧ q.getD i 0=k ∧ k < n ∧ w.cell? ⟨r,i,none⟩=some (.int .i64 ((k:Nat):Int))):=fun i hi=>by
  obtain ⟨k,hk,hmem⟩:=Ai q i hi
  exact ⟨k,hk,by simp [List.getD,hk],hq k hmem,hcell i _ (JL hk)⟩
 unfold maxLen at hcm
 clear h2 hq hM hcell
 obtain ⟨l,hl⟩:∃ l,q.length=l:=⟨_,rfl⟩
 have HL:Hid (q.length=l):=hl
 rw [hl] at hn h0 hlc HC ⊢
 clear hl
 go_enter Tryz.func202,Tryz.ntmps202
 go_wp2_with fail
 go_loopw [6,11] (fun fi i wr=>∃ k:Nat,k ≤ l ∧ i=.int .i64 k ∧ fi=.int .i64 (AB key q k) ∧ ∃ m,wr=w.drewN m) (fun _ i _=>l - (intOf i).toNat)
 case atStart=>exact ⟨0,Nat.zero_le _,rfl,rfl,0,rfl⟩
 case round=>
  obtain ⟨k,hk,rfl,rfl,m,hm⟩:=hrel
  have HW:Hid (wr=w.drewN m):=hm
  by_cases hkl:k < l
  ·
   have hfl:AB key q k < l:=by rw [← HL.out];exact DX key (by rw [HL.out];exact h0) (by rw [HL.out];exact hk)
   obtain ⟨fl,hfe⟩:∃ fl,AB key q k=fl:=⟨_,rfl⟩
   obtain ⟨a,ha,had,han,ca⟩:=HC.out k hkl
   rw [hfe] at hfl ⊢
   obtain ⟨b,hb,hbd,hbn,cb⟩:=HC.out fl hfl
   have HE:Hid (AB key q (k+1)=if key a < key b then k else fl):=by
    show AB key q (k+1)=_
    simp only [AB,had,hfe,hbd]
   have da:wr.cell? ⟨r,k,none⟩=some (.int .i64 (a:Int)):=by rw [hm];exact ca
   have db:wr.cell? ⟨r,fl,none⟩=some (.int .i64 (b:Int)):=by rw [hm];exact cb
   have HMa:Hid (∀ j,Calls Tryz.prog f #[x1,.int .i64 ((a:Nat):Int)] (wr.drewN j) fun e w'=>e=.returned (.int .i64 (key a)) ∧ ∃ m',w'=(wr.drewN j).drewN m'):=fun j=>by
    have:=HM.out (m+j) a han
    rw [hm,World.drewN_drewN]
    exact this
   have HMb:Hid (∀ j,Calls Tryz.prog f #[x1,.int .i64 ((b:Nat):Int)] (wr.drewN j) fun e w'=>e=.returned (.int .i64 (key b)) ∧ ∃ m',w'=(wr.drewN j).drewN m'):=fun j=>by
    have:=HM.out (m+j) b hbn
    rw [hm,World.drewN_drewN]
    exact this
   clear hfe ha had hb hbd ca cb hm
   by_cases hlt:key a < key b
   ·
    have HE':Hid (AB key q (k+1)=k):=HE.out.trans (if_pos hlt)
    go_wp2_with fail
    go_quiet (first
     | exact Calls.quiet_of (HMa.out _)
     | exact Calls.quiet_of (HMb.out _))
    go_wp2_with fail
    go_roundw
    case rel=>exact ⟨k+1,by omega,by go_num,by rw [HE'.out],m+nq,by rw [HW.out,World.drewN_drewN]⟩
    case measure=>simp [intOf];omega
   ·
    have HE':Hid (AB key q (k+1)=fl):=HE.out.trans (if_neg hlt)
    go_wp2_with fail
    go_quiet (first
     | exact Calls.quiet_of (HMa.out _)
     | exact Calls.quiet_of (HMb.out _))
    go_wp2_with fail
    go_roundw
    case rel=>exact ⟨k+1,by omega,by go_num,by rw [HE'.out],m+nq,by rw [HW.out,World.drewN_drewN]⟩
    case measure=>simp [intOf];omega
  ·
   obtain rfl:k=l:=by omega
   have hfl:AB key q k < k:=by rw [← HL.out];exact DX key (by rw [HL.out];exact h0) (Nat.le_refl _)
   obtain ⟨fl,hfe⟩:∃ fl,AB key q k=fl:=⟨_,rfl⟩
   rw [hfe] at hfl ⊢
   obtain ⟨b,hb,hbd,hbn,cb⟩:=HC.out fl hfl
   have db:wr.cell? ⟨r,fl,none⟩=some (.int .i64 (b:Int)):=by rw [hm];exact cb
   have HPick:Hid (Ba key q=fl ∧ q.getD fl 0=b):=⟨by unfold Ba;rw [HL.out];exact hfe,hbd⟩
   have HBw:Hid (But (fun j=>j=r) w wr):=by
    show But _ _ _
    rw [hm]
    exact .ofBelow (below_drewN (Below.refl _ _) _)
   have HDel:Hid (Calls Tryz.prog 221 #[.slice (some ⟨r,0,none⟩) k cap,.int .i64 (fl:Int),.int .i64 ((fl:Int)+1)] wr fun e w'=>e=.returned (.slice (some ⟨r,0,none⟩) (k - 1) cap) ∧ w'.ownsRow B 3 1 (.slice (some ⟨r,0,none⟩) (k - 1) cap) (k - 1) (ints (Am (q.eraseIdx fl))) ∧ But (fun j=>j=r) wr w'):=by
    have hown:wr.ownsRow B 3 1 (.slice (some ⟨r,0,none⟩) (Am q).length cap) (Am q).length (ints (Am q)):=by rw [hm];exact H2.out.1
    have hd:=J3 B r cap fl (Am q) wr hown (by rw [AA,HL.out];exact hfl) H2.out.2.2 H2.out.2.1
    rw [AA,HL.out,KF] at hd
    exact hd
   clear hfe hb hbd cb hm
   go_wp2_with fail
   refine HDel.out.mono ?_
   rintro e w2 ⟨rfl,hown2,hbut2⟩
   have HO:Hid (w2.ownsRow B 3 1 (.slice (some ⟨r,0,none⟩) (k - 1) cap) (k - 1) (ints (Am (q.eraseIdx fl))) ∧ But (fun j=>j=r) wr w2):=⟨hown2,hbut2⟩
   clear hown2 hbut2
   go_wp2_with fail
   go_ret2
   rw [HPick.out.1]
   unfold EW
   rw [HL.out,HPick.out.2]
   exact ⟨rfl,HO.out.1,HBw.out.trans HO.out.2⟩
end Go.Proofs.YtipdclphpkgceaaGreatDoor
