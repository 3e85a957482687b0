/- Own facts, put together: no statement of its own. -/
import Derived.Maps.OwnOps
import Derived.Maps.Views
import Derived.Laws.EntriesVeiled
import Derived.Laws.StructEq
import Derived.Test.YtipdclphpkgceaaGreatDoorA07
import Derived.Test.YtipdclphpkgceaaGreatDoorA01
import Derived.Test.YtipdclphpkgceaaGreatDoorA05
import Derived.Test.YtipdclphpkgceaaGreatDoorA02
import Derived.BigQuiet
set_option maxHeartbeats 2000000
set_option maxRecDepth 100000

namespace Go.Proofs.YtipdclphpkgceaaGreatDoor
open Go.RowKit
theorem Vv {P:Program} {k:TypeId} (hk:P.underlying k=some .string) (w:World) (b:Bool) (s:ByteArray):(Instr.checkKey b 10000 k (.string s)).run P w=.ok () w:=by
 show (Instr.checkKey b (9999+1) k (.string s)).run P w=_
 unfold Instr.checkKey
 simp [run_underlying hk,Result.andThen]
theorem Zl {P:Program} {t k e:TypeId} (ht:P.underlying t=some (.map k e)) (hk:P.underlying k=some .string) {w:World} {b:Nat} {es:Array MapEntry} {clock:Nat} (hb:w.heap[b]? = some (.map es clock)) (s:ByteArray) (v:Value) (hn:Instr.findNow .string (.string s) es.toList 0=some none) :
  ∃ w',(Instr.mapUpdate t (.map (some b)) (.string s) v).run P w=.ok () w' ∧ w'.heap[b]? = some (.map (es.push { key:=.string s,val:=v,born:=clock }) (clock+1)) ∧ But (fun k=>k=b) w w':=by
 refine ⟨ChangeMaps.setBlock w b (.map (es.push { key:=.string s,val:=v,born:=clock }) (clock+1)),?_,ChangeMaps.heap_setBlock_same hb _,⟨rfl,rfl,rfl,by simp [ChangeMaps.setBlock],fun i _ hi=>ChangeMaps.heap_setBlock_other hb _ (fun e=>hi e)⟩⟩
 simp [Instr.mapUpdate,run_underlying ht,MapKept.run_getObj_map hb,Vv hk,run_underlying hk,Instr.findKey,hn,MapKept.run_setObj_map _ hb,Result.andThen,ChangeMaps.setBlock]
theorem bi {P:Program} {t k e:TypeId} (ht:P.underlying t=some (.map k e)) (hk:P.underlying k=some .string) {w:World} {b:Nat} {es:Array MapEntry} {clock:Nat} (hb:w.heap[b]? = some (.map es clock)) (s:ByteArray) (i:Nat) (v:Value) (hn:Instr.findNow .string (.string s) es.toList 0=some (some (i,v))) (c:Bool) :
  (Instr.lookup t (.map (some b)) (.string s) c).run P w=.ok (if c then .tuple #[v,.bool true] else v) w:=by
 cases c <;> simp [Instr.lookup,run_underlying ht,MapKept.run_getObj_map hb,Vv hk,run_underlying hk,Instr.findKey,hn,Result.andThen]
theorem Vi {P:Program} {t k e:TypeId} (ht:P.underlying t=some (.map k e)) (hk:P.underlying k=some .string) {w:World} {b:Nat} {es:Array MapEntry} {clock:Nat} (hb:w.heap[b]? = some (.map es clock)) (s:ByteArray) (z:Value) (hz:(zeroValue e).run P w=.ok z w) (hn:Instr.findNow .string (.string s) es.toList 0=some none) (c:Bool) :
  (Instr.lookup t (.map (some b)) (.string s) c).run P w=.ok (if c then .tuple #[z,.bool false] else z) w:=by
 cases c <;> simp [Instr.lookup,run_underlying ht,MapKept.run_getObj_map hb,Vv hk,run_underlying hk,Instr.findKey,hn,hz,Result.andThen]
def Dh (X:Nat):Nat → Value
 | 1=>.func (.func 167) #[] #[.pointer (some ⟨X,0,none⟩)]
 | 2=>.func (.func 144) #[] #[]
 | 3=>.func (.func 145) #[] #[]
 | 4=>.func (.func 146) #[] #[]
 | 5=>.func (.func 147) #[] #[]
 | _=>.nilFunc
def ZN (X:Nat):Obj:=.map #[{ key:=.string ⟨#[102,105,102,111]⟩,val:=Dh X 1,born:=0 },{ key:=.string ⟨#[114,97,110,107]⟩,val:=Dh X 2,born:=1 },{ key:=.string ⟨#[100,117,101]⟩,val:=Dh X 3,born:=2 },{ key:=.string ⟨#[114,111,117,110,100]⟩,val:=Dh X 4,born:=3 },{ key:=.string ⟨#[102,97,105,114]⟩,val:=Dh X 5,born:=4 }] 5
structure Kb (w:World) (M X:Nat):Prop where
 obj:w.heap[M]? = some (ZN X)
 box:w.cell? ⟨X,0,none⟩=some (.func (.func 143) #[] #[])
theorem Wy (kb:ByteArray) (X k:Nat) (hk:kindOf kb.toList=k):Instr.findNow .string (.string kb) [{ key:=.string ⟨#[102,105,102,111]⟩,val:=Dh X 1,born:=0 },{ key:=.string ⟨#[114,97,110,107]⟩,val:=Dh X 2,born:=1 },{ key:=.string ⟨#[100,117,101]⟩,val:=Dh X 3,born:=2 },{ key:=.string ⟨#[114,111,117,110,100]⟩,val:=Dh X 4,born:=3 },{ key:=.string ⟨#[102,97,105,114]⟩,val:=Dh X 5,born:=4 }] 0=some (if k=0 then none else some (k - 1,Dh X k)):=by
 have t:=PI kb
 rw [hk] at t
 have h5:k ≤ 5:=by rw [← hk];exact G6 _
 have e1:=beq_toListBytes kb ⟨#[102,105,102,111]⟩
 have e2:=beq_toListBytes kb ⟨#[114,97,110,107]⟩
 have e3:=beq_toListBytes kb ⟨#[100,117,101]⟩
 have e4:=beq_toListBytes kb ⟨#[114,111,117,110,100]⟩
 have e5:=beq_toListBytes kb ⟨#[102,97,105,114]⟩
 rw [t.u1] at e1
 rw [t.u2] at e2
 rw [t.u3] at e3
 rw [t.u4] at e4
 rw [t.u5] at e5
 rcases (show k=0 ∨ k=1 ∨ k=2 ∨ k=3 ∨ k=4 ∨ k=5 by omega) with rfl | rfl | rfl | rfl | rfl | rfl <;> simp only [Instr.findNow,Instr.sameNow,e1,e2,e3,e4,e5] <;> rfl
theorem Tryz.sendersU:Tryz.prog.underlying 189=some (.map 9 188):=by kernel_rfl
theorem Tryz.strU:Tryz.prog.underlying 9=some .string:=by kernel_rfl
theorem Tryz.senderZero (w:World):(zeroValue 188).run Tryz.prog w=.ok .nilFunc w:=by kernel_rfl
theorem Kb.look {w:World} {M X:Nat} (h:Kb w M X) (kb:ByteArray) {k:Nat} (hk:kindOf kb.toList=k) (c:Bool):(Instr.lookup 189 (.map (some M)) (.string kb) c).run Tryz.prog w=.ok (if c then .tuple #[Dh X k,.bool (decide (k ≠ 0))] else Dh X k) w:=by
 have hf:=Wy kb X k hk
 by_cases h0:k=0
 ·
  subst h0
  rw [if_pos rfl] at hf
  exact Vi Tryz.sendersU Tryz.strU h.obj kb .nilFunc (Tryz.senderZero w) hf c
 ·
  rw [if_neg h0] at hf
  have:=bi (P:=Tryz.prog) Tryz.sendersU Tryz.strU h.obj kb _ _ hf c
  rw [this]
  simp [h0]
theorem J2 (v:Value) (w:World) (f:Nat) (hv:v=.func (.func f) #[] #[]) :
  Calls Tryz.prog 142 #[v] w fun e w'=>e=.returned (.func (.func 167) #[] #[.pointer (some ⟨w.heap.size,0,none⟩)]) ∧ w'=w.alloc (.cells #[v] 213):=by
 subst hv
 go_enter Tryz.func142,Tryz.ntmps142
 go_wp2_with fail
 go_ret
 exact ⟨rfl,rfl⟩
theorem UA (w:World):Calls Tryz.prog 115 #[] w fun e w'=>∃ M X,e=.returned (.map (some M)) ∧ Kb w' M X ∧ Below w.heap.size w w':=by
 have HW:Hid (∀ W,Calls Tryz.prog 142 #[.func (.func 143) #[] #[]] W fun e w'=>e=.returned (.func (.func 167) #[] #[.pointer (some ⟨W.heap.size,0,none⟩)]) ∧ w'=W.alloc (.cells #[.func (.func 143) #[] #[]] 213)):=fun W=>J2 _ W _ rfl
 have hb1:Below w.heap.size w (w.alloc (.map #[] 0)):=(Below.refl _ _).alloc (Nat.le_refl _) _
 have hb2:Below w.heap.size w ((w.alloc (.map #[] 0)).alloc (.cells #[.func (.func 143) #[] #[]] 213)):=hb1.alloc hb1.size _
 have o0:((w.alloc (.map #[] 0)).alloc (.cells #[.func (.func 143) #[] #[]] 213)).heap[w.heap.size]? = some (.map #[] 0):=(((Below.refl (w.alloc (.map #[] 0)).heap.size (w.alloc (.map #[] 0))).alloc (Nat.le_refl _) (.cells #[.func (.func 143) #[] #[]] 213)).block w.heap.size (by simp)).trans (by show (w.heap.push (Obj.map #[] 0))[w.heap.size]? = some (Obj.map #[] 0);simp)
 have x0:((w.alloc (.map #[] 0)).alloc (.cells #[.func (.func 143) #[] #[]] 213)).cell? ⟨w.heap.size+1,0,none⟩=some (.func (.func 143) #[] #[]):=by simp
 have hs:(w.alloc (.map #[] 0)).heap.size=w.heap.size+1:=by simp
 obtain ⟨W0,hW0⟩:∃ W,(w.alloc (.map #[] 0)).alloc (.cells #[.func (.func 143) #[] #[]] 213)=W:=⟨_,rfl⟩
 rw [hW0] at hb2 o0 x0
 obtain ⟨W1,r1,o1,b1⟩:=Zl Tryz.sendersU Tryz.strU o0 ⟨#[102,105,102,111]⟩ (.func (.func 167) #[] #[.pointer (some ⟨w.heap.size+1,0,none⟩)]) (by kernel_rfl)
 obtain ⟨W2,r2,o2,b2⟩:=Zl Tryz.sendersU Tryz.strU o1 ⟨#[114,97,110,107]⟩ (.func (.func 144) #[] #[]) (by kernel_rfl)
 obtain ⟨W3,r3,o3,b3⟩:=Zl Tryz.sendersU Tryz.strU o2 ⟨#[100,117,101]⟩ (.func (.func 145) #[] #[]) (by kernel_rfl)
 obtain ⟨W4,r4,o4,b4⟩:=Zl Tryz.sendersU Tryz.strU o3 ⟨#[114,111,117,110,100]⟩ (.func (.func 146) #[] #[]) (by kernel_rfl)
 obtain ⟨W5,r5,o5,b5⟩:=Zl Tryz.sendersU Tryz.strU o4 ⟨#[102,97,105,114]⟩ (.func (.func 147) #[] #[]) (by kernel_rfl)
 have hbt:=(((b1.trans b2).trans b3).trans b4).trans b5
 have HE:Hid (Kb W5 w.heap.size (w.heap.size+1) ∧ Below w.heap.size w W5):=by
  refine ⟨⟨o5,?_⟩,hb2.trans (hbt.below hb2.size fun k hk=>by rw [hk];exact Nat.le_refl _)⟩
  rw [hbt.cell (p:=⟨w.heap.size+1,0,none⟩) (Ck x0) (by show ¬ w.heap.size+1=w.heap.size;omega)]
  exact x0
 have hmm:=@run_makeMap Tryz.prog
 have HW0:Hid ((w.alloc (.map #[] 0)).alloc (.cells #[.func (.func 143) #[] #[]] 213)=W0):=hW0
 clear hb1 hb2 o0 x0 o1 o2 o3 o4 o5 b1 b2 b3 b4 b5 hbt hW0
 go_enter Tryz.func115,Tryz.ntmps115
 go_wp2_with fail
 refine (HW.out _).mono ?_
 rintro e w1 ⟨rfl,rfl⟩
 rw [hs,HW0.out]
 go_wp2_with fail
 go_ret
 exact ⟨_,_,rfl,HE.out.1,HE.out.2⟩
theorem Yq (hi x:Int) (g:Nat) (w:World) (hc:w.cell? ⟨g,0,none⟩=some (.int .i64 hi)) (h:0 ≤ x ∧ x ≤ hi) :
  Calls Tryz.prog 199 #[.int .i64 x,.pointer (some ⟨g,0,none⟩)] w fun e w'=>e=.returned (.bool true) ∧ w'=w:=by
 obtain ⟨h1,h2⟩:=h
 go_enter Tryz.func199,Tryz.ntmps199
 go_wp2
 go_ret
 exact ⟨rfl,rfl⟩
theorem Zv (hi x:Int) (g:Nat) (w:World) (hc:w.cell? ⟨g,0,none⟩=some (.int .i64 hi)) (h:¬ (0 ≤ x ∧ x ≤ hi)) :
  Calls Tryz.prog 199 #[.int .i64 x,.pointer (some ⟨g,0,none⟩)] w fun e w'=>e=.returned (.bool false) ∧ w'=w:=by
 by_cases h1:0 ≤ x
 ·
  have h2:¬ x ≤ hi:=fun h'=>h ⟨h1,h'⟩
  clear h
  go_enter Tryz.func199,Tryz.ntmps199
  go_wp2
  go_ret
  exact ⟨rfl,rfl⟩
 ·
  clear h
  go_enter Tryz.func199,Tryz.ntmps199
  go_wp2
  go_ret
  exact ⟨rfl,rfl⟩
theorem Ej (a:Option Addr) (n cap:Nat) (f:Value) (w:World) (ad:Nat → Addr) (h:n ≠ 8) (he:w.cell? ⟨2,0,none⟩=some (.iface 312 (.pointer (some (ad 2))))) :
  Calls Tryz.prog 175 #[.slice a n cap,f] w fun e w'=>e=.returned (.iface 312 (.pointer (some (ad 2)))) ∧ w'=w:=by
 have h8:(n:Int) ≠ 8:=by omega
 have h8':((n:Int) == 8)=false:=by simpa using h8
 go_enter Tryz.func175,Tryz.ntmps175
 go_wp2
 go_ret
 exact ⟨rfl,rfl⟩
theorem Iz (a:Option Addr) (cap:Nat) (ns:List Int) (hi:Int) (g:Nat) (w:World) (ad:Nat → Addr) (hc:w.cell? ⟨g,0,none⟩=some (.int .i64 hi)) (hl:AV w a ns) (h8:ns.length=8) (j:Nat) (hj:j ≤ 8) (hg:∀ (i:Nat) y,i < j → ns[i]? = some y → 0 ≤ y ∧ y ≤ hi) (R:Value)
  (h:(j=8 ∧ R=.nilIface) ∨ (R=.iface 312 (.pointer (some (ad 1))) ∧ w.cell? ⟨0,0,none⟩=some (.iface 312 (.pointer (some (ad 1)))) ∧ ∃ x,ns[j]? = some x ∧ ¬ (0 ≤ x ∧ x ≤ hi))) :
  Calls Tryz.prog 175 #[.slice a 8 cap,.func (.func 199) #[] #[.pointer (some ⟨g,0,none⟩)]] w fun e w'=>e=.returned R ∧ w'=w:=by
 have HG:Hid (∀ (i:Nat) y,i < j → ns[i]? = some y → 0 ≤ y ∧ y ≤ hi):=hg
 have HR:Hid ((j=8 ∧ R=.nilIface) ∨ (R=.iface 312 (.pointer (some (ad 1))) ∧ w.cell? ⟨0,0,none⟩=some (.iface 312 (.pointer (some (ad 1)))) ∧ ∃ x,ns[j]? = some x ∧ ¬ (0 ≤ x ∧ x ≤ hi))):=h
 obtain ⟨b,off,rfl,-,hcell⟩:=hl.place (by omega)
 have HC:Hid (∀ (i:Nat) x,ns[i]? = some x → w.cell? ⟨b,off+i,none⟩=some (.int .i64 x)):=hcell
 have H8:Hid (ns.length=8):=h8
 clear hg h hl hcell h8
 go_enter Tryz.func175,Tryz.ntmps175
 go_wp2_with fail
 go_loopw [13] (fun i wr=>∃ k:Nat,k ≤ j ∧ i=.int .i64 k ∧ wr=w) (fun i _=>8 - (intOf i).toNat)
 case atStart=>exact ⟨0,Nat.zero_le _,rfl,rfl⟩
 case round=>
  obtain ⟨k,hk,rfl,rfl⟩:=hrel
  by_cases hkj:k < j
  ·
   obtain ⟨x,hx,-⟩:=Ai ns k (by rw [H8.out];omega)
   have hok:=HG.out k x hkj hx
   have c1:=HC.out k x hx
   clear hx
   go_wp2_with fail
   refine (Yq hi x g _ hc hok).mono ?_
   rintro e w1 ⟨rfl,rfl⟩
   go_wp2_with fail
   go_roundw
   case rel=>exact ⟨k+1,by omega,by go_num,trivial⟩
   case measure=>simp [intOf];omega
  ·
   obtain rfl:k=j:=by omega
   rcases HR.out with ⟨rfl,rfl⟩ | ⟨rfl,he,x,hx,hbad⟩
   ·
    go_wp2_with fail
    go_ret
    exact ⟨rfl,rfl⟩
   ·
    have c1:=HC.out k x hx
    have hk8:k < 8:=by
     rw [← H8.out]
     rcases Nat.lt_or_ge k ns.length with h' | h'
     · exact h'
     · simp [List.getElem?_eq_none h'] at hx
    clear hx
    go_wp2_with fail
    refine (Zv hi x g _ hc hbad).mono ?_
    rintro e w1 ⟨rfl,rfl⟩
    go_wp2_with fail
    go_ret
    exact ⟨rfl,rfl⟩
def Iu (w:World) (ad:Nat → Addr):Prop:=w.cell? ⟨0,0,none⟩=some (.iface 312 (.pointer (some (ad 1)))) ∧ w.cell? ⟨2,0,none⟩=some (.iface 312 (.pointer (some (ad 2))))
theorem Iu.below {w w':World} {ad:Nat → Addr} (h:Iu w ad) (hb:Below w.heap.size w w'):Iu w' ad:=⟨cell_later hb h.1,cell_later hb h.2⟩
theorem Gf {R:Value} (a:Option Addr) (n cap:Nat) (hi:Int) (w:World) (h:Calls Tryz.prog 175 #[.slice a n cap,.func (.func 199) #[] #[.pointer (some ⟨w.heap.size,0,none⟩)]] (w.alloc (.cells #[.int .i64 hi] 3)) fun e w'=>e=.returned R ∧ w'=w.alloc (.cells #[.int .i64 hi] 3)) :
  Calls Tryz.prog 171 #[.slice a n cap,.int .i64 hi] w fun e w'=>e=.returned R ∧ Below w.heap.size w w':=by
 have HC:Hid (Calls Tryz.prog 175 #[.slice a n cap,.func (.func 199) #[] #[.pointer (some ⟨w.heap.size,0,none⟩)]] (w.alloc (.cells #[.int .i64 hi] 3)) fun e w'=>e=.returned R ∧ w'=w.alloc (.cells #[.int .i64 hi] 3)):=h
 clear h
 go_enter Tryz.func171,Tryz.ntmps171
 go_wp2_with fail
 refine HC.out.mono ?_
 rintro e w1 ⟨rfl,rfl⟩
 go_wp2_with fail
 go_ret
 exact ⟨rfl,(Below.refl _ _).alloc (Nat.le_refl _) _⟩
theorem Kn (a:Option Addr) (cap:Nat) (ns:List Int) (hi:Int) (w:World) (hl:AV w a ns) (ho:E5 0 hi ns) :
  Calls Tryz.prog 171 #[.slice a ns.length cap,.int .i64 hi] w fun e w'=>e=.returned .nilIface ∧ Below w.heap.size w w':=by
 have hb:Below w.heap.size w (w.alloc (.cells #[.int .i64 hi] 3)):=(Below.refl _ _).alloc (Nat.le_refl _) _
 rw [ho.len]
 exact Gf a 8 cap hi w (Iz a cap ns hi w.heap.size _ (fun _=>⟨0,0,none⟩) (by simp) (hl.below hb) ho.len 8 (Nat.le_refl _) (fun i y _ hy=>ho.each i y hy) .nilIface (.inl ⟨rfl,rfl⟩))
theorem JE (a:Option Addr) (cap:Nat) (ns:List Int) (hi:Int) (w:World) (ad:Nat → Addr) (he:Iu w ad) (hl:AV w a ns) (c:Nat) (h:Ct 0 hi ns c) (hc:0 < c) :
  Calls Tryz.prog 171 #[.slice a ns.length cap,.int .i64 hi] w fun e w'=>e=.returned (Ec ad c) ∧ Below w.heap.size w w':=by
 have hb:Below w.heap.size w (w.alloc (.cells #[.int .i64 hi] 3)):=(Below.refl _ _).alloc (Nat.le_refl _) _
 rcases h with ⟨rfl,h8⟩ | ⟨rfl,j,h8,hx,hg⟩ | ⟨rfl,-⟩
 · exact Gf a _ cap hi w (Ej a _ cap _ _ ad h8 (he.below hb).2)
 ·
  rw [h8]
  have hj:j ≤ 8:=by
   obtain ⟨x,hx,-⟩:=hx
   rw [← h8]
   rcases Nat.lt_or_ge j ns.length with h' | h'
   · exact Nat.le_of_lt h'
   · simp [List.getElem?_eq_none h'] at hx
  exact Gf a 8 cap hi w (Iz a cap ns hi w.heap.size _ ad (by simp) (hl.below hb) h8 j hj hg _ (.inr ⟨rfl,(he.below hb).1,hx⟩))
 · omega
theorem U6 (x:Int) (w:World) (h:K4 x):Calls Tryz.prog 207 #[.int .i64 x] w fun e w'=>e=.returned (.bool true) ∧ w'=w:=by
 obtain ⟨h1,h2⟩:=h
 have h3:(12 % x == 0)=true:=by simpa using h2
 clear h2
 go_enter Tryz.func207,Tryz.ntmps207
 go_wp2
 go_ret
 exact ⟨rfl,rfl⟩
theorem Wh (x:Int) (w:World) (h:¬ K4 x):Calls Tryz.prog 207 #[.int .i64 x] w fun e w'=>e=.returned (.bool false) ∧ w'=w:=by
 by_cases h1:1 ≤ x
 ·
  have h4:(12 % x == 0)=false:=by simpa using fun h2=>h ⟨h1,h2⟩
  clear h
  go_enter Tryz.func207,Tryz.ntmps207
  go_wp2
  go_ret
  exact ⟨rfl,rfl⟩
 ·
  clear h
  go_enter Tryz.func207,Tryz.ntmps207
  go_wp2
  go_ret
  exact ⟨rfl,rfl⟩
theorem Iy (a:Option Addr) (cap:Nat) (ns:List Int) (w:World) (ad:Nat → Addr) (hl:AV w a ns) (h8:ns.length=8) (j:Nat) (hj:j ≤ 8) (hg:∀ (i:Nat) y,i < j → ns[i]? = some y → K4 y) (R:Value)
  (h:(j=8 ∧ R=.nilIface) ∨ (R=.iface 312 (.pointer (some (ad 1))) ∧ w.cell? ⟨0,0,none⟩=some (.iface 312 (.pointer (some (ad 1)))) ∧ ∃ x,ns[j]? = some x ∧ ¬ K4 x)) :
  Calls Tryz.prog 175 #[.slice a 8 cap,.func (.func 207) #[] #[]] w fun e w'=>e=.returned R ∧ w'=w:=by
 have HG:Hid (∀ (i:Nat) y,i < j → ns[i]? = some y → K4 y):=hg
 have HR:Hid ((j=8 ∧ R=.nilIface) ∨ (R=.iface 312 (.pointer (some (ad 1))) ∧ w.cell? ⟨0,0,none⟩=some (.iface 312 (.pointer (some (ad 1)))) ∧ ∃ x,ns[j]? = some x ∧ ¬ K4 x)):=h
 obtain ⟨b,off,rfl,-,hcell⟩:=hl.place (by omega)
 have HC:Hid (∀ (i:Nat) x,ns[i]? = some x → w.cell? ⟨b,off+i,none⟩=some (.int .i64 x)):=hcell
 have H8:Hid (ns.length=8):=h8
 clear hg h hl hcell h8
 go_enter Tryz.func175,Tryz.ntmps175
 go_wp2_with fail
 go_loopw [13] (fun i wr=>∃ k:Nat,k ≤ j ∧ i=.int .i64 k ∧ wr=w) (fun i _=>8 - (intOf i).toNat)
 case atStart=>exact ⟨0,Nat.zero_le _,rfl,rfl⟩
 case round=>
  obtain ⟨k,hk,rfl,rfl⟩:=hrel
  by_cases hkj:k < j
  ·
   obtain ⟨x,hx,-⟩:=Ai ns k (by rw [H8.out];omega)
   have hok:=HG.out k x hkj hx
   have c1:=HC.out k x hx
   clear hx
   go_wp2_with fail
   refine (U6 x _ hok).mono ?_
   rintro e w1 ⟨rfl,rfl⟩
   go_wp2_with fail
   go_roundw
   case rel=>exact ⟨k+1,by omega,by go_num,trivial⟩
   case measure=>simp [intOf];omega
  ·
   obtain rfl:k=j:=by omega
   rcases HR.out with ⟨rfl,rfl⟩ | ⟨rfl,he,x,hx,hbad⟩
   ·
    go_wp2_with fail
    go_ret
    exact ⟨rfl,rfl⟩
   ·
    have c1:=HC.out k x hx
    have hk8:k < 8:=by
     rw [← H8.out]
     rcases Nat.lt_or_ge k ns.length with h' | h'
     · exact h'
     · simp [List.getElem?_eq_none h'] at hx
    clear hx
    go_wp2_with fail
    refine (Wh x _ hbad).mono ?_
    rintro e w1 ⟨rfl,rfl⟩
    go_wp2_with fail
    go_ret
    exact ⟨rfl,rfl⟩
theorem L9 (a:Option Addr) (cap:Nat) (ns:List Int) (w:World) (hl:AV w a ns) (ho:GD ns) :
  Calls Tryz.prog 175 #[.slice a ns.length cap,.func (.func 207) #[] #[]] w fun e w'=>e=.returned .nilIface ∧ w'=w:=by
 rw [ho.len]
 exact Iy a cap ns w (fun _=>⟨0,0,none⟩) hl ho.len 8 (Nat.le_refl _) (fun i y _ hy=>ho.each i y hy) _ (.inl ⟨rfl,rfl⟩)
theorem K6 (a:Option Addr) (cap:Nat) (ns:List Int) (w:World) (ad:Nat → Addr) (he:Iu w ad) (hl:AV w a ns) (c:Nat) (h:Gg ns c) (hc:0 < c) :
  Calls Tryz.prog 175 #[.slice a ns.length cap,.func (.func 207) #[] #[]] w fun e w'=>e=.returned (Ec ad c) ∧ w'=w:=by
 rcases h with ⟨rfl,h8⟩ | ⟨rfl,j,h8,⟨x,hx,hbad⟩,hg⟩ | ⟨rfl,-⟩
 · exact Ej a ns.length cap _ w ad h8 he.2
 ·
  rw [h8]
  exact Iy a cap ns w ad hl h8 j (by have:=Ad hx;omega) hg _ (.inr ⟨rfl,he.1,x,hx,hbad⟩)
 · omega
theorem NC {w:World} {ad:Nat → Addr} (he:AP w ad) {hi:Int} {ns:List Int} {c:Nat} (h:Ct 0 hi ns c) (hc:0 < c):∃ ty v,Ec ad c=.iface ty v ∧ AR w (.iface ty v) c (-1):=by
 rcases h with ⟨rfl,-⟩ | ⟨rfl,-⟩ | ⟨rfl,-⟩
 · exact ⟨_,_,rfl,AY he 2 (by decide)⟩
 · exact ⟨_,_,rfl,AY he 1 (by decide)⟩
 · omega
theorem AP.nums {w:World} {ad:Nat → Addr} (he:AP w ad):Iu w ad:=⟨he.c1,he.c2⟩
theorem Sl {w:World} {ad:Nat → Addr} (he:AP w ad) {lo hi:Int} {ns:List Int} {c:Nat} (h:Ct lo hi ns c) (hc:0 < c):∃ ty v,Ec ad c=.iface ty v ∧ AR w (.iface ty v) c (-1):=by
 rcases h with ⟨rfl,-⟩ | ⟨rfl,-⟩ | ⟨rfl,-⟩
 · exact ⟨_,_,rfl,AY he 2 (by decide)⟩
 · exact ⟨_,_,rfl,AY he 1 (by decide)⟩
 · omega
end Go.Proofs.YtipdclphpkgceaaGreatDoor

namespace Go.Proofs.YtipdclphpkgceaaGreatDoor
def xch (f:Nat → Nat) (i j:Nat):Nat → Nat:=fun k=>if k=i then f j else if k=j then f i else f k
def swr (f:Nat → Nat) (a b n:Nat):Nat → Nat:=fun k=>if a ≤ k ∧ k < a+n then f (k+b - a) else if b ≤ k ∧ k < b+n then f (k+a - b) else f k
def rot (f:Nat → Nat) (a m b:Nat):Nat → Nat:=fun k=>if a ≤ k ∧ k < a+b - m then f (k+m - a) else if a+b - m ≤ k ∧ k < b then f (k+m - b) else f k
theorem YK (f:Nat → Nat) (a b:Nat):swr f a b 0=f:=by
 funext k
 unfold swr
 rw [if_neg (by omega),if_neg (by omega)]
theorem Yp (f:Nat → Nat) {a b n:Nat} (h:a+n < b):xch (swr f a b n) (a+n) (b+n)=swr f a b (n+1):=by
 funext k
 simp only [xch,swr]
 by_cases h1:k=a+n
 ·
  subst h1
  rw [if_pos rfl,if_neg (by omega),if_neg (by omega),if_pos (by omega)]
  congr 1;omega
 ·
  rw [if_neg h1]
  by_cases h2:k=b+n
  ·
   subst h2
   rw [if_pos rfl,if_neg (by omega),if_neg (by omega),if_neg (by omega),if_pos (by omega)]
   congr 1;omega
  ·
   rw [if_neg h2]
   by_cases h3:a ≤ k ∧ k < a+n
   · rw [if_pos h3,if_pos (by omega)]
   ·
    by_cases h4:b ≤ k ∧ k < b+n
    · rw [if_neg h3,if_pos h4,if_neg (by omega),if_pos (by omega)]
    · rw [if_neg h3,if_neg h4,if_neg (by omega),if_neg (by omega)]
theorem Yu (f:Nat → Nat) {m i j:Nat} (hij:j < i) (hi:i ≤ m):rot (swr f (m - i) m j) (m - (i - j)) m (m+j)=rot f (m - i) m (m+j):=by
 funext k
 simp only [rot,swr]
 by_cases h1:m - i ≤ k ∧ k < m - i+j
 · rw [if_neg (by omega),if_neg (by omega),if_pos h1,if_pos (by omega)]
 ·
  by_cases h2:m - (i - j) ≤ k ∧ k < m - (i - j)+(m+j) - m
  ·
   rw [if_pos h2,if_neg (by omega),if_pos (by omega),if_neg (by omega),if_pos (by omega)]
   congr 1;omega
  ·
   rw [if_neg h2]
   by_cases h3:m - (i - j)+(m+j) - m ≤ k ∧ k < m+j
   · rw [if_pos h3,if_neg (by omega),if_neg (by omega),if_neg (by omega),if_pos (by omega)]
   · rw [if_neg h3,if_neg (by omega),if_neg (by omega),if_neg (by omega),if_neg (by omega)]
theorem Wx (f:Nat → Nat) {m i j:Nat} (hij:i < j) (hi:i ≤ m):rot (swr f (m - i) (m+j - i) i) (m - i) m (m+(j - i))=rot f (m - i) m (m+j):=by
 funext k
 simp only [rot,swr]
 by_cases h1:m - i ≤ k ∧ k < m - i+(m+(j - i)) - m
 · rw [if_pos h1,if_neg (by omega),if_neg (by omega),if_pos (by omega)]
 ·
  rw [if_neg h1]
  by_cases h2:m - i+(m+(j - i)) - m ≤ k ∧ k < m+(j - i)
  ·
   rw [if_pos h2,if_pos (by omega),if_pos (by omega)]
   congr 1;omega
  ·
   rw [if_neg h2]
   by_cases h3:m+j - i ≤ k ∧ k < m+j
   ·
    rw [if_neg (by omega),if_pos (by omega),if_neg (by omega),if_pos (by omega)]
    congr 1;omega
   · rw [if_neg (by omega),if_neg (by omega),if_neg (by omega),if_neg (by omega)]
theorem YL (f:Nat → Nat) {m i:Nat} (hi:i ≤ m):swr f (m - i) m i=rot f (m - i) m (m+i):=by
 funext k
 simp only [rot,swr]
 by_cases h1:m - i ≤ k ∧ k < m - i+i
 · rw [if_pos h1,if_pos (by omega)]
 ·
  by_cases h2:m ≤ k ∧ k < m+i
  ·
   rw [if_neg h1,if_pos h2,if_neg (by omega),if_pos (by omega)]
   congr 1;omega
  · rw [if_neg h1,if_neg h2,if_neg (by omega),if_neg (by omega)]
theorem NZ (f:Nat → Nat) (a m:Nat):rot f a m m=f:=by
 funext k
 simp only [rot]
 by_cases h:a ≤ k ∧ k < m
 · rw [if_neg (by omega),if_pos (by omega)];congr 1;omega
 ·
  by_cases h2:a ≤ k ∧ k < a+m - m
  · omega
  · rw [if_neg h2,if_neg (by omega)]
theorem Mm (f:Nat → Nat) (m b:Nat):rot f m m b=f:=by
 funext k
 simp only [rot]
 by_cases h2:m ≤ k ∧ k < m+b - m
 · rw [if_pos h2];congr 1;omega
 · rw [if_neg h2,if_neg (by omega)]
theorem aQ (f:Nat → Nat) {a k:Nat} (h:a ≤ k):xch (rot f a (a+1) (k+1)) k (k+1)=rot f a (a+1) (k+1+1):=by
 funext x
 simp only [xch,rot]
 by_cases h1:x=k
 ·
  subst h1
  rw [if_pos rfl,if_neg (by omega),if_neg (by omega),if_pos (by omega)]
  congr 1;omega
 ·
  rw [if_neg h1]
  by_cases h2:x=k+1
  ·
   subst h2
   rw [if_pos rfl,if_neg (by omega),if_pos (by omega),if_neg (by omega),if_pos (by omega)]
   congr 1;omega
  ·
   rw [if_neg h2]
   by_cases h3:a ≤ x ∧ x < k
   · rw [if_pos (by omega),if_pos (by omega)]
   · rw [if_neg (by omega),if_neg (by omega),if_neg (by omega),if_neg (by omega)]
theorem Rl (f:Nat → Nat) {k m:Nat} (h:k < m):xch (rot f (k+1) m (m+1)) (k+1) k=rot f k m (m+1):=by
 funext x
 simp only [xch,rot]
 by_cases h1:x=k+1
 ·
  subst h1
  rw [if_pos rfl,if_neg (by omega),if_neg (by omega),if_neg (by omega),if_pos (by omega)]
  congr 1;omega
 ·
  rw [if_neg h1]
  by_cases h2:x=k
  ·
   subst h2
   rw [if_pos rfl,if_pos (by omega),if_pos (by omega)]
   congr 1;omega
  ·
   rw [if_neg h2]
   by_cases h3:k+1 < x ∧ x < m+1
   · rw [if_neg (by omega),if_pos (by omega),if_neg (by omega),if_pos (by omega)]
   · rw [if_neg (by omega),if_neg (by omega),if_neg (by omega),if_neg (by omega)]
structure EL (f g:Nat → Nat) (a b:Nat):Prop where
 out:∀ k,k < a ∨ b ≤ k → g k=f k
 of:∀ k,a ≤ k → k < b → ∃ j,a ≤ j ∧ j < b ∧ g k=f j
 onto:∀ j,a ≤ j → j < b → ∃ k,a ≤ k ∧ k < b ∧ g k=f j
theorem EL.refl (f:Nat → Nat) (a b:Nat):EL f f a b:=⟨fun _ _=>rfl,fun k h1 h2=>⟨k,h1,h2,rfl⟩,fun k h1 h2=>⟨k,h1,h2,rfl⟩⟩
theorem EL.trans {f g h:Nat → Nat} {a b:Nat} (x:EL f g a b) (y:EL g h a b):EL f h a b:=by
 refine ⟨fun k hk=>(y.out k hk).trans (x.out k hk),fun k h1 h2=>?_,fun j h1 h2=>?_⟩
 ·
  obtain ⟨j,j1,j2,j3⟩:=y.of k h1 h2
  obtain ⟨i,i1,i2,i3⟩:=x.of j j1 j2
  exact ⟨i,i1,i2,j3.trans i3⟩
 ·
  obtain ⟨i,i1,i2,i3⟩:=x.onto j h1 h2
  obtain ⟨k,k1,k2,k3⟩:=y.onto i i1 i2
  exact ⟨k,k1,k2,k3.trans i3⟩
theorem EL.wide {f g:Nat → Nat} {a b a' b':Nat} (x:EL f g a b) (ha:a' ≤ a) (hb:b ≤ b'):EL f g a' b':=by
 refine ⟨fun k hk=>x.out k (by omega),fun k h1 h2=>?_,fun k h1 h2=>?_⟩
 ·
  by_cases h:a ≤ k ∧ k < b
  ·
   obtain ⟨j,j1,j2,j3⟩:=x.of k h.1 h.2
   exact ⟨j,by omega,by omega,j3⟩
  · exact ⟨k,h1,h2,x.out k (by omega)⟩
 ·
  by_cases h:a ≤ k ∧ k < b
  ·
   obtain ⟨j,j1,j2,j3⟩:=x.onto k h.1 h.2
   exact ⟨j,by omega,by omega,j3⟩
  · exact ⟨k,h1,h2,x.out k (by omega)⟩
theorem Jh (f:Nat → Nat) {a m b:Nat} (h1:a ≤ m) (h2:m ≤ b):EL f (rot f a m b) a b:=by
 refine ⟨fun k hk=>?_,fun k k1 k2=>?_,fun j j1 j2=>?_⟩
 ·
  simp only [rot]
  rw [if_neg (by omega),if_neg (by omega)]
 ·
  simp only [rot]
  by_cases h:k < a+b - m
  ·
   rw [if_pos ⟨k1,h⟩]
   exact ⟨k+m - a,by omega,by omega,rfl⟩
  ·
   rw [if_neg (by omega),if_pos (by omega)]
   exact ⟨k+m - b,by omega,by omega,rfl⟩
 ·
  simp only [rot]
  by_cases h:j < m
  ·
   refine ⟨j+b - m,by omega,by omega,?_⟩
   rw [if_neg (by omega),if_pos (by omega)]
   congr 1;omega
  ·
   refine ⟨j+a - m,by omega,by omega,?_⟩
   rw [if_pos (by omega)]
   congr 1;omega
section
variable {at_:Nat → Int}
def BG (at_:Nat → Int) (f:Nat → Nat) (a b:Nat):Prop:=∀ i j,a ≤ i → i < j → j < b → Ahead at_ (f i) (f j)
def Lower (f:Nat → Nat) (a m b:Nat):Prop:=∀ i j,a ≤ i → i < m → m ≤ j → j < b → f i < f j
def Merged (at_:Nat → Int) (f g:Nat → Nat) (a b:Nat):Prop:=EL f g a b ∧ BG at_ g a b
theorem BG.le {f:Nat → Nat} {a b:Nat} (h:BG at_ f a b) {i j:Nat} (h1:a ≤ i) (h2:i ≤ j) (h3:j < b):at_ (f i) ≤ at_ (f j):=by
 rcases Nat.lt_or_ge i j with h' | h'
 ·
  have:=h i j h1 h' h3
  unfold Ahead at this
  omega
 ·
  obtain rfl:i=j:=by omega
  exact Int.le_refl _
theorem BG.join {f:Nat → Nat} {a m b:Nat} (h1:BG at_ f a m) (h2:BG at_ f m b) (h3:∀ i j,a ≤ i → i < m → m ≤ j → j < b → Ahead at_ (f i) (f j)):BG at_ f a b:=fun i j hi hij hj=>by
 rcases Nat.lt_or_ge j m with h | h
 · exact h1 i j hi hij h
 ·
  rcases Nat.lt_or_ge i m with h' | h'
  · exact h3 i j hi h' h hj
  · exact h2 i j h' hij hj
theorem MV {f g1 g2:Nat → Nat} {a m b:Nat} (ham:a ≤ m) (hmb:m ≤ b) (h1:Merged at_ f g1 a m) (h2:Merged at_ g1 g2 m b) (h3:∀ i j,a ≤ i → i < m → m ≤ j → j < b → Ahead at_ (f i) (f j)):Merged at_ f g2 a b:=by
 refine ⟨(h1.1.wide (Nat.le_refl _) hmb).trans (h2.1.wide ham (Nat.le_refl _)),BG.join (m:=m) (fun i j hi hij hj=>?_) h2.2 (fun i j hi hi' hj hj'=>?_)⟩
 ·
  rw [h2.1.out i (by omega),h2.1.out j (by omega)]
  exact h1.2 i j hi hij hj
 ·
  rw [h2.1.out i (by omega)]
  obtain ⟨i',a1,a2,a3⟩:=h1.1.of i hi hi'
  obtain ⟨j',b1,b2,b3⟩:=h2.1.of j hj hj'
  rw [a3,b3,h1.1.out j' (by omega)]
  exact h3 i' j' a1 a2 b1 b2
structure KZ (at_:Nat → Int) (f:Nat → Nat) (a m b mid s e:Nat):Prop where
 sa:a ≤ s
 sm:s ≤ m
 me:m ≤ e
 eb:e ≤ b
 sum:s+e=mid+m
 low:s < m → m < e → at_ (f (e - 1)) < at_ (f s)
 high:a < s → e < b → at_ (f (s - 1)) ≤ at_ (f e)
section
variable {f:Nat → Nat} {a m b mid s e:Nat}
theorem KZ.mid_in (h:KZ at_ f a m b mid s e):a ≤ mid ∧ mid ≤ b ∧ s ≤ mid ∧ mid ≤ e:=by
 have:=h.sa;have:=h.sm;have:=h.me;have:=h.eb;have:=h.sum
 omega
theorem KZ.parts (h:KZ at_ f a m b mid s e) (hr1:BG at_ f a m) (hr2:BG at_ f m b) (hl:Lower f a m b) :
  (BG at_ (rot f s m e) a s ∧ BG at_ (rot f s m e) s mid ∧ BG at_ (rot f s m e) mid e ∧ BG at_ (rot f s m e) e b) ∧ Lower (rot f s m e) a s mid ∧ Lower (rot f s m e) mid e b ∧ (∀ i j,a ≤ i → i < mid → mid ≤ j → j < b → Ahead at_ (rot f s m e i) (rot f s m e j)):=by
 obtain ⟨q1,q2,q3,q4⟩:=h.mid_in
 have sa:=h.sa;have sm:=h.sm;have me:=h.me;have eb:=h.eb;have sum:=h.sum
 have v1:∀ k,k < s → rot f s m e k=f k:=fun k hk=>by
  simp only [rot];rw [if_neg (by omega),if_neg (by omega)]
 have v2:∀ k,s ≤ k → k < mid → rot f s m e k=f (k+m - s):=fun k h1 h2=>by
  simp only [rot];rw [if_pos (by omega)]
 have v3:∀ k,mid ≤ k → k < e → rot f s m e k=f (k+m - e):=fun k h1 h2=>by
  simp only [rot];rw [if_neg (by omega),if_pos (by omega)]
 have v4:∀ k,e ≤ k → rot f s m e k=f k:=fun k hk=>by
  simp only [rot];rw [if_neg (by omega),if_neg (by omega)]
 refine ⟨⟨fun i j hi hij hj=>?_,fun i j hi hij hj=>?_,fun i j hi hij hj=>?_,fun i j hi hij hj=>?_⟩,fun i j hi hi' hj hj'=>?_,fun i j hi hi' hj hj'=>?_,fun i j hi hi' hj hj'=>?_⟩
 · rw [v1 i (by omega),v1 j hj];exact hr1 i j hi hij (by omega)
 · rw [v2 i hi (by omega),v2 j (by omega) hj];exact hr2 _ _ (by omega) (by omega) (by omega)
 · rw [v3 i hi (by omega),v3 j (by omega) hj];exact hr1 _ _ (by omega) (by omega) (by omega)
 · rw [v4 i hi,v4 j (by omega)];exact hr2 _ _ (by omega) (by omega) (by omega)
 · rw [v1 i hi',v2 j hj hj'];exact hl _ _ hi (by omega) (by omega) (by omega)
 · rw [v3 i hi hi',v4 j hj];exact hl _ _ (by omega) (by omega) (by omega) (by omega)
 ·
  rcases Nat.lt_or_ge i s with hs | hs
  ·
   rw [v1 i hs]
   rcases Nat.lt_or_ge j e with he | he
   ·
    rw [v3 j hj he]
    exact hr1 _ _ hi (by omega) (by omega)
   ·
    rw [v4 j he]
    have k1:=h.high (by omega) (by omega)
    have k2:=hr1.le hi (show i ≤ s - 1 by omega) (by omega)
    have k3:=hr2.le h.me he hj'
    have k4:=hl i j hi (by omega) (by omega) hj'
    unfold Ahead
    omega
  ·
   rw [v2 i hs hi']
   rcases Nat.lt_or_ge j e with he | he
   ·
    rw [v3 j hj he]
    have k1:=h.low (by omega) (by omega)
    have k2:=hr2.le (show m ≤ i+m - s by omega) (show i+m - s ≤ e - 1 by omega) (by omega)
    have k3:=hr1.le h.sa (show s ≤ j+m - e by omega) (by omega)
    unfold Ahead
    omega
   ·
    rw [v4 j he]
    exact hr2 _ _ (by omega) (by omega) hj'
end
theorem YO {f:Nat → Nat} {a b i:Nat} (hi:a+1 ≤ i) (hb:i ≤ b) (hr:BG at_ f (a+1) b) (hl:Lower f a (a+1) b) (hlow:i=a+1 ∨ at_ (f (i - 1)) < at_ (f a)) (hhigh:i=b ∨ at_ (f a) ≤ at_ (f i)):Merged at_ f (rot f a (a+1) i) a b:=by
 refine ⟨(Jh f (by omega) hi).wide (Nat.le_refl _) hb,fun x y hx hxy hy=>?_⟩
 have v1:∀ k,a ≤ k → k < i - 1 → rot f a (a+1) i k=f (k+1):=fun k h1 h2=>by
  simp only [rot];rw [if_pos (by omega)];congr 1;omega
 have v2:rot f a (a+1) i (i - 1)=f a:=by
  simp only [rot];rw [if_neg (by omega),if_pos (by omega)];congr 1;omega
 have v3:∀ k,i ≤ k → rot f a (a+1) i k=f k:=fun k h1=>by
  simp only [rot];rw [if_neg (by omega),if_neg (by omega)]
 rcases Nat.lt_or_ge x (i - 1) with h | h
 ·
  rw [v1 x hx h]
  rcases Nat.lt_or_ge y (i - 1) with h' | h'
  · rw [v1 y (by omega) h'];exact hr _ _ (by omega) (by omega) (by omega)
  ·
   rcases Nat.lt_or_ge y i with h2 | h2
   ·
    obtain rfl:y=i - 1:=by omega
    rw [v2]
    have k1:at_ (f (i - 1)) < at_ (f a):=by
     rcases hlow with h3 | h3
     · omega
     · exact h3
    have k2:=hr.le (show a+1 ≤ x+1 by omega) (show x+1 ≤ i - 1 by omega) (by omega)
    exact .inl (by omega)
   · rw [v3 y h2];exact hr _ _ (by omega) (by omega) hy
 ·
  rcases Nat.lt_or_ge x i with h2 | h2
  ·
   obtain rfl:x=i - 1:=by omega
   rw [v2,v3 y (by omega)]
   have k1:at_ (f a) ≤ at_ (f i):=by
    rcases hhigh with h3 | h3
    · omega
    · exact h3
   have k2:=hr.le hi (show i ≤ y by omega) hy
   have k3:=hl a y (Nat.le_refl _) (by omega) (by omega) hy
   unfold Ahead
   omega
  · rw [v3 x h2,v3 y (by omega)];exact hr _ _ (by omega) hxy hy
theorem VU {f:Nat → Nat} {a m i:Nat} (hi:a ≤ i) (hm:i ≤ m) (hr:BG at_ f a m) (hl:Lower f a m (m+1)) (hlow:i=a ∨ at_ (f (i - 1)) ≤ at_ (f m)) (hhigh:i=m ∨ at_ (f m) < at_ (f i)):Merged at_ f (rot f i m (m+1)) a (m+1):=by
 refine ⟨(Jh f hm (by omega)).wide hi (Nat.le_refl _),fun x y hx hxy hy=>?_⟩
 have v1:∀ k,k < i → rot f i m (m+1) k=f k:=fun k h1=>by
  simp only [rot];rw [if_neg (by omega),if_neg (by omega)]
 have v2:rot f i m (m+1) i=f m:=by
  simp only [rot];rw [if_pos (by omega)];congr 1;omega
 have v3:∀ k,i < k → k < m+1 → rot f i m (m+1) k=f (k - 1):=fun k h1 h2=>by
  simp only [rot];rw [if_neg (by omega),if_pos (by omega)];congr 1;omega
 rcases Nat.lt_or_ge x i with h | h
 ·
  rw [v1 x h]
  rcases Nat.lt_or_ge y i with h' | h'
  · rw [v1 y h'];exact hr _ _ hx hxy (by omega)
  ·
   rcases Nat.lt_or_ge i y with h2 | h2
   · rw [v3 y h2 hy];exact hr _ _ hx (by omega) (by omega)
   ·
    obtain rfl:y=i:=by omega
    rw [v2]
    have k1:at_ (f (y - 1)) ≤ at_ (f m):=by
     rcases hlow with h3 | h3
     · omega
     · exact h3
    have k2:=hr.le hx (show x ≤ y - 1 by omega) (by omega)
    have k3:=hl x m hx (by omega) (Nat.le_refl _) (by omega)
    unfold Ahead
    omega
 ·
  rcases Nat.lt_or_ge i x with h2 | h2
  · rw [v3 x h2 (by omega),v3 y (by omega) hy];exact hr _ _ (by omega) (by omega) (by omega)
  ·
   obtain rfl:x=i:=by omega
   rw [v2,v3 y hxy hy]
   have k1:at_ (f m) < at_ (f x):=by
    rcases hhigh with h3 | h3
    · omega
    · exact h3
   have k2:=hr.le hi (show x ≤ y - 1 by omega) (by omega)
   exact .inl (by omega)
structure BM (at_:Nat → Int) (g:Nat → Nat) (x y:Nat):Prop where
 in_:∀ i,x ≤ i → i < y → x ≤ g i ∧ g i < y
 onto:∀ v,x ≤ v → v < y → ∃ i,x ≤ i ∧ i < y ∧ g i=v
 rises:BG at_ g x y
theorem BM.congr {g h:Nat → Nat} {x y:Nat} (o:BM at_ g x y) (e:∀ i,x ≤ i → i < y → h i=g i):BM at_ h x y:=by
 refine ⟨fun i h1 h2=>by rw [e i h1 h2];exact o.in_ i h1 h2,fun v h1 h2=>?_,fun i j h1 h2 h3=>by rw [e i h1 (by omega),e j (by omega) h3];exact o.rises i j h1 h2 h3⟩
 obtain ⟨i,i1,i2,i3⟩:=o.onto v h1 h2
 exact ⟨i,i1,i2,by rw [e i i1 i2];exact i3⟩
theorem BM.lower {g:Nat → Nat} {x m y:Nat} (o1:BM at_ g x m) (o2:BM at_ g m y):Lower g x m y:=fun i j h1 h2 h3 h4=>by
 have:=o1.in_ i h1 h2
 have:=o2.in_ j h3 h4
 omega
theorem BM.merged {g h:Nat → Nat} {x m y:Nat} (hxm:x ≤ m) (hmy:m ≤ y) (o1:BM at_ g x m) (o2:BM at_ g m y) (k:Merged at_ g h x y):BM at_ h x y:=by
 refine ⟨fun i h1 h2=>?_,fun v h1 h2=>?_,k.2⟩
 ·
  obtain ⟨j,j1,j2,j3⟩:=k.1.of i h1 h2
  rw [j3]
  rcases Nat.lt_or_ge j m with h' | h'
  · have:=o1.in_ j j1 h';omega
  · have:=o2.in_ j h' j2;omega
 ·
  have:∃ j,x ≤ j ∧ j < y ∧ g j=v:=by
   rcases Nat.lt_or_ge v m with h' | h'
   ·
    obtain ⟨i,i1,i2,i3⟩:=o1.onto v h1 h'
    exact ⟨i,i1,by omega,i3⟩
   ·
    obtain ⟨i,i1,i2,i3⟩:=o2.onto v h' h2
    exact ⟨i,by omega,i2,i3⟩
  obtain ⟨j,j1,j2,j3⟩:=this
  obtain ⟨i,i1,i2,i3⟩:=k.1.onto j j1 j2
  exact ⟨i,i1,i2,i3.trans j3⟩
theorem BM.start {g h:Nat → Nat} {x y:Nat} (e:∀ i,x ≤ i → i < y → g i=i) (k:Merged at_ g h x y):BM at_ h x y:=by
 refine ⟨fun i h1 h2=>?_,fun v h1 h2=>?_,k.2⟩
 ·
  obtain ⟨j,j1,j2,j3⟩:=k.1.of i h1 h2
  rw [j3,e j j1 j2]
  exact ⟨j1,j2⟩
 ·
  obtain ⟨i,i1,i2,i3⟩:=k.1.onto v h1 h2
  exact ⟨i,i1,i2,by rw [i3,e v h1 h2]⟩
def BU (at_:Nat → Int) (g:Nat → Nat) (B n x:Nat):Prop:=∀ q,x+q * B < n → BM at_ g (x+q * B) (min (x+q * B+B) n)
theorem BU.first {g:Nat → Nat} {B n x:Nat} (h:BU at_ g B n x) (hx:x < n):BM at_ g x (min (x+B) n):=by
 have:=h 0 (by omega)
 simpa using this
theorem BU.rest {g:Nat → Nat} {B n x:Nat} (h:BU at_ g B n x):BU at_ g B n (x+B):=fun q hq=>by
 have e:x+(q+1) * B=x+B+q * B:=by rw [Nat.succ_mul];omega
 have:=h (q+1) (by omega)
 rwa [e] at this
theorem BU.put {g:Nat → Nat} {B n x:Nat} (h1:x < n → BM at_ g x (min (x+B) n)) (h2:BU at_ g B n (x+B)):BU at_ g B n x:=fun q hq=>by
 cases q with
 | zero=>
  have:=h1 (by omega)
  simpa using this
 | succ q=>
  have e:x+(q+1) * B=x+B+q * B:=by rw [Nat.succ_mul];omega
  rw [e] at hq ⊢
  exact h2 q hq
theorem BU.congr {g h:Nat → Nat} {B n x:Nat} (o:BU at_ g B n x) (e:∀ i,x ≤ i → h i=g i):BU at_ h B n x:=fun q hq=>(o q hq).congr fun i h1 _=>e i (by omega)
theorem BU.none {g:Nat → Nat} {B n x:Nat} (h:n ≤ x):BU at_ g B n x:=fun q hq=>by omega
def Eb (at_:Nat → Int) (g:Nat → Nat) (B n x:Nat):Prop:=∀ h:Nat → Nat,(∀ i,i < x → h i=g i) → BU at_ h B n x → BU at_ h B n 0
theorem Eb.start (g:Nat → Nat) (B n:Nat):Eb at_ g B n 0:=fun _ _ h=>h
theorem Eb.on {g g':Nat → Nat} {B n x:Nat} (h:Eb at_ g B n x) (e:∀ i,i < x → g' i=g i) (o:BM at_ g' x (min (x+B) n)):Eb at_ g' B n (x+B):=fun k hk hr=>by
 refine h k (fun i hi=>(hk i (by omega)).trans (e i hi)) (BU.put (fun _=>o.congr fun i _ hi=>hk i (by omega)) hr)
theorem Eb.last {g g':Nat → Nat} {B n x:Nat} (h:Eb at_ g B n x) (e:∀ i,i < x → g' i=g i) (hB:n ≤ x+B) (o:x < n → BM at_ g' x n):BU at_ g' B n 0:=by
 refine h g' e (BU.put (fun hx=>?_) (BU.none hB))
 rw [show min (x+B) n=n by omega]
 exact o hx
theorem BM.order {g:Nat → Nat} {n:Nat} (o:BM at_ g 0 n):Bg at_ n ((List.range n).map g):=by
 refine ⟨List.pairwise_iff_getElem.2 fun i j hi hj hij=>?_,fun j=>?_⟩
 ·
  simp only [List.length_map,List.length_range] at hi hj
  simp only [List.getElem_map,List.getElem_range]
  exact o.rises i j (Nat.zero_le _) hij hj
 ·
  rw [List.mem_map]
  constructor
  ·
   rintro ⟨i,hi,rfl⟩
   exact (o.in_ i (Nat.zero_le _) (List.mem_range.1 hi)).2
  ·
   intro hj
   obtain ⟨i,-,i2,i3⟩:=o.onto j (Nat.zero_le _) hj
   exact ⟨i,List.mem_range.2 i2,i3⟩
theorem BU.order {g:Nat → Nat} {B n:Nat} (h:BU at_ g B n 0) (hB:n ≤ B):Bg at_ n ((List.range n).map g):=by
 rcases Nat.eq_zero_or_pos n with rfl | hn
 · exact Bg.start at_
 ·
  have:=h.first hn
  rw [show min (0+B) n=n by omega] at this
  exact this.order
end
end Go.Proofs.YtipdclphpkgceaaGreatDoor

namespace Go.Proofs.YtipdclphpkgceaaGreatDoor
open Go.RowKit
structure Later (V:World) where
 w:World
 bel:Below V.heap.size V w
theorem Later.cell {V:World} {a:Addr} {v:Value} (h:V.cell? a=some v) (g:Later V):g.w.cell? a=some v:=cell_later g.bel h
theorem Bn {P:Program} {id:Nat} {Q:Exit → Act → World → Prop} {a:Act} {w:World} {l:List Oper} (hm:P.follows .mixedOrders=true) (hB:Region.lexB .any l.toArray=true)
  (h:wpQuiet P l.toArray (fun w'=>∃ g:Later w,w'=g.w) (fun a'=>∀ w',(∃ g:Later w,w'=g.w) → Q .normal a' w') l a):(Code.region id l.toArray true).wp P Q a w:=
 wp_region_quiet (C:=fun w'=>∃ g:Later w,w'=g.w) hm hB ⟨⟨w.drew,below_drewN (Below.refl _ _) 1⟩,rfl⟩ (by simpa using h)
theorem Later.calls {P:Program} {f:FuncId} {args:Array Value} {V:World} {v:Value} (h:∀ W,Below V.heap.size V W → Calls P f args W fun e w'=>e=.returned v ∧ Below W.heap.size W w') (g:Later V):Calls P f args g.w fun e w'=>e=.returned v ∧ ∃ g':Later V,w'=g'.w:=
 (h g.w g.bel).mono fun _ w' ⟨he,hb⟩=>⟨he,⟨w',g.bel.trans (hb.mono g.bel.size)⟩,rfl⟩
end Go.Proofs.YtipdclphpkgceaaGreatDoor
