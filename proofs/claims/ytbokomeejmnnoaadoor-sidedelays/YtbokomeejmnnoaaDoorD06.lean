/- Own facts, put together: no statement of its own. -/
import Derived.Test.YtbokomeejmnnoaaDoorD05
import Derived.Deep.AppendLies
import Derived.Deep.DeepCutAuto
import Derived.Deep.RegionLaw
import Derived.Laws.StructEq
import Derived.BigQuiet
import Derived.Test.YtbokomeejmnnoaaDoorD01
import Derived.Test.YtbokomeejmnnoaaDoorD02
import Derived.Test.YtbokomeejmnnoaaDoorD04
set_option maxHeartbeats 400000

namespace Go.Proofs.YtbokomeejmnnoaaDoor
open Go.RowKit
theorem ShAt.but {S:Nat → Prop} {w w':World} {B:Nat} {gs:List Nat} {bs:List Bk} (h:ShAt w B gs bs) (hb:But S w w') (hB:¬ S B) (hg:∀ g,g ∈ gs → ¬ S g) (hlt:B < w.heap.size):ShAt w' B gs bs:=
 ⟨h.len,fun i g hi=>by rw [hb.cell (p:=⟨B,i,none⟩) hlt hB];exact h.ptr i g hi,h.new,fun i g b hi hb'=>(h.bk i g b hi hb').but hb (hg g (List.mem_of_getElem? hi)),h.one⟩
theorem ShAt.below {w w':World} {B:Nat} {gs:List Nat} {bs:List Bk} (h:ShAt w B gs bs) (hb:Below w.heap.size w w') (hlt:B < w.heap.size):ShAt w' B gs bs:=
 h.but (S:=fun _=>False) (.ofBelow hb) id (fun _ _=>id) hlt
theorem Tryd.infoLines:(Tryd.prog.info? 24).map (fun i=>(i.zero,i.size,i.bytes))=some (some (.slice none 0 0),1,24):=by kernel_rfl
end Go.Proofs.YtbokomeejmnnoaaDoor

set_option maxRecDepth 100000
set_option linter.unusedSimpArgs false
namespace Go.Proofs.YtbokomeejmnnoaaDoor
open Go.RowKit
def lwV (x0 x1 x2 x6 x7 x8:Value) (f:Nat → Value):Act:=⟨#[x0,x1,x2,f 3,f 4,f 5,x6,x7,x8,f 9,f 10,f 11,f 12,f 13,f 14,f 15,f 16,f 17,f 18,f 19,f 20,f 21,f 22,f 23,f 24,f 25,f 26,f 27,f 28,f 29,f 30,f 31,f 32,f 33,f 34,f 35,f 36,f 37,f 38,f 39,f 40,f 41,f 42,f 43,f 44,f 45,f 46,f 47,f 48,f 49,f 50,f 51,f 52,f 53,f 54,f 55,f 56,f 57,f 58,f 59,f 60,f 61,f 62,f 63,f 64,f 65,f 66,f 67,f 68,f 69,f 70,f 71,f 72,f 73,f 74,f 75,f 76,f 77,f 78,f 79,f 80,f 81,f 82,f 83,f 84,f 85,f 86,f 87,f 88,f 89,f 90,f 91,f 92,f 93,f 94,f 95,f 96,f 97,f 98,f 99,f 100,f 101,f 102,f 103,f 104,f 105,f 106,f 107,f 108,f 109,f 110,f 111,f 112,f 113,f 114,f 115,f 116,f 117,f 118,f 119,f 120,f 121,f 122,f 123,f 124,f 125,f 126,f 127,f 128,f 129,f 130,f 131,f 132,f 133,f 134],[]⟩
def lwW (x0 x1 x2 x6 x7 x8 x11 x12:Value) (f:Nat → Value):Act:=⟨#[x0,x1,x2,f 3,f 4,f 5,x6,x7,x8,f 9,f 10,x11,x12,f 13,f 14,f 15,f 16,f 17,f 18,f 19,f 20,f 21,f 22,f 23,f 24,f 25,f 26,f 27,f 28,f 29,f 30,f 31,f 32,f 33,f 34,f 35,f 36,f 37,f 38,f 39,f 40,f 41,f 42,f 43,f 44,f 45,f 46,f 47,f 48,f 49,f 50,f 51,f 52,f 53,f 54,f 55,f 56,f 57,f 58,f 59,f 60,f 61,f 62,f 63,f 64,f 65,f 66,f 67,f 68,f 69,f 70,f 71,f 72,f 73,f 74,f 75,f 76,f 77,f 78,f 79,f 80,f 81,f 82,f 83,f 84,f 85,f 86,f 87,f 88,f 89,f 90,f 91,f 92,f 93,f 94,f 95,f 96,f 97,f 98,f 99,f 100,f 101,f 102,f 103,f 104,f 105,f 106,f 107,f 108,f 109,f 110,f 111,f 112,f 113,f 114,f 115,f 116,f 117,f 118,f 119,f 120,f 121,f 122,f 123,f 124,f 125,f 126,f 127,f 128,f 129,f 130,f 131,f 132,f 133,f 134],[]⟩
structure OwnLs (w:World) (B:Nat) (v:Value) (cs:List (List (Int × Int))) (xs:List Value):Prop where
 row:w.ownsRow B 24 1 v cs.length xs
 each:∀ (i:Nat) ls,cs[i]? = some ls → ∃ x,xs[i]? = some x ∧ OwnL w B x ls ∧ ∀ g,x.ownBlock=some g → v.ownBlock ≠ some g
theorem ownS_nil (w:World) (B:Nat):OwnLs w B (.slice none 0 0) [] []:=⟨World.ownsRow_nil _ _ _ _,fun i ls h=>by simp at h⟩
theorem OwnLs.later {w w':World} {B:Nat} {v:Value} {cs:List (List (Int × Int))} {xs:List Value} (h:OwnLs w B v cs xs) (hb:Below w.heap.size w w'):OwnLs w' B v cs xs:=by
 refine ⟨ownsRow_of_block h.row fun g _ hlt=>hb.block g hlt,fun i ls hi=>?_⟩
 obtain ⟨x,e1,e2,e3⟩:=h.each i ls hi
 exact ⟨x,e1,ownsRow_of_block e2 fun g _ hlt=>hb.block g hlt,e3⟩
theorem OwnLs.grown {w w':World} {B:Nat} {v:Value} {cs:List (List (Int × Int))} {xs:List Value} (h:OwnLs w B v cs xs) {ls:List (Int × Int)} {x:Value} (hl:OwnL w B x ls) (h4:∀ g,x.ownBlock=some g → v.ownBlock ≠ some g) {g cap':Nat}
  (ho:w'.ownsRow B 24 1 (.slice (some ⟨g,0,none⟩) (cs.length+1) cap') (cs.length+1) (xs ++ [x])) (hg:w.grownBy w' v.ownBlock) (hat:v.ownBlock=some g ∨ g=w.heap.size):OwnLs w' B (.slice (some ⟨g,0,none⟩) (cs.length+1) cap') (cs ++ [ls]) (xs ++ [x]):=by
 have hxl:xs.length=cs.length:=by have:=h.row.1;simpa using this
 have st:∀ y l,OwnL w B y l → (∀ g,y.ownBlock=some g → v.ownBlock ≠ some g) → OwnL w' B y l ∧ ∀ g',y.ownBlock=some g' → (Value.slice (some ⟨g,0,none⟩) (cs.length+1) cap').ownBlock ≠ some g':=fun y l hy hne=>by
  refine ⟨ownsRow_of_block hy fun k hk hlt=>hg.block k hlt fun e=>hne k hk e.symm,fun g' hg' e=>?_⟩
  obtain rfl:g=g':=Option.some.inj e
  rcases hat with hat | hat
  · exact hne g hg' hat
  ·
   have:=(ownsRow_lt hy hg').2
   omega
 refine ⟨by rw [List.length_append];exact ho,fun i l hi=>?_⟩
 rcases Nat.lt_or_ge i cs.length with hlt | hge
 ·
  rw [List.getElem?_append_left hlt] at hi
  obtain ⟨y,e1,e2,e3⟩:=h.each i l hi
  exact ⟨y,by rw [List.getElem?_append_left (by omega)];exact e1,st y l e2 e3⟩
 ·
  have hi':i=cs.length:=by
   have:=lt_of_get hi
   simp at this
   omega
  subst hi'
  obtain rfl:ls=l:=by simpa using hi
  exact ⟨x,by rw [← hxl];simp,st x ls hl h4⟩
def lwRest1 (f:Func):Code:=secondC (secondC (bodyC f))
def lwX2 (f:Func):Code:=firstC (lwRest1 f)
def lwR4 (f:Func):Code:=firstC (secondC (lwRest1 f))
def lwL1 (f:Func):Code:=firstC (secondC (secondC (lwRest1 f)))
def Loop1Q (x0 x1 x2:Value) (cs:List (List (Int × Int))) (v:World) (e:Exit) (a:Act) (v':World):Prop:=Below v.heap.size v v' ∧
 ((e=.ret ∧ a.defers=[] ∧ a.tmps.getD 6 undef=.bool true) ∨
  (e=.normal ∧ (∀ (i:Nat) (ls:List (Int × Int)),cs[i]? = some ls → ls.length ≤ 20) ∧ ∃ v8 xs,OwnLs v' v.heap.size v8 cs xs ∧ a=lwV x0 x1 x2 (a.tmps.getD 6 undef) (.bool true) v8 fun i=>a.tmps.getD i undef))
section
variable {cs:List (List (Int × Int))}
theorem lw_loop1 (ca:Option Addr) (n ccap:Nat) (per wks:Int) (f:Nat → Value) (v:World) (hc:LiesC v ca cs) (hm:cs.length=n) (hn:n ≤ 110) (hcap:n ≤ ccap) :
  (lwL1 Tryd.f3).wp Tryd.prog (Loop1Q (.slice ca n ccap) (.int .i64 per) (.int .i64 wks) cs v) (lwV (.slice ca n ccap) (.int .i64 per) (.int .i64 wks) (.bool false) (.bool true) (.slice none 0 0) f) v:=by
 obtain ⟨iL,hiL,hzL0,hzL1,hzL2⟩:=info_parts Tryd.infoLines
 have HC:Hid (LiesC v ca cs):=hc
 have HM:Hid (cs.length=n):=hm
 have HQ0:Hid (∀ e a v',Below v.heap.size v v' → e=.ret → a.defers=[] → a.tmps.getD 6 undef=.bool true → Loop1Q (.slice ca n ccap) (.int .i64 per) (.int .i64 wks) cs v e a v'):=fun e a v' h1 h2 h3 h4=>⟨h1,.inl ⟨h2,h3,h4⟩⟩
 clear hc hm
 simp only [lwL1,lwRest1,lwV,bodyC,firstC,secondC,Tryd.f3,Option.getD_some]
 go_wp2_with fail
 go_loopg [8,9] n (fun gk v8 iv wr=>∃ i:Nat,gk+i=n ∧ iv=.int .i64 i ∧ Below v.heap.size v wr ∧ (∀ (j:Nat) (ls:List (Int × Int)),j < i → cs[j]? = some ls → ls.length ≤ 20) ∧ ∃ xs,OwnLs wr v.heap.size v8 (cs.take i) xs)
 case atStart=>exact ⟨0,by omega,rfl,Below.refl _ _,fun j ls hj=>by omega,[],ownS_nil _ _⟩
 case round=>
  obtain ⟨i,hi',rfl,hb,hle,xs,hown⟩:=hrel
  have HR:Hid (Below v.heap.size v wr ∧ (∀ (j:Nat) (ls:List (Int × Int)),j < i → cs[j]? = some ls → ls.length ≤ 20)):=⟨hb,hle⟩
  have HO:Hid (OwnLs wr v.heap.size _ (cs.take i) xs):=hown
  clear hb hle hown
  by_cases him:i < n
  ·
   obtain ⟨ls,hls,-⟩:=get_some cs i (by rw [HM.out];exact him)
   obtain ⟨cb,co,rfl,-,hcc⟩:=HC.out.place (by rw [HM.out];omega)
   obtain ⟨a',cap,cj,hlies,hlc,hlm,hln⟩:=hcc i ls hls
   have cj':=cell_later HR.out.1 cj
   have HLs:Hid (cs[i]? = some ls):=hls
   have HTk:Hid (cs.take (i+1)=cs.take i ++ [ls] ∧ (cs.take i).length=i):=⟨by rw [List.take_add_one,hls];rfl,by rw [List.length_take,HM.out];omega⟩
   by_cases h20:20 < ls.length
   ·
    obtain ⟨q,hq⟩:∃ q,ls.length=q:=⟨_,rfl⟩
    rw [hq] at cj' h20 hlc
    clear hcc cj hlies hls hln
    go_wp2_with fail
    exact HQ0.out _ _ _ HR.out.1 rfl rfl rfl
   ·
    have HOl:Hid (Calls Tryd.prog 5 #[.slice a' ls.length cap] wr fun e w'=>∃ v,e=.returned v ∧ OwnL w' wr.heap.size v ls ∧ Below wr.heap.size wr w'):=ownLines_any a' cap ls wr (hlies.below HR.out.1) (by omega) hln
    have HLe:Hid (∀ (j:Nat) (l:List (Int × Int)),j < i+1 → cs[j]? = some l → l.length ≤ 20):=fun j l hj hl=>by
     by_cases hji:j < i
     · exact HR.out.2 j l hji hl
     ·
      obtain rfl:j=i:=by omega
      rw [hls] at hl
      cases hl
      omega
    obtain ⟨q,hq⟩:∃ q,ls.length=q:=⟨_,rfl⟩
    have HQ:Hid (ls.length=q):=hq
    rw [hq] at cj' h20 hlc HOl
    clear hcc cj hlies hls hln hq
    go_wp2_with fail
    refine HOl.out.mono ?_
    rintro e w5 ⟨v5,rfl,hov,hb5⟩
    have hO5:=HO.out.later hb5
    have hw5:=HR.out.1.size
    obtain ⟨la,lcap,rfl,hl1,hl2,-⟩:=hov.open
    have hne:∀ g,(Value.slice la ls.length lcap).ownBlock=some g → u8.ownBlock ≠ some g:=fun g hg e=>by
     have h1:=(ownsRow_lt hov hg).1
     have h2:=(ownsRow_lt HO.out.row e).2
     omega
    rw [HQ.out] at hl1 hne hov ⊢
    have hb6:Below w5.heap.size w5 (w5.alloc (.cells #[.slice la q lcap] 24)):=(Below.refl _ _).alloc (Nat.le_refl _) _
    have hbw:Below v.heap.size v w5:=HR.out.1.trans (hb5.mono hw5)
    have HY:Hid (OwnLs (w5.alloc (.cells #[.slice la q lcap] 24)) v.heap.size u8 (cs.take i) xs ∧ OwnL (w5.alloc (.cells #[.slice la q lcap] 24)) v.heap.size (.slice la q lcap) ls ∧ (∀ g,(Value.slice la q lcap).ownBlock=some g → u8.ownBlock ≠ some g) ∧ v.heap.size ≤ (w5.alloc (.cells #[.slice la q lcap] 24)).heap.size ∧ Below v.heap.size v (w5.alloc (.cells #[.slice la q lcap] 24))):=⟨hO5.later hb6,ownsRow_of_block (ownsRow_mono hov hw5) fun g _ hlt=>hb6.block g hlt,hne,Nat.le_trans hbw.size hb6.size,hbw.trans (hb6.mono hbw.size)⟩
    have hrow:=HY.out.1.row
    rw [HTk.out.2] at hrow
    have HRow:Hid ((w5.alloc (.cells #[.slice la q lcap] 24)).ownsRow v.heap.size 24 1 u8 i xs):=hrow
    clear hov hb5 hO5 hl1 hl2 hne hb6 hbw hrow hw5
    go_wp2_with (at_builtin;go_must (refine wpList_append_lies _ rfl _ _ 22 rfl v.heap.size 24 iL (.slice none 0 0) 1 24 Tryd.underlying22 hiL hzL0 hzL1 hzL2 rfl (by decide) u8 i xs rfl HRow.out ⟨w5.heap.size,0,none⟩ 1 1 [.slice la q lcap] rfl rfl (by intro j u hj;cases j with | zero=>(have:u=.slice la q lcap:=by simpa using hj.symm);rw [this];simp [Addr.add] | succ j=>simp at hj) (by intro u hu;rw [List.mem_singleton.1 hu];rfl) (by decide) (by unfold maxLen;omega) (by omega) HY.out.2.2.2.1 _ rfl ?_;intro g cap' w6 h1 h2 h3 h4;have HPut:Hid (Below v.heap.size v w6 ∧ ∃ xs,OwnLs w6 v.heap.size (.slice (some ⟨g,0,none⟩) (i+1) cap') (cs.take (i+1)) xs):=⟨HY.out.2.2.2.2.grown h2 HY.out.2.2.2.1 (fun k hk=>(ownsRow_lt HRow.out hk).1),_,by rw [HTk.out.1];exact HTk.out.2 ▸ HY.out.1.grown HY.out.2.1 HY.out.2.2.1 (by rw [HTk.out.2];exact h1) h2 h3⟩;clear h1 h2 h3 h4))
    go_roundg (gk - 1)
    case measure=>omega
    case rel=>exact ⟨i+1,by omega,by go_num,HPut.out.1,HLe.out,HPut.out.2⟩
  ·
   obtain rfl:i=n:=by omega
   go_wp2_with fail
   have htk:cs.take i=cs:=by rw [← HM.out];exact List.take_length
   have hO:=HO.out
   rw [htk] at hO
   refine ⟨HR.out.1,.inr ⟨rfl,fun j ls hj=>HR.out.2 j ls (by have:=lt_of_get hj;rw [HM.out] at this;exact this) hj,_,xs,hO,rfl⟩⟩
end
end Go.Proofs.YtbokomeejmnnoaaDoor

namespace Go.Proofs.YtbokomeejmnnoaaDoor
open Go.RowKit
theorem first_turn (low high:Int) (k1 k2:Value) (p:Int → Bool) (w0 w:World) (hw:Below w0.heap.size w0 w) (h0:0 ≤ low) (h1:low ≤ high) (h2:high ≤ 1099511627777)
  (hcall:∀ (n:Int) (W:World),low ≤ n → n < high → Below w0.heap.size w0 W → Calls Tryd.prog 30 #[.int .i64 n,k1,k2] W fun e w'=>e=.returned (.bool (p n)) ∧ Below W.heap.size W w') :
  Calls Tryd.prog 29 #[.int .i64 low,.int .i64 high,.func (.func 30) #[] #[k1,k2]] w fun e w'=>∃ r:Int,e=.returned (.int .i64 r) ∧ low ≤ r ∧ r ≤ high ∧ (r=high ∨ p r=true) ∧ (r=low ∨ p (r - 1)=false) ∧ Below w0.heap.size w0 w':=by
 have HC:Hid (∀ (n:Int) (W:World),low ≤ n → n < high → Below w0.heap.size w0 W → Calls Tryd.prog 30 #[.int .i64 n,k1,k2] W fun e w'=>e=.returned (.bool (p n)) ∧ Below W.heap.size W w'):=hcall
 clear hcall
 go_enter Tryd.func29,Tryd.ntmps29
 go_wp2_with fail
 go_loopw [0,1] (fun l h wr=>∃ a b:Int,l=.int .i64 a ∧ h=.int .i64 b ∧ low ≤ a ∧ a ≤ b ∧ b ≤ high ∧ (b=high ∨ p b=true) ∧ (a=low ∨ p (a - 1)=false) ∧ Below w0.heap.size w0 wr) (fun l h _=>(intOf h - intOf l).toNat)
 case atStart=>exact ⟨low,high,rfl,rfl,Int.le_refl _,h1,Int.le_refl _,.inl rfl,.inl rfl,hw⟩
 case round=>
  obtain ⟨a,b,rfl,rfl,i1,i2,i3,i4,i5,hb⟩:=hrel
  have HI:Hid ((b=high ∨ p b=true) ∧ (a=low ∨ p (a - 1)=false) ∧ Below w0.heap.size w0 wr):=⟨i4,i5,hb⟩
  clear i4 i5 hb
  by_cases hab:a < b
  ·
   obtain ⟨m,hm⟩:∃ m,a+(b - a) / 2=m:=⟨_,rfl⟩
   have m1:a ≤ m:=by omega
   have m2:m < b:=by omega
   have HM:Hid (a+(b - a) / 2=m):=hm
   clear hm
   cases hpm:p m with
   | true=>
    have HP:Hid (p m=true):=hpm
    clear hpm
    go_wp2_with fail
    rw [HM.out]
    refine (HC.out m _ (by omega) (by omega) HI.out.2.2).mono ?_
    rintro e w1 ⟨rfl,hb1⟩
    rw [HP.out]
    have HB1:Hid (Below w0.heap.size w0 w1):=HI.out.2.2.trans (hb1.mono HI.out.2.2.size)
    clear hb1
    go_wp2_with fail
    go_roundw
    case rel=>exact ⟨a,m,rfl,rfl,i1,m1,by omega,.inr HP.out,HI.out.2.1,HB1.out⟩
    case measure=>simp [intOf];omega
   | false=>
    have HP:Hid (p m=false):=hpm
    clear hpm
    go_wp2_with fail
    rw [HM.out]
    refine (HC.out m _ (by omega) (by omega) HI.out.2.2).mono ?_
    rintro e w1 ⟨rfl,hb1⟩
    rw [HP.out]
    have HB1:Hid (Below w0.heap.size w0 w1):=HI.out.2.2.trans (hb1.mono HI.out.2.2.size)
    clear hb1
    go_wp2_with fail
    go_roundw
    case rel=>exact ⟨m+1,b,rfl,rfl,by omega,by omega,i3,HI.out.1,.inr (by rw [show m+1 - 1=m by omega];exact HP.out),HB1.out⟩
    case measure=>simp [intOf];omega
  ·
   go_wp2_with fail
   go_ret
   obtain ⟨i4,i5,hb⟩:=HI.out
   have e:a=b:=by omega
   subst e
   exact ⟨a,rfl,i1,i3,i4,i5,hb⟩
end Go.Proofs.YtbokomeejmnnoaaDoor

namespace Go.Proofs.YtbokomeejmnnoaaDoor
def miss (x n:Int):Int:=max (n - x) 0
def laterB (p q:Int × Int) (n:Int):Bool:=
 if miss q.1 n=0 then decide (0 < miss p.1 n) else decide (miss q.1 n * p.2 < miss p.1 n * q.2)
def lastOf (n:Int):Int × Int → List (Int × Int) → Int × Int
 | x,[]=>x
 | x,y :: r=>lastOf n (if laterB y x n=true then y else x) r
def lastC (n:Int):List (Int × Int) → Int × Int
 | []=>(0,0)
 | p :: r=>lastOf n p r
def comesAt (p:Int × Int) (n:Int):Int:=if miss p.1 n=0 then 0 else (miss p.1 n * 1000+p.2 - 1) / p.2
theorem miss_nonneg (x n:Int):0 ≤ miss x n:=by unfold miss;omega
theorem laterB_false {p q:Int × Int} {n:Int} (h:laterB p q n=false):(miss q.1 n=0 → miss p.1 n=0) ∧ (miss q.1 n ≠ 0 → miss p.1 n * q.2 ≤ miss q.1 n * p.2):=by
 unfold laterB at h
 have:=miss_nonneg p.1 n
 split at h
 · next hq=>exact ⟨fun _=>by have:=of_decide_eq_false h;omega,fun h'=>absurd hq h'⟩
 · next hq=>exact ⟨fun h'=>absurd h' hq,fun _=>by have:=of_decide_eq_false h;omega⟩
theorem laterB_mk {p q:Int × Int} {n:Int} (h1:miss q.1 n=0 → miss p.1 n=0) (h2:miss q.1 n ≠ 0 → miss p.1 n * q.2 ≤ miss q.1 n * p.2):laterB p q n=false:=by
 unfold laterB
 split
 · next hq=>have:=h1 hq;exact decide_eq_false (by omega)
 · next hq=>have:=h2 hq;exact decide_eq_false (by omega)
theorem laterB_true {p q:Int × Int} {n:Int} (h:laterB p q n=true):(miss q.1 n=0 → 0 < miss p.1 n) ∧ (miss q.1 n ≠ 0 → miss q.1 n * p.2 < miss p.1 n * q.2):=by
 unfold laterB at h
 split at h
 · next hq=>exact ⟨fun _=>of_decide_eq_true h,fun h'=>absurd hq h'⟩
 · next hq=>exact ⟨fun h'=>absurd h' hq,fun _=>of_decide_eq_true h⟩
theorem laterB_self (p:Int × Int) (n:Int):laterB p p n=false:=laterB_mk (fun h=>h) (fun _=>Int.le_refl _)
theorem later_num {m k l u v t:Int} (hm:0 ≤ m) (hk:0 < k) (hl:0 ≤ l) (h1:m * u ≤ k * v) (h2:k * t < l * u):m * t ≤ l * v:=by
 rcases Int.lt_or_le (l * v) (m * t) with h | h
 ·
  have a:=Int.mul_lt_mul_of_pos_left h hk
  have b:=Int.mul_le_mul_of_nonneg_left h1 hl
  have c:=Int.mul_le_mul_of_nonneg_left (Int.le_of_lt h2) hm
  have e1:k * (m * t)=m * (k * t):=by ac_rfl
  have e2:m * (l * u)=l * (m * u):=by ac_rfl
  have e3:l * (k * v)=k * (l * v):=by ac_rfl
  omega
 · exact h
theorem later_step {x y z:Int × Int} {n:Int} (hy:0 ≤ y.2) (hz:0 ≤ z.2) (h1:laterB y x n=false) (h2:laterB z x n=true):laterB y z n=false:=by
 obtain ⟨a1,a2⟩:=laterB_false h1
 obtain ⟨b1,b2⟩:=laterB_true h2
 have my:=miss_nonneg y.1 n
 have mz:=miss_nonneg z.1 n
 have mx:=miss_nonneg x.1 n
 by_cases h0:miss x.1 n=0
 ·
  have hm:=a1 h0
  refine laterB_mk (fun _=>hm) (fun _=>?_)
  rw [hm,Int.zero_mul]
  exact Int.mul_nonneg mz hy
 ·
  have p1:=a2 h0
  have p2:=b2 h0
  refine laterB_mk (fun hzz=>?_) (fun _=>later_num my (by omega) mz p1 p2)
  rw [hzz,Int.zero_mul] at p2
  have:=Int.mul_nonneg mx hz
  omega
theorem lastOf_mem (n:Int) (r:List (Int × Int)):∀ x,lastOf n x r=x ∨ lastOf n x r ∈ r:=by
 induction r with
 | nil=>intro x;exact .inl rfl
 | cons y r ih=>
  intro x
  show lastOf n (if laterB y x n=true then y else x) r=x ∨ lastOf n (if laterB y x n=true then y else x) r ∈ y :: r
  rcases ih (if laterB y x n=true then y else x) with h | h
  ·
   rw [h]
   split
   · exact .inr (List.mem_cons_self ..)
   · exact .inl rfl
  · exact .inr (List.mem_cons_of_mem _ h)
theorem lastC_mem (n:Int) (ls:List (Int × Int)) (h:1 ≤ ls.length):lastC n ls ∈ ls:=by
 cases ls with
 | nil=>simp at h
 | cons p r=>
  show lastOf n p r ∈ p :: r
  rcases lastOf_mem n r p with h | h
  · rw [h];exact List.mem_cons_self ..
  · exact List.mem_cons_of_mem _ h
theorem lastOf_max (n:Int) (r:List (Int × Int)):∀ x,(∀ p,p ∈ x :: r → 0 ≤ p.2) → ∀ y,(0 ≤ y.2 ∧ laterB y x n=false) ∨ y ∈ r → laterB y (lastOf n x r) n=false:=by
 induction r with
 | nil=>
  intro x _ y hy
  rcases hy with hy | hy
  · exact hy.2
  · cases hy
 | cons z r ih=>
  intro x hpos y hy
  show laterB y (lastOf n (if laterB z x n=true then z else x) r) n=false
  have hz:=hpos z (List.mem_cons_of_mem _ (List.mem_cons_self ..))
  by_cases h:laterB z x n=true
  ·
   rw [if_pos h]
   refine ih z (fun p hp=>hpos p (List.mem_cons_of_mem _ hp)) y ?_
   rcases hy with hy | hy
   · exact .inl ⟨hy.1,later_step hy.1 hz hy.2 h⟩
   ·
    rcases List.mem_cons.1 hy with rfl | hy
    · exact .inl ⟨hz,laterB_self _ _⟩
    · exact .inr hy
  ·
   rw [if_neg h]
   have h':laterB z x n=false:=by simpa using h
   refine ih x (fun p hp=>hpos p (by rcases List.mem_cons.1 hp with rfl | hp;exact List.mem_cons_self ..;exact List.mem_cons_of_mem _ (List.mem_cons_of_mem _ hp))) y ?_
   rcases hy with hy | hy
   · exact .inl hy
   ·
    rcases List.mem_cons.1 hy with rfl | hy
    · exact .inl ⟨hz,h'⟩
    · exact .inr hy
theorem lastC_max (n:Int) (ls:List (Int × Int)) (hp:∀ p,p ∈ ls → 0 ≤ p.2) (y:Int × Int) (hy:y ∈ ls):laterB y (lastC n ls) n=false:=by
 cases ls with
 | nil=>cases hy
 | cons p r=>
  refine lastOf_max n r p hp y ?_
  rcases List.mem_cons.1 hy with rfl | hy
  · exact .inl ⟨hp _ (List.mem_cons_self ..),laterB_self _ _⟩
  · exact .inr hy
theorem ceil_le {m r t:Int} (hr:0 < r):(m * 1000+r - 1) / r ≤ t ↔ m * 1000 ≤ r * t:=by
 have h1:=Int.mul_ediv_self_le (x:=m * 1000+r - 1) (k:=r) (by omega)
 have h2:=Int.lt_mul_ediv_self_add (x:=m * 1000+r - 1) (k:=r) hr
 generalize (m * 1000+r - 1) / r=q at *
 constructor
 ·
  intro h
  have:=Int.mul_le_mul_of_nonneg_left h (Int.le_of_lt hr)
  omega
 ·
  intro h
  rcases Int.lt_or_le t q with h' | h'
  ·
   have:=Int.mul_le_mul_of_nonneg_left (show t+1 ≤ q by omega) (Int.le_of_lt hr)
   rw [Int.mul_add] at this
   omega
  · exact h'
theorem line_has {t x y n:Int}:n ≤ lineAt t x y ↔ 1000 * (n - x) ≤ y * t:=by
 unfold lineAt
 omega
theorem miss_pos {x n:Int} (h:miss x n ≠ 0):miss x n=n - x ∧ 0 < n - x:=by unfold miss at *;omega
theorem miss_zero {x n:Int} (h:miss x n=0):n ≤ x:=by unfold miss at h;omega
theorem has_at (ls:List (Int × Int)) (n:Int) (h:okCurve ls) (hn:miss (lastC n ls).1 n=0 ∨ 0 < (lastC n ls).2):0 ≤ comesAt (lastC n ls) n ∧ n ≤ curveAt (comesAt (lastC n ls) n) ls:=by
 have hpos:∀ p,p ∈ ls → 0 ≤ p.2:=fun p hp=>(okLine_true (h.2.2 p hp)).2.2.1
 have hmax:=lastC_max n ls hpos
 generalize lastC n ls=z at *
 have hc:0 ≤ comesAt z n:=by
  unfold comesAt
  split
  · exact Int.le_refl _
  ·
   next hz=>
   obtain ⟨e1,e2⟩:=miss_pos hz
   rcases hn with hn | hn
   · exact absurd hn hz
   · exact Int.ediv_nonneg (by omega) (by omega)
 refine ⟨hc,?_⟩
 obtain ⟨p,hp,e⟩:=curveAt_is (comesAt z n) ls h.1
 rw [e,line_has]
 obtain ⟨a1,a2⟩:=laterB_false (hmax p hp)
 by_cases hz:miss z.1 n=0
 ·
  have:=miss_zero (a1 hz)
  have:=Int.mul_nonneg (hpos p hp) hc
  omega
 ·
  have hr:0 < z.2:=by
   rcases hn with hn | hn
   · exact absurd hn hz
   · exact hn
  have hcz:z.2 * comesAt z n ≥ miss z.1 n * 1000:=by
   have:=(ceil_le (m:=miss z.1 n) (t:=comesAt z n) hr).1 (by unfold comesAt;rw [if_neg hz];exact Int.le_refl _)
   exact this
  have hle:=a2 hz
  have hmp:n - p.1 ≤ miss p.1 n:=by unfold miss;omega
  have hpp:=hpos p hp
  generalize comesAt z n=C at *
  generalize miss z.1 n=k at *
  generalize miss p.1 n=m at *
  -- z.2 * (p.2 * C)=p.2 * (z.2 * C) ≥ p.2 * (k * 1000) ≥ 1000 * (m * z.2)
  rcases Int.lt_or_le (p.2 * C) (1000 * (n - p.1)) with hlt | hge
  ·
   have b1:=Int.mul_le_mul_of_nonneg_left (show k * 1000 ≤ z.2 * C from hcz) hpp
   have b2:p.2 * (k * 1000)=1000 * (k * p.2):=by ac_rfl
   have b3:p.2 * (z.2 * C)=z.2 * (p.2 * C):=by ac_rfl
   have b4:m * z.2=z.2 * m:=Int.mul_comm _ _
   have b5:=Int.mul_lt_mul_of_pos_left (show p.2 * C < 1000 * m by omega) hr
   have b6:z.2 * (1000 * m)=1000 * (z.2 * m):=by ac_rfl
   omega
  · exact hge
def turns (per:Int) (ls:List (Int × Int)) (n:Int):Bool:=decide (0 < miss (lastC n ls).1 n ∧ (lastC n ls).2 * per ≤ 1000)
theorem wait_ahead {per t n k:Int} {ls:List (Int × Int)} (h:okCurve ls) (hper:1 ≤ per) (t0:0 ≤ t) (hk:turns per ls k=false) (hn:n ≤ k) (hc:n ≤ curveAt t ls) :
  (miss (lastC k ls).1 k=0 ∨ 0 < (lastC k ls).2) ∧ per * n - t ≤ per * k - comesAt (lastC k ls) k:=by
 have hm:=lastC_mem k ls h.1
 have hok:=okLine_true (h.2.2 _ hm)
 have hl:=Int.le_trans hc (curveAt_le t ls _ hm)
 have hk':¬ (0 < miss (lastC k ls).1 k ∧ (lastC k ls).2 * per ≤ 1000):=of_decide_eq_false hk
 generalize lastC k ls=z at *
 have hmul:=Int.mul_le_mul_of_nonneg_left hn (show 0 ≤ per by omega)
 have mn:=miss_nonneg z.1 k
 by_cases hz:miss z.1 k=0
 ·
  refine ⟨.inl hz,?_⟩
  unfold comesAt
  rw [if_pos hz]
  omega
 ·
  have hfast:1000 < z.2 * per:=by
   rcases Int.lt_or_le 1000 (z.2 * per) with h | h
   · exact h
   · exact absurd ⟨by omega,h⟩ hk'
  have hr:0 < z.2:=by
   rcases Int.lt_or_le 0 z.2 with h | h
   · exact h
   ·
    have:z.2=0:=by omega
    rw [this,Int.zero_mul] at hfast
    omega
  refine ⟨.inr hr,?_⟩
  obtain ⟨e1,e2⟩:=miss_pos hz
  have:comesAt z k ≤ t+per * (k - n):=by
   unfold comesAt
   rw [if_neg hz,ceil_le hr,e1,Int.mul_add]
   have b1:=line_has.1 hl
   have b2:=Int.mul_le_mul_of_nonneg_right (show 1000 ≤ z.2 * per by omega) (show 0 ≤ k - n by omega)
   have b3:z.2 * per * (k - n)=z.2 * (per * (k - n)):=Int.mul_assoc _ _ _
   omega
  rw [Int.mul_sub] at this
  omega
theorem wait_behind {per t n k:Int} {ls:List (Int × Int)} (h:okCurve ls) (hk:turns per ls k=true) (hn:k ≤ n) (hc:n ≤ curveAt t ls) :
  0 < (lastC k ls).2 ∧ per * n - t ≤ per * k - comesAt (lastC k ls) k:=by
 have hm:=lastC_mem k ls h.1
 have hok:=okLine_true (h.2.2 _ hm)
 have hl:=Int.le_trans hc (curveAt_le t ls _ hm)
 have hk':0 < miss (lastC k ls).1 k ∧ (lastC k ls).2 * per ≤ 1000:=of_decide_eq_true hk
 generalize lastC k ls=z at *
 have hz:miss z.1 k ≠ 0:=by omega
 obtain ⟨e1,e2⟩:=miss_pos hz
 have b1:=line_has.1 hl
 have hr:0 < z.2:=by
  rcases Int.lt_or_le 0 z.2 with h | h
  · exact h
  ·
   have:z.2=0:=by omega
   rw [this,Int.zero_mul] at b1
   omega
 refine ⟨hr,?_⟩
 have:comesAt z k ≤ t - per * (n - k):=by
  unfold comesAt
  rw [if_neg hz,ceil_le hr,e1,Int.mul_sub]
  have b2:=Int.mul_le_mul_of_nonneg_right hk'.2 (show 0 ≤ n - k by omega)
  have b3:z.2 * per * (n - k)=z.2 * (per * (n - k)):=Int.mul_assoc _ _ _
  omega
 rw [Int.mul_sub] at this
 omega
def leastFold:Int → List (Int × Int) → Int
 | m,[]=>m
 | m,p :: r=>leastFold (min m p.2) r
def leastR:List (Int × Int) → Int
 | []=>0
 | p :: r=>leastFold p.2 r
theorem leastFold_snoc (l:List (Int × Int)):∀ (m:Int) (p:Int × Int),leastFold m (l ++ [p])=min (leastFold m l) p.2:=by
 induction l with
 | nil=>intro m p;rfl
 | cons q r ih=>intro m p;exact ih _ p
theorem leastFold_is (l:List (Int × Int)):∀ m:Int,leastFold m l=m ∨ ∃ p,p ∈ l ∧ leastFold m l=p.2:=by
 induction l with
 | nil=>intro m;exact .inl rfl
 | cons q r ih=>
  intro m
  show leastFold (min m q.2) r=m ∨ ∃ p,p ∈ q :: r ∧ leastFold (min m q.2) r=p.2
  rcases ih (min m q.2) with h | ⟨p,hp,h⟩
  ·
   rw [h]
   by_cases hm:m ≤ q.2
   · exact .inl (by omega)
   · exact .inr ⟨q,List.mem_cons_self ..,by omega⟩
  · exact .inr ⟨p,List.mem_cons_of_mem _ hp,h⟩
theorem leastR_is (ls:List (Int × Int)) (h:1 ≤ ls.length):∃ p,p ∈ ls ∧ leastR ls=p.2:=by
 cases ls with
 | nil=>simp at h
 | cons q r=>
  rcases leastFold_is r q.2 with h | ⟨p,hp,h⟩
  · exact ⟨q,List.mem_cons_self ..,h⟩
  · exact ⟨p,List.mem_cons_of_mem _ hp,h⟩
theorem turns_far {per:Int} {ls:List (Int × Int)} (h:okCurve ls) (hper:1 ≤ per) (hs:leastR ls * per ≤ 1000):turns per ls 20019999=true:=by
 have hm:=lastC_mem 20019999 ls h.1
 have hpos:∀ p,p ∈ ls → 0 ≤ p.2:=fun p hp=>(okLine_true (h.2.2 p hp)).2.2.1
 have hmax:=lastC_max 20019999 ls hpos
 have hok:=okLine_true (h.2.2 _ hm)
 obtain ⟨s,hsm,hse⟩:=leastR_is ls h.1
 rw [hse] at hs
 have hsk:=okLine_true (h.2.2 s hsm)
 have hl:=hmax s hsm
 unfold turns
 generalize lastC 20019999 ls=z at *
 have e1:miss z.1 20019999=20019999 - z.1:=by unfold miss;omega
 have e2:miss s.1 20019999=20019999 - s.1:=by unfold miss;omega
 refine decide_eq_true ⟨by omega,?_⟩
 rcases Int.lt_or_le 1000 (z.2 * per) with hf | hf
 ·
  exfalso
  have hlt:s.2 < z.2:=by
   rcases Int.lt_or_le s.2 z.2 with h | h
   · exact h
   ·
    have:=Int.mul_le_mul_of_nonneg_right h (show 0 ≤ per by omega)
    omega
  have hs1:s.2 ≤ 1000:=by
   have:=Int.mul_le_mul_of_nonneg_left hper hsk.2.2.1
   omega
  have:=(laterB_false hl).2 (by omega)
  rw [e1,e2] at this
  have a1:=Int.mul_le_mul_of_nonneg_right (show 19999999 ≤ 20019999 - s.1 by omega) (show 0 ≤ z.2 by omega)
  have a2:=Int.mul_le_mul_of_nonneg_right (show 20019999 - z.1 ≤ 20019998 by omega) hsk.2.2.1
  omega
 · exact hf
theorem turns_one {per:Int} {ls:List (Int × Int)} (h:okCurve ls):turns per ls 1=false:=by
 have hm:=lastC_mem 1 ls h.1
 have hok:=okLine_true (h.2.2 _ hm)
 unfold turns
 generalize lastC 1 ls=z at *
 refine decide_eq_false fun h=>?_
 have:=h.1
 unfold miss at this
 omega
end Go.Proofs.YtbokomeejmnnoaaDoor
