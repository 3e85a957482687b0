/- Own facts, put together: no statement of its own. -/
import Derived.Maps.OwnOps
import Derived.Maps.Views
import Derived.Maps.OwnSet
import Derived.Test.YtipdclphpkgceaaGreatDoorS01
import Derived.Test.YtipdclphpkgceaaGreatDoorS06
import Derived.Test.YtipdclphpkgceaaGreatDoorS05
import Derived.Test.YtipdclphpkgceaaGreatDoorS10
import Derived.Deep.AppendLies
import Derived.Deep.RegionHeldLaw
import Derived.Deep.Cut
import Derived.Laws.StructEq
import Derived.BigQuiet
import Derived.Test.YtipdclphpkgceaaGreatDoorS09
import Derived.Test.YtipdclphpkgceaaGreatDoorS08
import Derived.Test.YtipdclphpkgceaaGreatDoorS11
import Derived.Test.YtipdclphpkgceaaGreatDoorS03
import Derived.Deep.DeepCutAuto
import Derived.Deep.RegionLaw

namespace Go.Proofs.YtipdclphpkgceaaGreatDoor
open Go.Maps (Keyed)
open Go.WideElems (Fit)
def noFlow:Lit → Bool
 | .int .i64 x=>!(decide (0 ≤ x) && decide (x < 8))
 | _=>true
def flowAt:Lit → Nat
 | .int _ x=>x.toNat
 | _=>0
theorem noFlow_of {y:Lit} (h:noFlow y=false):∃ x:Nat,x < 8 ∧ y=.int .i64 (x:Int):=by
 cases y with
 | int q x=>
  cases q <;> simp only [noFlow] at h <;> try cases h
  have h1:0 ≤ x ∧ x < 8:=by simpa using h
  exact ⟨x.toNat,by omega,by rw [Int.toNat_of_nonneg h1.1]⟩
 | _=>cases h
theorem noFlow_not {x:Nat} (h:x < 8):noFlow (.int .i64 (x:Int))=false:=by simp [noFlow]; omega
theorem few_below:∀ (n:Nat) (l:List Nat),l.Nodup → (∀ x,x ∈ l → x < n) → l.length ≤ n
 | 0,[],_,_=>Nat.le_refl _
 | 0,a :: l,_,h=>absurd (h a (List.mem_cons_self ..)) (Nat.not_lt_zero _)
 | n + 1,l,hn,h=>by
  by_cases hm:n ∈ l
  ·
   have:=few_below n (l.erase n) (hn.erase n) (fun x hx=>by
    have h1:=hn.mem_erase_iff.1 hx
    have:=h x h1.2
    omega)
   rw [List.length_erase_of_mem hm] at this
   omega
  ·
   have:=few_below n l hn (fun x hx=>by
    have h1:=h x hx
    have:x ≠ n:=fun e=>hm (by rw [← e]; exact hx)
    omega)
   omega
theorem keys_few {H:Type} {es:List (Lit × DataW H)} (h1:es.Pairwise fun p q=>p.1 ≠ q.1) (h2:es.any (fun p=>noFlow p.1)=false):es.length ≤ 8:=by
 have h3:∀ p,p ∈ es → ∃ x:Nat,x < 8 ∧ p.1=.int .i64 (x:Int):=fun p hp=>noFlow_of (by simpa using List.any_eq_false.1 h2 p hp)
 have hn:(es.map fun p=>flowAt p.1).Nodup:=by
  refine List.pairwise_map.2 (List.pairwise_iff_getElem.2 fun i j hi hj hij e=>List.pairwise_iff_getElem.1 h1 i j hi hj hij ?_)
  obtain ⟨x,-,hx⟩:=h3 _ (List.getElem_mem hi)
  obtain ⟨y,-,hy⟩:=h3 _ (List.getElem_mem hj)
  rw [hx,hy] at e ⊢
  have:x=y:=by simpa [flowAt] using e
  rw [this]
 have:=few_below 8 _ hn (fun a ha=>by
  obtain ⟨p,hp,rfl⟩:=List.mem_map.1 ha
  obtain ⟨x,hx,e⟩:=h3 p hp
  rw [e]
  simpa [flowAt] using hx)
 simpa using this
def Tells (P:Program) (k e:TypeId) (w:World) (b:Nat) (f:Nat → Int):Prop:=
 ∃ es:List (Lit × DataW Unit),w.ownsMap P k (plainElem P e) b 8 (.map es) ∧ es.any (fun p=>noFlow p.1)=false ∧ ∀ x:Nat,(DataW.map es).atKey (.int .i64 (x:Int)) (.lit (.int .i64 0))=.lit (.int .i64 (f x))
section
variable {P:Program} {k e t:TypeId} {w w':World} {b:Nat} {f:Nat → Int}
theorem tells_made (w:World) (P:Program) (k e:TypeId):Tells P k e (w.alloc (.map #[] 0)) w.heap.size fun _=>0:=
 ⟨[],(World.ownsMap_made w P k _).mono (Nat.zero_le _),rfl,fun _=>rfl⟩
theorem Tells.lt (h:Tells P k e w b f):b < w.heap.size:=by
 obtain ⟨D,h1,-,-⟩:=h
 exact h1.lt
theorem Tells.but {S:Nat → Prop} (h:Tells P k e w b f) (hb:But S w w') (hs:¬ S b):Tells P k e w' b f:=by
 have hlt:=h.lt
 obtain ⟨D,⟨es,clock,g1,g2,g3,g4⟩,h2,h3⟩:=h
 exact ⟨D,⟨es,clock,(hb.block b hlt hs).trans g1,g2,g3,g4⟩,h2,h3⟩
theorem Tells.look (h:Tells P k e w b f) (K:Keyed P k) (ht:P.underlying t=some (.map k e)) (he:P.underlying e=some (.int .i64)) (hz:(zeroValue e).run P w=.ok (.int .i64 0) w) {x:Nat} (hkey:keyOf P k (.int .i64 (x:Int))=some (.int .i64 (x:Int))) :
  (Instr.lookup t (.map (some b)) (.int .i64 (x:Int)) false).run P w=.ok (.int .i64 (f x)) w:=by
 obtain ⟨es,h1,h2,h3⟩:=h
 obtain ⟨c,hrun,hat,-⟩:=h1.lookup_int K ht he hz hkey
 rw [h3 x] at hat
 injection hat with hat
 injection hat with _ hat
 rw [hrun,hat]
theorem Tells.store (h:Tells P k e w b f) (K:Keyed P k) (ht:P.underlying t=some (.map k e)) (he:P.underlying e=some (.int .i64)) {x:Nat} (hx8:x < 8) (hkey:keyOf P k (.int .i64 (x:Int))=some (.int .i64 (x:Int))) {v:Int} (hv:(Lit.int .i64 v).wf=true) :
  ∃ w',(Instr.mapUpdate t (.map (some b)) (.int .i64 (x:Int)) (.int .i64 v)).run P w=.ok () w' ∧ Tells P k e w' b (put1 f x v) ∧ w.grownBy w' (some b):=by
 obtain ⟨es,h1,h2,h3⟩:=h
 obtain ⟨w',hrun,g1,g2⟩:=h1.update K ht (by decide) hkey (plainElem_int he hv)
 have e1:(DataW.map es).put (.int .i64 (x:Int)) (.lit (.int .i64 v))=.map (DataW.insert (.int .i64 (x:Int),.lit (.int .i64 v)) (es.filter fun p=>!p.1.sameKey (.int .i64 (x:Int)))):=rfl
 have hk:(DataW.insert (.int .i64 (x:Int),.lit (.int .i64 v)) (es.filter fun p=>!p.1.sameKey (.int .i64 (x:Int)))).any (fun p=>noFlow p.1)=false:=by
  rw [Maps.any_insert,noFlow_not hx8,Bool.false_or]
  exact List.any_eq_false.2 fun p hp=>List.any_eq_false.1 h2 p (List.mem_filter.1 hp).1
 have ht2:=g1.tidy K
 rw [e1] at g1 ht2
 refine ⟨w',hrun,⟨_,?_,hk,fun y=>?_⟩,g2⟩
 ·
  obtain ⟨es',he',hp⟩:=ht2
  injection he' with he'
  rw [← he'] at hp
  have hl:=keys_few hp hk
  obtain ⟨ms,clock,k1,k2,k3,k4⟩:=g1
  refine ⟨ms,clock,k1,k2,?_,k4⟩
  injection k4 with k4
  rw [k4,length_sorted] at hl
  simpa using hl
 ·
  rw [← e1]
  by_cases hy:y=x
  ·
   subst hy
   rw [put1_same]
   exact Maps.atKey_put_same (k:=.int .i64 (y:Int)) ⟨es,rfl⟩ trivial _ _
  ·
   rw [put1_other _ _ hy,Maps.atKey_put_other (fun e=>hy (by injection e with _ e; omega))]
   exact h3 y
theorem Tells.cleared (h:Tells P k e w b f) (ht:P.underlying t=some (.map k e)) (ty:TypeId) :
  ∃ w',(Builtin.clear_ #[t] ty #[.map (some b)]).run P w=.ok (.tuple #[]) w' ∧ Tells P k e w' b (fun _=>0) ∧ w.grownBy w' (some b):=by
 obtain ⟨D,⟨es,clock,g1,g2,g3,g4⟩,h2,h3⟩:=h
 refine ⟨ChangeMaps.setBlock w b (.map #[] clock),?_,⟨[],⟨#[],clock,ChangeMaps.heap_setBlock_same g1 _,⟨by simp,MapKept.stamped_empty _,by simp⟩,Nat.zero_le _,rfl⟩,rfl,fun _=>rfl⟩,⟨rfl,rfl,rfl,by simp [ChangeMaps.setBlock],fun i _ hi=>ChangeMaps.heap_setBlock_other g1 _ (fun e=>hi (by rw [e]))⟩⟩
 simp [Builtin.clear_,run_underlying ht,MapKept.run_getObj_map g1,MapKept.run_setObj_map _ g1,Result.andThen,ChangeMaps.setBlock]
end
end Go.Proofs.YtipdclphpkgceaaGreatDoor

namespace Go.Proofs.YtipdclphpkgceaaGreatDoor
structure Rb where
 burst:Int
 rate:Int
 has:Int
 tick:Int
 last:Int
end Go.Proofs.YtipdclphpkgceaaGreatDoor

namespace Go.Proofs.YtipdclphpkgceaaGreatDoor
open Go.RowKit
structure RbAt (w:World) (g:Nat) (m:Rb):Prop where
 c0:w.cell? ⟨g,0,none⟩=some (.int .i64 m.burst)
 c1:w.cell? ⟨g,1,none⟩=some (.int .i64 m.rate)
 c2:w.cell? ⟨g,2,none⟩=some (.int .i64 m.has)
 c3:w.cell? ⟨g,3,none⟩=some (.int .i64 m.tick)
 c4:w.cell? ⟨g,4,none⟩=some (.int .i64 m.last)
 f2:w.frozen? ⟨g,2,none⟩=false
 f3:w.frozen? ⟨g,3,none⟩=false
 f4:w.frozen? ⟨g,4,none⟩=false
theorem RbAt.lt {w:World} {g:Nat} {m:Rb} (h:RbAt w g m):g < w.heap.size:=cell_lt h.c0
theorem RbAt.but {S:Nat → Prop} {w w':World} {g:Nat} {m:Rb} (h:RbAt w g m) (hb:But S w w') (hs:¬ S g):RbAt w' g m:=
 have l:=h.lt
 ⟨by rw [hb.cell (p:=⟨g,0,none⟩) l hs]; exact h.c0,by rw [hb.cell (p:=⟨g,1,none⟩) l hs]; exact h.c1,by rw [hb.cell (p:=⟨g,2,none⟩) l hs]; exact h.c2,by rw [hb.cell (p:=⟨g,3,none⟩) l hs]; exact h.c3,by rw [hb.cell (p:=⟨g,4,none⟩) l hs]; exact h.c4,
  by rw [hb.frozen (p:=⟨g,2,none⟩) l hs]; exact h.f2,by rw [hb.frozen (p:=⟨g,3,none⟩) l hs]; exact h.f3,by rw [hb.frozen (p:=⟨g,4,none⟩) l hs]; exact h.f4⟩
theorem RbAt.below {w w':World} {g:Nat} {m:Rb} (h:RbAt w g m) (hb:Below w.heap.size w w'):RbAt w' g m:=h.but (S:=fun _=>False) (.ofBelow hb) id
theorem ownsRow_but {S:Nat → Prop} {w w':World} {base:Nat} {e:TypeId} {size:Nat} {v:Value} {n:Nat} {xs:List Value} (h:w.ownsRow base e size v n xs) (hb:But S w w') (hs:∀ k,v.ownBlock=some k → ¬ S k):w'.ownsRow base e size v n xs:=by
 have hlt:=World.ownsRow.lt h
 obtain ⟨h1,h2 | ⟨g,cap,cur,rfl,hB,hg,r⟩⟩:=h
 · exact ⟨h1,.inl h2⟩
 · exact ⟨h1,.inr ⟨g,cap,cur,rfl,hB,by rw [hb.block g (hlt g rfl).2 (hs g rfl)]; exact hg,r⟩⟩
def ptrs (hs:List Nat):List Value:=hs.map fun h=>.pointer (some ⟨h,0,none⟩)
structure RsAt (w wr:World) (v:Value) (hs:List Nat) (ms:List Rb):Prop where
 len:hs.length=ms.length
 own:wr.ownsRow w.heap.size 130 1 v hs.length (ptrs hs)
 rb:∀ (i:Nat) h m,hs[i]? = some h → ms[i]? = some m → RbAt wr h m
 new:∀ h,h ∈ hs → w.heap.size ≤ h ∧ v.ownBlock ≠ some h
 one:∀ (i j:Nat) h,hs[i]? = some h → hs[j]? = some h → i=j
theorem RsAt.but {S:Nat → Prop} {w wr w':World} {v:Value} {hs:List Nat} {ms:List Rb} (h:RsAt w wr v hs ms) (hb:But S wr w') (hv:∀ k,v.ownBlock=some k → ¬ S k) (hh:∀ q,q ∈ hs → ¬ S q):RsAt w w' v hs ms:=
 ⟨h.len,ownsRow_but h.own hb hv,fun i q m hi hm=>(h.rb i q m hi hm).but hb (hh q (List.mem_of_getElem? hi)),h.new,h.one⟩
theorem RsAt.below {w wr w':World} {v:Value} {hs:List Nat} {ms:List Rb} (h:RsAt w wr v hs ms) (hb:Below wr.heap.size wr w'):RsAt w w' v hs ms:=
 h.but (S:=fun _=>False) (.ofBelow hb) (fun _ _=>id) (fun _ _=>id)
structure LocAt (w:World) (C:Nat) (x y z:Int):Prop where
 c0:w.cell? ⟨C,0,none⟩=some (.int .i64 x)
 c1:w.cell? ⟨C,1,none⟩=some (.int .i64 y)
 c2:w.cell? ⟨C,2,none⟩=some (.int .i64 z)
 f2:w.frozen? ⟨C,2,none⟩=false
theorem LocAt.but {S:Nat → Prop} {w w':World} {C:Nat} {x y z:Int} (h:LocAt w C x y z) (hb:But S w w') (hs:¬ S C):LocAt w' C x y z:=
 have l:=cell_lt h.c0
 ⟨by rw [hb.cell (p:=⟨C,0,none⟩) l hs]; exact h.c0,by rw [hb.cell (p:=⟨C,1,none⟩) l hs]; exact h.c1,by rw [hb.cell (p:=⟨C,2,none⟩) l hs]; exact h.c2,by rw [hb.frozen (p:=⟨C,2,none⟩) l hs]; exact h.f2⟩
theorem LocAt.below {w w':World} {C:Nat} {x y z:Int} (h:LocAt w C x y z) (hb:Below w.heap.size w w'):LocAt w' C x y z:=h.but (S:=fun _=>False) (.ofBelow hb) id
theorem check_is (a:Option Addr) (cap:Nat) (ls:List (Int × Int)) (w:World) (ad:Nat → Addr) (he:Errs9 w ad) (hl:Lies w a ls) (hcap:ls.length ≤ cap) (hm:cap ≤ maxLen) (c p:Int) (h:FaultIs ls c p) :
  Calls Tryz.prog 89 #[.slice a ls.length cap] w fun e w'=>∃ E,e=.returned E ∧ ErrIs w' E c p ∧ Below w.heap.size w w':=by
 rcases h with ⟨h,rfl,rfl⟩ | ⟨h1,h6,j,hj,h2,h3,rfl,rfl⟩ | ⟨h,rfl,rfl⟩
 ·
  refine (check_shape a ls.length cap w _ he.c2 (Nat.le_trans hcap hm) h).mono ?_
  rintro e w' ⟨rfl,rfl⟩
  exact ⟨_,rfl,errIs_sent he 2 (by decide),Below.refl _ _⟩
 ·
  refine (check_bad a cap ls w (ad 1) he.c1 hl h1 h6 j hj h2 h3).mono ?_
  rintro e w' ⟨hb,B,rfl,hB1,hB2,hc0,hc1⟩
  exact ⟨_,rfl,⟨codeIs_fault (he.below hb) 1 (by decide) j B hc0 hc1,fun h=>by omega,fun _=>⟨_,_,rfl⟩⟩,hb⟩
 ·
  refine (check_ok a cap ls w hl h).mono ?_
  rintro e w' ⟨rfl,hb⟩
  exact ⟨_,rfl,errIs_nil _,hb⟩
theorem at_fault (a:Option Addr) (cap:Nat) (ls:List (Int × Int)) (t:Int) (w:World) (ad:Nat → Addr) (he:Errs9 w ad) (hl:Lies w a ls) (hcap:ls.length ≤ cap) (hm:cap ≤ maxLen) (c p:Int) (h:FaultIs ls c p) (hc:c ≠ 0) :
  Calls Tryz.prog 106 #[.slice a ls.length cap,.int .i64 t] w fun e w'=>∃ ty v,e=.returned (.tuple #[.int .i64 0,.iface ty v]) ∧ ErrIs w' (.iface ty v) c p ∧ Below w.heap.size w w':=by
 refine at_err (R:=fun ty v w'=>ErrIs w' (.iface ty v) c p ∧ Below w.heap.size w w') a ls.length cap t w ((check_is a cap ls w ad he hl hcap hm c p h).mono ?_)
 rintro e w' ⟨E,rfl,hE,hb⟩
 obtain ⟨ty,v,rfl⟩:=hE.some_ hc
 exact ⟨ty,v,rfl,hE,hb⟩
theorem Errs9.four {w:World} {ad:Nat → Addr} (h:Errs9 w ad):Errs4 w ad:=⟨h.c1,h.c2,h.c3,h.c4⟩
structure Ac where
 kind:ByteArray
 tick:Int
 size:Int
def LiesA (w:World) (a:Option Addr) (q:List Ac):Prop:=
 q=[] ∨ ∃ b off,a=some ⟨b,off,none⟩ ∧ b < w.heap.size ∧ ∀ (i:Nat) p,q[i]? = some p → w.cell? ⟨b,off + i * 3,none⟩=some (.string p.kind) ∧ w.cell? ⟨b,off + i * 3 + 1,none⟩=some (.int .i64 p.tick) ∧ w.cell? ⟨b,off + i * 3 + 2,none⟩=some (.int .i64 p.size)
theorem LiesA.below {w w':World} {a:Option Addr} {q:List Ac} (h:LiesA w a q) (hb:Below w.heap.size w w'):LiesA w' a q:=by
 rcases h with rfl | ⟨b,off,rfl,hlt,hc⟩
 · exact .inl rfl
 ·
  refine .inr ⟨b,off,rfl,Nat.lt_of_lt_of_le hlt hb.size,fun i p hi=>?_⟩
  have:=hc i p hi
  exact ⟨cell_later hb this.1,cell_later hb this.2.1,cell_later hb this.2.2⟩
theorem never_one {ls:List (Int × Int)} {ps:List Pk} {j j':Nat} {q q':Pk} {s s':Sh} (h1:ps[j]? = some q) (h2:shape ls (ps.take j)=some s) (h3:shStep s q=none) (h1':ps[j']? = some q') (h2':shape ls (ps.take j')=some s') (h3':shStep s' q'=none):j=j':=by
 have key:∀ (a b:Nat) (p:Pk) (u v:Sh),a < b → ps[a]? = some p → shape ls (ps.take a)=some u → shStep u p=none → shape ls (ps.take b)=some v → False:=fun a b p u v hab e1 e2 e3 e4=>by
  have:=shape_stuck (ls:=ls) (ps:=ps.take b) (j:=a) (p:=p) (s:=u) (by rw [List.getElem?_take_of_lt hab]; exact e1) (by rw [List.take_take,Nat.min_eq_left (by omega)]; exact e2) e3
  rw [this] at e4; cases e4
 rcases Nat.lt_trichotomy j j' with h | h | h
 · exact (key j j' q s s' h h1 h2 h3 h2').elim
 · exact h
 · exact (key j' j q' s' s h h1' h2' h3' h2).elim
end Go.Proofs.YtipdclphpkgceaaGreatDoor

namespace Go.Proofs.YtipdclphpkgceaaGreatDoor
section
variable {cs:Nat → List (Int × Int)} {ps:List Pk}
theorem NeverAt.one (ho:OkPks ps) {i j:Nat} (h:NeverAt cs ps i) (k:NeverAt cs ps j) (hf:flowOf ps i=flowOf ps j):i=j:=by
 obtain ⟨p,s,h1,h2,h3,h4⟩:=h
 obtain ⟨q,t,k1,k2,k3,k4⟩:=k
 have hi:=lt_of_get h1
 have hj:=lt_of_get k1
 have ai:=num_at ho hi (Nat.le_refl _)
 have aj:=num_at ho hj (Nat.le_refl _)
 rw [← hf] at k2 k3 aj
 have hown:=own_num ho (flowOf ps i) ps.length (Nat.le_refl _)
 have gi:=(hown.2 _ _ ai).2.2.2
 have gj:=(hown.2 _ _ aj).2.2.2
 have e:=never_one (gi.trans h1) h3 h4 (gj.trans k1) k3 k4
 rw [e,aj] at ai
 exact (Option.some.inj ai).symm
theorem never_num (ho:OkPks ps) {f:Nat} (hc:cs f ≠ []) {r i:Nat} {p:Pk} {s:Sh} (hr:(numTo ps f ps.length)[r]? = some i) (h1:(ownTo ps f ps.length)[r]? = some p) (h2:shape (cs f) ((ownTo ps f ps.length).take r)=some s) (h3:shStep s p=none):NeverAt cs ps i ∧ flowOf ps i=f:=by
 obtain ⟨g1,g2,g3,g4⟩:=(own_num ho f ps.length (Nat.le_refl _)).2 r i hr
 exact ⟨⟨p,s,g4.symm.trans h1,by rw [g2]; exact hc,by rw [g2,g3]; exact h2,h3⟩,g2⟩
theorem never_not (ho:OkPks ps) {f:Nat} {out:List Pk} (hs:shapedFl cs ps f=some out) {j:Nat} (hj:flowOf ps j=f):¬ NeverAt cs ps j:=by
 rintro ⟨p,s,h1,h2,h3,h4⟩
 rw [hj] at h2 h3
 unfold shapedFl at hs
 rw [if_neg h2] at hs
 have hjl:=lt_of_get h1
 have aj:=num_at ho hjl (Nat.le_refl _)
 rw [hj] at aj
 have gj:=((own_num ho f ps.length (Nat.le_refl _)).2 _ _ aj).2.2.2
 rw [shape_stuck (gj.trans h1) h3 h4] at hs
 cases hs
def FlowsDone (cs:Nat → List (Int × Int)) (ps:List Pk) (f:Nat) (z:Int) (a:Nat → Int):Prop:=
 (z = -1 ∧ ∀ g,g < f → ∃ out,shapedFl cs ps g=some out ∧ ∀ (r i:Nat),(numTo ps g ps.length)[r]? = some i → a i=tickOf out r) ∨
  (∃ i:Nat,z=i ∧ NeverAt cs ps i ∧ flowOf ps i < f ∧ ∀ j,NeverAt cs ps j → flowOf ps j < f → i ≤ j)
theorem flowsDone_none (a:Nat → Int):FlowsDone cs ps 0 (-1) a:=.inl ⟨rfl,fun _ h=>absurd h (Nat.not_lt_zero _)⟩
theorem FlowsDone.range {f:Nat} {z:Int} {a:Nat → Int} (h:FlowsDone cs ps f z a):z = -1 ∨ ∃ i:Nat,z=i ∧ i < ps.length:=by
 rcases h with ⟨h,-⟩ | ⟨i,h,⟨p,s,h1,-⟩,-⟩
 · exact .inl h
 · exact .inr ⟨i,h,lt_of_get h1⟩
theorem FlowsDone.shaped (ho:OkPks ps) {f:Nat} {z:Int} {a a':Nat → Int} {out:List Pk} (h:FlowsDone cs ps f z a) (hs:shapedFl cs ps f=some out) (h1:∀ (r i:Nat),(numTo ps f ps.length)[r]? = some i → a' i=tickOf out r) (h2:∀ i,i ∉ numTo ps f ps.length → a' i=a i):FlowsDone cs ps (f + 1) z a':=by
 rcases h with ⟨rfl,h⟩ | ⟨i,rfl,hi,hf,hall⟩
 ·
  refine .inl ⟨rfl,fun g hg=>?_⟩
  rcases Nat.lt_or_ge g f with h' | h'
  ·
   obtain ⟨o,e1,e2⟩:=h g h'
   refine ⟨o,e1,fun r i hr=>?_⟩
   rw [h2 i ?_]
   · exact e2 r i hr
   ·
    intro hm
    have m1:=num_mem.1 (List.mem_of_getElem? hr)
    have m2:=num_mem.1 hm
    omega
  ·
   obtain rfl:g=f:=by omega
   exact ⟨out,hs,h1⟩
 ·
  refine .inr ⟨i,rfl,hi,by omega,fun j hj hjf=>?_⟩
  rcases Nat.lt_or_ge (flowOf ps j) f with h' | h'
  · exact hall j hj h'
  · exact absurd hj (never_not ho hs (by omega))
theorem FlowsDone.stuck (ho:OkPks ps) {f:Nat} {z:Int} {a a':Nat → Int} {n:Nat} (h:FlowsDone cs ps f z a) (hn:NeverAt cs ps n) (hf:flowOf ps n=f):FlowsDone cs ps (f + 1) (if z < 0 ∨ (n:Int) < z then (n:Int) else z) a':=by
 have self:∀ j,NeverAt cs ps j → flowOf ps j < f + 1 → flowOf ps j < f ∨ j=n:=fun j hj hjf=>by
  rcases Nat.lt_or_ge (flowOf ps j) f with h' | h'
  · exact .inl h'
  · exact .inr (hj.one ho hn (by omega))
 rcases h with ⟨rfl,h⟩ | ⟨i,rfl,hi,hif,hall⟩
 ·
  rw [if_pos (.inl (by omega))]
  refine .inr ⟨n,rfl,hn,by omega,fun j hj hjf=>?_⟩
  rcases self j hj hjf with h' | h'
  ·
   obtain ⟨out,e1,-⟩:=h _ h'
   exact absurd hj (never_not ho e1 rfl)
  · omega
 ·
  by_cases hlt:n < i
  ·
   rw [if_pos (.inr (by omega))]
   refine .inr ⟨n,rfl,hn,by omega,fun j hj hjf=>?_⟩
   rcases self j hj hjf with h' | h'
   ·
    have:=hall j hj h'
    omega
   · omega
  ·
   rw [if_neg (by omega)]
   refine .inr ⟨i,rfl,hi,by omega,fun j hj hjf=>?_⟩
   rcases self j hj hjf with h' | h'
   · exact hall j hj h'
   · omega
end
end Go.Proofs.YtipdclphpkgceaaGreatDoor

namespace Go.Proofs.YtipdclphpkgceaaGreatDoor
open Go.RowKit
def AddTo (S:List (Int × Int) → List (Int × Int) → Int → List (Int × Int) → Prop) (cs:List (List (Int × Int))):Nat → List (Int × Int) → Prop
 | 0,_=>False
 | 1,L=>L=curveFl cs 0
 | k + 2,L=>∃ M,AddTo S cs (k + 1) M ∧ curveFl cs (k + 1) ≠ [] ∧ S M (curveFl cs (k + 1)) 0 L
theorem addTo_next {S:List (Int × Int) → List (Int × Int) → Int → List (Int × Int) → Prop} {cs:List (List (Int × Int))} {k:Nat} {M L:List (Int × Int)} (h:AddTo S cs k M) (h1:curveFl cs k ≠ []) (h2:S M (curveFl cs k) 0 L):AddTo S cs (k + 1) L:=by
 cases k with
 | zero=>exact h.elim
 | succ k=>exact ⟨M,h,h1,h2⟩
def CurveAll (S:List (Int × Int) → List (Int × Int) → Int → List (Int × Int) → Prop) (cs:List (List (Int × Int))) (L:List (Int × Int)):Prop:=curveFl cs 0 ≠ [] ∧ ∃ k,1 ≤ k ∧ k ≤ 8 ∧ AddTo S cs k L ∧ (k=8 ∨ curveFl cs k=[])
def CurveNone (S:List (Int × Int) → List (Int × Int) → Int → List (Int × Int) → Prop) (cs:List (List (Int × Int))):Prop:=curveFl cs 0=[] ∨ (curveFl cs 0 ≠ [] ∧ ∃ k M code L,1 ≤ k ∧ k < 8 ∧ AddTo S cs k M ∧ curveFl cs k ≠ [] ∧ S M (curveFl cs k) code L ∧ code ≠ 0)
structure SumWay (S:List (Int × Int) → List (Int × Int) → Int → List (Int × Int) → Prop):Prop where
 ok:∀ la lb L,okCurve la → okCurve lb → S la lb 0 L → okCurve L
 num:∀ la lb c L,S la lb c L → 0 ≤ c ∧ c ≤ 9
 one:∀ la lb c L c' L',okCurve la → okCurve lb → S la lb c L → S la lb c' L' → c=c' ∧ L=L'
theorem addTo_ok {S:List (Int × Int) → List (Int × Int) → Int → List (Int × Int) → Prop} (hS:SumWay S) {cs:List (List (Int × Int))} (hc:CurvesOk (curveFl cs)) (h0:curveFl cs 0 ≠ []):∀ k L,k ≤ 8 → AddTo S cs k L → okCurve L
 | 0,L,_,h=>h.elim
 | 1,L,_,h=>by
  have h:L=curveFl cs 0:=h
  rcases hc 0 (by decide) with e | e
  · exact absurd e h0
  · rw [h]; exact e
 | k + 2,L,hk,⟨M,h1,h2,h3⟩=>by
  rcases hc (k + 1) (by omega) with e | e
  · exact absurd e h2
  · exact hS.ok M _ L (addTo_ok hS hc h0 (k + 1) M (by omega) h1) e h3
theorem addTo_one {S:List (Int × Int) → List (Int × Int) → Int → List (Int × Int) → Prop} (hS:SumWay S) {cs:List (List (Int × Int))} (hc:CurvesOk (curveFl cs)) (h0:curveFl cs 0 ≠ []):∀ k L L',k ≤ 8 → AddTo S cs k L → AddTo S cs k L' → L=L'
 | 0,L,L',_,h,_=>h.elim
 | 1,L,L',_,h,h'=>by
  have h:L=curveFl cs 0:=h
  have h':L'=curveFl cs 0:=h'
  rw [h,h']
 | k + 2,L,L',hk,⟨M,h1,h2,h3⟩,⟨M',g1,g2,g3⟩=>by
  obtain rfl:=addTo_one hS hc h0 (k + 1) M M' (by omega) h1 g1
  rcases hc (k + 1) (by omega) with e | e
  · exact absurd e h2
  · exact (hS.one M _ 0 L 0 L' (addTo_ok hS hc h0 (k + 1) M (by omega) h1) e h3 g3).2
theorem addTo_some {S:List (Int × Int) → List (Int × Int) → Int → List (Int × Int) → Prop} {cs:List (List (Int × Int))}:∀ k L,AddTo S cs k L → ∀ j,1 ≤ j → j < k → curveFl cs j ≠ []
 | 0,L,h,_,_,_=>h.elim
 | 1,L,_,j,h1,h2=>by omega
 | k + 2,L,⟨M,h1,h2,h3⟩,j,g1,g2=>by
  by_cases e:j=k + 1
  · rw [e]; exact h2
  · exact addTo_some (k + 1) M h1 j g1 (by omega)
theorem addTo_down {S:List (Int × Int) → List (Int × Int) → Int → List (Int × Int) → Prop} {cs:List (List (Int × Int))}:∀ k L,AddTo S cs k L → ∀ j,1 ≤ j → j ≤ k → ∃ M,AddTo S cs j M
 | 0,L,h,_,_,_=>h.elim
 | 1,L,h,j,h1,h2=>by
  obtain rfl:j=1:=by omega
  exact ⟨L,h⟩
 | k + 2,L,h,j,g1,g2=>by
  by_cases e:j=k + 2
  · subst e; exact ⟨L,h⟩
  ·
   obtain ⟨M,h1,-,-⟩:=h
   exact addTo_down (k + 1) M h1 j g1 (by omega)
theorem addTo_step {S:List (Int × Int) → List (Int × Int) → Int → List (Int × Int) → Prop} {cs:List (List (Int × Int))} {k:Nat} {L:List (Int × Int)} (h:AddTo S cs (k + 1) L) (hk:1 ≤ k):∃ M,AddTo S cs k M ∧ S M (curveFl cs k) 0 L:=by
 cases k with
 | zero=>omega
 | succ k=>
  obtain ⟨M,h1,-,h3⟩:=h
  exact ⟨M,h1,h3⟩
theorem CurveAll.one {S:List (Int × Int) → List (Int × Int) → Int → List (Int × Int) → Prop} (hS:SumWay S) {cs:List (List (Int × Int))} (hc:CurvesOk (curveFl cs)) {L L':List (Int × Int)} (h:CurveAll S cs L) (h':CurveAll S cs L'):L=L':=by
 obtain ⟨h0,k,k1,k8,hk,he⟩:=h
 obtain ⟨-,j,j1,j8,hj,hf⟩:=h'
 have e:k=j:=by
  rcases Nat.lt_trichotomy k j with h | h | h
  ·
   rcases he with e | e
   · omega
   · exact absurd e (addTo_some j L' hj k k1 h)
  · exact h
  ·
   rcases hf with e | e
   · omega
   · exact absurd e (addTo_some k L hk j j1 h)
 subst e
 exact addTo_one hS hc h0 k L L' k8 hk hj
theorem CurveAll.no {S:List (Int × Int) → List (Int × Int) → Int → List (Int × Int) → Prop} (hS:SumWay S) {cs:List (List (Int × Int))} (hc:CurvesOk (curveFl cs)) {L:List (Int × Int)} (h:CurveAll S cs L):¬ CurveNone S cs:=by
 obtain ⟨h0,k,k1,k8,hk,he⟩:=h
 rintro (h | ⟨-,j,M,code,N,j1,j8,hj,hne,hs,hcode⟩)
 · exact h0 h
 ·
  have hjk:j < k:=by
   rcases Nat.lt_trichotomy k j with h | h | h
   ·
    rcases he with e | e
    · omega
    · exact absurd e (addTo_some j M hj k k1 h)
   ·
    subst h
    rcases he with e | e
    · omega
    · exact absurd e hne
   · exact h
  obtain ⟨N',hN⟩:=addTo_down k L hk (j + 1) (by omega) (by omega)
  obtain ⟨M',hM,hs'⟩:=addTo_step hN j1
  obtain rfl:=addTo_one hS hc h0 j M M' (by omega) hj hM
  rcases hc j j8 with e | e
  · exact hne e
  · exact hcode (hS.one M _ code N 0 N' (addTo_ok hS hc h0 j M (by omega) hj) e hs hs').1
end Go.Proofs.YtipdclphpkgceaaGreatDoor
