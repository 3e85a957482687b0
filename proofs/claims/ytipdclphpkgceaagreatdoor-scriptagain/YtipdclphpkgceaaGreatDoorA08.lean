/- Own facts, put together: no statement of its own. -/
import Derived.Test.YtipdclphpkgceaaGreatDoorA07
import Derived.Deep.DeepCutAuto
import Derived.Deep.RegionLaw
import Derived.Test.YtipdclphpkgceaaGreatDoorA05
import Derived.Test.YtipdclphpkgceaaGreatDoorA06
import Derived.Laws.MakeOwn
import Derived.Test.YtipdclphpkgceaaGreatDoorA02
set_option maxHeartbeats 2000000
set_option maxRecDepth 100000

namespace Go.Proofs.YtipdclphpkgceaaGreatDoor
open Go.RowKit
theorem Na (ad:Nat → Addr) {k:Nat} (h:k ≠ 0):∃ v,Ec ad k=.iface 312 v:=by
 cases k with
 | zero=>exact absurd rfl h
 | succ k=>exact ⟨_,rfl⟩
theorem bA (g:Nat) (l t n:Int) (w:World) (ad:Nat → Addr) (he:Gt w ad) (c3:w.cell? ⟨g,3,none⟩=some (.int .i64 l)) (hn:Dq l t n ≠ 0) :
  Calls Tryz.prog 219 #[.pointer (some ⟨g,0,none⟩),.int .i64 t,.int .i64 n] w fun e w'=>e=.returned (.tuple #[.bool false,Ec ad (Dq l t n)]) ∧ w'=w:=by
 obtain ⟨v,hv⟩:=Na ad hn
 have HC:Hid (Calls Tryz.prog 228 #[.pointer (some ⟨g,0,none⟩),.int .i64 t,.int .i64 n] w fun e w'=>e=.returned (Ec ad (Dq l t n)) ∧ w'=w):=Fe g l t n w ad he c3
 rw [hv] at HC ⊢
 clear hv hn he c3
 go_enter Tryz.func219,Tryz.ntmps219
 go_wp2_with (go_at_call 228;refine HC.out.mono ?_;rintro e w1 ⟨rfl,rfl⟩)
 go_ret2
 exact ⟨rfl,rfl⟩
theorem Ez.setHas {w:World} {g:Nat} {b:Bk} (h:Ez w g b) (x:Int):Ez (w.setCell ⟨g,2,none⟩ (.int .i64 x)) g ⟨b.most,b.rate,x,b.last⟩:=
 ⟨by rw [World.cell?_setCell_other _ _ _ _ (by simp)];exact h.c0,by rw [World.cell?_setCell_other _ _ _ _ (by simp)];exact h.c1,World.cell?_setCell_same _ _ _ h.c2,by rw [World.cell?_setCell_other _ _ _ _ (by simp)];exact h.c3,
  by rw [World.frozen?_setCell];exact h.f2,by rw [World.frozen?_setCell];exact h.f3⟩
theorem Ez.setLast {w:World} {g:Nat} {b:Bk} (h:Ez w g b) (x:Int):Ez (w.setCell ⟨g,3,none⟩ (.int .i64 x)) g ⟨b.most,b.rate,b.has,x⟩:=
 ⟨by rw [World.cell?_setCell_other _ _ _ _ (by simp)];exact h.c0,by rw [World.cell?_setCell_other _ _ _ _ (by simp)];exact h.c1,by rw [World.cell?_setCell_other _ _ _ _ (by simp)];exact h.c2,World.cell?_setCell_same _ _ _ h.c3,
  by rw [World.frozen?_setCell];exact h.f2,by rw [World.frozen?_setCell];exact h.f3⟩
theorem ZX (g:Nat) (b:Bk) (t n:Int) (w:World) (ad:Nat → Addr) (he:Gt w ad) (hb:Ez w g b) (hk:b.Ok) (ha:Dq b.last t n=0) :
  Calls Tryz.prog 219 #[.pointer (some ⟨g,0,none⟩),.int .i64 t,.int .i64 n] w fun e w'=>e=.returned (.tuple #[.bool (decide (n * 1000 ≤ b.lev t)),.nilIface]) ∧ Ez w' g (b.take t n) ∧ But (fun k=>k=g) w w':=by
 obtain ⟨n0,n1,t0,t1,ht⟩:=Jl.1 ha
 have HC:Hid (Calls Tryz.prog 228 #[.pointer (some ⟨g,0,none⟩),.int .i64 t,.int .i64 n] w fun e w'=>e=.returned .nilIface ∧ w'=w):=by
  have:=Fe g b.last t n w ad he hb.c3
  rw [ha] at this
  exact this
 have HH:Hid (Calls Tryz.prog 230 #[.pointer (some ⟨g,0,none⟩),.int .i64 t] w fun e w'=>e=.returned (.int .i64 (b.lev t)) ∧ Below w.heap.size w w'):=RB g b t w hb hk ht t1
 have hlb:=hk.lev_bd ht
 have hm1:=hk.m1
 have HB:Hid (Ez w g b):=hb
 by_cases hc:n * 1000 ≤ b.lev t
 ·
  have HT:Hid (b.take t n=⟨b.most,b.rate,b.lev t - n * 1000,t⟩):=by show _=_;unfold Bk.take;rw [if_pos hc]
  rw [show decide (n * 1000 ≤ b.lev t)=true by simpa using hc]
  generalize hv:b.lev t=v at *
  have hc':¬ v < n * 1000:=by omega
  clear hb hk ha he hv ht hc
  go_enter Tryz.func219,Tryz.ntmps219
  go_wp2_with fail
  refine HC.out.mono ?_
  rintro e w1 ⟨rfl,rfl⟩
  go_wp2_with fail
  refine HH.out.mono ?_
  rintro e w2 ⟨rfl,hb2⟩
  have HB2:Hid (Below w1.heap.size w1 w2):=hb2
  have hk2:=HB.out.below hb2
  have HK2:Hid (Ez w2 g b):=hk2
  obtain ⟨c0,c1,c2,c3,f2,f3⟩:=hk2
  clear hb2
  go_wp2_with fail
  go_ret2
  refine ⟨rfl,?_,?_⟩
  ·
   rw [HT.out]
   exact ((HK2.out.setHas v).setLast t).setHas _
  · exact But.setCell (S:=fun k=>k=g) (But.setCell (S:=fun k=>k=g) (But.setCell (S:=fun k=>k=g) (.ofBelow HB2.out) rfl _) rfl _) rfl _
 ·
  have HT:Hid (b.take t n=⟨b.most,b.rate,b.lev t,t⟩):=by show _=_;unfold Bk.take;rw [if_neg hc]
  rw [show decide (n * 1000 ≤ b.lev t)=false by simpa using hc]
  generalize hv:b.lev t=v at *
  have hc':v < n * 1000:=by omega
  clear hb hk ha he hv ht hc
  go_enter Tryz.func219,Tryz.ntmps219
  go_wp2_with fail
  refine HC.out.mono ?_
  rintro e w1 ⟨rfl,rfl⟩
  go_wp2_with fail
  refine HH.out.mono ?_
  rintro e w2 ⟨rfl,hb2⟩
  have HB2:Hid (Below w1.heap.size w1 w2):=hb2
  have hk2:=HB.out.below hb2
  have HK2:Hid (Ez w2 g b):=hk2
  obtain ⟨c0,c1,c2,c3,f2,f3⟩:=hk2
  clear hb2
  go_wp2_with fail
  go_ret2
  refine ⟨rfl,?_,?_⟩
  ·
   rw [HT.out]
   exact (HK2.out.setHas v).setLast t
  · exact But.setCell (S:=fun k=>k=g) (But.setCell (S:=fun k=>k=g) (.ofBelow HB2.out) rfl _) rfl _
theorem Vr {B:Nat} {w w':World} (h:Below B w.drew w'):Below B w w':=⟨h.os,h.tape,h.output,h.size,h.block⟩
theorem bf (g:Nat) (l t n:Int) (w:World) (ad:Nat → Addr) (he:Gt w ad) (c3:w.cell? ⟨g,3,none⟩=some (.int .i64 l)) (hn:Dq l t n ≠ 0) :
  Calls Tryz.prog 218 #[.pointer (some ⟨g,0,none⟩),.int .i64 t,.int .i64 n] w fun e w'=>e=.returned (.tuple #[.int .i64 0,Ec ad (Dq l t n)]) ∧ w'=w:=by
 obtain ⟨v,hv⟩:=Na ad hn
 have HC:Hid (Calls Tryz.prog 228 #[.pointer (some ⟨g,0,none⟩),.int .i64 t,.int .i64 n] w fun e w'=>e=.returned (Ec ad (Dq l t n)) ∧ w'=w):=Fe g l t n w ad he c3
 rw [hv] at HC ⊢
 clear hv hn he c3
 go_enter Tryz.func218,Tryz.ntmps218
 go_wp2_with (go_at_call 228;refine HC.out.mono ?_;rintro e w1 ⟨rfl,rfl⟩)
 go_ret2
 exact ⟨rfl,rfl⟩
theorem Ji (g:Nat) (m r v t n k:Int) (o:Bool) (R:Value) (w:World) (aN:Addr) (hN:w.cell? ⟨3,0,none⟩=some (.iface 312 (.pointer (some aN)))) (c0:w.cell? ⟨g,0,none⟩=some (.int .i64 m)) (c1:w.cell? ⟨g,1,none⟩=some (.int .i64 r)) (t0:0 ≤ t) (t1:t ≤ 1099511627776) (n0:1 ≤ n) (n1:n ≤ 1500) (k0:0 ≤ k) (k1:k ≤ 30000000)
  (HC:Hid (Calls Tryz.prog 228 #[.pointer (some ⟨g,0,none⟩),.int .i64 t,.int .i64 n] w fun e w'=>e=.returned .nilIface ∧ w'=w))
  (HH:Hid (∀ w',Below w.heap.size w w' → Calls Tryz.prog 230 #[.pointer (some ⟨g,0,none⟩),.int .i64 t] w' fun e w''=>e=.returned (.int .i64 v) ∧ Below w'.heap.size w' w''))
  (HU:Hid (∀ w':World,Calls Tryz.prog 229 #[.agg #[.int .i64 m,.int .i64 r],.int .i64 v,.int .i64 (n * 1000)] w' fun e w''=>e=.returned (.tuple #[.int .i64 k,.bool o]) ∧ w''=w'.alloc (.cells #[.int .i64 m,.int .i64 r] 290)))
  (HR1:Hid (o=false ∨ 1099511627776 - t < k → R=.tuple #[.int .i64 0,.iface 312 (.pointer (some aN))])) (HR2:Hid (o=true → ¬ 1099511627776 - t < k → R=.tuple #[.int .i64 (t+k),.nilIface])) :
  Calls Tryz.prog 218 #[.pointer (some ⟨g,0,none⟩),.int .i64 t,.int .i64 n] w fun e w'=>e=.returned R ∧ Below w.heap.size w w':=by
 have hw:IntKind.i64.wrap (n * 1000)=n * 1000:=IntWalk.i64_in _ (by omega)
 have HD:Hid (w.cell? ⟨g,0,none⟩=some (.int .i64 m) ∧ w.cell? ⟨g,1,none⟩=some (.int .i64 r)):=⟨c0,c1⟩
 go_enter Tryz.func218,Tryz.ntmps218
 go_wp2_with fail
 refine HC.out.mono ?_
 rintro e w1 ⟨rfl,rfl⟩
 go_wp2_with fail
 go_cut [9,10] (fun s9 s10 wx=>s9=.int .i64 k ∧ s10=.bool o ∧ Below w1.heap.size w1 wx)
 case first=>
  go_region_with (first
   | (go_simp;go_at_call 230;go_must (refine (HH.out _ ?_).mono ?_;exact (Below.refl _ _).drew;rintro e w2 ⟨rfl,hb2⟩;have HB2:Hid (Below w1.heap.size w1 w2):=Vr hb2;have d0:w2.cell? ⟨g,0,none⟩=some (.int .i64 m):=cell_later HB2.out HD.out.1;have d1:w2.cell? ⟨g,1,none⟩=some (.int .i64 r):=cell_later HB2.out HD.out.2;clear hb2))
   | (go_simp;go_at_call 229;go_must (refine (HU.out _).mono ?_;rintro e w3 ⟨rfl,rfl⟩))
   | fail)
  all_goals (go_wp2_with fail;go_meet;exact ⟨rfl,rfl,HB2.out.alloc HB2.out.size _⟩)
 case rest=>
 obtain ⟨rfl,rfl,hbc⟩:=hcut
 have HBC:Hid (Below w1.heap.size w1 wc):=hbc
 have hNc:=cell_later hbc hN
 clear hbc c0 c1 hN
 cases o with
 | false=>
  go_wp2_with fail
  go_quiet (fail)
  go_wp2_with fail
  go_ret2
  exact ⟨congrArg Ending.returned (HR1.out (.inl (by simp))).symm,below_drewN HBC.out _⟩
 | true=>
  by_cases hl:1099511627776 - t < k
  ·
   have HL:Hid (1099511627776 - t < k):=hl
   go_wp2_with fail
   go_quiet (fail)
   go_wp2_with fail
   go_ret2
   exact ⟨congrArg Ending.returned (HR1.out (.inr HL.out)).symm,below_drewN HBC.out _⟩
  ·
   have HL:Hid (¬ 1099511627776 - t < k):=hl
   go_wp2_with fail
   go_ret2
   exact ⟨congrArg Ending.returned (HR2.out (by simp) HL.out).symm,HBC.out⟩
def Jp (ad:Nat → Addr):Option Int → Value
 | some T=>.tuple #[.int .i64 T,.nilIface]
 | none=>.tuple #[.int .i64 0,.iface 312 (.pointer (some (ad 3)))]
theorem ZW (g:Nat) (b:Bk) (t n:Int) (w:World) (ad:Nat → Addr) (he:Gt w ad) (hb:Ez w g b) (hk:b.Ok) (ha:Dq b.last t n=0) :
  Calls Tryz.prog 218 #[.pointer (some ⟨g,0,none⟩),.int .i64 t,.int .i64 n] w fun e w'=>e=.returned (Jp ad (b.when t n)) ∧ Below w.heap.size w w':=by
 obtain ⟨n0,n1,t0,t1,ht⟩:=Jl.1 ha
 have HC:=Fe g b.last t n w ad he hb.c3
 rw [ha] at HC
 have HH:∀ w',Below w.heap.size w w' → Calls Tryz.prog 230 #[.pointer (some ⟨g,0,none⟩),.int .i64 t] w' fun e w''=>e=.returned (.int .i64 (b.lev t)) ∧ Below w'.heap.size w' w'':=
  fun w' hbel=>RB g b t w' (hb.below hbel) hk ht t1
 have hl:=hk.lev_bd ht
 have m1:=hk.m1
 have r1:=hk.r1
 by_cases h1:n * 1000 ≤ b.lev t
 ·
  have e:b.when t n=some t:=by unfold Bk.when;rw [if_pos h1]
  rw [e]
  exact Ji g b.most b.rate (b.lev t) t n 0 true _ w (ad 3) he.c3 hb.c0 hb.c1 t0 t1 n0 n1 (by omega) (by omega) HC HH (fun w'=>UO b.most b.rate _ _ w' h1) (fun h=>by rcases h with h | h;cases h;omega) (fun _ _=>by rw [Int.add_zero];rfl)
 ·
  by_cases h2:b.most < n * 1000 ∨ b.rate=0
  ·
   have e:b.when t n=none:=by unfold Bk.when;rw [if_neg h1,if_pos h2]
   rw [e]
   exact Ji g b.most b.rate (b.lev t) t n 0 false _ w (ad 3) he.c3 hb.c0 hb.c1 t0 t1 n0 n1 (by omega) (by omega) HC HH (fun w'=>Vw b.most b.rate _ _ w' (by omega) h2) (fun _=>rfl) (fun h=>by cases h)
  ·
   have r0:0 < b.rate:=by have:=hk.r0;omega
   have hd:=XU (r:=b.rate) (x:=n * 1000 - b.lev t) r0
   have k0:0 ≤ (n * 1000 - b.lev t+b.rate - 1) / b.rate:=Int.ediv_nonneg (by omega) (by omega)
   have k1:(n * 1000 - b.lev t+b.rate - 1) / b.rate ≤ 30000000:=by
    have:=Int.ediv_le_self b.rate (show 0 ≤ n * 1000 - b.lev t+b.rate - 1 by omega)
    omega
   by_cases h3:1099511627776 - t < (n * 1000 - b.lev t+b.rate - 1) / b.rate
   ·
    have e:b.when t n=none:=by unfold Bk.when;rw [if_neg h1,if_neg h2,if_pos h3]
    rw [e]
    exact Ji g b.most b.rate (b.lev t) t n _ true _ w (ad 3) he.c3 hb.c0 hb.c1 t0 t1 n0 n1 k0 k1 HC HH (fun w'=>NA b.most b.rate _ _ w' (by omega) (by omega) r0 r1 hl.1 m1) (fun _=>rfl) (fun _ h=>absurd h3 h)
   ·
    have e:b.when t n=some (t+(n * 1000 - b.lev t+b.rate - 1) / b.rate):=by unfold Bk.when;rw [if_neg h1,if_neg h2,if_neg h3]
    rw [e]
    exact Ji g b.most b.rate (b.lev t) t n _ true _ w (ad 3) he.c3 hb.c0 hb.c1 t0 t1 n0 n1 k0 k1 HC HH (fun w'=>NA b.most b.rate _ _ w' (by omega) (by omega) r0 r1 hl.1 m1) (fun h=>by rcases h with h | h;cases h;exact absurd h h3) (fun _ _=>rfl)
theorem X4 (x y:Int) (w:World) (h0:1 ≤ x) (h1:x ≤ 20000) :
  Calls Tryz.prog 217 #[.agg #[.int .i64 x,.int .i64 y]] w fun e w'=>e=.returned (.pointer (some ⟨w.heap.size+1,0,none⟩)) ∧ Ez w' (w.heap.size+1) (F7 (x,y)) ∧ Below w.heap.size w w':=by
 go_enter Tryz.func217,Tryz.ntmps217
 go_wp2
 go_ret
 refine ⟨by simp,?_,((Below.refl _ _).alloc (Nat.le_refl _) _).alloc (by simp) _⟩
 constructor <;> simp [F7]
structure ShAt (w:World) (B:Nat) (gs:List Nat) (bs:List Bk):Prop where
 len:gs.length=bs.length
 ptr:∀ (i:Nat) g,gs[i]? = some g → w.cell? ⟨B,i,none⟩=some (.pointer (some ⟨g,0,none⟩))
 new:∀ g,g ∈ gs → B < g
 bk:∀ (i:Nat) g b,gs[i]? = some g → bs[i]? = some b → Ez w g b
 one:∀ (i j:Nat) g,gs[i]? = some g → gs[j]? = some g → i=j
theorem Tryz.infoPBk:(Tryz.prog.info? 281).map (fun i=>(i.zero,i.size,i.bytes))=some (some (.pointer none),1,8):=by kernel_rfl
theorem Tryz.shaperSlice:Tryz.prog.underlying 258=some (.slice 281):=by kernel_rfl
structure Room (w:World) (B n:Nat):Prop where
 cell:∀ j,j < n → ∃ v,w.cell? ⟨B,j,none⟩=some v
 frozen:∀ j,w.frozen? ⟨B,j,none⟩=false
theorem Pj (w:World) (z:Array Value) (n:Nat) (e:TypeId):Room (w.alloc (.cells (madeCells z n) e)) w.heap.size n:=by
 refine ⟨fun j hj=>?_,fun j=>?_⟩
 ·
  rw [World.cell?_alloc_at _ _ _ _ rfl]
  exact ⟨_,Array.getElem?_eq_getElem (by rw [size_madeCells];exact hj)⟩
 · simp
theorem Room.but {S:Nat → Prop} {w w':World} {B n:Nat} (h:Room w B n) (hb:But S w w') (hB:B < w.heap.size) (hs:¬ S B):Room w' B n:=
 ⟨fun j hj=>by obtain ⟨v,hv⟩:=h.cell j hj;exact ⟨v,by rw [hb.cell (p:=⟨B,j,none⟩) hB hs];exact hv⟩,fun j=>by rw [hb.frozen (p:=⟨B,j,none⟩) hB hs];exact h.frozen j⟩
theorem Room.below {w w':World} {B n:Nat} (h:Room w B n) (hb:Below w.heap.size w w') (hB:B < w.heap.size):Room w' B n:=h.but (S:=fun _=>False) (.ofBelow hb) hB id
theorem Room.set {w:World} {B n:Nat} (h:Room w B n) (j:Nat) (v:Value):Room (w.setCell ⟨B,j,none⟩ v) B n:=by
 refine ⟨fun i hi=>?_,fun i=>by rw [World.frozen?_setCell];exact h.frozen i⟩
 by_cases hij:i=j
 ·
  subst hij
  obtain ⟨u,hu⟩:=h.cell i hi
  exact ⟨v,World.cell?_setCell_same _ _ _ hu⟩
 ·
  obtain ⟨u,hu⟩:=h.cell i hi
  exact ⟨u,by rw [World.cell?_setCell_other _ _ _ _ (by simp <;> omega)];exact hu⟩
theorem EG {α:Type} {l:List α} {a x:α} {i:Nat} (h:(l ++ [a])[i]? = some x):(i < l.length ∧ l[i]? = some x) ∨ (i=l.length ∧ x=a):=by
 rcases Nat.lt_trichotomy i l.length with h1 | h1 | h1
 · rw [List.getElem?_append_left h1] at h;exact .inl ⟨h1,h⟩
 · subst h1;simp at h;exact .inr ⟨rfl,h.symm⟩
 · rw [List.getElem?_eq_none (by simp;omega)] at h;cases h
theorem Oz (la:Option Addr) (lcap:Nat) (ls:List (Int × Int)) (w:World) (hl:AL w la ls) (hk:Ag ls) :
  Calls Tryz.prog 191 #[.slice la ls.length lcap] w fun e w'=>∃ gs,e=.returned (.slice (some ⟨w.heap.size,0,none⟩) ls.length ls.length) ∧ ShAt w' w.heap.size gs (ls.map F7) ∧ Below w.heap.size w w':=by
 obtain ⟨h1,h6,hok⟩:=hk
 obtain ⟨b,off,rfl,hlt,hc⟩:=hl.some h1
 have HC:Hid (∀ i x y,ls[i]? = some (x,y) → w.cell? ⟨b,off+i * 2,none⟩=some (.int .i64 x) ∧ w.cell? ⟨b,off+i * 2+1,none⟩=some (.int .i64 y)):=hc
 have HO:Hid (BJ ls):=hok
 clear hl hok hc
 generalize hn:ls.length=n at *
 have Hn:=(show Hid (ls.length=n) from hn)
 clear hn
 obtain ⟨i0,hi,hz0,hz1,hz2⟩:=info_parts Tryz.infoPBk
 have hmk:∀ w':World,(Instr.makeSlice 258 (.int .i64 n) (.int .i64 n)).run Tryz.prog w'=.ok (.slice (some ⟨w'.heap.size,0,none⟩) n n) (w'.alloc (.cells (madeCells #[.pointer none] n) 281)):=fun w'=>by
  have:=run_make (P:=Tryz.prog) w' 258 281 i0 (.pointer none) Tryz.shaperSlice hi hz0 .i64 .i64 n n (by omega) (by omega) (by rw [hz2];omega) (by omega)
  simpa [hz1,Value.cells] using this
 have hroom:=Pj w #[.pointer none] n 281
 have hbA:Below w.heap.size w (w.alloc (.cells (madeCells #[.pointer none] n) 281)):=(Below.refl _ _).alloc (Nat.le_refl _) _
 have hszA:(w.alloc (.cells (madeCells #[.pointer none] n) 281)).heap.size=w.heap.size+1:=by simp
 go_enter Tryz.func191,Tryz.ntmps191
 go_wp2_with fail
 generalize w.alloc (.cells (madeCells #[.pointer none] n) 281)=wA at *
 have HRoom:Hid (Room wA w.heap.size n):=hroom
 have HBA:Hid (Below w.heap.size w wA ∧ wA.heap.size=w.heap.size+1):=⟨hbA,hszA⟩
 clear hroom hbA hszA hmk hi hz0 hz1 hz2
 go_loopw [11] (fun i wr=>∃ k:Nat,k ≤ n ∧ i=.int .i64 k ∧ Room wr w.heap.size n ∧ Below w.heap.size w wr ∧ w.heap.size < wr.heap.size ∧ ∃ gs,ShAt wr w.heap.size gs ((ls.take k).map F7)) (fun i _=>n - (intOf i).toNat)
 case atStart=>exact ⟨0,Nat.zero_le _,rfl,HRoom.out,HBA.out.1,by rw [HBA.out.2];omega,[],⟨by simp,(fun i g h=>by simp at h),(fun g h=>by cases h),(fun i g b h=>by simp at h),(fun i j g h=>by simp at h)⟩⟩
 case round=>
  obtain ⟨k,hk,rfl,hroom,hb,hsz,gs,hsh⟩:=hrel
  have HB:Hid (Below w.heap.size w wr):=hb
  have HSh:Hid (ShAt wr w.heap.size gs ((ls.take k).map F7)):=hsh
  by_cases hkn:k < n
  ·
   obtain ⟨⟨x,y⟩,hp,hm⟩:=Ai ls k (by rw [Hn.out];exact hkn)
   have hc1:wr.cell? ⟨b,off+k * 2,none⟩=some (.int .i64 x):=by rw [hb.cell (p:=⟨b,off+k * 2,none⟩) hlt];exact (HC.out k x y hp).1
   have hc2:wr.cell? ⟨b,off+k * 2+1,none⟩=some (.int .i64 y):=by rw [hb.cell (p:=⟨b,off+k * 2+1,none⟩) hlt];exact (HC.out k x y hp).2
   have HOk:Hid (BF x y=true):=HO.out _ hm
   have HT:Hid ((ls.take (k+1)).map F7=(ls.take k).map F7 ++ [F7 (x,y)]):=by
    show _=_
    rw [List.take_add_one,hp];simp
   have HRoom':Hid (Room wr w.heap.size n):=hroom
   have HSz:Hid (w.heap.size < wr.heap.size):=hsz
   clear hsh hroom hb hp hm
   go_wp2_with fail
   refine (X4 x y _ (Ap HOk.out).1 (Ap HOk.out).2.1).mono ?_
   rintro e w2 ⟨rfl,hk2,hb2⟩
   have hal:Below wr.heap.size wr (wr.alloc (.cells #[.int .i64 x,.int .i64 y] 83)):=(Below.refl _ _).alloc (Nat.le_refl _) _
   have hb3:Below wr.heap.size wr w2:=hal.trans (hb2.mono hal.size)
   have hgz:(wr.alloc (.cells #[.int .i64 x,.int .i64 y] 83)).heap.size+1=wr.heap.size+2:=by simp
   rw [hgz] at hk2 ⊢
   have HB2:Hid (Below wr.heap.size wr w2):=hb3
   have HK2:Hid (Ez w2 (wr.heap.size+2) (F7 (x,y))):=hk2
   have hroom2:=HRoom'.out.below hb3 HSz.out
   obtain ⟨u,hu⟩:=hroom2.cell k hkn
   have hf:=hroom2.frozen k
   have HR2:Hid (Room w2 w.heap.size n):=hroom2
   have HU:Hid (w2.cell? ⟨w.heap.size,k,none⟩=some u):=hu
   clear hb2 hk2 hal hb3 hgz hroom2
   go_wp2_with fail
   have hglen:gs.length=k:=by
    have:=HSh.out.len
    rw [List.length_map,List.length_take,Hn.out] at this
    omega
   have HFr:Hid (But (fun q=>q=w.heap.size) wr (w2.setCell ⟨w.heap.size,k,none⟩ (.pointer (some ⟨wr.heap.size+2,0,none⟩)))):=
    But.setCell (S:=fun q=>q=w.heap.size) (.ofBelow HB2.out) rfl _
   have HGl:Hid (gs.length=k):=hglen
   clear hu hf hglen
   go_roundw
   case rel=>
    have hgk:=HGl.out
    have hsz:=HSz.out
    have hsh:=HSh.out
    refine ⟨k+1,by omega,by go_num,HR2.out.set k _,(HB.out.trans (HB2.out.mono HB.out.size)).setCell (Nat.le_refl _) _,Nat.lt_of_lt_of_le hsz HFr.out.size,gs ++ [wr.heap.size+2],?_⟩
    rw [HT.out]
    refine ⟨by simp only [List.length_append,List.length_singleton];rw [hsh.len],fun i g hg=>?_,fun g hg=>?_,fun i g c hg hc=>?_,fun i j g hg hg'=>?_⟩
    ·
     rcases EG hg with ⟨h1,h2⟩ | ⟨h1,h2⟩
     ·
      rw [World.cell?_setCell_other _ _ _ _ (by simp <;> omega)]
      exact cell_later HB2.out (hsh.ptr i g h2)
     ·
      rw [h1,h2,hgk]
      exact World.cell?_setCell_same _ _ _ HU.out
    ·
     rcases List.mem_append.1 hg with h | h
     · exact hsh.new g h
     · simp at h;omega
    ·
     rcases EG hg with ⟨h1,h2⟩ | ⟨h1,h2⟩
     ·
      have hc':((ls.take k).map F7)[i]? = some c:=by
       rcases EG hc with ⟨h3,h4⟩ | ⟨h3,h4⟩
       · exact h4
       · rw [← hsh.len] at h3;omega
      have hgn:=hsh.new g (List.mem_of_getElem? h2)
      exact (hsh.bk i g c h2 hc').but HFr.out (fun e=>by omega)
     ·
      have hc':c=F7 (x,y):=by
       rcases EG hc with ⟨h3,h4⟩ | ⟨h3,h4⟩
       · rw [← hsh.len] at h3;omega
       · exact h4
      rw [h2,hc']
      exact HK2.out.but (S:=fun q=>q=w.heap.size) (But.setCell (S:=fun q=>q=w.heap.size) (But.refl _ _) rfl _) (fun e=>by omega)
    ·
     have hlt':∀ (i:Nat) g,gs[i]? = some g → g < wr.heap.size:=fun i g hg=>by
      have hi:i < ((ls.take k).map F7).length:=by
       rw [← hsh.len]
       rcases Nat.lt_or_ge i gs.length with h | h
       · exact h
       · simp [List.getElem?_eq_none h] at hg
      exact (hsh.bk i g _ hg (List.getElem?_eq_getElem hi)).lt
     rcases EG hg with ⟨h1,h2⟩ | ⟨h1,h2⟩ <;> rcases EG hg' with ⟨h3,h4⟩ | ⟨h3,h4⟩
     · exact hsh.one i j g h2 h4
     · have:=hlt' i g h2;omega
     · have:=hlt' j g h4;omega
     · omega
   case measure=>simp [intOf];omega
  ·
   obtain rfl:k=n:=by omega
   clear hroom hsh
   go_wp2_with fail
   go_ret
   refine ⟨gs,rfl,?_,HB.out⟩
   have:=HSh.out
   rwa [List.take_of_length_le (by rw [Hn.out];omega)] at this
theorem Ph {α:Type} {l:List α} {k:Nat} {p:α} (h:l[k]? = some p):l.drop k=p :: l.drop (k+1):=by
 have hk:k < l.length:=by
  rcases Nat.lt_or_ge k l.length with h' | h'
  · exact h'
  · simp [List.getElem?_eq_none h'] at h
 rw [List.drop_eq_getElem_cons hk]
 rw [List.getElem?_eq_getElem hk] at h
 rw [Option.some.inj h]
theorem ShAt.but {S:Nat → Prop} {w w':World} {B:Nat} {gs:List Nat} {bs:List Bk} (h:ShAt w B gs bs) (hb:But S w w') (hB:¬ S B) (hg:∀ g,g ∈ gs → ¬ S g) (hlt:B < w.heap.size):ShAt w' B gs bs:=
 ⟨h.len,fun i g hi=>by rw [hb.cell (p:=⟨B,i,none⟩) hlt hB];exact h.ptr i g hi,h.new,fun i g b hi hb'=>(h.bk i g b hi hb').but hb (hg g (List.mem_of_getElem? hi)),h.one⟩
theorem ShAt.below {w w':World} {B:Nat} {gs:List Nat} {bs:List Bk} (h:ShAt w B gs bs) (hb:Below w.heap.size w w') (hlt:B < w.heap.size):ShAt w' B gs bs:=
 h.but (S:=fun _=>False) (.ofBelow hb) id (fun _ _=>id) hlt
theorem YC (B:Nat) (gs:List Nat) (bs:List Bk) (t n:Int) (N:Nat) (w0 w:World) (ad:Nat → Addr) (he:Gt w0 ad) (hw:Below w0.heap.size w0 w) (hB:w0.heap.size ≤ B) (hBl:B < w.heap.size) (hsh:ShAt w B gs bs) (hN:bs.length=N) (hN6:N ≤ 6)
  (hok:∀ b,b ∈ bs → b.Ok ∧ b.last ≤ t) (t0:0 ≤ t) (t1:t ≤ 1099511627776) (n0:1 ≤ n) (n1:n ≤ 1500) :
  Calls Tryz.prog 192 #[.slice (some ⟨B,0,none⟩) N N,.int .i64 t,.int .i64 n] w fun e w'=>e=.returned (Jp ad (Fw bs t n)) ∧ (∀ T,Fw bs t n=some T → ShAt w' B gs (bs.map fun b=>b.take T n)) ∧ But (fun k=>k ∈ gs) w w':=by
 obtain ⟨Q,hQ⟩:∃ Q,Fw bs t n=Q:=⟨_,rfl⟩
 rw [hQ]
 have HQ:Hid (Fw bs t n=Q):=hQ
 have HE:Hid (Gt w0 ad ∧ Below w0.heap.size w0 w ∧ w0.heap.size ≤ B):=⟨he,hw,hB⟩
 have HSh:Hid (ShAt w B gs bs):=hsh
 have HN:Hid (bs.length=N):=hN
 have HOk:Hid (∀ b,b ∈ bs → b.Ok ∧ b.last ≤ t):=hok
 have HBl:Hid (B < w.heap.size):=hBl
 obtain ⟨V,hV⟩:∃ V,Jp ad Q=V:=⟨_,rfl⟩
 rw [hV]
 have HV:Hid (Jp ad Q=V):=hV
 clear hQ he hw hB hsh hN hok hBl hV
 go_enter Tryz.func192,Tryz.ntmps192
 go_wp2_with fail
 go_loopw [1,18] (fun a i wr=>∃ k:Nat,k ≤ N ∧ i=.int .i64 k ∧ ∃ u:Int,a=.int .i64 u ∧ t ≤ u ∧ u ≤ 1099511627776 ∧ Fw (bs.drop k) u n=Q ∧ Below w.heap.size w wr) (fun _ i _=>N - (intOf i).toNat)
 case atStart=>exact ⟨0,Nat.zero_le _,rfl,t,rfl,Int.le_refl _,t1,by simpa using HQ.out,Below.refl _ _⟩
 case round=>
  obtain ⟨k,hk,rfl,u,rfl,hu0,hu1,hq,hb⟩:=hrel
  have HB:Hid (Below w.heap.size w wr):=hb
  have HP:Hid (Fw (bs.drop k) u n=Q):=hq
  by_cases hkn:k < N
  ·
   obtain ⟨b,hbk,hbm⟩:=Ai bs k (by rw [HN.out];exact hkn)
   obtain ⟨g,hgk,-⟩:=Ai gs k (by rw [HSh.out.len,HN.out];exact hkn)
   have hptr:wr.cell? ⟨B,k,none⟩=some (.pointer (some ⟨g,0,none⟩)):=by rw [hb.cell (p:=⟨B,k,none⟩) HBl.out];exact HSh.out.ptr k g hgk
   have HStep:Hid (Fw (bs.drop k) u n=match b.when u n with | none=>none | some v=>Fw (bs.drop (k+1)) v n):=by
    show _=_
    rw [Ph hbk];rfl
   have HAsk:Hid (Dq b.last u n=0):=Jl.2 ⟨n0,n1,by omega,hu1,by have:=(HOk.out b hbm).2;omega⟩
   have HBO:Hid b.Ok:=(HOk.out b hbm).1
   have HW:Hid (Calls Tryz.prog 218 #[.pointer (some ⟨g,0,none⟩),.int .i64 u,.int .i64 n] wr fun e w'=>e=.returned (Jp ad (b.when u n)) ∧ Below wr.heap.size wr w'):=
    ZW g b u n wr ad (HE.out.1.below (HE.out.2.1.trans (hb.mono HE.out.2.1.size))) ((HSh.out.bk k g b hgk hbk).below hb) HBO.out HAsk.out
   clear hb hq hbk hgk hbm
   cases hwn:b.when u n with
   | none=>
    rw [hwn] at HW HStep
    have HR:Hid (Q=none):=HP.out.symm.trans HStep.out
    change Hid (Calls Tryz.prog 218 #[.pointer (some ⟨g,0,none⟩),.int .i64 u,.int .i64 n] wr fun e w'=>e=.returned (.tuple #[.int .i64 0,.iface 312 (.pointer (some (ad 3)))]) ∧ Below wr.heap.size wr w') at HW
    clear hwn
    go_wp2_with fail
    refine HW.out.mono ?_
    rintro e w5 ⟨rfl,hb5⟩
    have HB5:Hid (Below w.heap.size w w5):=HB.out.trans (hb5.mono HB.out.size)
    clear hb5
    go_wp2_with fail
    go_ret2
    have hR:=HR.out
    refine ⟨?_,fun T e=>(by rw [hR] at e;cases e),.ofBelow HB5.out⟩
    rw [← HV.out,hR];rfl
   | some v=>
    rw [hwn] at HW HStep
    have HR:Hid (Fw (bs.drop (k+1)) v n=Q):=HStep.out.symm.trans HP.out
    change Hid (Calls Tryz.prog 218 #[.pointer (some ⟨g,0,none⟩),.int .i64 u,.int .i64 n] wr fun e w'=>e=.returned (.tuple #[.int .i64 v,.nilIface]) ∧ Below wr.heap.size wr w') at HW
    obtain ⟨v1,v2,-,-⟩:=Bk.when_some HBO.out hu1 hwn
    clear hwn
    go_wp2_with fail
    refine HW.out.mono ?_
    rintro e w5 ⟨rfl,hb5⟩
    have HB5:Hid (Below w.heap.size w w5):=HB.out.trans (hb5.mono HB.out.size)
    clear hb5
    go_wp2_with fail
    go_roundw
    case rel=>exact ⟨k+1,by omega,by go_num,v,rfl,by omega,v2,HR.out,HB5.out⟩
    case measure=>simp [intOf];omega
  ·
   have HR:Hid (Q=some u):=by
    show _=_
    rw [← HP.out,List.drop_eq_nil_of_le (by rw [HN.out];omega)]
    rfl
   clear hq hb
   go_wp2_with fail
   go_loopw [36] (fun i wx=>∃ k:Nat,k ≤ N ∧ i=.int .i64 k ∧ But (fun q=>q ∈ gs) w wx ∧ (∀ (i:Nat) g,gs[i]? = some g → wx.cell? ⟨B,i,none⟩=some (.pointer (some ⟨g,0,none⟩))) ∧ ∀ (i:Nat) g b,gs[i]? = some g → bs[i]? = some b → Ez wx g (if i < k then b.take u n else b)) (fun i _=>N - (intOf i).toNat)
   case atStart=>
    have hsh:=HSh.out.below HB.out HBl.out
    exact ⟨0,Nat.zero_le _,rfl,.ofBelow HB.out,hsh.ptr,fun i g b hg hb=>by rw [if_neg (by omega)];exact hsh.bk i g b hg hb⟩
   case round=>
    obtain ⟨j,hj,rfl,hbt,hpt,hbs⟩:=hrel
    have HBt:Hid (But (fun q=>q ∈ gs) w wr):=hbt
    have HPt:Hid (∀ (i:Nat) g,gs[i]? = some g → wr.cell? ⟨B,i,none⟩=some (.pointer (some ⟨g,0,none⟩))):=hpt
    have HBs:Hid (∀ (i:Nat) g b,gs[i]? = some g → bs[i]? = some b → Ez wr g (if i < j then b.take u n else b)):=hbs
    by_cases hjn:j < N
    ·
     obtain ⟨b,hbk,hbm⟩:=Ai bs j (by rw [HN.out];exact hjn)
     obtain ⟨g,hgk,hgm⟩:=Ai gs j (by rw [HSh.out.len,HN.out];exact hjn)
     have hptr:=hpt j g hgk
     have HAsk:Hid (Dq b.last u n=0):=Jl.2 ⟨n0,n1,by omega,hu1,by have:=(HOk.out b hbm).2;omega⟩
     have hbka:Ez wr g b:=by have:=hbs j g b hgk hbk;rwa [if_neg (by omega)] at this
     have HG0:Hid (∀ q,q ∈ gs → w0.heap.size ≤ q):=fun q hq=>by have h1:=HSh.out.new q hq;have h2:=HE.out.2.2;omega
     have HW:Hid (Calls Tryz.prog 219 #[.pointer (some ⟨g,0,none⟩),.int .i64 u,.int .i64 n] wr fun e w'=>e=.returned (.tuple #[.bool (decide (n * 1000 ≤ b.lev u)),.nilIface]) ∧ Ez w' g (b.take u n) ∧ But (fun k=>k=g) wr w'):=
      ZX g b u n wr ad (HE.out.1.below (HE.out.2.1.trans (hbt.below HE.out.2.1.size (fun q hq=>HG0.out q hq)))) hbka (HOk.out b hbm).1 HAsk.out
     have HJ:Hid (gs[j]? = some g ∧ bs[j]? = some b ∧ g ∈ gs):=⟨hgk,hbk,hgm⟩
     clear hbt hpt hbs hgk hbk hgm hbka hbm
     generalize decide (n * 1000 ≤ b.lev u)=z at *
     go_wp2_with fail
     refine HW.out.mono ?_
     rintro e w5 ⟨rfl,hk5,hb5⟩
     have HK5:Hid (Ez w5 g (b.take u n)):=hk5
     have HB5:Hid (But (fun k=>k=g) wr w5):=hb5
     clear hk5 hb5
     go_wp2_with fail
     go_roundw
     case rel=>
      have hb5:=HB5.out
      refine ⟨j+1,by omega,by go_num,HBt.out.trans (hb5.mono fun q hq=>(by rw [hq];exact HJ.out.2.2)),fun i g' hg'=>?_,fun i g' b' hg' hb'=>?_⟩
      ·
       have hne:¬ B=g:=by have:=HSh.out.new g HJ.out.2.2;omega
       rw [hb5.cell (p:=⟨B,i,none⟩) (Nat.lt_of_lt_of_le HBl.out HBt.out.size) hne]
       exact HPt.out i g' hg'
      ·
       by_cases hij:i=j
       ·
        subst hij
        obtain rfl:g'=g:=Option.some.inj (hg'.symm.trans HJ.out.1)
        obtain rfl:b'=b:=Option.some.inj (hb'.symm.trans HJ.out.2.1)
        rw [if_pos (by omega)]
        exact HK5.out
       ·
        have h1:=HBs.out i g' b' hg' hb'
        have hne:¬ g'=g:=fun e=>hij (HSh.out.one i j g' hg' (by rw [e];exact HJ.out.1))
        have h2:=h1.but hb5 hne
        by_cases hlt:i < j
        · rw [if_pos hlt] at h2;rw [if_pos (by omega)];exact h2
        · rw [if_neg hlt] at h2;rw [if_neg (by omega)];exact h2
     case measure=>simp [intOf];omega
    ·
     clear hbt hpt hbs
     go_wp2_with fail
     go_ret2
     have hR:=HR.out
     refine ⟨?_,fun T e=>?_,HBt.out⟩
     · rw [← HV.out,hR];rfl
     ·
      rw [hR] at e
      cases e
      refine ⟨by simp [HSh.out.len],HPt.out,HSh.out.new,fun i g b hg hb=>?_,HSh.out.one⟩
      simp only [List.getElem?_map,Option.map_eq_some_iff] at hb
      obtain ⟨c,hc,rfl⟩:=hb
      have:=HBs.out i g c hg hc
      have hi:i < bs.length:=by
       rcases Nat.lt_or_ge i bs.length with h | h
       · exact h
       · simp [List.getElem?_eq_none h] at hc
      rwa [if_pos (by rw [HN.out] at hi;omega)] at this
theorem Qb (la:Option Addr) (lcap:Nat) (ls:List (Int × Int)) (pa:Option Addr) (cap:Nat) (ps:List Pk) (w:World) (hl:AL w la ls) (hk:Ag ls) (hp:AO w pa ps) (ho:Aj ps) :
  Calls Tryz.prog 190 #[.slice la ls.length lcap,.slice pa ps.length cap] w fun e w'=>e=.returned .nilIface ∧ Below w.heap.size w w':=by
 have HP:Hid (AO w pa ps ∧ Aj ps):=⟨hp,ho⟩
 have HL:Hid (AL w la ls ∧ Ag ls):=⟨hl,hk⟩
 clear hl hk hp ho
 go_enter Tryz.func190,Tryz.ntmps190
 go_wp2_with fail
 refine (He pa cap ps _ HP.out.1 HP.out.2).mono ?_
 rintro e w1 ⟨rfl,hb⟩
 have HB:Hid (Below w.heap.size w w1):=hb
 clear hb
 go_wp2_with fail
 refine (EE la lcap ls _ (HL.out.1.below HB.out) HL.out.2).mono ?_
 rintro e w2 ⟨rfl,hb2⟩
 have HB2:Hid (Below w.heap.size w w2):=HB.out.trans (hb2.mono HB.out.size)
 clear hb2
 go_wp2_with fail
 go_ret
 exact ⟨rfl,HB2.out⟩
end Go.Proofs.YtipdclphpkgceaaGreatDoor
