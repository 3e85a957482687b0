/- Own facts, put together: no statement of its own. -/
import Derived.Laws.IdiomStrings
import Derived.BigQuiet
import Derived.Test.YtipdclphpkgceaaGreatDoorA06
import Derived.Test.YtipdclphpkgceaaGreatDoorA09
import Derived.Laws.MakeOwn
import Derived.Test.YtipdclphpkgceaaGreatDoorA01
import Derived.Deep.RegionLaw
import Derived.Deep.RegionHeld
import Derived.Sort.Grow
import Derived.Test.YtipdclphpkgceaaGreatDoorA05
import Derived.Test.YtipdclphpkgceaaGreatDoorA02
set_option maxHeartbeats 2000000
set_option maxRecDepth 100000

namespace Go.Proofs.YtipdclphpkgceaaGreatDoor
open Go.RowKit
def BO (a0:Addr) (o:Option Int) (w:World) (e:Ending) (w':World):Prop:=
 Below w.heap.size w w' ∧ ((o=none ∧ e=.returned (.tuple #[.int .i64 0,.iface 312 (.pointer (some a0))])) ∨ ∃ n,o=some n ∧ e=.returned (.tuple #[.int .i64 n,.nilIface]))
theorem CS {a0:Addr} {o:Option Int} {w w':World} (h:o=none) (hb:Below w.heap.size w w'):BO a0 o w (.returned (.tuple #[.int .i64 0,.iface 312 (.pointer (some a0))])) w':=⟨hb,.inl ⟨h,rfl⟩⟩
theorem FP {a0:Addr} {o:Option Int} {n:Int} {w w':World} (h:o=some n) (hb:Below w.heap.size w w'):BO a0 o w (.returned (.tuple #[.int .i64 n,.nilIface])) w':=⟨hb,.inr ⟨n,h,rfl⟩⟩
theorem Ie:∀ (l:List UInt8) (n m:Int) (b:UInt8),BX l n=some m → BX (l ++ [b]) n=if b.toNat < 48 ∨ 57 < b.toNat then none else some (10 * m+((b.toNat:Int) - 48))
 | [],n,m,b,h=>by
  simp only [BX,Option.some.injEq] at h
  subst h
  simp [BX]
 | x :: l,n,m,b,h=>by
  simp only [List.cons_append,BX] at h ⊢
  split at h
  · cases h
  ·
   rename_i hx
   rw [if_neg hx]
   exact Ie l _ m b h
theorem Im:∀ (l:List UInt8) (n:Int) (k:Nat) (b:UInt8),l[k]? = some b → (b.toNat < 48 ∨ 57 < b.toNat) → BX l n=none
 | [],n,k,b,h,_=>by simp at h
 | x :: l,n,0,b,h,hb=>by
  simp only [List.getElem?_cons_zero,Option.some.injEq] at h
  subst h
  simp [BX,hb]
 | x :: l,n,k+1,b,h,hb=>by
  simp only [List.getElem?_cons_succ] at h
  unfold BX
  split
  · rfl
  · exact Im l _ k b h hb
theorem XH (s:ByteArray) (W:World):∃ V cap,(convert 9 165 (.string s)).run Tryz.prog W=.ok (.slice (some ⟨W.heap.size,0,none⟩) s.size cap) V ∧ Below W.heap.size W V ∧ ∀ (i:Nat) b,s.data.toList[i]? = some b → V.cell? ⟨W.heap.size,i,none⟩=some (.int .u8 (b.toNat:Int)):=by
 refine ⟨_,_,run_bytes_of_string W 9 165 5 s Tryz.underlying9 Tryz.underlying165 Tryz.underlying5,((Below.refl _ _).drew).alloc (Nat.le_refl _) _,fun i b hb=>?_⟩
 have hi:i < s.data.size:=by
  rcases Nat.lt_or_ge i s.data.size with h | h
  · exact h
  · rw [List.getElem?_eq_none (by simpa using h)] at hb;cases hb
 rw [cell_of_row _ W.heap.size i _ 5 _ (heap_alloc_new W.drew _)]
 simp only [bytesRow]
 rw [Array.getElem?_append_left (by simpa using hi),Array.getElem?_map]
 rw [Array.getElem?_toList] at hb
 simp [hb]
section
variable (s:ByteArray) (w:World) (a0:Addr) (h0:w.cell? ⟨1,0,none⟩=some (.iface 312 (.pointer (some a0))))
theorem NB (s:ByteArray) (w:World) (a0:Addr) (h0:w.cell? ⟨1,0,none⟩=some (.iface 312 (.pointer (some a0)))) (h:s.size < 1 ∨ 7 < s.size) (hm:s.size ≤ 9223372036854775807) :
  Calls Tryz.prog 100 #[.string s] w fun e w'=>BO a0 (Ev s.data.toList) w e w':=by
 have HE:Hid (∀ q,BO a0 (Ev s.data.toList) w (.returned (.tuple #[.int .i64 0,.iface 312 (.pointer (some a0))])) (w.drewN q)):=fun q=>CS (by unfold Ev;rw [if_pos (by simpa using h)]) (below_drewN (Below.refl _ _) q)
 obtain ⟨n,hn⟩:∃ n,s.size=n:=⟨_,rfl⟩
 rw [hn] at h hm
 by_cases h1:n < 1
 ·
  have d1:decide ((n:Int) < 1)=true:=decide_eq_true (by omega)
  clear h
  go_enter Tryz.func100,Tryz.ntmps100
  go_wp2_with fail
  go_quiet (fail)
  go_wp2_with fail
  go_ret2
  exact HE.out nq
 ·
  have d1:decide ((n:Int) < 1)=false:=decide_eq_false (by omega)
  have d2:decide ((7:Int) < (n:Int))=true:=decide_eq_true (by omega)
  clear h h1
  go_enter Tryz.func100,Tryz.ntmps100
  go_wp2_with fail
  go_quiet (fail)
  go_wp2_with fail
  go_ret2
  exact HE.out nq
theorem SB (s:ByteArray) (i:Nat) (b:UInt8) (h:s.data.toList[i]? = some b) (W:World):(Instr.index 9 (.string s) (.int .i64 (i:Int))).run Tryz.prog W=.ok (.int .u8 (b.toNat:Int)) W:=by
 have hi:i < s.size:=by
  rcases Nat.lt_or_ge i s.size with h' | h'
  · exact h'
  · rw [List.getElem?_eq_none (by simpa using h')] at h;cases h
 rw [run_index_string _ _ _ _ _ Tryz.underlying9,dif_pos ⟨by omega,by omega⟩]
 have hi':i < s.data.size:=hi
 rw [Array.getElem?_toList,Array.getElem?_eq_getElem hi'] at h
 have e:s[i]=b:=Option.some.inj h
 simp [e]
theorem LG {l:List UInt8} {m:Int} {k n:Nat} (hl:l.length=n) (hn:n ≤ 7) (hk:k < n) (h:BX (l.take k) 0=some m):0 ≤ m ∧ m ≤ 999999:=by
 obtain ⟨h1,h2⟩:=IX _ _ _ (Int.le_refl _) h
 have hlen:(l.take k).length=k:=by rw [List.length_take,hl];omega
 rw [hlen] at h2
 refine ⟨h1,?_⟩
 rcases (show k=0 ∨ k=1 ∨ k=2 ∨ k=3 ∨ k=4 ∨ k=5 ∨ k=6 by omega) with rfl | rfl | rfl | rfl | rfl | rfl | rfl <;> simp at h2 <;> omega
theorem Ma (s:ByteArray) (w:World) (a0:Addr) (h0:w.cell? ⟨1,0,none⟩=some (.iface 312 (.pointer (some a0)))) (h1:1 < s.size) (h7:s.size ≤ 7) (hz:s.data.toList[0]? = some 48) :
  Calls Tryz.prog 100 #[.string s] w fun e w'=>BO a0 (Ev s.data.toList) w e w':=by
 have HE:Hid (∀ q,BO a0 (Ev s.data.toList) w (.returned (.tuple #[.int .i64 0,.iface 312 (.pointer (some a0))])) (w.drewN q)):=fun q=>CS (by
  unfold Ev
  have e:s.data.toList.length=s.size:=by simp
  rw [if_neg (by omega),if_pos ⟨by rw [List.head?_eq_getElem?];exact hz,by omega⟩]) (below_drewN (Below.refl _ _) q)
 have hix:∀ W:World,(Instr.index 9 (.string s) (.int .i64 0)).run Tryz.prog W=.ok (.int .u8 48) W:=fun W=>SB s 0 48 hz W
 obtain ⟨n,hn⟩:∃ n,s.size=n:=⟨_,rfl⟩
 rw [hn] at h1 h7
 have d1:decide ((n:Int) < 1)=false:=decide_eq_false (by omega)
 have d2:decide ((7:Int) < (n:Int))=false:=decide_eq_false (by omega)
 have d3:decide ((1:Int) < (n:Int))=true:=decide_eq_true (by omega)
 clear hz h1 h7
 go_enter Tryz.func100,Tryz.ntmps100
 go_wp2_with fail
 go_quiet (fail)
 go_wp2_with fail
 go_ret2
 exact HE.out nq
theorem Kk (s:ByteArray) (w:World) (a0:Addr) (h0:w.cell? ⟨1,0,none⟩=some (.iface 312 (.pointer (some a0)))) (h1:1 ≤ s.size) (h7:s.size ≤ 7) (b0:UInt8) (hz:s.data.toList[0]? = some b0) (hb0:¬ (b0=48 ∧ 1 < s.size)) :
  Calls Tryz.prog 100 #[.string s] w fun e w'=>BO a0 (Ev s.data.toList) w e w':=by
 have hnum:Ev s.data.toList=BX s.data.toList 0:=by
  unfold Ev
  have e:s.data.toList.length=s.size:=by simp
  rw [if_neg (by omega),if_neg]
  rw [List.head?_eq_getElem?,hz,e]
  exact fun h=>hb0 ⟨Option.some.inj h.1,h.2⟩
 rw [hnum]
 have hix:∀ W:World,(Instr.index 9 (.string s) (.int .i64 0)).run Tryz.prog W=.ok (.int .u8 (b0.toNat:Int)) W:=fun W=>SB s 0 b0 hz W
 have hlen:s.data.toList.length=s.size:=by simp
 obtain ⟨z,hzz⟩:∃ z:Int,(b0.toNat:Int)=z:=⟨_,rfl⟩
 rw [hzz] at hix
 obtain ⟨n,hn⟩:∃ n,s.size=n:=⟨_,rfl⟩
 have HCv:Hid (∀ W,∃ V cap,(convert 9 165 (.string s)).run Tryz.prog W=.ok (.slice (some ⟨W.heap.size,0,none⟩) n cap) V ∧ Below W.heap.size W V ∧ ∀ (i:Nat) b,s.data.toList[i]? = some b → V.cell? ⟨W.heap.size,i,none⟩=some (.int .u8 (b.toNat:Int))):=fun W=>by
  have:=XH s W
  rw [hn] at this
  exact this
 rw [hn] at h1 h7 hb0 hlen
 obtain ⟨l,hl⟩:∃ l,s.data.toList=l:=⟨_,rfl⟩
 rw [hl] at HCv hlen hnum ⊢
 have HL:Hid (l.length=n):=hlen
 have H0:Hid (w.cell? ⟨1,0,none⟩=some (.iface 312 (.pointer (some a0)))):=h0
 have d1:decide ((n:Int) < 1)=false:=decide_eq_false (by omega)
 have d2:decide ((7:Int) < (n:Int))=false:=decide_eq_false (by omega)
 obtain ⟨t,ht⟩:∃ t,(z == 48)=t:=⟨_,rfl⟩
 have d3:t=true → decide ((1:Int) < (n:Int))=false:=fun h=>decide_eq_false (by
  rw [h] at ht
  have hz48:z=48:=by simpa using ht
  have:b0=48:=by
   apply UInt8.toNat.inj
   show b0.toNat=48
   omega
  rcases Nat.lt_or_ge 1 n with h' | h'
  · exact absurd ⟨this,h'⟩ hb0
  · omega)
 have HD3:Hid (t=true → decide ((1:Int) < (n:Int))=false):=d3
 obtain ⟨V,cap,hcv,hb1,hc1⟩:=HCv.out w
 have HB1:Hid (Below w.heap.size w V):=hb1
 have HC1:Hid (∀ (i:Nat) b,l[i]? = some b → V.cell? ⟨w.heap.size,i,none⟩=some (.int .u8 (b.toNat:Int))):=hc1
 have hE:V.cell? ⟨1,0,none⟩=some (.iface 312 (.pointer (some a0))):=cell_later hb1 h0
 clear hz hb0 hnum hlen hl hb1 hc1 HCv d3 h0 hzz
 cases t with
 | true=>
  have d3:=HD3.out rfl
  go_enter Tryz.func100,Tryz.ntmps100
  go_wp2_with fail
  go_loopw [4,28] (fun m i wr=>∃ k:Nat,∃ x:Int,k ≤ n ∧ i=.int .i64 k ∧ m=.int .i64 x ∧ BX (l.take k) 0=some x ∧ wr=V) (fun _ i _=>n - (intOf i).toNat)
  case atStart=>exact ⟨0,0,Nat.zero_le _,rfl,rfl,rfl,rfl⟩
  case round=>
   obtain ⟨k,x,hk,rfl,rfl,hx,rfl⟩:=hrel
   by_cases hkn:k < n
   ·
    obtain ⟨b,hb,-⟩:=Ai l k (by rw [HL.out];exact hkn)
    have hc:=HC1.out k b hb
    obtain ⟨x0,x1⟩:=LG HL.out h7 hkn hx
    have hts:l.take (k+1)=l.take k ++ [b]:=by rw [List.take_add_one,hb];rfl
    have hsn:=Ie (l.take k) 0 x b hx
    rw [← hts] at hsn
    have hbl:b.toNat < 256:=b.toNat_lt
    obtain ⟨y,hy⟩:∃ y:Int,(b.toNat:Int)=y:=⟨_,rfl⟩
    rw [hy] at hc hsn
    by_cases hbad:b.toNat < 48 ∨ 57 < b.toNat
    ·
     have HE:Hid (∀ q,BO a0 (BX l 0) w (.returned (.tuple #[.int .i64 0,.iface 312 (.pointer (some a0))])) (wr.drewN q)):=fun q=>CS (Im l 0 k b hb hbad) (below_drewN HB1.out q)
     by_cases hlo:y < 48
     ·
      have e1:decide (y < 48)=true:=decide_eq_true hlo
      clear hts hsn hb hx hbad hbl hy
      go_wp2_with fail
      go_quiet (fail)
      go_wp2_with fail
      go_ret2
      exact HE.out nq
     ·
      have e1:decide (y < 48)=false:=decide_eq_false hlo
      have e2:decide (57 < y)=true:=decide_eq_true (by omega)
      clear hts hsn hb hx hbad hbl hy
      go_wp2_with fail
      go_quiet (fail)
      go_wp2_with fail
      go_ret2
      exact HE.out nq
    ·
     rw [if_neg hbad] at hsn
     have e1:decide (y < 48)=false:=decide_eq_false (by omega)
     have e2:decide (57 < y)=false:=decide_eq_false (by omega)
     have e3:IntKind.u8.wrap (y - 48)=y - 48:=by rw [IntKind.wrap_u8];omega
     have HS:Hid (BX (l.take (k+1)) 0=some (10 * x+(y - 48))):=hsn
     have y0:0 ≤ y - 48:=by omega
     have y1:y - 48 ≤ 9:=by omega
     clear hts hsn hb hx hbad hbl hy
     go_wp2_with fail
     go_roundw
     case rel=>exact ⟨k+1,_,by omega,by go_num,rfl,HS.out,trivial⟩
     case measure=>simp [intOf];omega
   ·
    obtain rfl:k=n:=by omega
    rw [show l.take k=l by rw [← HL.out,List.take_length]] at hx
    go_wp2_with fail
    go_ret2
    exact FP hx HB1.out
 | false=>
  go_enter Tryz.func100,Tryz.ntmps100
  go_wp2_with fail
  go_loopw [4,28] (fun m i wr=>∃ k:Nat,∃ x:Int,k ≤ n ∧ i=.int .i64 k ∧ m=.int .i64 x ∧ BX (l.take k) 0=some x ∧ wr=V) (fun _ i _=>n - (intOf i).toNat)
  case atStart=>exact ⟨0,0,Nat.zero_le _,rfl,rfl,rfl,rfl⟩
  case round=>
   obtain ⟨k,x,hk,rfl,rfl,hx,rfl⟩:=hrel
   by_cases hkn:k < n
   ·
    obtain ⟨b,hb,-⟩:=Ai l k (by rw [HL.out];exact hkn)
    have hc:=HC1.out k b hb
    obtain ⟨x0,x1⟩:=LG HL.out h7 hkn hx
    have hts:l.take (k+1)=l.take k ++ [b]:=by rw [List.take_add_one,hb];rfl
    have hsn:=Ie (l.take k) 0 x b hx
    rw [← hts] at hsn
    have hbl:b.toNat < 256:=b.toNat_lt
    obtain ⟨y,hy⟩:∃ y:Int,(b.toNat:Int)=y:=⟨_,rfl⟩
    rw [hy] at hc hsn
    by_cases hbad:b.toNat < 48 ∨ 57 < b.toNat
    ·
     have HE:Hid (∀ q,BO a0 (BX l 0) w (.returned (.tuple #[.int .i64 0,.iface 312 (.pointer (some a0))])) (wr.drewN q)):=fun q=>CS (Im l 0 k b hb hbad) (below_drewN HB1.out q)
     by_cases hlo:y < 48
     ·
      have e1:decide (y < 48)=true:=decide_eq_true hlo
      clear hts hsn hb hx hbad hbl hy
      go_wp2_with fail
      go_quiet (fail)
      go_wp2_with fail
      go_ret2
      exact HE.out nq
     ·
      have e1:decide (y < 48)=false:=decide_eq_false hlo
      have e2:decide (57 < y)=true:=decide_eq_true (by omega)
      clear hts hsn hb hx hbad hbl hy
      go_wp2_with fail
      go_quiet (fail)
      go_wp2_with fail
      go_ret2
      exact HE.out nq
    ·
     rw [if_neg hbad] at hsn
     have e1:decide (y < 48)=false:=decide_eq_false (by omega)
     have e2:decide (57 < y)=false:=decide_eq_false (by omega)
     have e3:IntKind.u8.wrap (y - 48)=y - 48:=by rw [IntKind.wrap_u8];omega
     have HS:Hid (BX (l.take (k+1)) 0=some (10 * x+(y - 48))):=hsn
     have y0:0 ≤ y - 48:=by omega
     have y1:y - 48 ≤ 9:=by omega
     clear hts hsn hb hx hbad hbl hy
     go_wp2_with fail
     go_roundw
     case rel=>exact ⟨k+1,_,by omega,by go_num,rfl,HS.out,trivial⟩
     case measure=>simp [intOf];omega
   ·
    obtain rfl:k=n:=by omega
    rw [show l.take k=l by rw [← HL.out,List.take_length]] at hx
    go_wp2_with fail
    go_ret2
    exact FP hx HB1.out
theorem Fj (s:ByteArray) (w:World) (a0:Addr) (h0:w.cell? ⟨1,0,none⟩=some (.iface 312 (.pointer (some a0)))) (hm:s.size ≤ 9223372036854775807) :
  Calls Tryz.prog 100 #[.string s] w fun e w'=>BO a0 (Ev s.data.toList) w e w':=by
 by_cases h:s.size < 1 ∨ 7 < s.size
 · exact NB s w a0 h0 h hm
 ·
  obtain ⟨b,hb,-⟩:=Ai s.data.toList 0 (by simp;omega)
  by_cases hz:b=48 ∧ 1 < s.size
  ·
   rw [hz.1] at hb
   exact Ma s w a0 h0 hz.2 (by omega) hb
  · exact Kk s w a0 h0 (by omega) (by omega) b hb hz
end
section
variable (s:ByteArray) (w:World) (a0:Addr) (h0:w.cell? ⟨1,0,none⟩=some (.iface 312 (.pointer (some a0))))
theorem Ku (s:ByteArray) (w:World) (a0:Addr) (h0:w.cell? ⟨1,0,none⟩=some (.iface 312 (.pointer (some a0)))) (hm:s.size ≤ 9223372036854775807) :
  Calls Tryz.prog 104 #[.string s] w fun e w'=>BO a0 (FE s.data.toList) w e w':=by
 have hlen:s.data.toList.length=s.size:=by simp
 obtain ⟨n,hn⟩:∃ n,s.size=n:=⟨_,rfl⟩
 by_cases h1:n=1
 ·
  have e:FE s.data.toList=Ev s.data.toList:=by unfold FE;rw [if_neg];rw [hlen,hn];exact fun h=>h h1
  rw [e]
  have HC:=(show Hid (Calls Tryz.prog 100 #[.string s] w fun e w'=>BO a0 (Ev s.data.toList) w e w') from Fj s w a0 h0 hm)
  have d1:((n:Int) == 1)=true:=by simp [h1]
  clear hlen e h1 hm
  go_enter Tryz.func104,Tryz.ntmps104
  go_wp2_with fail
  refine HC.out.mono ?_
  rintro e w1 ⟨hb,⟨ho,rfl⟩ | ⟨m,ho,rfl⟩⟩
  ·
   go_wp2_with fail
   go_ret2
   exact CS ho hb
  ·
   go_wp2_with fail
   go_ret2
   exact FP ho hb
 ·
  have HE:Hid (∀ q,BO a0 (FE s.data.toList) w (.returned (.tuple #[.int .i64 0,.iface 312 (.pointer (some a0))])) (w.drewN q)):=fun q=>CS (by unfold FE;rw [if_pos];rw [hlen,hn];exact h1) (below_drewN (Below.refl _ _) q)
  have d1:((n:Int) == 1)=false:=by simp;omega
  clear hlen hm
  go_enter Tryz.func104,Tryz.ntmps104
  go_wp2_with fail
  go_quiet (fail)
  go_wp2_with fail
  go_ret2
  exact HE.out nq
theorem Lv (s:ByteArray) (w:World) (a0:Addr) (h0:w.cell? ⟨1,0,none⟩=some (.iface 312 (.pointer (some a0)))) (hm:s.size ≤ 9223372036854775807) :
  Calls Tryz.prog 98 #[.string s] w fun e w'=>BO a0 (DN s.data.toList) w e w':=by
 have HC:=(show Hid (Calls Tryz.prog 104 #[.string s] w fun e w'=>BO a0 (FE s.data.toList) w e w') from Ku s w a0 h0 hm)
 have H0:Hid (w.cell? ⟨1,0,none⟩=some (.iface 312 (.pointer (some a0)))):=h0
 clear hm h0
 go_enter Tryz.func98,Tryz.ntmps98
 go_wp2_with fail
 refine HC.out.mono ?_
 rintro e w1 ⟨hb,⟨ho,rfl⟩ | ⟨m,ho,rfl⟩⟩
 ·
  go_wp2_with fail
  go_ret2
  exact CS (by unfold DN;rw [ho];rfl) hb
 ·
  by_cases hf:0 ≤ m ∧ m < 8
  ·
   have HE:Hid (BO a0 (DN s.data.toList) w (.returned (.tuple #[.int .i64 m,.nilIface])) w1):=FP (by unfold DN;rw [ho];simp [hf]) hb
   clear ho hb
   go_wp2_with fail
   refine (Ut m w1 hf).mono ?_
   rintro e w2 ⟨rfl,rfl⟩
   go_wp2_with fail
   go_ret2
   exact HE.out
  ·
   have HE:Hid (∀ q,BO a0 (DN s.data.toList) w (.returned (.tuple #[.int .i64 0,.iface 312 (.pointer (some a0))])) (w1.drewN q)):=fun q=>CS (by unfold DN;rw [ho];simp only [Option.bind_some];rw [if_neg hf]) (below_drewN hb q)
   have c0:w1.cell? ⟨1,0,none⟩=some (.iface 312 (.pointer (some a0))):=cell_later hb H0.out
   clear ho hb
   go_wp2_with fail
   refine (Xk m w1 hf).mono ?_
   rintro e w2 ⟨rfl,rfl⟩
   go_wp2_with fail
   go_quiet (fail)
   go_wp2_with fail
   go_ret2
   exact HE.out nq
end
def Bp (w:World) (a:Option Addr) (ws:List (List UInt8)):Prop:=
 ws=[] ∨ ∃ b off,a=some ⟨b,off,none⟩ ∧ b < w.heap.size ∧ ∀ (i:Nat) x,ws[i]? = some x → w.cell? ⟨b,off+i,none⟩=some (.string ⟨x.toArray⟩)
theorem Bp.below {w w':World} {a:Option Addr} {ws:List (List UInt8)} (h:Bp w a ws) (hb:Below w.heap.size w w'):Bp w' a ws:=by
 rcases h with rfl | ⟨b,off,rfl,hlt,hc⟩
 · exact .inl rfl
 · exact .inr ⟨b,off,rfl,Nat.lt_of_lt_of_le hlt hb.size,fun i x hi=>cell_later hb (hc i x hi)⟩
theorem Bp.place {w:World} {a:Option Addr} {ws:List (List UInt8)} (h:Bp w a ws) (h1:1 ≤ ws.length) :
  ∃ b off,a=some ⟨b,off,none⟩ ∧ b < w.heap.size ∧ ∀ (i:Nat) x,ws[i]? = some x → w.cell? ⟨b,off+i,none⟩=some (.string ⟨x.toArray⟩):=by
 rcases h with rfl | h
 · simp at h1
 · exact h
def DU (ws:List (List UInt8)):Prop:=ws.length ≤ 1000 ∧ ∀ x ∈ ws,x.length ≤ 1000
structure Bj (w:World) (g n:Nat) (f:Nat → Value):Prop where
 cell:∀ i,i < n → w.cell? ⟨g,i,none⟩=some (f i)
 frozen:∀ i,w.frozen? ⟨g,i,none⟩=false
 lt:g < w.heap.size
def OW (f:Nat → Value) (k:Nat) (u:Value):Nat → Value:=fun i=>if i=k then u else f i
section
variable {w w':World} {g n:Nat} {f:Nat → Value}
theorem KN (w:World) (n:Nat) (u:Value) (t:TypeId):Bj (w.alloc (.cells (madeCells #[u] n) t)) w.heap.size n (fun _=>u):=by
 refine ⟨fun i hi=>?_,fun i=>World.frozen?_alloc_new w _ _ i,by simp⟩
 rw [World.cell?_alloc_at _ _ _ _ rfl]
 exact Km _ _ _ hi
theorem Bj.of_block (h:Bj w g n f) (hb:w'.heap[g]? = w.heap[g]?) (hs:w.heap.size ≤ w'.heap.size):Bj w' g n f:=
 ⟨fun i hi=>(World.cell?_of_block (a:=⟨g,i,none⟩) hb).trans (h.cell i hi),fun i=>(World.frozen?_of_block (a:=⟨g,i,none⟩) hb).trans (h.frozen i),Nat.lt_of_lt_of_le h.lt hs⟩
theorem Bj.but {S:Nat → Prop} (h:Bj w g n f) (hb:But S w w') (hs:¬ S g):Bj w' g n f:=h.of_block (hb.block g h.lt hs) hb.size
theorem Bj.below (h:Bj w g n f) (hb:Below w.heap.size w w'):Bj w' g n f:=h.of_block (hb.block g h.lt) hb.size
theorem Bj.put (h:Bj w g n f) {k:Nat} (hk:k < n) (u:Value):Bj (w.setCell ⟨g,k,none⟩ u) g n (OW f k u):=by
 refine ⟨fun i hi=>?_,fun i=>by rw [World.frozen?_setCell];exact h.frozen i,by simp [World.setCell];exact h.lt⟩
 by_cases e:k=i
 ·
  subst e
  rw [World.cell?_setCell_same' _ _ _ (by rw [h.cell k hk];rfl)]
  simp [OW]
 · rw [World.cell?_setCell_other _ _ _ _ (by intro e';cases e';exact e rfl),h.cell i hi,OW,if_neg (fun e'=>e e'.symm)]
theorem Bj.drew (h:Bj w g n f):Bj w.drew g n f:=⟨h.cell,h.frozen,h.lt⟩
theorem Dc {B:Nat} {w W:World} (h:Below B w W) {p:Addr} (hp:B ≤ p.block) (u:Value):Below B w (W.setCell p u):=
 ⟨h.os,h.tape,h.output,by simpa [World.setCell] using h.size,fun k hk=>by rw [heap_setCell_other _ _ _ _ (by omega)];exact h.block k hk⟩
end
theorem NL (n:Nat) (hn:n ≤ 1000) (w':World):(Instr.makeSlice 32 (.int .i64 n) (.int .i64 n)).run Tryz.prog w'=.ok (.slice (some ⟨w'.heap.size,0,none⟩) n n) (w'.alloc (.cells (madeCells #[.int .i64 0] n) 3)):=by
 obtain ⟨i0,hi,hz0,hz1,hz2⟩:=info_parts Tryz.infoInt
 have:=run_make (P:=Tryz.prog) w' 32 3 i0 (.int .i64 0) Tryz.underlying32 hi hz0 .i64 .i64 n n (by omega) (by omega) (by rw [hz2];omega) (by omega)
 simpa [hz1,Value.cells] using this
def GX (a0:Addr) (o:Option (List Int)) (w:World) (e:Ending) (w':World):Prop:=
 Below w.heap.size w w' ∧ ((o=none ∧ e=.returned (.tuple #[.slice none 0 0,.iface 312 (.pointer (some a0))])) ∨
  ∃ ns g,o=some ns ∧ e=.returned (.tuple #[.slice (some ⟨g,0,none⟩) ns.length ns.length,.nilIface]) ∧ w.heap.size ≤ g ∧ g < w'.heap.size ∧ AV w' (some ⟨g,0,none⟩) ns)
def Jy (ms:List Int) (j:Nat):Value:=.int .i64 (ms.getD j 0)
theorem WG (ms:List Int) (m:Int):OW (Jy ms) ms.length (.int .i64 m)=Jy (ms ++ [m]):=by
 funext i
 unfold OW Jy
 by_cases h:i=ms.length
 · subst h;simp
 ·
  rw [if_neg h]
  rcases Nat.lt_or_ge i ms.length with h' | h'
  · simp [List.getElem?_append_left h']
  · simp [List.getElem?_eq_none h',List.getElem?_eq_none (show (ms ++ [m]).length ≤ i by simp;omega)]
theorem Oh {w:World} {g:Nat} {ms:List Int} (h:Bj w g ms.length (Jy ms)):AV w (some ⟨g,0,none⟩) ms:=by
 refine .inr ⟨g,0,rfl,h.lt,fun i x hi=>?_⟩
 rw [Nat.zero_add,h.cell i (Ad hi)]
 simp [Jy,hi]
theorem F4 (a:Option Addr) (cap:Nat) (ws:List (List UInt8)) (w:World) (a0:Addr) (h0:w.cell? ⟨1,0,none⟩=some (.iface 312 (.pointer (some a0)))) (hl:Bp w a ws) (hs:DU ws) :
  Calls Tryz.prog 103 #[.slice a ws.length cap] w fun e w'=>GX a0 (Du ws) w e w':=by
 have HL:Hid (∀ (i:Nat) x,ws[i]? = some x → ∃ b off,a=some ⟨b,off,none⟩ ∧ w.cell? ⟨b,off+i,none⟩=some (.string ⟨x.toArray⟩)):=fun i x hi=>by
  obtain ⟨b,off,h1,-,h2⟩:=hl.place (by have:=Ad hi;omega)
  exact ⟨b,off,h1,h2 i x hi⟩
 have HS:Hid (DU ws):=hs
 have H0:Hid (w.cell? ⟨1,0,none⟩=some (.iface 312 (.pointer (some a0)))):=h0
 obtain ⟨n,hn⟩:∃ n,ws.length=n:=⟨_,rfl⟩
 have HN:Hid (ws.length=n):=hn
 have hn1:n ≤ 1000:=by rw [← hn];exact hs.1
 rw [hn]
 have hmk:=NL n hn1
 have hb1:Below w.heap.size w (w.alloc (.cells (madeCells #[.int .i64 0] n) 3)):=(Below.refl _ _).alloc (Nat.le_refl _) _
 have hv1:Bj (w.alloc (.cells (madeCells #[.int .i64 0] n) 3)) w.heap.size n (Jy []):=KN w n (.int .i64 0) 3
 obtain ⟨V,hV⟩:∃ V,w.alloc (.cells (madeCells #[.int .i64 0] n) 3)=V:=⟨_,rfl⟩
 rw [hV] at hb1 hv1
 have HV:Hid (Below w.heap.size w V ∧ Bj V w.heap.size n (Jy [])):=⟨hb1,hv1⟩
 obtain ⟨G,hG⟩:∃ G,w.heap.size=G:=⟨_,rfl⟩
 have HG:Hid (w.heap.size=G):=hG
 have hmk1:(Instr.makeSlice 32 (.int .i64 n) (.int .i64 n)).run Tryz.prog w=.ok (.slice (some ⟨G,0,none⟩) n n) V:=by rw [hmk w,hV,hG]
 clear hl hs h0 hn hb1 hv1 hV hmk hG
 go_enter Tryz.func103,Tryz.ntmps103
 go_wp2_with fail
 go_loopw [14] (fun i wr=>∃ k:Nat,∃ ms:List Int,k ≤ n ∧ i=.int .i64 k ∧ ms.length=k ∧ Below w.heap.size w wr ∧ Bj wr G n (Jy ms) ∧ ∀ (j:Nat) x m,ws[j]? = some x → ms[j]? = some m → Ev x=some m) (fun i _=>n - (intOf i).toNat)
 case atStart=>exact ⟨0,[],Nat.zero_le _,rfl,rfl,HV.out.1,by rw [← HG.out];exact HV.out.2,fun j x m _ h=>by simp at h⟩
 case round=>
  obtain ⟨k,ms,hk,rfl,hms,hb,hv,hd⟩:=hrel
  have HB:Hid (Below w.heap.size w wr ∧ Bj wr G n (Jy ms) ∧ (∀ (j:Nat) x m,ws[j]? = some x → ms[j]? = some m → Ev x=some m) ∧ ms.length=k):=⟨hb,hv,hd,hms⟩
  by_cases hkn:k < n
  ·
   obtain ⟨x,hx,hxm⟩:=Ai ws k (by rw [HN.out];exact hkn)
   obtain ⟨b,off,rfl,hc⟩:=HL.out k x hx
   have hc1:wr.cell? ⟨b,off+k,none⟩=some (.string ⟨x.toArray⟩):=cell_later hb hc
   have HC:=(show Hid (Calls Tryz.prog 100 #[.string ⟨x.toArray⟩] wr fun e w'=>BO a0 (Ev x) wr e w') from Fj ⟨x.toArray⟩ wr a0 (cell_later hb H0.out) (by have:=HS.out.2 x hxm;show x.toArray.size ≤ _;simp;omega))
   have HX:Hid (ws[k]? = some x):=hx
   clear hb hv hd hms hx hxm hc
   go_wp2_with fail
   refine HC.out.mono ?_
   rintro e w1 ⟨hb1,⟨ho,rfl⟩ | ⟨m,ho,rfl⟩⟩
   ·
    have HE:Hid (GX a0 (Du ws) w (.returned (.tuple #[.slice none 0 0,.iface 312 (.pointer (some a0))])) w1):=⟨HB.out.1.trans (hb1.mono HB.out.1.size),.inl ⟨UB HX.out ho,rfl⟩⟩
    clear ho hb1
    go_wp2_with fail
    go_ret2
    exact HE.out
   ·
    have hv1:=HB.out.2.1.below hb1
    have c1:=hv1.cell k hkn
    have f1:=hv1.frozen k
    have HNx:Hid (Below w.heap.size w (w1.setCell ⟨G,k,none⟩ (.int .i64 m)) ∧ Bj (w1.setCell ⟨G,k,none⟩ (.int .i64 m)) G n (Jy (ms ++ [m])) ∧ (∀ (j:Nat) x z,ws[j]? = some x → (ms ++ [m])[j]? = some z → Ev x=some z) ∧ (ms ++ [m]).length=k+1):=by
     obtain ⟨g1,g2,g3,g4⟩:=HB.out
     refine ⟨Dc (g1.trans (hb1.mono g1.size)) (by show w.heap.size ≤ G;rw [HG.out];exact Nat.le_refl _) _,?_,?_,by simp [g4]⟩
     ·
      rw [← WG,g4]
      exact hv1.put hkn _
     ·
      intro j y z hy hz
      rcases Nat.lt_or_ge j ms.length with h' | h'
      ·
       rw [List.getElem?_append_left h'] at hz
       exact g3 j y z hy hz
      ·
       have hj:=Ad hz
       simp at hj
       obtain rfl:j=ms.length:=by omega
       simp at hz
       subst hz
       rw [g4,HX.out] at hy
       obtain rfl:=Option.some.inj hy
       exact ho
    clear ho hb1 hv1
    go_wp2_with fail
    go_roundw
    case rel=>exact ⟨k+1,ms ++ [m],by omega,by go_num,HNx.out.2.2.2,HNx.out.1,HNx.out.2.1,HNx.out.2.2.1⟩
    case measure=>simp [intOf];omega
  ·
   obtain rfl:k=n:=by omega
   have HE:Hid (GX a0 (Du ws) w (.returned (.tuple #[.slice (some ⟨G,0,none⟩) k k,.nilIface])) wr):=by
    refine ⟨hb,.inr ⟨ms,G,TF (by rw [hms,HN.out]) hd,by rw [hms],by rw [HG.out];exact Nat.le_refl _,hv.lt,Oh (by rw [hms];exact hv)⟩⟩
   clear hb hv hd hms
   go_wp2_with fail
   go_ret2
   exact HE.out
end Go.Proofs.YtipdclphpkgceaaGreatDoor

namespace Go.Proofs.YtipdclphpkgceaaGreatDoor
open Go.RowKit Go.Extern.Stop Go.Stop Go.Extern
structure TB (w:World) (a5 a6 a7:Addr):Prop where
 c5:w.cell? ⟨5,0,none⟩=some (.iface 312 (.pointer (some a5)))
 c6:w.cell? ⟨6,0,none⟩=some (.iface 312 (.pointer (some a6)))
 c7:w.cell? ⟨7,0,none⟩=some (.iface 312 (.pointer (some a7)))
theorem TB.below {w w':World} {a5 a6 a7:Addr} (h:TB w a5 a6 a7) (hb:Below w.heap.size w w'):TB w' a5 a6 a7:=⟨cell_later hb h.c5,cell_later hb h.c6,cell_later hb h.c7⟩
end Go.Proofs.YtipdclphpkgceaaGreatDoor

namespace Go.Proofs.YtipdclphpkgceaaGreatDoor
open Go.RowKit
def Dv (a b:Int):Int:=if a < b then -1 else if b < a then 1 else 0
theorem H6 {a b:Int}:Dv a b < 0 ↔ a < b:=by unfold Dv;split;omega;split <;> omega
theorem Pb {a b:Int}:Dv a b=0 ↔ a=b:=by unfold Dv;split;omega;split <;> omega
theorem I9 (a b:Int) (w:World):Calls Tryz.prog 141 #[.int .i64 a,.int .i64 b] w fun e w'=>e=.returned (.int .i64 (Dv a b)) ∧ w'=w:=by
 by_cases h1:a < b
 ·
  have HC:Hid (Dv a b = -1):=by show _=_;unfold Dv;rw [if_pos h1]
  go_enter Tryz.func141,Tryz.ntmps141
  go_wp2
  go_ret
  exact ⟨congrArg (fun z=>Ending.returned (.int .i64 z)) HC.out.symm,rfl⟩
 ·
  by_cases h2:b < a
  ·
   have HC:Hid (Dv a b=1):=by show _=_;unfold Dv;rw [if_neg h1,if_pos h2]
   go_enter Tryz.func141,Tryz.ntmps141
   go_wp2
   go_ret
   exact ⟨congrArg (fun z=>Ending.returned (.int .i64 z)) HC.out.symm,rfl⟩
  ·
   have HC:Hid (Dv a b=0):=by show _=_;unfold Dv;rw [if_neg h1,if_neg h2]
   go_enter Tryz.func141,Tryz.ntmps141
   go_wp2
   go_ret
   exact ⟨congrArg (fun z=>Ending.returned (.int .i64 z)) HC.out.symm,rfl⟩
end Go.Proofs.YtipdclphpkgceaaGreatDoor

namespace Go.Proofs.YtipdclphpkgceaaGreatDoor
open Go.RowKit Go.Sort
def cmpL (x y:Int × Int):Int:=if Dv y.2 x.2=0 then Dv y.1 x.1 else Dv y.2 x.2
theorem aO (c1 c2:Int) (B:Nat) (w:World) (h1:w.cell? ⟨B,0,none⟩=some (.int .i64 c1)) (h2:w.cell? ⟨B,1,none⟩=some (.int .i64 c2)) :
  Calls Tryz.prog 214 #[.slice (some ⟨B,0,none⟩) 2 2] w fun e w'=>e=.returned (.int .i64 (if c1=0 then c2 else c1)) ∧ w'=w:=by
 by_cases hc:c1=0
 ·
  subst hc
  by_cases hd:c2=0
  ·
   subst hd
   go_enter Tryz.func214,Tryz.ntmps214
   go_wp2
   refine wp_loop_rounds 3 ?_
   rw [rounds_succ]
   go_wp2
   rw [rounds_succ]
   go_wp2
   rw [rounds_succ]
   go_wp2
   go_ret
   exact ⟨rfl,rfl⟩
  ·
   have hd':(c2 == 0)=false:=by simpa using hd
   go_enter Tryz.func214,Tryz.ntmps214
   go_wp2
   refine wp_loop_rounds 2 ?_
   rw [rounds_succ]
   go_wp2
   rw [rounds_succ]
   go_wp2
   go_ret
   exact ⟨rfl,rfl⟩
 ·
  have hc':(c1 == 0)=false:=by simpa using hc
  rw [if_neg hc]
  go_enter Tryz.func214,Tryz.ntmps214
  go_wp2
  refine wp_loop_rounds 1 ?_
  rw [rounds_succ]
  go_wp2
  go_ret
  exact ⟨rfl,rfl⟩
theorem Nb (w:World) (o1 o2:Obj) (u v:Value) (t:TypeId):(((w.alloc o1).alloc o2).alloc (.cells #[u,v] t)).cell? ⟨w.heap.size+1+1,0,none⟩=some u ∧ (((w.alloc o1).alloc o2).alloc (.cells #[u,v] t)).cell? ⟨w.heap.size+1+1,1,none⟩=some v:=by
 rw [World.cell?_alloc_at _ _ _ _ (by simp),World.cell?_alloc_at _ _ _ _ (by simp)]
 exact ⟨rfl,rfl⟩
theorem Rj (w:World) (o1 o2:Obj) (u v:Value) (t:TypeId):(((w.alloc o1).alloc o2).alloc (.cells #[u,v] t)).drew.cell? ⟨w.heap.size+1+1,0,none⟩=some u ∧ (((w.alloc o1).alloc o2).alloc (.cells #[u,v] t)).drew.cell? ⟨w.heap.size+1+1,1,none⟩=some v:=by
 have h0:=(Nb w o1 o2 u v t).1
 have h1:=(Nb w o1 o2 u v t).2
 exact ⟨h0,h1⟩
theorem UN (w:World) (o1 o2 o3:Obj):(((w.alloc o1).alloc o2).alloc o3).drew=grow (w.drewN 1) #[o1,o2,o3]:=by
 rw [alloc_eq_grow,alloc_eq_grow,alloc_eq_grow,grow_grow,grow_grow]
 rfl
theorem Ua (x y:Int × Int) (w:World) :
  Calls Tryz.prog 213 #[.agg #[.int .i64 x.1,.int .i64 x.2],.agg #[.int .i64 y.1,.int .i64 y.2]] w fun e w'=>e=.returned (.int .i64 (cmpL x y)) ∧ ∃ q os',w'=grow (w.drewN q) os':=by
 obtain ⟨x1,x2⟩:=x
 obtain ⟨y1,y2⟩:=y
 have HL:Hid (cmpL (x1,x2) (y1,y2)=if Dv y2 x2=0 then Dv y1 x1 else Dv y2 x2):=rfl
 have hc1:=fun W=>I9 y2 x2 W
 have hc2:=fun W=>I9 y1 x1 W
 obtain ⟨r1,hr1⟩:∃ r,Dv y2 x2=r:=⟨_,rfl⟩
 obtain ⟨r2,hr2⟩:∃ r,Dv y1 x1=r:=⟨_,rfl⟩
 rw [hr1] at hc1
 rw [hr2] at hc2
 have HR:Hid (Dv y2 x2=r1 ∧ Dv y1 x1=r2):=⟨hr1,hr2⟩
 have H1:Hid (∀ W:World,Calls Tryz.prog 141 #[.int .i64 y2,.int .i64 x2] W fun e w'=>e=.returned (.int .i64 r1) ∧ w'=W):=hc1
 have H2:Hid (∀ W:World,Calls Tryz.prog 141 #[.int .i64 y1,.int .i64 x1] W fun e w'=>e=.returned (.int .i64 r2) ∧ w'=W):=hc2
 have h3:=fun B W=>aO r1 r2 B W
 obtain ⟨R,hR⟩:∃ R,(if r1=0 then r2 else r1)=R:=⟨_,rfl⟩
 rw [hR] at h3
 have HQ:Hid ((if r1=0 then r2 else r1)=R):=hR
 have H3:Hid (∀ B (W:World),W.cell? ⟨B,0,none⟩=some (.int .i64 r1) → W.cell? ⟨B,1,none⟩=some (.int .i64 r2) → Calls Tryz.prog 214 #[.slice (some ⟨B,0,none⟩) 2 2] W fun e w'=>e=.returned (.int .i64 R) ∧ w'=W):=h3
 clear hc1 hc2 hr1 hr2 h3 hR
 go_enter Tryz.func213,Tryz.ntmps213
 go_wp2_with fail
 go_region_held (fun w'=>w'.cell? ⟨w.heap.size,0,none⟩=some (.int .i64 x1) ∧ w'.cell? ⟨w.heap.size,1,none⟩=some (.int .i64 x2) ∧ w'.cell? ⟨w.heap.size+1,0,none⟩=some (.int .i64 y1) ∧ w'.cell? ⟨w.heap.size+1,1,none⟩=some (.int .i64 y2)) (go_keep)
  (first
  | (go_at_call_of 141 (Value.int IntKind.i64 y2);refine (H1.out _).mono ?_;rintro e w' ⟨rfl,rfl⟩)
  | (go_at_call_of 141 (Value.int IntKind.i64 y1);refine (H2.out _).mono ?_;rintro e w' ⟨rfl,rfl⟩)
  | (go_at_call 214;refine (H3.out _ _ (Rj _ _ _ _ _ _).1 (Rj _ _ _ _ _ _).2).mono ?_;rintro e w' ⟨rfl,rfl⟩))
 all_goals (go_wp2_with fail;go_ret)
 all_goals exact ⟨congrArg (fun z=>Ending.returned (.int .i64 z)) (by rw [HL.out,HR.out.1,HR.out.2,HQ.out]),1,_,UN _ _ _ _⟩
end Go.Proofs.YtipdclphpkgceaaGreatDoor

namespace Go.Proofs.YtipdclphpkgceaaGreatDoor
open Go.RowKit
structure QB (w:World) (g n:Nat) (out:List Sn):Prop where
 cell:∀ i,i < n → w.cell? ⟨g,i,none⟩=some (.bool (AZ out i))
 frozen:∀ i,w.frozen? ⟨g,i,none⟩=false
 lt:g < w.heap.size
theorem QB.of_block {w w':World} {g n:Nat} {out:List Sn} (h:QB w g n out) (hb:w'.heap[g]? = w.heap[g]?) (hs:w.heap.size ≤ w'.heap.size):QB w' g n out:=
 ⟨fun i hi=>(World.cell?_of_block (a:=⟨g,i,none⟩) hb).trans (h.cell i hi),fun i=>(World.frozen?_of_block (a:=⟨g,i,none⟩) hb).trans (h.frozen i),Nat.lt_of_lt_of_le h.lt hs⟩
section
end
end Go.Proofs.YtipdclphpkgceaaGreatDoor
