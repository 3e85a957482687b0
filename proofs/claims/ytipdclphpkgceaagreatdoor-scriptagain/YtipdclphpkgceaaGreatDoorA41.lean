/- ScriptAgain: from the walk to the given statement. -/
import Derived.Test.YtipdclphpkgceaaGreatDoorA40
import Derived.Test.YtipdclphpkgceaaGreatDoorCards
set_option maxHeartbeats 8000000
set_option maxRecDepth 100000

namespace Go.Proofs.YtipdclphpkgceaaGreatDoor
open Go.RowKit
theorem NS (oa:Option Addr) (m ocap A:Nat) (h:A ≤ ocap) (W:World):(Instr.slice 22 (.slice oa m ocap) none (some (.int .i64 (A:Int))) none).run Tryz.prog W=.ok (.slice oa A ocap) W:=by
 have hz:(sizeOf (Tryz.prog.elem 22)).run Tryz.prog W=.ok 1 W:=by kernel_rfl
 rw [run_slice_h W 22 oa m ocap (by kernel_rfl) .i64 (A:Int) (by omega) (by omega)]
 rw [hz]
 cases oa <;> simp [Result.andThen,sliced,Addr.add]
theorem L8 (a:Option Addr) (cap:Nat) (ls:List LL) (cut:Int) (w:World) (ad:Nat → Addr) (he:Env w ad) (hl:aa w a ls) (hcap:ls.length ≤ 9223372036854775807) (hx:∀ x ∈ ls,x.wd.length ≤ 9223372036854775807 ∧ x.kd.length ≤ 9223372036854775807 ∧ x.nm.length ≤ 9223372036854775807) :
  Calls Tryz.prog 4 #[.slice a ls.length cap,.int .i64 cut] w fun e w'=>e=.returned (.bool true) ∧ Below w.heap.size w w':=by
 have HHe:Hid (Calls Tryz.prog 6 #[] w fun e w'=>e=.returned (.bool true) ∧ Below w.heap.size w w'):=X8 w ad he
 have HEn:Hid (Env w ad):=he
 have HL:Hid (∀ (i:Nat) x,ls[i]? = some x → ∃ b off,a=some ⟨b,off,none⟩ ∧ Nk w b (off+i * 3) x):=fun i x hi=>by
  rcases hl with rfl | ⟨b,off,h1,-,h2⟩
  · simp at hi
  · exact ⟨b,off,h1,h2 i x hi⟩
 have HX:Hid (∀ x ∈ ls,x.wd.length ≤ 9223372036854775807 ∧ x.kd.length ≤ 9223372036854775807 ∧ x.nm.length ≤ 9223372036854775807):=hx
 obtain ⟨n,hn⟩:∃ n,ls.length=n:=⟨_,rfl⟩
 have HN:Hid (ls.length=n):=hn
 rw [hn] at hcap ⊢
 clear he hl hx hn
 by_cases h40:40 < n
 ·
  have d1:decide ((40:Int) < (n:Int))=true:=decide_eq_true (by omega)
  clear hcap h40
  go_enter Tryz.func4,Tryz.ntmps4
  go_wp2_with fail
  refine HHe.out.mono ?_
  rintro e w1 ⟨rfl,hb⟩
  have HB:Hid (Below w.heap.size w w1):=hb
  clear hb
  go_wp2_with fail
  go_ret
  exact ⟨rfl,HB.out⟩
 have d1:decide ((40:Int) < (n:Int))=false:=decide_eq_false (by omega)
 by_cases hc0:cut < 0
 ·
  have d2:decide (cut < 0)=true:=decide_eq_true hc0
  clear hcap h40 hc0
  go_enter Tryz.func4,Tryz.ntmps4
  go_wp2_with fail
  refine HHe.out.mono ?_
  rintro e w1 ⟨rfl,hb⟩
  have HB:Hid (Below w.heap.size w w1):=hb
  clear hb
  go_wp2_with fail
  go_ret
  exact ⟨rfl,HB.out⟩
 have d2:decide (cut < 0)=false:=decide_eq_false hc0
 by_cases hcn:(n:Int) < cut
 ·
  have d3:decide ((n:Int) < cut)=true:=decide_eq_true hcn
  clear hcap h40 hc0 hcn
  go_enter Tryz.func4,Tryz.ntmps4
  go_wp2_with fail
  refine HHe.out.mono ?_
  rintro e w1 ⟨rfl,hb⟩
  have HB:Hid (Below w.heap.size w w1):=hb
  clear hb
  go_wp2_with fail
  go_ret
  exact ⟨rfl,HB.out⟩
 have d3:decide ((n:Int) < cut)=false:=decide_eq_false hcn
 have hn1:n ≤ 40:=by omega
 clear hcap h40 hc0 hcn
 go_enter Tryz.func4,Tryz.ntmps4
 go_wp2_with fail
 refine HHe.out.mono ?_
 rintro e w1 ⟨rfl,hb⟩
 have HB1:Hid (Below w.heap.size w w1):=hb
 clear hb HHe
 go_wp2_with fail
 go_loopw [6,7,8] (fun own ah i wr=>∃ k A m:Nat,∃ ov xs,k ≤ n ∧ ov=own ∧ i=.int .i64 k ∧ ah=.int .i64 A ∧ A ≤ m ∧ m ≤ k ∧ xs.length=m ∧ Below w.heap.size w wr ∧ GR wr w.heap.size ov xs ∧ ∀ x ∈ xs,x.length ≤ 900) (fun _ _ i _=>n - (intOf i).toNat)
 case atStart=>exact ⟨0,0,0,_,[],Nat.zero_le _,rfl,rfl,rfl,Nat.le_refl _,Nat.le_refl _,rfl,HB1.out,Zi _ _,fun x hx=>by simp at hx⟩
 case round=>
  obtain ⟨k,A,m,ov,xs,hk,rfl,rfl,rfl,hA,hm,hxs,hb,hown,hsh⟩:=hrel
  have HR:Hid (Below w.heap.size w wr ∧ GR wr w.heap.size ov xs ∧ (∀ x ∈ xs,x.length ≤ 900) ∧ xs.length=m):=⟨hb,hown,hsh,hxs⟩
  by_cases hkn:k < n
  ·
   obtain ⟨x,hx,hxm⟩:=Ai ls k (by rw [HN.out];exact hkn)
   obtain ⟨b,off,rfl,hat⟩:=HL.out k x hx
   obtain ⟨c0,c1,na,ncap,c2,hln⟩:=hat.below hb
   obtain ⟨x1,x2,x3⟩:=HX.out x hxm
   obtain ⟨sw,hsw⟩:∃ sw:ByteArray,⟨x.wd.toArray⟩=sw:=⟨_,rfl⟩
   obtain ⟨sk,hsk⟩:∃ sk:ByteArray,⟨x.kd.toArray⟩=sk:=⟨_,rfl⟩
   have e0:Ah x.wd=.string sw:=by rw [← hsw]
   have e1:Ah x.kd=.string sk:=by rw [← hsk]
   have z0:sw.size=x.wd.length:=by rw [← hsw];show x.wd.toArray.size=_;simp
   have z1:sk.size=x.kd.length:=by rw [← hsk];show x.kd.toArray.size=_;simp
   rw [e0] at c0
   rw [e1] at c1
   obtain ⟨l0,hl0⟩:∃ l0,x.wd.length=l0:=⟨_,rfl⟩
   obtain ⟨l1,hl1⟩:∃ l1,x.kd.length=l1:=⟨_,rfl⟩
   obtain ⟨l2,hl2⟩:∃ l2,x.nm.length=l2:=⟨_,rfl⟩
   rw [hl0] at z0 x1
   rw [hl1] at z1 x2
   rw [hl2] at c2 x3
   by_cases q2:20 < l2
   ·
    have f2:decide ((20:Int) < (l2:Int))=true:=decide_eq_true (by omega)
    clear hb hown hsh hxs hx hxm hat hln hsw hsk e0 e1 hl0 hl1 hl2 q2
    go_wp2_with fail
    go_ret
    exact ⟨rfl,HR.out.1⟩
   have f2:decide ((20:Int) < (l2:Int))=false:=decide_eq_false (by omega)
   by_cases q0:60 < l0
   ·
    have f0:decide ((60:Int) < (l0:Int))=true:=decide_eq_true (by omega)
    clear hb hown hsh hxs hx hxm hat hln hsw hsk e0 e1 hl0 hl1 hl2 q2 q0
    go_wp2_with fail
    go_ret
    exact ⟨rfl,HR.out.1⟩
   have f0:decide ((60:Int) < (l0:Int))=false:=decide_eq_false (by omega)
   by_cases q1:60 < l1
   ·
    have f1:decide ((60:Int) < (l1:Int))=true:=decide_eq_true (by omega)
    clear hb hown hsh hxs hx hxm hat hln hsw hsk e0 e1 hl0 hl1 hl2 q2 q0 q1
    go_wp2_with fail
    go_ret
    exact ⟨rfl,HR.out.1⟩
   have f1:decide ((60:Int) < (l1:Int))=false:=decide_eq_false (by omega)
   obtain ⟨o,ho⟩:=SK x
   have HLo:Hid (Calls Tryz.prog 10 #[.agg #[.string sw,.string sk,.slice na l2 ncap]] wr fun e w'=>VQ o wr e w'):=by
    have h:=WA x na ncap wr hln.1 (by omega) (by omega) (by omega) o ho
    rw [e0,e1,hl2] at h
    exact h
   have HLn:Hid (∀ y,o=some y → y.length ≤ 900):=fun y hy=>by
    subst hy
    have:=Y4 ho (by omega) (by omega) (by omega)
    omega
   clear hb hown hsh hxs hx hxm hat hln hsw hsk e0 e1 hl0 hl1 hl2 q2 q0 q1 ho
   go_wp2_with fail
   refine HLo.out.mono ?_
   rintro e w3 ⟨rfl,hb3⟩
   have hbw:Below w.heap.size w w3:=HR.out.1.trans (hb3.mono HR.out.1.size)
   have HB3:Hid (Below w.heap.size w w3 ∧ GR w3 w.heap.size ov xs):=⟨hbw,HR.out.2.1.below hb3⟩
   cases o with
   | none=>
    clear hb3 hbw HLo HLn
    by_cases hkc:(k:Int) < cut
    ·
     have dk:decide ((k:Int) < cut)=true:=decide_eq_true hkc
     obtain ⟨oa,ocap,hov,-⟩:=HB3.out.2.value
     rw [HR.out.2.2.2] at hov
     subst hov
     clear hkc
     go_wp2_with fail
     go_roundw
     case rel=>exact ⟨k+1,m,m,_,xs,by omega,rfl,by go_num,rfl,Nat.le_refl _,by omega,HR.out.2.2.2,HB3.out.1,HB3.out.2,HR.out.2.2.1⟩
     case measure=>simp [intOf];omega
    ·
     have dk:decide ((k:Int) < cut)=false:=decide_eq_false hkc
     clear hkc
     go_wp2_with fail
     go_roundw
     case rel=>exact ⟨k+1,A,m,ov,xs,by omega,rfl,by go_num,rfl,hA,by omega,HR.out.2.2.2,HB3.out.1,HB3.out.2,HR.out.2.2.1⟩
     case measure=>simp [intOf];omega
   | some y=>
    have HF:Hid (∀ g5 cap5 w5,Uw (w3.alloc (.cells #[Ah y] 9)) w.heap.size ov xs y g5 cap5 w5 → Below w.heap.size w w5 ∧ GR w5 w.heap.size (.slice (some ⟨g5,0,none⟩) (m+1) cap5) (xs ++ [y]) ∧ ∀ x ∈ xs ++ [y],x.length ≤ 900):=fun g5 cap5 w5 hon=>by
     obtain ⟨q1,q2,q3,q4⟩:=hon
     rw [HR.out.2.2.2] at q1
     have hba:=hbw.alloc hbw.size (.cells #[Ah y] 9)
     refine ⟨hba.trans (q2.below hba.size fun j hj=>(AX HB3.out.2 hj).1),q1,fun z hz=>?_⟩
     rcases List.mem_append.1 hz with hz | hz
     · exact HR.out.2.2.1 z hz
     · rw [List.mem_singleton.1 hz];exact HLn.out y rfl
    have HOw:Hid (GR (w3.alloc (.cells #[Ah y] 9)) w.heap.size ov xs ∧ w.heap.size ≤ (w3.alloc (.cells #[Ah y] 9)).heap.size ∧ xs.length=m ∧ (w3.alloc (.cells #[Ah y] 9)).cell? ⟨w3.heap.size,0,none⟩=some (Ah y)):=⟨HB3.out.2.below ((Below.refl _ _).alloc (Nat.le_refl _) _),(hbw.alloc hbw.size _).size,HR.out.2.2.2,by rw [World.cell?_alloc_at _ _ _ _ rfl];rfl⟩
    have HLe:Hid ((xs ++ [y]).length=m+1):=by show _=_;rw [List.length_append,HR.out.2.2.2];rfl
    clear hb3 hbw HLo HLn
    by_cases hkc:(k:Int) < cut
    ·
     have dk:decide ((k:Int) < cut)=true:=decide_eq_true hkc
     clear hkc
     go_wp2_with (at_builtin;go_must (refine wpList_append_text _ rfl rfl _ _ rfl w.heap.size ov xs y rfl HOw.out.1 HOw.out.2.1 (by rw [HOw.out.2.2.1];omega) ⟨w3.heap.size,0,none⟩ 1 rfl HOw.out.2.2.2 ?_;intro g5 cap5 w5 hon;have HF5:=(show Hid (Below w.heap.size w w5 ∧ GR w5 w.heap.size (.slice (some ⟨g5,0,none⟩) (m+1) cap5) (xs ++ [y]) ∧ ∀ x ∈ xs ++ [y],x.length ≤ 900) from HF.out g5 cap5 w5 hon);rw [HOw.out.2.2.1];clear hon))
     go_roundw
     case rel=>exact ⟨k+1,m+1,m+1,_,xs ++ [y],by omega,rfl,by go_num,by go_num,Nat.le_refl _,by omega,HLe.out,HF5.out.1,HF5.out.2.1,HF5.out.2.2⟩
     case measure=>simp [intOf];omega
    ·
     have dk:decide ((k:Int) < cut)=false:=decide_eq_false hkc
     clear hkc
     go_wp2_with (at_builtin;go_must (refine wpList_append_text _ rfl rfl _ _ rfl w.heap.size ov xs y rfl HOw.out.1 HOw.out.2.1 (by rw [HOw.out.2.2.1];omega) ⟨w3.heap.size,0,none⟩ 1 rfl HOw.out.2.2.2 ?_;intro g5 cap5 w5 hon;have HF5:=(show Hid (Below w.heap.size w w5 ∧ GR w5 w.heap.size (.slice (some ⟨g5,0,none⟩) (m+1) cap5) (xs ++ [y]) ∧ ∀ x ∈ xs ++ [y],x.length ≤ 900) from HF.out g5 cap5 w5 hon);rw [HOw.out.2.2.1];clear hon))
     go_roundw
     case rel=>exact ⟨k+1,A,m+1,_,xs ++ [y],by omega,rfl,by go_num,rfl,by omega,by omega,HLe.out,HF5.out.1,HF5.out.2.1,HF5.out.2.2⟩
     case measure=>simp [intOf];omega
  ·
   obtain rfl:k=n:=by omega
   obtain ⟨oa,ocap,hov,hol,hoc,hoz⟩:=HR.out.2.1.whole
   rw [hxs] at hov hoc
   subst hov
   have HRn:Hid (∀ W a' cap',Below w.heap.size w W → Bp W a' xs → Calls Tryz.prog 7 #[.slice a' m cap'] W fun e w'=>Mo (fun _ _=>True) (fun _ _=>True) xs W e w'):=fun W a' cap' hW hL=>by
    have:=Hu a' cap' xs W ad (HEn.out.below hW) hL (by rw [hxs];omega) hsh (fun _ _=>True) (fun _ _=>True) trivial (fun i x s _ _ _ hex=>by
     obtain ⟨out,s',h⟩:=hex
     exact ⟨out,s',h,trivial,trivial⟩)
    rw [hxs] at this
    exact this
   have HRn2:Hid (∀ W outs s',Below w.heap.size w W → Bp W oa xs → EM Cb xs outs s' → Calls Tryz.prog 7 #[.slice oa A ocap] W fun e w'=>Mo (fun i o=>outs[i]? = some o) (Ic xs outs) (xs.take A) W e w'):=fun W outs s' hW hL hsa=>by
    have:=Hu oa ocap (xs.take A) W ad (HEn.out.below hW) (Nv A hL) (by rw [List.length_take,hxs];omega) (fun x hx=>hsh x (List.mem_of_mem_take hx)) (fun i o=>outs[i]? = some o) (Ic xs outs) (SY hsa) (fun i x s hi hg _ _=>VC hi hg)
    rw [List.length_take,hxs,Nat.min_eq_left hA] at this
    exact this
   have HO:Hid (Bp wr oa xs ∧ (oa=none → xs=[] ∧ ocap=0) ∧ xs.length=m):=⟨hol,hoz,hxs⟩
   have hs1:=NS oa m ocap A (by omega)
   clear hb hown hsh hol hoz hxs
   go_wp2_with (at_builtin;go_must (refine Kq _ rfl rfl _ _ rfl oa ocap m xs HO.out.2.2 rfl rfl HO.out.1 HO.out.2.1 (by omega) ?_;intro a4 k4 w4 h4;have HB4:=(show Hid (Below w.heap.size w w4 ∧ Bp w4 a4 xs ∧ Bp w4 oa xs) from ⟨HR.out.1.trans (h4.2.mono HR.out.1.size),h4.1,HO.out.1.below h4.2⟩);clear h4))
   refine (HRn.out w4 a4 k4 HB4.out.1 HB4.out.2.1).mono ?_
   rintro e w5 ⟨O,outs,s',he5,hlo,-,-,hsa,hb5⟩
   rw [HO.out.2.2] at he5
   subst he5
   have HB5:Hid (Below w.heap.size w w5 ∧ Bp w5 oa xs ∧ Bp w5 (some ⟨O,0,none⟩) outs ∧ EM Cb xs outs s'):=⟨HB4.out.1.trans (hb5.mono HB4.out.1.size),HB4.out.2.2.below hb5,hlo,hsa⟩
   clear hb5 hlo hsa
   go_wp2_with fail
   refine (HRn2.out w5 outs s' HB5.out.1 HB5.out.2.1 HB5.out.2.2.2).mono ?_
   rintro e w6 ⟨O2,outs2,s2,he6,hlo2,htd,-,hsa2,hb6⟩
   rw [List.length_take,HO.out.2.2,Nat.min_eq_left hA] at he6
   subst he6
   have hol2:outs2.length=A:=by rw [Gh hsa2,List.length_take,HO.out.2.2,Nat.min_eq_left hA]
   have HST:Hid (Calls Tryz.prog 11 #[.slice (some ⟨O,0,none⟩) A m,.slice (some ⟨O2,0,none⟩) A A] w6 fun e w'=>e=.returned (.bool true) ∧ Below w6.heap.size w6 w'):=by
    have h1:Bp w6 (some ⟨O,0,none⟩) outs2:=by
     have:=Nv A (HB5.out.2.2.1.below hb6)
     rw [Wq hol2 htd] at this
     exact this
    have:=JD (some ⟨O,0,none⟩) (some ⟨O2,0,none⟩) m A outs2 w6 h1 hlo2 (by omega)
    rw [hol2] at this
    exact this
   have HB6:Hid (Below w.heap.size w w6):=HB5.out.1.trans (hb6.mono HB5.out.1.size)
   have hs2:=NS (some ⟨O,0,none⟩) m m A hA
   have hmm:((m:Int) == (m:Int))=true:=by simp
   have hAA:((A:Int) == (A:Int))=true:=by simp
   clear hb6 hlo2 htd hsa2 hol2
   go_wp2_with fail
   refine HST.out.mono ?_
   rintro e w7 ⟨rfl,hb7⟩
   have HB7:Hid (Below w.heap.size w w7):=HB6.out.trans (hb7.mono HB6.out.size)
   clear hb7
   go_wp2_with fail
   go_ret
   exact ⟨rfl,HB7.out⟩
end Go.Proofs.YtipdclphpkgceaaGreatDoor

namespace Go.Proofs.YtipdclphpkgceaaGreatDoor
open Go.ChangeShapes Go.WideShapes Go.ChangeAt Go.RowKit Go.Shelf
theorem O0 {H:Type} {enc:TypeId × Value → H} {a:Assume} {C:Checked} {os:Os} {f:FuncId} {fn:Func} {s:ChangeSpec} {conds:List PathCond} {apart fresh handsOn again:Bool} {X:World → Array Value → Prop}
  (hX:∀ (w w':World) (args:Array Value),w.heap=w'.heap → X w args → X w' args)
  (own:ownKnob C.prog.godebug=none) (started:os.Started) (noInit:C.prog.inits.idxOf? f=none) (hfn:C.prog.funcs[f]? = some fn)
  (witness:∃ (w:World) (tape:Tape) (i:Input),w.os=os ∧ (w.forCall tape i).Shaped C.prog ∧ i.vars=[] ∧ Input.okWide C.prog (w.forCall tape i) .any w.heap.size f i ∧
   ((s.pre enc C.prog fn conds apart (w.forCall tape i).memory i.args ∧ X (w.forCall tape i).memory i.args) ∧ sizedMet enc C.prog fn (OpenSpec.ofChange s) apart (w.forCall tape i).memory i.args) ∧ a.holds C.prog (lone (Frame.enter C.prog f i.args .normal) [] (w.forCall tape i)))
  (walk:∀ (W:World) (base:Nat) (args:Array Value) (ds gs:List (DataW H)) (before:List MemPlace),
   (∀ (j:Nat) t v,fn.params[j]? = some t → args[j]? = some v → Value.okWide C.prog W .any base t v) →
   DataW.Whole enc C.prog fn.params.toList s.vars apart W args.toList ds gs before →
   conds.all (PathCond.test C.prog ⟨fn.params.toList,ds,s.plain.varTypes C.prog,gs⟩)=true → X W args → W.ShapedOpen C.prog →
   Calls C.prog f args W fun e W'=>∃ v,e=.returned v ∧ s.post enc C.prog fn apart fresh handsOn again W args v W') :
  ReturnsInHanded a C os f .any (fun w args=>(s.pre enc C.prog fn conds apart w args ∧ X w args) ∧ sizedMet enc C.prog fn (OpenSpec.ofChange s) apart w args) (s.post enc C.prog fn apart fresh handsOn again):=by
 refine returnsInHanded_of_calls own started noInit witness fun w tape i _ hsh _ hok hpre _=>?_
 obtain ⟨_,_,_,fn',hfn',_,_,_,_,hval⟩:=hok
 obtain rfl:fn'=fn:=Option.some.inj (hfn'.symm.trans hfn)
 obtain ⟨⟨⟨ds,gs,before,hw,hc⟩,hx⟩,-⟩:=hpre
 refine (walk (w.forCall tape i) w.heap.size i.args ds gs before hval (DataW.Whole.of_heap (w':=w.forCall tape i) (by rfl) hw) hc (hX _ _ _ (by rfl) hx) hsh).mono fun e W' ⟨v,he,hp⟩=>?_
 subst he
 exact ChangeSpec.post_blind hp
theorem We (os:Os) (started:os.Started) (H:Type) (enc:TypeId × Value → H) :
  ReturnsInHanded {} Tryz.checked os 4 .any (fun w args=>(Rows.scriptAgainSpec.pre enc Tryz.prog Tryz.f4 [] false w args ∧ laidMetH Tryz.prog Rows.scriptAgainRow.laid w) ∧ sizedMet enc Tryz.prog Tryz.f4 (OpenSpec.ofChange Rows.scriptAgainSpec) false w args)
   (Rows.scriptAgainSpec.post enc Tryz.prog Tryz.f4 false true false false):=by
 refine O0 (C:=Tryz.checked) (X:=fun w _=>laidMetH Tryz.prog Rows.scriptAgainRow.laid w) (fun _ _ _ hh h=>h.of_heap hh) Tryz.own started (by kernel_rfl) Tryz.func4
  (ChangeSpec.witness_shaped (enc:=enc) (C:=Tryz.checked) (os:=os) (X:=fun w _=>laidMetH Tryz.prog Rows.scriptAgainRow.laid w) false (IJ Tryz.prog os Rows.scriptAgainRow.laid) #[.slice none 0 0,.int .i64 0] 8 (Xa _ _) (World.shaped_of_ZipB (by kernel_rfl) (by kernel_rfl)) (by kernel_rfl) (by kernel_rfl) (by kernel_rfl) (Ur os _)) ?_
 intro W base args ds gs before hval0 hW _ hL hsh
 have hval:∀ (j:Nat) t v,Tryz.f4.params[j]? = some t → args[j]? = some v → Value.okWide Tryz.prog W .any base t v:=hval0
 have hW':=hW
 obtain ⟨p,q,hA0,hV,rfl,hfz,hnd⟩:=hW
 have hA:DataW.TrodAll enc Tryz.prog W 0 (fun _=>true) true Tryz.f4.params.toList args.toList ds p:=hA0
 rw [Tryz.params4] at hA hval
 obtain ⟨v0,v1,d0,d1,p0,p1,rfl,rfl,rfl,h0,h1⟩:=trodAll_two hA
 obtain ⟨rfl,rfl⟩:=trodVars_none hV
 have lt0:∀ x ∈ p0,x.block < W.heap.size:=by obtain ⟨m,hm⟩:=h0;exact DataW.trod_lt m _ _ _ hm
 have lt1:∀ x ∈ p1,x.block < W.heap.size:=by obtain ⟨m,hm⟩:=h1;exact DataW.trod_lt m _ _ _ hm
 have k0:=h0
 have k1:=h1
 obtain ⟨a0,cap0,l0,rfl,hl0,hc0,hm0,hx0⟩:=Xq (hval 0 31 v0 rfl rfl) h0
 obtain ⟨x1,rfl,_,_,_⟩:=open_int Tryz.underlying3 (hval 1 3 v1 rfl rfl) h1
 obtain ⟨ad,he⟩:=QV hL hsh
 refine (L8 a0 cap0 l0 x1 W ad he hl0 (by simp [maxLen] at hm0;omega) (fun x hx=>by have:=hx0 x hx;simp [maxLen] at this;omega)).mono fun e W' ⟨he',bel⟩=>?_
 subst he'
 exact ⟨_,rfl,_,_,_,[],_,[],hW',trodAll_mk1 (shut_bool Tryz.underlying4 _),
  (trodAll_cons_mk (Below.trod Tryz.laidOut (by kernel_rfl) (of_decide_eq_true (by kernel_rfl)) k0 bel lt0) (trodAll_cons_mk (Below.trod Tryz.laidOut (by kernel_rfl) (of_decide_eq_true (by kernel_rfl)) k1 bel lt1) trodAll_mk0)),rfl,bel.frame _,fun h=>by cases h⟩
theorem aP:Rows.ScriptAgainSaid:=
 OpenClaim.holds_of_wide 4 Tryz.f4 rfl rfl rfl rfl rfl rfl rfl ⟨rfl,rfl,rfl,rfl,rfl⟩ rfl rfl rfl rfl rfl (by kernel_rfl) Tryz.func4 (by kernel_rfl)
  (of_decide_eq_true (by kernel_rfl)) (by unfold Func.isWrapper;rw [if_neg (of_decide_eq_false (by kernel_rfl))];exact ⟨rfl,rfl⟩)
  (fun os started H enc _=>We os started H enc)
theorem scriptAgain_holds:Rows.ScriptAgainCardSaid:=
 Claim7.holds_tied_plain_at .later [] Rows.scriptAgainCard.laidKinds true Rows.scriptAgainCard.stood.harness true
  aP (fun _ h=>by cases h) (by kernel_rfl) (fun _ h=>by cases h) scriptAgain_row_tie rfl ⟨rfl,rfl⟩ (by kernel_rfl) rfl
  (fun f fn hf hfn=>by
   obtain rfl:f=4:=Option.some.inj ((show Tryz.prog.funcNamed Rows.scriptAgainRow.func=some 4 by kernel_rfl).symm.trans hf) |>.symm
   obtain rfl:fn=Tryz.f4:=(Option.some.inj (Tryz.func4.symm.trans hfn)).symm
   exact ⟨by kernel_rfl,fun j t ht=>by
    rw [Tryz.params4] at ht
    have h3:t=31 ∨ t=3:=by
     match j,ht with
     | 0,ht=>exact .inl (by simpa using ht.symm)
     | 1,ht=>exact .inr (by simpa using ht.symm)
     | j+2,ht=>simp at ht
    rcases h3 with rfl | rfl
    · exact (show Tryz.prog.wantsStandIn 31=false by kernel_rfl)
    · exact (show Tryz.prog.wantsStandIn 3=false by kernel_rfl)⟩)
  (by kernel_rfl)
#print axioms scriptAgain_holds
end Go.Proofs.YtipdclphpkgceaaGreatDoor
