/- Own facts, put together: no statement of its own. -/
import Derived.Test.YtbokomeejmnnoaaDoorD33
import Derived.Test.YtbokomeejmnnoaaDoorD32
import Derived.Test.YtbokomeejmnnoaaDoorD19
set_option maxHeartbeats 16000000

set_option maxRecDepth 100000
set_option linter.unusedSimpArgs false
namespace Go.Proofs.YtbokomeejmnnoaaDoor
open Go.Conc Go.RowKit Go.Conc.Lib Go.ConcR.Gen
open Go.ConcN (WgLive st_flag st_waiters)
open Go.ConcR (KK WgAt stA smA rd wr mk)
section
variable {P:Program} {L:WgLink} {Wg:Nat} {b₀:Frame} {a₀:Act} {ops₀:Array Oper} {i₀:Nat} {rest₀:List Nat} {k₀:List Item} {cs:List Frame}
theorem wait_round (H:WgLib P L) (g:Goroutine) (h:AnchW L Wg (b₀.at a₀ (.inRegion ops₀ (i₀ :: rest₀) :: k₀)) cs g) :
  WTo P true (WgLive L.tWg Wg) (EvS Wg) (AtW10 P L.tWg Wg (AnchW L Wg (b₀.at a₀ (.inRegion ops₀ (i₀ :: rest₀) :: k₀)) cs) (fun g=>g=G (b₀.at (a₀.put ((ops₀[i₀]?).bind (·.dst)) (.tuple #[])) (.inRegion ops₀ rest₀ :: k₀)) cs)) g:=by
 lib_facts
 obtain ⟨T,rfl,hT84,t0⟩:=h
 obtain ⟨v0,v1,v2,v3,v4,v5,v6,v7,v8,v9,v10,v11,v12,v13,v14,v15,v16,v17,v18,v19,v20,v21,v22,v23,v24,v25,v26,v27,v28,v29,v30,v31,v32,v33,v34,v35,v36,v37,v38,v39,v40,v41,v42,v43,v44,v45,v46,v47,v48,v49,v50,v51,v52,v53,v54,v55,v56,v57,v58,v59,v60,v61,v62,v63,v64,v65,v66,v67,v68,v69,v70,v71,v72,v73,v74,v75,v76,v77,v78,v79,v80,v81,v82,v83,rfl⟩:=array84 T hT84
 simp only [List.getElem?_toArray,List.getElem?_cons_zero,Option.some.injEq] at t0
 subst t0
 simp only [Go.ConcR.Gen.L7,body_wait,waitFn,Option.getD_some]
 refine WTo.c rfl (fun _=>stepG_block) ?_
 refine WTo.c rfl (fun _=>stepG_seq) ?_
 (refine WTo.c rfl (fun _=>stepG_region) ?_;simp only [List.size_toArray,List.length_cons,List.length_nil,Nat.reduceAdd,Nat.zero_add,List.range,List.range.loop])
 iterate 3 (refine WTo.value _ rfl rfl (by k_ne) (fun _=>by go_simp <;> (try w_num) <;> rfl) (fun _=>by simp [go_sem, *]) ?_;walk_nrm)
 refine WTo.call rfl rfl (by k_ne) rfl H.f_uLoad (nm_uLoad L) rfl ?_
 walk_nrmf uLoadFn
 refine WTo.c rfl (fun _=>stepG_seq) ?_
 (refine WTo.c rfl (fun _=>stepG_region) ?_;simp only [List.size_toArray,List.length_cons,List.length_nil,Nat.reduceAdd,Nat.zero_add,List.range,List.range.loop])
 (refine WTo.value _ rfl rfl (by k_ne) (fun _=>by go_simp <;> (try w_num) <;> rfl) (fun _=>by simp [go_sem, *]) ?_;walk_nrm)
 refine WTo.c rfl (fun _=>stepG_region_end) ?_
 refine WTo.c rfl (fun _=>stepG_seq) ?_
 (refine WTo.c rfl (fun _=>stepG_region) ?_;simp only [List.size_toArray,List.length_cons,List.length_nil,Nat.reduceAdd,Nat.zero_add,List.range,List.range.loop])
 iterate 3 (refine WTo.value _ rfl rfl (by k_ne) (fun _=>by go_simp <;> (try w_num) <;> rfl) (fun _=>by simp [go_sem, *]) ?_;walk_nrm)
 refine WTo.stop ⟨rfl,fun w v hv hw=>?_⟩
 rcases Nat.eq_zero_or_pos v with rfl | hvp
 ·
  replace hw:WgAt L.tWg Wg w 0 0:=by simpa using hw
  refine ⟨_,stepG_load_atomic (v:=0) rfl rfl (by k_ne) rfl H.f_loadU64 (x_loadU64_n L) (x_loadU64_b L) (x_loadU64_x L) .u64 (x_loadU64_f L) rfl hw.cellSt,fun _=>?_,fun h=>absurd rfl h⟩
  clear hw
  walk_nrm
  show WTo P true (WgLive L.tWg Wg) (EvS Wg) _ _
  (refine WTo.value _ rfl rfl (by k_ne) (fun _=>by go_simp <;> (try w_num) <;> rfl) (fun _=>by simp [go_sem, *]) ?_;walk_nrm)
  refine WTo.c rfl (fun _=>stepG_region_end) ?_
  refine WTo.c rfl (fun _=>stepG_ret') ?_
  (refine WTo.leave1 rfl rfl H.f_uLoad rfl ?_;walk_nrm)
  (refine WTo.value _ rfl rfl (by k_ne) (fun _=>by go_simp <;> (try w_num) <;> rfl) (fun _=>by simp [go_sem, *]) ?_;walk_nrm)
  refine WTo.c rfl (fun _=>stepG_region_end) ?_
  refine WTo.c rfl (fun _=>stepG_seq) ?_
  (refine WTo.c rfl (fun _=>stepG_region) ?_;simp only [List.size_toArray,List.length_cons,List.length_nil,Nat.reduceAdd,Nat.zero_add,List.range,List.range.loop])
  iterate 4 (refine WTo.value _ rfl rfl (by k_ne) (fun _=>by go_simp <;> (try w_num) <;> rfl) (fun _=>by simp [go_sem, *]) ?_;walk_nrm)
  refine WTo.c rfl (fun _=>stepG_region_end) ?_
  refine WTo.c rfl (fun _=>stepG_seq) ?_
  (refine WTo.c rfl (fun _=>stepG_region) ?_;simp only [List.size_toArray,List.length_cons,List.length_nil,Nat.reduceAdd,Nat.zero_add,List.range,List.range.loop])
  iterate 4 (refine WTo.value _ rfl rfl (by k_ne) (fun _=>by go_simp <;> (try w_num) <;> rfl) (fun _=>by simp [go_sem, *]) ?_;walk_nrm)
  refine WTo.c rfl (fun _=>stepG_region_end) ?_
  iterate 2 (refine WTo.c rfl (fun _=>stepG_seq) ?_)
  (refine WTo.c rfl (fun _=>stepG_region) ?_;simp only [List.size_toArray,List.length_cons,List.length_nil,Nat.reduceAdd,Nat.zero_add,List.range,List.range.loop])
  iterate 2 (refine WTo.value _ rfl rfl (by k_ne) (fun _=>by go_simp <;> (try w_num) <;> rfl) (fun _=>by simp [go_sem, *]) ?_;walk_nrm)
  refine WTo.c rfl (fun _=>stepG_region_end) ?_
  (refine WTo.c rfl (fun _=>stepG_cond (t:=true) (by first | rfl | (simp [Act.eval];omega))) ?_;simp only [if_true,if_false,Bool.false_eq_true,↓reduceIte])
  refine WTo.c rfl (fun _=>stepG_seq) ?_
  (refine WTo.c rfl (fun _=>stepG_cond (t:=true) (by first | rfl | (simp [Act.eval];omega))) ?_;simp only [if_true,if_false,Bool.false_eq_true,↓reduceIte])
  refine WTo.c rfl (fun _=>stepG_seq) ?_
  (refine WTo.c rfl (fun _=>stepG_region) ?_;simp only [List.size_toArray,List.length_cons,List.length_nil,Nat.reduceAdd,Nat.zero_add,List.range,List.range.loop])
  refine WTo.stop ⟨rfl,_,fun _ _=>stepG_mark0 .enable (by simp) rfl rfl (by k_ne) rfl H.f_enable (x_enable_n L) (x_enable_b L) (x_enable_x L) (x_enable_f L),?_⟩
  walk_nrm
  show WTo P true (WgLive L.tWg Wg) (EvS Wg) _ _
  refine WTo.c rfl (fun _=>stepG_region_end) ?_
  (refine WTo.c rfl (fun _=>stepG_region) ?_;simp only [List.size_toArray,List.length_cons,List.length_nil,Nat.reduceAdd,Nat.zero_add,List.range,List.range.loop])
  (refine WTo.value _ rfl rfl (by k_ne) (fun _=>by go_simp <;> (try w_num) <;> rfl) (fun _=>by simp [go_sem, *]) ?_;walk_nrm)
  refine WTo.valueF (.pointer (some ⟨Wg,0,none⟩)) rfl rfl (by k_ne) (fun w hw=>?_) (fun w hw=>?_) ?_
  ·
   have hcv:=run_convert_to_unsafe (P:=P) H.underlying_tWgP H.underlying_tUP H.room_tWg (Go.ConcN.Gen.WgLive.cell0 hw).choose_spec
   go_simp
  ·
   have hce:=fun es=>events_convert_to_unsafe (P:=P) H.underlying_tWgP H.underlying_tUP H.room_tWg (Go.ConcN.Gen.WgLive.cell0 hw).choose_spec es
   simp [go_sem, *]
  walk_nrm
  refine WTo.stop ⟨rfl,_,fun _ _=>stepG_markAt .acquire (by simp) rfl rfl (by k_ne) rfl H.f_acquire (x_acquire_n L) (x_acquire_b L) (x_acquire_x L) (x_acquire_f L) (by simp [Act.eval,stA]),?_⟩
  walk_nrm
  show WTo P true (WgLive L.tWg Wg) (fun _=>False) _ _
  refine WTo.c rfl (fun _=>stepG_region_end) ?_
  iterate 2 (refine WTo.c rfl (fun _=>stepG_seq) ?_)
  (refine WTo.c rfl (fun _=>stepG_region) ?_;simp only [List.size_toArray,List.length_cons,List.length_nil,Nat.reduceAdd,Nat.zero_add,List.range,List.range.loop])
  iterate 8 (refine WTo.value _ rfl rfl (by k_ne) (fun _=>by go_simp <;> (try w_num) <;> rfl) (fun _=>by simp [go_sem, *]) ?_;walk_nrm)
  iterate 2 (refine WTo.skip rfl rfl ?_;walk_nrm)
  (refine WTo.value _ rfl rfl (by k_ne) (fun _=>by go_simp <;> (try w_num) <;> rfl) (fun _=>by simp [go_sem, *]) ?_;walk_nrm)
  refine WTo.c rfl (fun _=>stepG_region_end) ?_
  (refine WTo.c rfl (fun _=>stepG_cond (t:=false) (by first | rfl | (simp [Act.eval];omega))) ?_;simp only [if_true,if_false,Bool.false_eq_true,↓reduceIte])
  refine WTo.c rfl (fun _=>stepG_skip) ?_
  refine WTo.c rfl (fun _=>stepG_ret') ?_
  refine WTo.leave0 rfl rfl H.f_wait rfl ?_
  exact WTo.stop rfl
 ·
  obtain ⟨S,hS⟩:∃ S:Int,(v:Int) * KK=S:=⟨_,rfl⟩
  have a1:S / 4294967296=(v:Int):=by rw [← hS];simp only [KK];omega
  have b1:bits .and .u64 S 2147483648=0:=by rw [← hS];have:=st_flag v 0 (by omega) (by omega);simpa [KK] using this
  have b2:bits .and .u64 S 2147483647=0:=by rw [← hS];have:=st_waiters v 0 (by omega) (by omega);simpa [KK] using this
  have c1:IntKind.i32.wrap (v:Int)=(v:Int):=by rw [IntKind.wrap_i32];omega
  have w1:IntKind.u64.wrap (S+1)=S+1:=by rw [IntKind.wrap_u64,← hS];simp only [KK];omega
  have q3:decide ((v:Int) < 0)=false:=decide_eq_false (by omega)
  have q4:decide (0 < (v:Int))=true:=decide_eq_true (by omega)
  have q5:((v:Int) == 0)=false:=by simp;omega
  have q6:decide ((v:Int)=0)=false:=decide_eq_false (by omega)
  rw [hS] at hw
  refine ⟨_,stepG_load_atomic (v:=S) rfl rfl (by k_ne) rfl H.f_loadU64 (x_loadU64_n L) (x_loadU64_b L) (x_loadU64_x L) .u64 (x_loadU64_f L) rfl hw.cellSt,fun h0=>absurd h0 (by omega),fun _=>?_⟩
  clear hw
  walk_nrm
  show WTo P true (WgLive L.tWg Wg) (EvS Wg) _ _
  (refine WTo.value _ rfl rfl (by k_ne) (fun _=>by go_simp <;> (try w_num) <;> rfl) (fun _=>by simp [go_sem, *]) ?_;walk_nrm)
  refine WTo.c rfl (fun _=>stepG_region_end) ?_
  refine WTo.c rfl (fun _=>stepG_ret') ?_
  (refine WTo.leave1 rfl rfl H.f_uLoad rfl ?_;walk_nrm)
  (refine WTo.value _ rfl rfl (by k_ne) (fun _=>by go_simp <;> (try w_num) <;> rfl) (fun _=>by simp [go_sem, *]) ?_;walk_nrm)
  refine WTo.c rfl (fun _=>stepG_region_end) ?_
  refine WTo.c rfl (fun _=>stepG_seq) ?_
  (refine WTo.c rfl (fun _=>stepG_region) ?_;simp only [List.size_toArray,List.length_cons,List.length_nil,Nat.reduceAdd,Nat.zero_add,List.range,List.range.loop])
  iterate 4 (refine WTo.value _ rfl rfl (by k_ne) (fun _=>by go_simp <;> (try w_num) <;> rfl) (fun _=>by simp [go_sem, *]) ?_;walk_nrm)
  refine WTo.c rfl (fun _=>stepG_region_end) ?_
  refine WTo.c rfl (fun _=>stepG_seq) ?_
  (refine WTo.c rfl (fun _=>stepG_region) ?_;simp only [List.size_toArray,List.length_cons,List.length_nil,Nat.reduceAdd,Nat.zero_add,List.range,List.range.loop])
  iterate 4 (refine WTo.value _ rfl rfl (by k_ne) (fun _=>by go_simp <;> (try w_num) <;> rfl) (fun _=>by simp [go_sem, *]) ?_;walk_nrm)
  refine WTo.c rfl (fun _=>stepG_region_end) ?_
  iterate 2 (refine WTo.c rfl (fun _=>stepG_seq) ?_)
  (refine WTo.c rfl (fun _=>stepG_region) ?_;simp only [List.size_toArray,List.length_cons,List.length_nil,Nat.reduceAdd,Nat.zero_add,List.range,List.range.loop])
  iterate 2 (refine WTo.value _ rfl rfl (by k_ne) (fun _=>by go_simp <;> (try w_num) <;> rfl) (fun _=>by simp [go_sem, *]) ?_;walk_nrm)
  refine WTo.c rfl (fun _=>stepG_region_end) ?_
  (refine WTo.c rfl (fun _=>stepG_cond (t:=false) (by first | rfl | (simp [Act.eval];omega))) ?_;simp only [if_true,if_false,Bool.false_eq_true,↓reduceIte])
  refine WTo.c rfl (fun _=>stepG_skip) ?_
  refine WTo.c rfl (fun _=>stepG_seq) ?_
  (refine WTo.c rfl (fun _=>stepG_region) ?_;simp only [List.size_toArray,List.length_cons,List.length_nil,Nat.reduceAdd,Nat.zero_add,List.range,List.range.loop])
  iterate 6 (refine WTo.value _ rfl rfl (by k_ne) (fun _=>by go_simp <;> (try w_num) <;> rfl) (fun _=>by simp [go_sem, *]) ?_;walk_nrm)
  refine WTo.call rfl rfl (by k_ne) rfl H.f_uCas (nm_uCas L) rfl ?_
  walk_nrmf uCasFn
  refine WTo.c rfl (fun _=>stepG_seq) ?_
  (refine WTo.c rfl (fun _=>stepG_region) ?_;simp only [List.size_toArray,List.length_cons,List.length_nil,Nat.reduceAdd,Nat.zero_add,List.range,List.range.loop])
  (refine WTo.value _ rfl rfl (by k_ne) (fun _=>by go_simp <;> (try w_num) <;> rfl) (fun _=>by simp [go_sem, *]) ?_;walk_nrm)
  refine WTo.c rfl (fun _=>stepG_region_end) ?_
  refine WTo.c rfl (fun _=>stepG_seq) ?_
  (refine WTo.c rfl (fun _=>stepG_region) ?_;simp only [List.size_toArray,List.length_cons,List.length_nil,Nat.reduceAdd,Nat.zero_add,List.range,List.range.loop])
  iterate 5 (refine WTo.value _ rfl rfl (by k_ne) (fun _=>by go_simp <;> (try w_num) <;> rfl) (fun _=>by simp [go_sem, *]) ?_;walk_nrm)
  refine WTo.stop ⟨rfl,fun w2 v' hv' hw=>⟨fun e=>?_,fun e=>?_⟩⟩
  ·
   subst e
   rw [hS] at hw ⊢
   refine ⟨_,(stepG_cas_hit (v:=S) (n:=S+1) rfl rfl (by k_ne) rfl H.f_casU64 (x_casU64_n L) (x_casU64_b L) (x_casU64_x L) .u64 (x_casU64_f L) rfl rfl rfl hw.cellSt (hw.thaw 0)).trans (by rfl),?_⟩
   clear hw
   walk_nrm
   show WTo P true (WgLive L.tWg Wg) (EvS Wg) _ _
   (refine WTo.value _ rfl rfl (by k_ne) (fun _=>by go_simp <;> (try w_num) <;> rfl) (fun _=>by simp [go_sem, *]) ?_;walk_nrm)
   refine WTo.c rfl (fun _=>stepG_region_end) ?_
   refine WTo.c rfl (fun _=>stepG_ret') ?_
   (refine WTo.leave1 rfl rfl H.f_uCas rfl ?_;walk_nrm)
   refine WTo.c rfl (fun _=>stepG_region_end) ?_
   (refine WTo.c rfl (fun _=>stepG_cond (t:=true) (by first | rfl | (simp [Act.eval];omega))) ?_;simp only [if_true,if_false,Bool.false_eq_true,↓reduceIte])
   iterate 2 (refine WTo.c rfl (fun _=>stepG_seq) ?_)
   (refine WTo.c rfl (fun _=>stepG_region) ?_;simp only [List.size_toArray,List.length_cons,List.length_nil,Nat.reduceAdd,Nat.zero_add,List.range,List.range.loop])
   iterate 4 (refine WTo.value _ rfl rfl (by k_ne) (fun _=>by go_simp <;> (try w_num) <;> rfl) (fun _=>by simp [go_sem, *]) ?_;walk_nrm)
   refine WTo.c rfl (fun _=>stepG_region_end) ?_
   (refine WTo.c rfl (fun _=>stepG_cond (t:=true) (by first | rfl | (simp [Act.eval];omega))) ?_;simp only [if_true,if_false,Bool.false_eq_true,↓reduceIte])
   (refine WTo.c rfl (fun _=>stepG_region) ?_;simp only [List.size_toArray,List.length_cons,List.length_nil,Nat.reduceAdd,Nat.zero_add,List.range,List.range.loop])
   iterate 3 (refine WTo.value _ rfl rfl (by k_ne) (fun _=>by go_simp <;> (try w_num) <;> rfl) (fun _=>by simp [go_sem, *]) ?_;walk_nrm)
   refine WTo.valueF (.pointer (some ⟨Wg,1,none⟩)) rfl rfl (by k_ne) (fun w hw=>?_) (fun w hw=>?_) ?_
   ·
    have hcv:=run_convert_to_unsafe (P:=P) H.underlying_tPU32 H.underlying_tUP H.room_tU32 (Go.ConcN.Gen.WgLive.cell1 hw).choose_spec
    go_simp
   ·
    have hce:=fun es=>events_convert_to_unsafe (P:=P) H.underlying_tPU32 H.underlying_tUP H.room_tU32 (Go.ConcN.Gen.WgLive.cell1 hw).choose_spec es
    simp [go_sem, *]
   walk_nrm
   refine WTo.said (es:=#[⟨.mark (.write ⟨Wg,1,none⟩),false,true⟩]) rfl (fun e he=>?_) (fun _ _=>stepG_markAt .write (by simp) rfl rfl (by k_ne) rfl H.f_raceWrite (x_raceWrite_n L) (x_raceWrite_b L) (x_raceWrite_x L) (x_raceWrite_f L) (ad:=⟨Wg,1,none⟩) (by simp [Act.eval])) ?_
   ·
    rw [Array.mem_singleton] at he
    exact .inl he
   walk_nrm
   refine WTo.c rfl (fun _=>stepG_region_end) ?_
   refine WTo.c rfl (fun _=>stepG_seq) ?_
   (refine WTo.c rfl (fun _=>stepG_region) ?_;simp only [List.size_toArray,List.length_cons,List.length_nil,Nat.reduceAdd,Nat.zero_add,List.range,List.range.loop])
   (refine WTo.value _ rfl rfl (by k_ne) (fun _=>by go_simp <;> (try w_num) <;> rfl) (fun _=>by simp [go_sem, *]) ?_;walk_nrm)
   refine WTo.c rfl (fun _=>stepG_region_end) ?_
   iterate 2 (refine WTo.c rfl (fun _=>stepG_seq) ?_)
   (refine WTo.c rfl (fun _=>stepG_region) ?_;simp only [List.size_toArray,List.length_cons,List.length_nil,Nat.reduceAdd,Nat.zero_add,List.range,List.range.loop])
   iterate 4 (refine WTo.value _ rfl rfl (by k_ne) (fun _=>by go_simp <;> (try w_num) <;> rfl) (fun _=>by simp [go_sem, *]) ?_;walk_nrm)
   (refine WTo.skip rfl rfl ?_;walk_nrm)
   (refine WTo.value _ rfl rfl (by k_ne) (fun _=>by go_simp <;> (try w_num) <;> rfl) (fun _=>by simp [go_sem, *]) ?_;walk_nrm)
   refine WTo.c rfl (fun _=>stepG_region_end) ?_
   (refine WTo.c rfl (fun _=>stepG_cond (t:=false) (by first | rfl | (simp [Act.eval];omega))) ?_;simp only [if_true,if_false,Bool.false_eq_true,↓reduceIte])
   refine WTo.c rfl (fun _=>stepG_skip) ?_
   refine WTo.c rfl (fun _=>stepG_seq) ?_
   (refine WTo.c rfl (fun _=>stepG_region) ?_;simp only [List.size_toArray,List.length_cons,List.length_nil,Nat.reduceAdd,Nat.zero_add,List.range,List.range.loop])
   iterate 4 (refine WTo.value _ rfl rfl (by k_ne) (fun _=>by go_simp <;> (try w_num) <;> rfl) (fun _=>by simp [go_sem, *]) ?_;walk_nrm)
   refine WTo.stop ⟨rfl,rfl,fun w st hw=>stepG_semacquire_wait rfl rfl rfl H.f_semacquire (x_semacquire_n L) (x_semacquire_b L) (x_semacquire_x L) (x_semacquire_f L) (by simp [Act.eval,smA]) hw.cellSm,fun w hf=>?_⟩
   refine ⟨_,(stepG_semacquire (n:=1) rfl rfl (by k_ne) rfl H.f_semacquire (x_semacquire_n L) (x_semacquire_b L) (x_semacquire_x L) (x_semacquire_f L) (by simp [Act.eval,smA]) hf.cellSm (by k_ne) (hf.thaw 1)).trans (by rfl),?_⟩
   clear hf
   walk_nrm
   show WTo P true (WgLive L.tWg Wg) (EvS Wg) _ _
   refine WTo.c rfl (fun _=>stepG_region_end) ?_
   refine WTo.c rfl (fun _=>stepG_seq) ?_
   (refine WTo.c rfl (fun _=>stepG_region) ?_;simp only [List.size_toArray,List.length_cons,List.length_nil,Nat.reduceAdd,Nat.zero_add,List.range,List.range.loop])
   iterate 3 (refine WTo.value _ rfl rfl (by k_ne) (fun _=>by go_simp <;> (try w_num) <;> rfl) (fun _=>by simp [go_sem, *]) ?_;walk_nrm)
   refine WTo.call rfl rfl (by k_ne) rfl H.f_uLoad (nm_uLoad L) rfl ?_
   walk_nrmf uLoadFn
   refine WTo.c rfl (fun _=>stepG_seq) ?_
   (refine WTo.c rfl (fun _=>stepG_region) ?_;simp only [List.size_toArray,List.length_cons,List.length_nil,Nat.reduceAdd,Nat.zero_add,List.range,List.range.loop])
   (refine WTo.value _ rfl rfl (by k_ne) (fun _=>by go_simp <;> (try w_num) <;> rfl) (fun _=>by simp [go_sem, *]) ?_;walk_nrm)
   refine WTo.c rfl (fun _=>stepG_region_end) ?_
   refine WTo.c rfl (fun _=>stepG_seq) ?_
   (refine WTo.c rfl (fun _=>stepG_region) ?_;simp only [List.size_toArray,List.length_cons,List.length_nil,Nat.reduceAdd,Nat.zero_add,List.range,List.range.loop])
   iterate 3 (refine WTo.value _ rfl rfl (by k_ne) (fun _=>by go_simp <;> (try w_num) <;> rfl) (fun _=>by simp [go_sem, *]) ?_;walk_nrm)
   refine WTo.stop ⟨rfl,fun w hw=>⟨_,stepG_load_atomic (v:=0) rfl rfl (by k_ne) rfl H.f_loadU64 (x_loadU64_n L) (x_loadU64_b L) (x_loadU64_x L) .u64 (x_loadU64_f L) rfl hw.cellSt,?_⟩⟩
   clear hw
   walk_nrm
   show WTo P true (WgLive L.tWg Wg) (EvS Wg) _ _
   (refine WTo.value _ rfl rfl (by k_ne) (fun _=>by go_simp <;> (try w_num) <;> rfl) (fun _=>by simp [go_sem, *]) ?_;walk_nrm)
   refine WTo.c rfl (fun _=>stepG_region_end) ?_
   refine WTo.c rfl (fun _=>stepG_ret') ?_
   (refine WTo.leave1 rfl rfl H.f_uLoad rfl ?_;walk_nrm)
   iterate 2 (refine WTo.value _ rfl rfl (by k_ne) (fun _=>by go_simp <;> (try w_num) <;> rfl) (fun _=>by simp [go_sem, *]) ?_;walk_nrm)
   refine WTo.c rfl (fun _=>stepG_region_end) ?_
   refine WTo.c rfl (fun _=>stepG_seq) ?_
   (refine WTo.c rfl (fun _=>stepG_cond (t:=true) (by first | rfl | (simp [Act.eval];omega))) ?_;simp only [if_true,if_false,Bool.false_eq_true,↓reduceIte])
   refine WTo.c rfl (fun _=>stepG_seq) ?_
   (refine WTo.c rfl (fun _=>stepG_region) ?_;simp only [List.size_toArray,List.length_cons,List.length_nil,Nat.reduceAdd,Nat.zero_add,List.range,List.range.loop])
   refine WTo.stop ⟨rfl,_,fun _ _=>stepG_mark0 .enable (by simp) rfl rfl (by k_ne) rfl H.f_enable (x_enable_n L) (x_enable_b L) (x_enable_x L) (x_enable_f L),?_⟩
   walk_nrm
   show WTo P true (WgLive L.tWg Wg) (EvS Wg) _ _
   refine WTo.c rfl (fun _=>stepG_region_end) ?_
   (refine WTo.c rfl (fun _=>stepG_region) ?_;simp only [List.size_toArray,List.length_cons,List.length_nil,Nat.reduceAdd,Nat.zero_add,List.range,List.range.loop])
   (refine WTo.value _ rfl rfl (by k_ne) (fun _=>by go_simp <;> (try w_num) <;> rfl) (fun _=>by simp [go_sem, *]) ?_;walk_nrm)
   refine WTo.valueF (.pointer (some ⟨Wg,0,none⟩)) rfl rfl (by k_ne) (fun w hw=>?_) (fun w hw=>?_) ?_
   ·
    have hcv:=run_convert_to_unsafe (P:=P) H.underlying_tWgP H.underlying_tUP H.room_tWg (Go.ConcN.Gen.WgLive.cell0 hw).choose_spec
    go_simp
   ·
    have hce:=fun es=>events_convert_to_unsafe (P:=P) H.underlying_tWgP H.underlying_tUP H.room_tWg (Go.ConcN.Gen.WgLive.cell0 hw).choose_spec es
    simp [go_sem, *]
   walk_nrm
   refine WTo.stop ⟨rfl,_,fun _ _=>stepG_markAt .acquire (by simp) rfl rfl (by k_ne) rfl H.f_acquire (x_acquire_n L) (x_acquire_b L) (x_acquire_x L) (x_acquire_f L) (by simp [Act.eval,stA]),?_⟩
   walk_nrm
   show WTo P true (WgLive L.tWg Wg) (fun _=>False) _ _
   refine WTo.c rfl (fun _=>stepG_region_end) ?_
   iterate 2 (refine WTo.c rfl (fun _=>stepG_seq) ?_)
   (refine WTo.c rfl (fun _=>stepG_region) ?_;simp only [List.size_toArray,List.length_cons,List.length_nil,Nat.reduceAdd,Nat.zero_add,List.range,List.range.loop])
   (refine WTo.value _ rfl rfl (by k_ne) (fun _=>by go_simp <;> (try w_num) <;> rfl) (fun _=>by simp [go_sem, *]) ?_;walk_nrm)
   refine WTo.c rfl (fun _=>stepG_region_end) ?_
   (refine WTo.c rfl (fun _=>stepG_cond (t:=false) (by first | rfl | (simp [Act.eval];omega))) ?_;simp only [if_true,if_false,Bool.false_eq_true,↓reduceIte])
   refine WTo.c rfl (fun _=>stepG_skip) ?_
   refine WTo.c rfl (fun _=>stepG_ret') ?_
   refine WTo.leave0 rfl rfl H.f_wait rfl ?_
   exact WTo.stop rfl
  ·
   refine ⟨_,stepG_cas_miss (v:=(v':Int) * KK) (old:=S) (n:=S+1) rfl rfl (by k_ne) rfl H.f_casU64 (x_casU64_n L) (x_casU64_b L) (x_casU64_x L) .u64 (x_casU64_f L) rfl rfl rfl hw.cellSt (hw.thaw 0) (by rw [← hS];simp only [KK];omega),?_⟩
   clear hw
   walk_nrm
   show WTo P true (WgLive L.tWg Wg) (EvS Wg) _ _
   (refine WTo.value _ rfl rfl (by k_ne) (fun _=>by go_simp <;> (try w_num) <;> rfl) (fun _=>by simp [go_sem, *]) ?_;walk_nrm)
   refine WTo.c rfl (fun _=>stepG_region_end) ?_
   refine WTo.c rfl (fun _=>stepG_ret') ?_
   (refine WTo.leave1 rfl rfl H.f_uCas rfl ?_;walk_nrm)
   refine WTo.c rfl (fun _=>stepG_region_end) ?_
   (refine WTo.c rfl (fun _=>stepG_cond (t:=false) (by first | rfl | (simp [Act.eval];omega))) ?_;simp only [if_true,if_false,Bool.false_eq_true,↓reduceIte])
   refine WTo.c rfl (fun _=>stepG_skip) ?_
   refine WTo.c rfl (fun _=>stepG_inBlock) ?_
   refine WTo.c rfl (fun _=>stepG_inLoop) ?_
   exact WTo.stop ⟨_,rfl,by simp,by simp⟩
end
end Go.Proofs.YtbokomeejmnnoaaDoor

set_option maxRecDepth 100000
set_option linter.unusedSimpArgs false
namespace Go.Proofs.YtbokomeejmnnoaaDoor
open Go.Conc Go.RowKit Go.Conc.Lib Go.ConcR.Gen
open Go.ConcN (RW DWs AtR0 WgLive Has)
open Go.ConcR (KK WgAt stA smA rd wr mk Payload DC0)
section
variable {P:Program} {L:WgLink} {Wg:Nat}
def AtDis (P:Program) (g:Goroutine):Prop:=g.status=.running ∧ ∃ g',∀ w,stepG P false g w=.go g' w #[mk .disable]
def AtRel0 (P:Program) (F:World → Prop) (Wg:Nat) (g:Goroutine):Prop:=g.status=.running ∧ ∃ g',(∀ w,stepG P false g w=.go g' w #[mk (.releaseMerge (stA Wg))]) ∧ WTo P false F (fun _=>False) (AtDis P) g'
theorem done_walk (H:WgLib P L) {F:World → Prop} (hF:∀ w,F w → WgLive L.tWg Wg w) (c:Frame) (cs:List Frame) :
  WTo P false F (fun _=>False) (AtRel0 P F Wg) (G ((baseD L.done).at ⟨#[.pointer (some ⟨Wg,0,none⟩),undef,undef,undef],[]⟩ [.code (body_done L)]) (c :: cs)):=by
 lib_facts
 simp only [body_done,doneFn,Option.getD_some]
 refine WTo.c rfl (fun _=>stepG_region) ?_
 simp only [List.size_toArray,List.length_cons,List.length_nil,Nat.reduceAdd,Nat.zero_add,List.range,List.range.loop]
 refine WTo.value _ rfl rfl (by k_ne) (fun _=>by go_simp <;> rfl) (fun _=>by simp [go_sem, *]) ?_
 walk_nrm
 refine WTo.call rfl rfl (by k_ne) rfl H.f_add (nm_add L) rfl ?_
 walk_nrmf addFn
 repeat (first
  | (refine WTo.c rfl (fun _=>stepG_seq) ?_)
  | (refine WTo.c rfl (fun _=>stepG_region_end) ?_)
  | (refine WTo.c rfl (fun _=>stepG_cond (t:=true) rfl) ?_;simp only [if_true,↓reduceIte])
  | (refine WTo.c rfl (fun _=>stepG_cond (t:=false) rfl) ?_;simp only [if_false,Bool.false_eq_true,↓reduceIte])
  | (refine WTo.c rfl (fun _=>stepG_region) ?_;simp only [List.size_toArray,List.length_cons,List.length_nil,Nat.reduceAdd,Nat.zero_add,List.range,List.range.loop])
  | (refine WTo.value _ rfl rfl (by k_ne) (fun _=>by go_simp <;> rfl) (fun _=>by simp [go_sem, *]) ?_;walk_nrm))
 refine WTo.valueF (.pointer (some ⟨Wg,0,none⟩)) rfl rfl (by k_ne) (fun w hw=>?_) (fun w hw=>?_) ?_
 ·
  have hcv:=run_convert_to_unsafe (P:=P) H.underlying_tWgP H.underlying_tUP H.room_tWg (Go.ConcN.Gen.WgLive.cell0 (hF w hw)).choose_spec
  go_simp
 ·
  have hce:=fun es=>events_convert_to_unsafe (P:=P) H.underlying_tWgP H.underlying_tUP H.room_tWg (Go.ConcN.Gen.WgLive.cell0 (hF w hw)).choose_spec es
  simp [go_sem, *]
 walk_nrm
 refine WTo.stop ⟨rfl,_,fun _=>stepG_markAt .releaseMerge (by simp) rfl rfl (by k_ne) rfl H.f_relMerge (x_relMerge_n L) (x_relMerge_b L) (x_relMerge_x L) (x_relMerge_f L) (by simp [Act.eval,stA]),?_⟩
 walk_nrm
 refine WTo.c rfl (fun _=>stepG_region_end) ?_
 refine WTo.c rfl (fun _=>stepG_seq) ?_
 refine WTo.c rfl (fun _=>stepG_region) ?_
 simp only [List.size_toArray,List.length_cons,List.length_nil,Nat.reduceAdd,Nat.zero_add,List.range,List.range.loop]
 exact WTo.stop ⟨rfl,_,fun _=>stepG_mark0 .disable (by simp) rfl rfl (by k_ne) rfl H.f_disable (x_disable_n L) (x_disable_b L) (x_disable_x L) (x_disable_f L)⟩
theorem goes_follow {R:World → World → Prop} {D:World → World → Array Event → Prop} {Stop:Goroutine → World → Prop} {F:World → Prop} {w:World} (hR:R w w) (hF:F w) {g':Goroutine} (hs:∀ g g1,stepG P false g w=.go g1 w #[] → ¬ Stop g w) :
  ∀ {n m:Nat} {g:Goroutine},Walk P false F (fun _=>False) n g g' → Goes P false R D Stop m g w → ∃ m',Goes P false R D Stop m' g' w
 | 0,m,g,hw,h=>by
  cases hw
  exact ⟨m,h⟩
 | n+1,m,g,⟨hr,g1,es,he,hst,hw⟩,h=>by
  obtain rfl:es = #[]:=by
   obtain ⟨l⟩:=es
   cases l with
   | nil=>rfl
   | cons e l=>exact (he e (by simp)).elim
  have hgo:=hst w hF
  rcases Goes.cases h with hstop | ⟨m',rfl,hstep⟩
  · exact absurd (hstop w hR) (hs g g1 hgo)
  ·
   have h2:=hstep w hR
   obtain ⟨g2,w2,es2,hgo2,-,hg2⟩:=h2
   rw [hgo] at hgo2
   cases hgo2
   exact goes_follow hR hF hs hw hg2
theorem done_r0 [Payload] (H:WgLib P L) {F:World → Prop} (hF:∀ w,F w → WgLive L.tWg Wg w) {C:Nat} {val:Value} (hC:∀ w,F w → Has C 0 val w) {c:Frame} {cs:List Frame} {qt:Nat} (hcm:c.mode=.returning) (hT:QuitsD P qt 0 (G c cs)) :
  WTo P false F (fun _=>False) (fun g=>∀ w,F w → AtR0 P L.tWg Wg C 1 0 1 val g w) (G ((baseD L.done).at ⟨#[.pointer (some ⟨Wg,0,none⟩),undef,undef,undef],[]⟩ [.code (body_done L)]) (c :: cs)):=by
 obtain ⟨n,gR,hw,hrun,g1,hrel,m,gD,hw1,hrunD,g2,hdis⟩:=done_walk H hF c cs
 refine ⟨n,gR,hw,fun w hFw=>?_⟩
 have hR:RW L.tWg Wg C 1 0 (1 - 1) w w:=Go.ConcN.RW.refl w
 have hG:=Go.ConcN.Gen.doneN (L:=L) H (Own:=fun _ _=>False) (Rd:=fun _ _=>False) (Wg:=Wg) (C:=C) (n:=1) (Low:=0) (k:=1) (val:=val) hcm hT w ⟨hF w hFw,hC w hFw⟩
 have hs:∀ g g1,stepG P false g w=.go g1 w #[] → ¬ AtR0 P L.tWg Wg C 1 0 1 val g w:=fun g g1 hgo ⟨_,_,g',hgo',_⟩=>by
  rw [hgo] at hgo'
  injection hgo' with _ _ e
  simp at e
 obtain ⟨m',hG'⟩:=goes_follow hR hFw hs hw hG
 rcases Goes.cases hG' with hstop | ⟨m2,rfl,hstep⟩
 · exact hstop w hR
 ·
  exfalso
  obtain ⟨g3,w3,es3,hgo3,-,hG3⟩:=hstep w hR
  rw [hrel w] at hgo3
  cases hgo3
  obtain ⟨m4,hG4⟩:=goes_follow hR hFw hs hw1 hG3
  rcases Goes.cases hG4 with hstop | ⟨m5,rfl,hstep⟩
  ·
   obtain ⟨_,_,g',hgo',_⟩:=hstop w hR
   rw [hdis w] at hgo'
   injection hgo' with _ _ e
   simp [mk] at e
  ·
   obtain ⟨g5,w5,es5,hgo5,⟨-,hev⟩,-⟩:=hstep w hR
   rw [hdis w] at hgo5
   cases hgo5
   exact (hev (mk .disable) (by simp)).2.1 rfl
end
end Go.Proofs.YtbokomeejmnnoaaDoor

set_option maxRecDepth 100000
set_option linter.unusedSimpArgs false
namespace Go.Proofs.YtbokomeejmnnoaaDoor
open Go.Conc Go.RowKit Go.Conc.Lib Go.ConcR.Gen
open Go.ConcN (WgLive)
open Go.ConcR (KK WgAt stA smA rd wr mk)
def oeMid (f:Func):Code:=secondC (secondC (secondC (bodyC f)))
def oeLB (f:Func):Code:=innerC (innerC (secondC (firstC (oeMid f))))
def oeRest (f:Func):Code:=secondC (oeMid f)
def oeStep (f:Func):Code:=secondC (secondC (secondC (oeLB f)))
def oeGoOps (f:Func):Array Oper:=opsC (secondC (innerC (firstC (secondC (secondC (oeLB f))))))
structure OeV where
 v:WkV
 (n m:Nat)
 wks:Int
 an:Value
structure OeX where
 (t18 t19 t20 t21:Value)
def oeT (z:OeV) (j:Nat) (x:OeX):Array Value:=#[.int .i64 z.n,.int .i64 z.wks,z.an,undef,undef,.pointer (some ⟨z.v.ba,0,none⟩),.slice none 0 0,.nilIface,.pointer (some ⟨z.v.bn,0,none⟩),.pointer (some ⟨z.v.br,0,none⟩),.pointer (some ⟨z.v.wg,0,none⟩),undef,.chan (some z.v.cn),.chan (some z.v.cr),.int .i64 z.wks,.int .i64 z.n,.int .i64 z.m,.int .i64 j,x.t18,x.t19,x.t20,x.t21,undef,undef,undef,undef,undef,undef,undef,undef,undef]
def oeHead (f:Func) (z:OeV) (j:Nat) (x:OeX) (cs:List Frame):Goroutine:=G ((base 14).at ⟨oeT z j x,[]⟩ [.code (oeLB f),.inLoop (oeLB f),.inBlock 0,.code (oeRest f)]) cs
def oeGone (f:Func) (z:OeV) (j:Nat) (x:OeX) (cs:List Frame):Goroutine:=G ((base 14).at ⟨oeT z j x,[]⟩ [.inRegion (oeGoOps f) [],.inBlock 1,.code (oeStep f),.inLoop (oeLB f),.inBlock 0,.code (oeRest f)]) cs
section
variable {z:OeV} {cs:List Frame} {F:World → Prop} {Ev:Event → Prop} {K:Goroutine → Prop}
theorem oe_next {j:Nat} {x:OeX} (hj:j < 100000) (h:∀ x',WTo Tryd.prog true F Ev K (oeHead Tryd.f14 z (j+1) x' cs)):WTo Tryd.prog true F Ev K (oeGone Tryd.f14 z j x cs):=by
 have hw:IntKind.i64.wrap ((j:Int)+1)=((j+1:Nat):Int):=by rw [IntWalk.i64_in] <;> omega
 have h':=h ⟨x.t18,x.t19,x.t20,.int .i64 ((j+1:Nat):Int)⟩
 revert h'
 simp only [oeGone,oeHead,oeT,oeGoOps,oeStep,oeLB,oeRest,oeMid,bodyC,innerC,secondC,firstC,opsC,Tryd.f14,Option.getD_some]
 intro h'
 refine WTo.c rfl (fun _=>stepG_region_end) ?_
 refine WTo.c rfl (fun _=>stepG_inBlock) ?_
 refine WTo.c rfl (fun _=>stepG_region) ?_
 try walk_nrm
 refine WTo.value (.int .i64 ((j+1:Nat):Int)) rfl rfl (by decide) (fun _=>by go_simp) (fun _=>by simp [go_sem, *]) ?_
 try walk_nrm
 refine WTo.value (.int .i64 ((j+1:Nat):Int)) rfl rfl (by decide) (fun _=>by go_simp) (fun _=>by simp [go_sem, *]) ?_
 try walk_nrm
 refine WTo.c rfl (fun _=>stepG_region_end) ?_
 refine WTo.c rfl (fun _=>stepG_inLoop) ?_
 exact h'
theorem oe_one {j:Nat} {x:OeX} (hj:j < z.m) {child:Goroutine} (hc:child=born Tryd.prog (wkCall z.v.wg z.v.bn z.v.ba z.v.br)) {Nx:Goroutine → Prop} (hN:∀ x',Nx (oeGone Tryd.f14 z j x' cs)) :
  WTo Tryd.prog true (WgLive Tryd.link.tWg z.v.wg) (EvS z.v.wg) (AtKd1 Tryd.prog Tryd.link.tWg z.v.wg child Nx) (oeHead Tryd.f14 z j x cs):=by
 have hlt:decide ((j:Int) < (z.m:Int))=true:=decide_eq_true (by omega)
 have hN':=hN ⟨.bool true,.tuple #[],.func (.func 23) #[] #[.pointer (some ⟨z.v.wg,0,none⟩),.pointer (some ⟨z.v.bn,0,none⟩),.pointer (some ⟨z.v.ba,0,none⟩),.pointer (some ⟨z.v.br,0,none⟩)],x.t21⟩
 subst hc
 revert hN'
 simp only [oeGone,oeHead,oeT,oeGoOps,oeStep,oeLB,oeRest,oeMid,bodyC,innerC,secondC,firstC,opsC,Tryd.f14,Option.getD_some]
 intro hN'
 refine WTo.c rfl (fun _=>stepG_seq) ?_
 refine WTo.c rfl (fun _=>stepG_region) ?_
 try walk_nrm
 refine WTo.value (.bool true) rfl rfl (by decide) (fun _=>by go_simp) (fun _=>by simp [go_sem, *]) ?_
 try walk_nrm
 refine WTo.c rfl (fun _=>stepG_region_end) ?_
 refine WTo.c rfl (fun _=>stepG_seq) ?_
 refine WTo.c rfl (fun _=>stepG_cond (t:=true) rfl) ?_
 simp only [if_true]
 refine WTo.c rfl (fun _=>stepG_skip) ?_
 refine WTo.c rfl (fun _=>stepG_seq) ?_
 refine WTo.c rfl (fun _=>stepG_block) ?_
 refine WTo.c rfl (fun _=>stepG_seq) ?_
 refine WTo.c rfl (fun _=>stepG_region) ?_
 try walk_nrm
 refine WTo.call rfl rfl (by decide) rfl Tryd.wgLib.f_add (nm_add Tryd.link) rfl ?_
 have hA:=@add_walk Tryd.prog Tryd.link z.v.wg
 simp only [body_add,addFn,Option.getD_some] at hA
 walk_nrmf addFn
 refine hA Tryd.wgLib ?_
 try walk_nrm
 refine WTo.c rfl (fun _=>stepG_region_end) ?_
 refine WTo.c rfl (fun _=>stepG_region) ?_
 try walk_nrm
 refine WTo.value (.func (.func 23) #[] #[.pointer (some ⟨z.v.wg,0,none⟩),.pointer (some ⟨z.v.bn,0,none⟩),.pointer (some ⟨z.v.ba,0,none⟩),.pointer (some ⟨z.v.br,0,none⟩)]) rfl rfl (by decide) (fun _=>by go_simp) (fun _=>by simp [go_sem, *]) ?_
 try walk_nrm
 refine WTo.stop ⟨rfl,_,fun w _=>?_,hN'⟩
 rw [stepG_spawn (d:=wkCall z.v.wg z.v.bn z.v.ba z.v.br) (w':=w) rfl rfl (by decide) (by go_simp;rfl) rfl]
 congr 1
end
end Go.Proofs.YtbokomeejmnnoaaDoor
