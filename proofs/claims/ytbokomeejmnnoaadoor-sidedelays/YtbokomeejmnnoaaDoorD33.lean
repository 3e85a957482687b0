/- Own facts, put together: no statement of its own. -/
import Derived.Test.YtbokomeejmnnoaaDoorD32
set_option maxHeartbeats 16000000

set_option maxRecDepth 100000
set_option linter.unusedSimpArgs false
namespace Go.Proofs.YtbokomeejmnnoaaDoor
open Go.Conc Go.RowKit Go.Conc.Lib Go.ConcR.Gen
open Go.ConcN (WgLive st_flag st_waiters)
open Go.ConcR (KK WgAt stA smA rd wr mk)
section
variable {P:Program} {L:WgLink} {Wg:Nat} {b₀:Frame} {a₀:Act} {ops₀:Array Oper} {i₀:Nat} {rest₀:List Nat} {k₀:List Item} {cs:List Frame}
variable {child:Goroutine} {Nx:Goroutine → Prop}
theorem add_walk (H:WgLib P L) (hT:WTo P true (WgLive L.tWg Wg) (EvS Wg) (AtGo1 P L.tWg Wg child Nx) (G (b₀.at (a₀.put ((ops₀[i₀]?).bind (·.dst)) (.tuple #[])) (.inRegion ops₀ rest₀ :: k₀)) cs)) :
  WTo P true (WgLive L.tWg Wg) (EvS Wg) (AtKd1 P L.tWg Wg child Nx) (G ((base L.add).at ⟨#[.pointer (some ⟨Wg,0,none⟩),.int .i64 1,undef,undef,undef,undef,undef,undef,undef,undef,undef,undef,undef,undef,undef,undef,undef,undef,undef,undef,undef,undef,undef,undef,undef,undef,undef,undef,undef,undef,undef,undef,undef,undef,undef,undef,undef,undef,undef,undef,undef,undef,undef,undef,undef,undef,undef,undef,undef,undef,undef,undef,undef,undef,undef,undef,undef,undef,undef,undef,undef,undef,undef,undef,undef,undef,undef,undef,undef,undef,undef,undef,undef,undef,undef,undef,undef,undef,undef,undef,undef,undef,undef,undef,undef,undef,undef,undef,undef,undef,undef,undef,undef,undef,undef,undef,undef,undef,undef,undef,undef,undef,undef,undef,undef,undef,undef,undef,undef,undef,undef,undef,undef,undef,undef,undef,undef],[]⟩ [.code (body_add L)]) (b₀.at a₀ (.inRegion ops₀ (i₀ :: rest₀) :: k₀) :: cs)):=by
 lib_facts
 simp only [body_add,addFn,Option.getD_some]
 refine WTo.c rfl (fun _=>stepG_seq) ?_
 (refine WTo.c rfl (fun _=>stepG_cond (t:=true) (by first | rfl | (simp [Act.eval];omega))) ?_;simp only [if_true,if_false,Bool.false_eq_true,↓reduceIte])
 iterate 2 (refine WTo.c rfl (fun _=>stepG_seq) ?_)
 (refine WTo.c rfl (fun _=>stepG_region) ?_;simp only [List.size_toArray,List.length_cons,List.length_nil,Nat.reduceAdd,Nat.zero_add,List.range,List.range.loop])
 iterate 2 (refine WTo.value _ rfl rfl (by k_ne) (fun _=>by go_simp <;> (try w_num) <;> rfl) (fun _=>by simp [go_sem, *]) ?_;walk_nrm)
 refine WTo.c rfl (fun _=>stepG_region_end) ?_
 (refine WTo.c rfl (fun _=>stepG_cond (t:=false) (by first | rfl | (simp [Act.eval];omega))) ?_;simp only [if_true,if_false,Bool.false_eq_true,↓reduceIte])
 refine WTo.c rfl (fun _=>stepG_skip) ?_
 refine WTo.c rfl (fun _=>stepG_seq) ?_
 (refine WTo.c rfl (fun _=>stepG_region) ?_;simp only [List.size_toArray,List.length_cons,List.length_nil,Nat.reduceAdd,Nat.zero_add,List.range,List.range.loop])
 refine WTo.stop ⟨rfl,_,fun _ _=>stepG_mark0 .disable (by simp) rfl rfl (by k_ne) rfl H.f_disable (x_disable_n L) (x_disable_b L) (x_disable_x L) (x_disable_f L),?_⟩
 walk_nrm
 show WTo P true (WgLive L.tWg Wg) (EvS Wg) _ _
 refine WTo.c rfl (fun _=>stepG_region_end) ?_
 (refine WTo.c rfl (fun _=>stepG_region) ?_;simp only [List.size_toArray,List.length_cons,List.length_nil,Nat.reduceAdd,Nat.zero_add,List.range,List.range.loop])
 (refine WTo.c rfl (fun _=>stepG_defer rfl rfl (by k_ne) rfl) ?_;walk_nrm)
 refine WTo.c rfl (fun _=>stepG_region_end) ?_
 refine WTo.c rfl (fun _=>stepG_seq) ?_
 (refine WTo.c rfl (fun _=>stepG_region) ?_;simp only [List.size_toArray,List.length_cons,List.length_nil,Nat.reduceAdd,Nat.zero_add,List.range,List.range.loop])
 (refine WTo.value _ rfl rfl (by k_ne) (fun _=>by go_simp <;> (try w_num) <;> rfl) (fun _=>by simp [go_sem, *]) ?_;walk_nrm)
 refine WTo.c rfl (fun _=>stepG_region_end) ?_
 iterate 2 (refine WTo.c rfl (fun _=>stepG_seq) ?_)
 (refine WTo.c rfl (fun _=>stepG_region) ?_;simp only [List.size_toArray,List.length_cons,List.length_nil,Nat.reduceAdd,Nat.zero_add,List.range,List.range.loop])
 (refine WTo.c rfl (fun _=>stepG_entry_pure (.bool false) rfl rfl (by k_ne) rfl H.f_inBubble (x_inBubble_n L) (x_inBubble_b L) (x_inBubble_x L) (x_inBubble_f L)) ?_;walk_nrm)
 refine WTo.c rfl (fun _=>stepG_region_end) ?_
 (refine WTo.c rfl (fun _=>stepG_cond (t:=false) (by first | rfl | (simp [Act.eval];omega))) ?_;simp only [if_true,if_false,Bool.false_eq_true,↓reduceIte])
 refine WTo.c rfl (fun _=>stepG_skip) ?_
 refine WTo.c rfl (fun _=>stepG_seq) ?_
 (refine WTo.c rfl (fun _=>stepG_region) ?_;simp only [List.size_toArray,List.length_cons,List.length_nil,Nat.reduceAdd,Nat.zero_add,List.range,List.range.loop])
 iterate 6 (refine WTo.value _ rfl rfl (by k_ne) (fun _=>by go_simp <;> (try w_num) <;> rfl) (fun _=>by simp [go_sem, *]) ?_;walk_nrm)
 refine WTo.call rfl rfl (by k_ne) rfl H.f_uAdd (nm_uAdd L) rfl ?_
 walk_nrmf uAddFn
 refine WTo.c rfl (fun _=>stepG_seq) ?_
 (refine WTo.c rfl (fun _=>stepG_region) ?_;simp only [List.size_toArray,List.length_cons,List.length_nil,Nat.reduceAdd,Nat.zero_add,List.range,List.range.loop])
 (refine WTo.value _ rfl rfl (by k_ne) (fun _=>by go_simp <;> (try w_num) <;> rfl) (fun _=>by simp [go_sem, *]) ?_;walk_nrm)
 refine WTo.c rfl (fun _=>stepG_region_end) ?_
 refine WTo.c rfl (fun _=>stepG_seq) ?_
 (refine WTo.c rfl (fun _=>stepG_region) ?_;simp only [List.size_toArray,List.length_cons,List.length_nil,Nat.reduceAdd,Nat.zero_add,List.range,List.range.loop])
 iterate 4 (refine WTo.value _ rfl rfl (by k_ne) (fun _=>by go_simp <;> (try w_num) <;> rfl) (fun _=>by simp [go_sem, *]) ?_;walk_nrm)
 refine WTo.stop ⟨rfl,fun w v hv hw=>?_⟩
 rcases Nat.eq_zero_or_pos v with rfl | hvp
 ·
  replace hw:WgAt L.tWg Wg w 0 0:=by simpa using hw
  have z:(((0:Nat):Int)+1) * KK=KK:=by simp
  rw [z]
  have e0:IntKind.u64.wrap (0+4294967296)=KK:=by decide
  refine ⟨_,(stepG_add_atomic rfl rfl (by k_ne) rfl H.f_addU64 (x_addU64_n L) (x_addU64_b L) (x_addU64_x L) .u64 (x_addU64_f L) rfl rfl hw.cellSt (hw.thaw 0)).trans (by rw [e0];rfl),?_⟩
  clear hw
  simp only [KK]
  walk_nrm
  show WTo P true (WgLive L.tWg Wg) (EvS Wg) _ _
  (refine WTo.value _ rfl rfl (by k_ne) (fun _=>by go_simp <;> (try w_num) <;> rfl) (fun _=>by simp [go_sem, *]) ?_;walk_nrm)
  refine WTo.c rfl (fun _=>stepG_region_end) ?_
  refine WTo.c rfl (fun _=>stepG_ret') ?_
  (refine WTo.leave1 rfl rfl H.f_uAdd rfl ?_;walk_nrm)
  (refine WTo.value _ rfl rfl (by k_ne) (fun _=>by go_simp <;> (try w_num) <;> rfl) (fun _=>by simp [go_sem, *]) ?_;walk_nrm)
  refine WTo.c rfl (fun _=>stepG_region_end) ?_
  iterate 2 (refine WTo.c rfl (fun _=>stepG_seq) ?_)
  (refine WTo.c rfl (fun _=>stepG_region) ?_;simp only [List.size_toArray,List.length_cons,List.length_nil,Nat.reduceAdd,Nat.zero_add,List.range,List.range.loop])
  iterate 4 (refine WTo.value _ rfl rfl (by k_ne) (fun _=>by go_simp <;> (try w_num) <;> rfl) (fun _=>by simp [go_sem, *]) ?_;walk_nrm)
  iterate 2 (refine WTo.skip rfl rfl ?_;walk_nrm)
  (refine WTo.value _ rfl rfl (by k_ne) (fun _=>by go_simp <;> (try w_num) <;> rfl) (fun _=>by simp [go_sem, *]) ?_;walk_nrm)
  refine WTo.c rfl (fun _=>stepG_region_end) ?_
  (refine WTo.c rfl (fun _=>stepG_cond (t:=false) (by first | rfl | (simp [Act.eval];omega))) ?_;simp only [if_true,if_false,Bool.false_eq_true,↓reduceIte])
  refine WTo.c rfl (fun _=>stepG_skip) ?_
  refine WTo.c rfl (fun _=>stepG_seq) ?_
  (refine WTo.c rfl (fun _=>stepG_region) ?_;simp only [List.size_toArray,List.length_cons,List.length_nil,Nat.reduceAdd,Nat.zero_add,List.range,List.range.loop])
  iterate 4 (refine WTo.value _ rfl rfl (by k_ne) (fun _=>by go_simp <;> (try w_num) <;> rfl) (fun _=>by simp [go_sem, *]) ?_;walk_nrm)
  refine WTo.c rfl (fun _=>stepG_region_end) ?_
  refine WTo.c rfl (fun _=>stepG_seq) ?_
  (refine WTo.c rfl (fun _=>stepG_region) ?_;simp only [List.size_toArray,List.length_cons,List.length_nil,Nat.reduceAdd,Nat.zero_add,List.range,List.range.loop])
  iterate 4 (refine WTo.value _ rfl rfl (by k_ne) (fun _=>by go_simp <;> (try w_num) <;> rfl) (fun _=>by simp [go_sem, *]) ?_;walk_nrm)
  refine WTo.c rfl (fun _=>stepG_region_end) ?_
  iterate 2 (refine WTo.c rfl (fun _=>stepG_seq) ?_)
  (refine WTo.c rfl (fun _=>stepG_region) ?_;simp only [List.size_toArray,List.length_cons,List.length_nil,Nat.reduceAdd,Nat.zero_add,List.range,List.range.loop])
  iterate 10 (refine WTo.value _ rfl rfl (by k_ne) (fun _=>by go_simp <;> (try w_num) <;> rfl) (fun _=>by simp [go_sem, *]) ?_;walk_nrm)
  refine WTo.c rfl (fun _=>stepG_region_end) ?_
  (refine WTo.c rfl (fun _=>stepG_cond (t:=true) (by first | rfl | (simp [Act.eval];omega))) ?_;simp only [if_true,if_false,Bool.false_eq_true,↓reduceIte])
  (refine WTo.c rfl (fun _=>stepG_region) ?_;simp only [List.size_toArray,List.length_cons,List.length_nil,Nat.reduceAdd,Nat.zero_add,List.range,List.range.loop])
  iterate 3 (refine WTo.value _ rfl rfl (by k_ne) (fun _=>by go_simp <;> (try w_num) <;> rfl) (fun _=>by simp [go_sem, *]) ?_;walk_nrm)
  refine WTo.valueF (.pointer (some ⟨Wg,1,none⟩)) rfl rfl (by k_ne) (fun w hw=>?_) (fun w hw=>?_) ?_
  ·
   have hcv:=run_convert_to_unsafe (P:=P) H.underlying_tPU32 H.underlying_tUP H.room_tU32 (Go.ConcN.Gen.WgLive.cell1 hw).choose_spec
   go_simp
  ·
   have hce:=fun es=>events_convert_to_unsafe (P:=P) H.underlying_tPU32 H.underlying_tUP H.room_tU32 (Go.ConcN.Gen.WgLive.cell1 hw).choose_spec es
   simp [go_sem, *]
  walk_nrm
  refine WTo.said (es:=#[⟨.mark (.read ⟨Wg,1,none⟩),false,true⟩]) rfl (fun e he=>?_) (fun _ _=>stepG_markAt .read (by simp) rfl rfl (by k_ne) rfl H.f_raceRead (x_raceRead_n L) (x_raceRead_b L) (x_raceRead_x L) (x_raceRead_f L) (ad:=⟨Wg,1,none⟩) (by simp [Act.eval])) ?_
  ·
   rw [Array.mem_singleton] at he
   exact .inr he
  walk_nrm
  refine WTo.c rfl (fun _=>stepG_region_end) ?_
  iterate 2 (refine WTo.c rfl (fun _=>stepG_seq) ?_)
  (refine WTo.c rfl (fun _=>stepG_region) ?_;simp only [List.size_toArray,List.length_cons,List.length_nil,Nat.reduceAdd,Nat.zero_add,List.range,List.range.loop])
  iterate 2 (refine WTo.value _ rfl rfl (by k_ne) (fun _=>by go_simp <;> (try w_num) <;> rfl) (fun _=>by simp [go_sem, *]) ?_;walk_nrm)
  refine WTo.c rfl (fun _=>stepG_region_end) ?_
  (refine WTo.c rfl (fun _=>stepG_cond (t:=false) (by first | rfl | (simp [Act.eval];omega))) ?_;simp only [if_true,if_false,Bool.false_eq_true,↓reduceIte])
  refine WTo.c rfl (fun _=>stepG_skip) ?_
  iterate 2 (refine WTo.c rfl (fun _=>stepG_seq) ?_)
  (refine WTo.c rfl (fun _=>stepG_region) ?_;simp only [List.size_toArray,List.length_cons,List.length_nil,Nat.reduceAdd,Nat.zero_add,List.range,List.range.loop])
  iterate 3 (refine WTo.value _ rfl rfl (by k_ne) (fun _=>by go_simp <;> (try w_num) <;> rfl) (fun _=>by simp [go_sem, *]) ?_;walk_nrm)
  iterate 2 (refine WTo.skip rfl rfl ?_;walk_nrm)
  iterate 2 (refine WTo.value _ rfl rfl (by k_ne) (fun _=>by go_simp <;> (try w_num) <;> rfl) (fun _=>by simp [go_sem, *]) ?_;walk_nrm)
  iterate 4 (refine WTo.skip rfl rfl ?_;walk_nrm)
  (refine WTo.value _ rfl rfl (by k_ne) (fun _=>by go_simp <;> (try w_num) <;> rfl) (fun _=>by simp [go_sem, *]) ?_;walk_nrm)
  refine WTo.c rfl (fun _=>stepG_region_end) ?_
  (refine WTo.c rfl (fun _=>stepG_cond (t:=false) (by first | rfl | (simp [Act.eval];omega))) ?_;simp only [if_true,if_false,Bool.false_eq_true,↓reduceIte])
  refine WTo.c rfl (fun _=>stepG_skip) ?_
  iterate 2 (refine WTo.c rfl (fun _=>stepG_seq) ?_)
  (refine WTo.c rfl (fun _=>stepG_region) ?_;simp only [List.size_toArray,List.length_cons,List.length_nil,Nat.reduceAdd,Nat.zero_add,List.range,List.range.loop])
  iterate 3 (refine WTo.value _ rfl rfl (by k_ne) (fun _=>by go_simp <;> (try w_num) <;> rfl) (fun _=>by simp [go_sem, *]) ?_;walk_nrm)
  iterate 2 (refine WTo.skip rfl rfl ?_;walk_nrm)
  (refine WTo.value _ rfl rfl (by k_ne) (fun _=>by go_simp <;> (try w_num) <;> rfl) (fun _=>by simp [go_sem, *]) ?_;walk_nrm)
  refine WTo.c rfl (fun _=>stepG_region_end) ?_
  (refine WTo.c rfl (fun _=>stepG_cond (t:=true) (by first | rfl | (simp [Act.eval];omega))) ?_;simp only [if_true,if_false,Bool.false_eq_true,↓reduceIte])
  refine WTo.c rfl (fun _=>stepG_ret') ?_
  refine WTo.stop ⟨rfl,_,fun _ _=>stepG_unwind_entry (v:=.tuple #[]) (evs:=#[mk .enable]) rfl H.f_enable (x_enable_n L) (x_enable_b L) (x_enable_x L) (x_enable_f L) (by simp [Extern.Race.none_]) (by simp [mk]) (by simp [mk]),?_⟩
  show WTo P true (WgLive L.tWg Wg) (EvS Wg) _ _
  refine WTo.leave0 rfl rfl H.f_add rfl ?_
  exact hT
 ·
  obtain ⟨V,hV⟩:∃ V:Int,V=(v:Int)+1:=⟨_,rfl⟩
  obtain ⟨S,hS⟩:∃ S:Int,S=V * KK:=⟨_,rfl⟩
  have eS:IntKind.u64.wrap ((v:Int) * KK+4294967296)=S:=by rw [IntKind.wrap_u64,hS,hV];simp only [KK];omega
  rw [← hV,← hS]
  have a1:S / 4294967296=V:=by rw [hS];simp only [KK];omega
  have b1:bits .and .u64 S 2147483648=0:=by rw [hS,hV];have:=st_flag (v+1) 0 (by omega) (by omega);simpa [KK] using this
  have b2:bits .and .u64 S 2147483647=0:=by rw [hS,hV];have:=st_waiters (v+1) 0 (by omega) (by omega);simpa [KK] using this
  have c1:IntKind.i32.wrap V=V:=by rw [IntKind.wrap_i32];omega
  have hV1:1 < V:=by omega
  have hV2:V < 2147483648:=by omega
  have q1:(V == 1)=false:=by simp;omega
  have q2:decide (V=1)=false:=decide_eq_false (by omega)
  have q3:decide (V < 0)=false:=decide_eq_false (by omega)
  have q4:decide (0 < V)=true:=decide_eq_true (by omega)
  have q5:(V == 0)=false:=by simp;omega
  have q6:decide (V=0)=false:=decide_eq_false (by omega)
  refine ⟨_,(stepG_add_atomic rfl rfl (by k_ne) rfl H.f_addU64 (x_addU64_n L) (x_addU64_b L) (x_addU64_x L) .u64 (x_addU64_f L) rfl rfl hw.cellSt (hw.thaw 0)).trans (by rw [eS];rfl),?_⟩
  clear hw hS hV eS
  walk_nrm
  show WTo P true (WgLive L.tWg Wg) (EvS Wg) _ _
  (refine WTo.value _ rfl rfl (by k_ne) (fun _=>by go_simp <;> (try w_num) <;> rfl) (fun _=>by simp [go_sem, *]) ?_;walk_nrm)
  refine WTo.c rfl (fun _=>stepG_region_end) ?_
  refine WTo.c rfl (fun _=>stepG_ret') ?_
  (refine WTo.leave1 rfl rfl H.f_uAdd rfl ?_;walk_nrm)
  (refine WTo.value _ rfl rfl (by k_ne) (fun _=>by go_simp <;> (try w_num) <;> rfl) (fun _=>by simp [go_sem, *]) ?_;walk_nrm)
  refine WTo.c rfl (fun _=>stepG_region_end) ?_
  iterate 2 (refine WTo.c rfl (fun _=>stepG_seq) ?_)
  (refine WTo.c rfl (fun _=>stepG_region) ?_;simp only [List.size_toArray,List.length_cons,List.length_nil,Nat.reduceAdd,Nat.zero_add,List.range,List.range.loop])
  iterate 4 (refine WTo.value _ rfl rfl (by k_ne) (fun _=>by go_simp <;> (try w_num) <;> rfl) (fun _=>by simp [go_sem, *]) ?_;walk_nrm)
  iterate 2 (refine WTo.skip rfl rfl ?_;walk_nrm)
  (refine WTo.value _ rfl rfl (by k_ne) (fun _=>by go_simp <;> (try w_num) <;> rfl) (fun _=>by simp [go_sem, *]) ?_;walk_nrm)
  refine WTo.c rfl (fun _=>stepG_region_end) ?_
  (refine WTo.c rfl (fun _=>stepG_cond (t:=false) (by first | rfl | (simp [Act.eval];omega))) ?_;simp only [if_true,if_false,Bool.false_eq_true,↓reduceIte])
  refine WTo.c rfl (fun _=>stepG_skip) ?_
  refine WTo.c rfl (fun _=>stepG_seq) ?_
  (refine WTo.c rfl (fun _=>stepG_region) ?_;simp only [List.size_toArray,List.length_cons,List.length_nil,Nat.reduceAdd,Nat.zero_add,List.range,List.range.loop])
  iterate 4 (refine WTo.value _ rfl rfl (by k_ne) (fun _=>by go_simp <;> (try w_num) <;> rfl) (fun _=>by simp [go_sem, *]) ?_;walk_nrm)
  refine WTo.c rfl (fun _=>stepG_region_end) ?_
  refine WTo.c rfl (fun _=>stepG_seq) ?_
  (refine WTo.c rfl (fun _=>stepG_region) ?_;simp only [List.size_toArray,List.length_cons,List.length_nil,Nat.reduceAdd,Nat.zero_add,List.range,List.range.loop])
  iterate 4 (refine WTo.value _ rfl rfl (by k_ne) (fun _=>by go_simp <;> (try w_num) <;> rfl) (fun _=>by simp [go_sem, *]) ?_;walk_nrm)
  refine WTo.c rfl (fun _=>stepG_region_end) ?_
  iterate 2 (refine WTo.c rfl (fun _=>stepG_seq) ?_)
  (refine WTo.c rfl (fun _=>stepG_region) ?_;simp only [List.size_toArray,List.length_cons,List.length_nil,Nat.reduceAdd,Nat.zero_add,List.range,List.range.loop])
  iterate 10 (refine WTo.value _ rfl rfl (by k_ne) (fun _=>by go_simp <;> (try w_num) <;> rfl) (fun _=>by simp [go_sem, *]) ?_;walk_nrm)
  refine WTo.c rfl (fun _=>stepG_region_end) ?_
  (refine WTo.c rfl (fun _=>stepG_cond (t:=false) (by first | rfl | (simp [Act.eval];omega))) ?_;simp only [if_true,if_false,Bool.false_eq_true,↓reduceIte])
  refine WTo.c rfl (fun _=>stepG_skip) ?_
  iterate 2 (refine WTo.c rfl (fun _=>stepG_seq) ?_)
  (refine WTo.c rfl (fun _=>stepG_region) ?_;simp only [List.size_toArray,List.length_cons,List.length_nil,Nat.reduceAdd,Nat.zero_add,List.range,List.range.loop])
  iterate 2 (refine WTo.value _ rfl rfl (by k_ne) (fun _=>by go_simp <;> (try w_num) <;> rfl) (fun _=>by simp [go_sem, *]) ?_;walk_nrm)
  refine WTo.c rfl (fun _=>stepG_region_end) ?_
  (refine WTo.c rfl (fun _=>stepG_cond (t:=false) (by first | rfl | (simp [Act.eval];omega))) ?_;simp only [if_true,if_false,Bool.false_eq_true,↓reduceIte])
  refine WTo.c rfl (fun _=>stepG_skip) ?_
  iterate 2 (refine WTo.c rfl (fun _=>stepG_seq) ?_)
  (refine WTo.c rfl (fun _=>stepG_region) ?_;simp only [List.size_toArray,List.length_cons,List.length_nil,Nat.reduceAdd,Nat.zero_add,List.range,List.range.loop])
  iterate 3 (refine WTo.value _ rfl rfl (by k_ne) (fun _=>by go_simp <;> (try w_num) <;> rfl) (fun _=>by simp [go_sem, *]) ?_;walk_nrm)
  iterate 2 (refine WTo.skip rfl rfl ?_;walk_nrm)
  iterate 2 (refine WTo.value _ rfl rfl (by k_ne) (fun _=>by go_simp <;> (try w_num) <;> rfl) (fun _=>by simp [go_sem, *]) ?_;walk_nrm)
  iterate 4 (refine WTo.skip rfl rfl ?_;walk_nrm)
  (refine WTo.value _ rfl rfl (by k_ne) (fun _=>by go_simp <;> (try w_num) <;> rfl) (fun _=>by simp [go_sem, *]) ?_;walk_nrm)
  refine WTo.c rfl (fun _=>stepG_region_end) ?_
  (refine WTo.c rfl (fun _=>stepG_cond (t:=false) (by first | rfl | (simp [Act.eval];omega))) ?_;simp only [if_true,if_false,Bool.false_eq_true,↓reduceIte])
  refine WTo.c rfl (fun _=>stepG_skip) ?_
  iterate 2 (refine WTo.c rfl (fun _=>stepG_seq) ?_)
  (refine WTo.c rfl (fun _=>stepG_region) ?_;simp only [List.size_toArray,List.length_cons,List.length_nil,Nat.reduceAdd,Nat.zero_add,List.range,List.range.loop])
  iterate 3 (refine WTo.value _ rfl rfl (by k_ne) (fun _=>by go_simp <;> (try w_num) <;> rfl) (fun _=>by simp [go_sem, *]) ?_;walk_nrm)
  iterate 2 (refine WTo.skip rfl rfl ?_;walk_nrm)
  (refine WTo.value _ rfl rfl (by k_ne) (fun _=>by go_simp <;> (try w_num) <;> rfl) (fun _=>by simp [go_sem, *]) ?_;walk_nrm)
  refine WTo.c rfl (fun _=>stepG_region_end) ?_
  (refine WTo.c rfl (fun _=>stepG_cond (t:=true) (by first | rfl | (simp [Act.eval];omega))) ?_;simp only [if_true,if_false,Bool.false_eq_true,↓reduceIte])
  refine WTo.c rfl (fun _=>stepG_ret') ?_
  refine WTo.stop ⟨rfl,_,fun _ _=>stepG_unwind_entry (v:=.tuple #[]) (evs:=#[mk .enable]) rfl H.f_enable (x_enable_n L) (x_enable_b L) (x_enable_x L) (x_enable_f L) (by simp [Extern.Race.none_]) (by simp [mk]) (by simp [mk]),?_⟩
  show WTo P true (WgLive L.tWg Wg) (EvS Wg) _ _
  refine WTo.leave0 rfl rfl H.f_add rfl ?_
  exact hT
end
end Go.Proofs.YtbokomeejmnnoaaDoor

set_option maxRecDepth 100000
set_option linter.unusedSimpArgs false
namespace Go.Proofs.YtbokomeejmnnoaaDoor
open Go.Conc Go.RowKit Go.Conc.Lib Go.ConcR.Gen
open Go.ConcN (WgLive st_flag st_waiters)
open Go.ConcR (KK WgAt stA smA rd wr mk)
section
variable {P:Program} {L:WgLink} {Wg:Nat} {b₀:Frame} {a₀:Act} {ops₀:Array Oper} {i₀:Nat} {rest₀:List Nat} {k₀:List Item} {cs:List Frame}
def AnchW (L:WgLink) (Wg:Nat) (c:Frame) (cs:List Frame) (g:Goroutine):Prop:=
 ∃ T:Array Value,g=G ((base L.wait).at ⟨T,[]⟩ [.code (Go.ConcR.Gen.L7 L),.inLoop (Go.ConcR.Gen.L7 L),.inBlock 0]) (c :: cs) ∧ T.size=84 ∧ T[0]? = some (.pointer (some ⟨Wg,0,none⟩))
theorem wait_start (H:WgLib P L) (c:Frame) (cs:List Frame):WTo P true (WgLive L.tWg Wg) (EvS Wg) (AtKd0 P L.tWg Wg (AnchW L Wg c cs)) (G ((base L.wait).at ⟨#[.pointer (some ⟨Wg,0,none⟩),undef,undef,undef,undef,undef,undef,undef,undef,undef,undef,undef,undef,undef,undef,undef,undef,undef,undef,undef,undef,undef,undef,undef,undef,undef,undef,undef,undef,undef,undef,undef,undef,undef,undef,undef,undef,undef,undef,undef,undef,undef,undef,undef,undef,undef,undef,undef,undef,undef,undef,undef,undef,undef,undef,undef,undef,undef,undef,undef,undef,undef,undef,undef,undef,undef,undef,undef,undef,undef,undef,undef,undef,undef,undef,undef,undef,undef,undef,undef,undef,undef,undef,undef],[]⟩ [.code (body_wait L)]) (c :: cs)):=by
 lib_facts
 simp only [body_wait,waitFn,Option.getD_some]
 refine WTo.c rfl (fun _=>stepG_seq) ?_
 (refine WTo.c rfl (fun _=>stepG_cond (t:=true) (by first | rfl | (simp [Act.eval];omega))) ?_;simp only [if_true,if_false,Bool.false_eq_true,↓reduceIte])
 (refine WTo.c rfl (fun _=>stepG_region) ?_;simp only [List.size_toArray,List.length_cons,List.length_nil,Nat.reduceAdd,Nat.zero_add,List.range,List.range.loop])
 refine WTo.stop ⟨rfl,_,fun _ _=>stepG_mark0 .disable (by simp) rfl rfl (by k_ne) rfl H.f_disable (x_disable_n L) (x_disable_b L) (x_disable_x L) (x_disable_f L),?_⟩
 walk_nrm
 show WTo P true (WgLive L.tWg Wg) (EvS Wg) _ _
 refine WTo.c rfl (fun _=>stepG_region_end) ?_
 refine WTo.c rfl (fun _=>stepG_block) ?_
 refine WTo.c rfl (fun _=>stepG_loop) ?_
 exact WTo.stop ⟨_,rfl,by simp,by simp⟩
end
end Go.Proofs.YtbokomeejmnnoaaDoor
