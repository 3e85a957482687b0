/- Own facts, put together: no statement of its own. -/
import Derived.Deep.RegionHeld3
import Derived.Deep.DeepCutAuto
import Derived.Deep.LoopGhost
import Derived.Deep.AppendLies
import Derived.Laws.StructEq
import Derived.Deep.CutRange
import Derived.BigQuiet
import Derived.Test.YtibhkijaafdkoaaGreatDoorQ50
import Derived.Test.YtibhkijaafdkoaaGreatDoorQ38
import Derived.Test.YtibhkijaafdkoaaGreatDoorQ02
import Derived.Test.YtibhkijaafdkoaaGreatDoorQ15
import Derived.Test.YtibhkijaafdkoaaGreatDoorQ13
import Derived.Test.YtibhkijaafdkoaaGreatDoorQ41
import Derived.Test.YtibhkijaafdkoaaGreatDoorQ14
import Derived.Test.YtibhkijaafdkoaaGreatDoorQ17
import Derived.Test.YtibhkijaafdkoaaGreatDoorQ32
import Derived.Test.YtibhkijaafdkoaaGreatDoorQ22
import Derived.Test.YtibhkijaafdkoaaGreatDoorQ35
import Derived.Test.YtibhkijaafdkoaaGreatDoorQ27
import Derived.Laws.OwnMore
import Derived.ChangeKeysEq
import Derived.Deep.RegionHeldLaw
import Derived.Test.YtibhkijaafdkoaaGreatDoorQ04
namespace Go.Proofs.YtibhkijaafdkoaaGreatDoor
open Go.RowKit
def LiesM (w : World) (a : Option Addr) (nn : List (List Int)) : Prop :=
 nn = [] ∨ ∃ b off, a = some ⟨b, off, none⟩ ∧ b < w.heap.size ∧ ∀ (i : Nat) ns, nn[i]? = some ns → ∃ a' cap, w.cell? ⟨b, off + i, none⟩ = some (.slice a' ns.length cap) ∧ LiesN w a' ns ∧ ns.length ≤ cap ∧ cap ≤ maxLen ∧ (a' = none → ns = [] ∧ cap = 0)
theorem LiesM.place {w : World} {a : Option Addr} {nn : List (List Int)} (h : LiesM w a nn) (h1 : 1 ≤ nn.length) :
  ∃ b off, a = some ⟨b, off, none⟩ ∧ b < w.heap.size ∧ ∀ (i : Nat) ns, nn[i]? = some ns → ∃ a' cap, w.cell? ⟨b, off + i, none⟩ = some (.slice a' ns.length cap) ∧ LiesN w a' ns ∧ ns.length ≤ cap ∧ cap ≤ maxLen ∧ (a' = none → ns = [] ∧ cap = 0) := by
 rcases h with rfl | h
 · simp at h1
 · exact h
theorem LiesM.below {w w' : World} {a : Option Addr} {nn : List (List Int)} (h : LiesM w a nn) (hb : Below w.heap.size w w') : LiesM w' a nn := by
 rcases h with rfl | ⟨b, off, rfl, hlt, hc⟩
 · exact .inl rfl
 ·
  refine .inr ⟨b, off, rfl, Nat.lt_of_lt_of_le hlt hb.size, fun i ns hi => ?_⟩
  obtain ⟨a', cap, h1, h2, h3⟩ := hc i ns hi
  exact ⟨a', cap, cell_later hb h1, h2.below hb, h3⟩
def kindRow : List ByteArray := [⟨#[102, 105, 102, 111]⟩, ⟨#[114, 97, 110, 107]⟩, ⟨#[100, 117, 101]⟩, ⟨#[114, 111, 117, 110, 100]⟩, ⟨#[102, 97, 105, 114]⟩]
theorem busy_same {cs : List (List (Int × Int))} {k k' : Nat} {per : Int} {ns ns' : List Int} {ps qs qs' : List Pk} {l l' : List Sn} (ho : OkPks ps) (hg : GateOk cs k per ns) (hg' : GateOk cs k' per ns') (h : GateRun (curveFl cs) k per ns ps qs l) (h' : GateRun (curveFl cs) k' per ns' ps qs' l') : busyL l = busyL l' := by
 obtain rfl := h.same_in ho h'
 obtain ⟨hoq, -, hs⟩ := h.ok ho hg.curves.ok
 obtain ⟨-, -, hs'⟩ := h'.ok ho hg'.curves.ok
 obtain ⟨hc, -, hl⟩ := hs.may hg.nums hoq hg.per.1
 obtain ⟨hc', -, hl'⟩ := hs'.may hg'.nums hoq hg'.per.1
 rw [hc.busy hoq hg.per.1 hl, hc'.busy hoq hg.per.1 hl']
end Go.Proofs.YtibhkijaafdkoaaGreatDoor

namespace Go.Proofs.YtibhkijaafdkoaaGreatDoor
open Go.RowKit
def cells2 (ls : List (Int × Int)) : List Value := ls.flatMap fun p => [.int .i64 p.1, .int .i64 p.2]
theorem cells2_cons (p : Int × Int) (r : List (Int × Int)) : cells2 (p :: r) = .int .i64 p.1 :: .int .i64 p.2 :: cells2 r := rfl
theorem cells2_append (a b : List (Int × Int)) : cells2 (a ++ b) = cells2 a ++ cells2 b := by simp [cells2]
theorem cells2_length (ls : List (Int × Int)) : (cells2 ls).length = ls.length * 2 := by
 induction ls with
 | nil => rfl
 | cons p r ih => rw [cells2_cons]; simp [ih]; omega
theorem cells2_get (ls : List (Int × Int)) : ∀ i x y, ls[i]? = some (x, y) → (cells2 ls)[i * 2]? = some (.int .i64 x) ∧ (cells2 ls)[i * 2 + 1]? = some (.int .i64 y) := by
 induction ls with
 | nil => intro i x y h; simp at h
 | cons q r ih =>
  intro i x y h
  rw [cells2_cons]
  cases i with
  | zero => simp at h; subst h; exact ⟨rfl, rfl⟩
  | succ i =>
   have := ih i x y (by simpa using h)
   rw [show (i + 1) * 2 = i * 2 + 1 + 1 by omega]
   exact ⟨by simpa using this.1, by simpa using this.2⟩
theorem cells2_one (ls : List (Int × Int)) : ∀ u ∈ cells2 ls, u.oneCell' = true := by
 intro u hu
 simp only [cells2, List.mem_flatMap] at hu
 obtain ⟨p, -, h⟩ := hu
 simp at h
 rcases h with rfl | rfl <;> rfl
theorem cells2_set (r : List (Int × Int)) (s t u : Int) : (cells2 (r ++ [(s, t)])).set (r.length * 2 + 1) (.int .i64 u) = cells2 (r ++ [(s, u)]) := by
 rw [cells2_append, cells2_append, List.set_append_right _ _ (by rw [cells2_length]; omega), cells2_length, show r.length * 2 + 1 - r.length * 2 = 1 by omega]
 rfl
def Own2 (w : World) (B : Nat) (v : Value) (ls : List (Int × Int)) : Prop := w.ownsRow B 60 2 v ls.length (cells2 ls)
theorem Own2.place {w : World} {B : Nat} {v : Value} {ls : List (Int × Int)} (h : Own2 w B v ls) (h0 : 0 < ls.length) :
  ∃ g cap, v = .slice (some ⟨g, 0, none⟩) ls.length cap ∧ ls.length ≤ cap ∧ cap ≤ maxLen ∧ B ≤ g ∧ g < w.heap.size ∧ (∀ i x y, ls[i]? = some (x, y) → w.cell? ⟨g, i * 2, none⟩ = some (.int .i64 x) ∧ w.cell? ⟨g, i * 2 + 1, none⟩ = some (.int .i64 y)) ∧ ∀ j, w.frozen? ⟨g, j, none⟩ = false := by
 have hh := h
 obtain ⟨h1, ⟨-, h2⟩ | ⟨g, cap, cur, rfl, hB, hg, hn, hm, r⟩⟩ := h
 · omega
 ·
  refine ⟨g, cap, rfl, hn, hm, hB, lt_of_block hg, fun i x y hi => ?_, fun j => World.ownsRow.frozenAt hh j⟩
  have hil : i < ls.length := by
   rcases Nat.lt_or_ge i ls.length with h | h
   · exact h
   · simp [List.getElem?_eq_none h] at hi
  have := cells2_get ls i x y hi
  rw [World.ownsRow.cellAt hh _ (by omega), World.ownsRow.cellAt hh _ (by omega)]
  exact this
theorem Own2.form {w : World} {B : Nat} {v : Value} {ls : List (Int × Int)} (h : Own2 w B v ls) : ∃ a cap, v = .slice a ls.length cap ∧ ls.length ≤ cap ∧ cap ≤ maxLen := by
 obtain ⟨h1, ⟨rfl, h2⟩ | ⟨g, cap, cur, rfl, hB, hg, hn, hm, r⟩⟩ := h
 · exact ⟨none, 0, by rw [h2], by omega, by simp [maxLen]⟩
 · exact ⟨_, cap, rfl, hn, hm⟩
theorem Own2.later {w w' : World} {B : Nat} {v : Value} {ls : List (Int × Int)} (h : Own2 w B v ls) (hb : Below w.heap.size w w') : Own2 w' B v ls := ownsRow_of_block h (fun g _ hg => hb.block g hg)
theorem Own2.put {w : World} {B g cap n : Nat} {r : List (Int × Int)} {s t : Int} (h : Own2 w B (.slice (some ⟨g, 0, none⟩) n cap) (r ++ [(s, t)])) (hn : n = r.length + 1) (u : Int) : Own2 (w.setCell ⟨g, r.length * 2 + 1, none⟩ (.int .i64 u)) B (.slice (some ⟨g, 0, none⟩) n cap) (r ++ [(s, u)]) := by
 subst hn
 unfold Own2 at *
 rw [List.length_append] at *
 have := (World.ownsRow.stored h (r.length * 2 + 1) (.int .i64 u)).1
 rw [cells2_set] at this
 exact this
theorem Own2.snoc {w : World} {B g cap : Nat} {ls : List (Int × Int)} {x y : Int} (h : w.ownsRow B 60 2 (.slice (some ⟨g, 0, none⟩) (ls.length + 1) cap) (ls.length + 1) (cells2 ls ++ cells2 [(x, y)])) : Own2 w B (.slice (some ⟨g, 0, none⟩) (ls.length + 1) cap) (ls ++ [(x, y)]) := by
 unfold Own2
 rw [List.length_append, cells2_append]
 exact h
theorem Tryz.infoArr2 : (Tryz.prog.info? 60).map (fun i => (i.zero, i.size, i.bytes)) = some (some (.agg #[.int .i64 0, .int .i64 0]), 2, 16) := by kernel_rfl
theorem Tryz.arr2Guard : Tryz.prog.eqGuardType Tryz.prog.depth 60 = false := by kernel_rfl
theorem Tryz.arr2Cells : Tryz.prog.cellsOf 3 = 1 := by kernel_rfl
theorem Tryz.arr2Part0 (w : World) (x y : Int) : (part 3 #[.int .i64 x, .int .i64 y] (0 * 1)).run Tryz.prog w = .ok (.int .i64 x) w := by kernel_rfl
theorem Tryz.arr2Part1 (w : World) (x y : Int) : (part 3 #[.int .i64 x, .int .i64 y] (1 * 1)).run Tryz.prog w = .ok (.int .i64 y) w := by kernel_rfl
theorem Tryz.neqArr2 (w : World) (x y : Int) : (binOp .neq 60 (.agg #[.int .i64 x, .int .i64 y]) (.agg #[.int .i64 x, .int .i64 y])).run Tryz.prog w = .ok (.bool false) w := by
 obtain ⟨i, hi, -, -, -⟩ := info_parts Tryz.infoInt
 rw [run_neq_struct, run_equalIn_array (n := 2) (e := 3) w 9999 _ _ Tryz.underlying60 hi, Tryz.arr2Cells]
 simp only [show List.range 2 = [0, 1] from rfl, Op.eqItems, Sem.run_bind, Tryz.arr2Part0, Tryz.arr2Part1, Result.andThen_ok, run_equalIn_int _ 9998 3 .i64 .i64 _ _ Tryz.underlying3, beq_self_eq_true, Bool.not_true, Bool.false_eq_true, if_false, Sem.run_pure, Sem.run_ite]
end Go.Proofs.YtibhkijaafdkoaaGreatDoor

namespace Go.Proofs.YtibhkijaafdkoaaGreatDoor
open Go.RowKit
def BusyEnd (l : List Sn) (w : World) (e : Ending) (w' : World) : Prop := ∃ v, e = .returned v ∧ Own2 w' w.heap.size v (busyL l) ∧ Below w.heap.size w w'
set_option maxRecDepth 100000 in
set_option maxHeartbeats 4000000 in
theorem busy_any (a : Option Addr) (cap : Nat) (l : List Sn) (w : World) (hl : LiesS w a l) (hn : l.length ≤ 300) :
  Calls Tryz.prog 25 #[.slice a l.length cap] w fun e w' => BusyEnd l w e w' := by
 have HL : Hid (LiesS w a l) := hl
 clear hl
 obtain ⟨n, hnn⟩ : ∃ n, l.length = n := ⟨_, rfl⟩
 have HN : Hid (l.length = n) := hnn
 rw [hnn] at hn ⊢
 clear hnn
 obtain ⟨i0, hi, hz0, hz1, hz2⟩ := info_parts Tryz.infoArr2
 go_enter Tryz.func25, Tryz.ntmps25
 go_wp2_with fail
 go_loopg [3, 9] n (fun gk v i wr => ∃ k : Nat, gk + k = n ∧ i = .int .i64 k ∧ Own2 wr w.heap.size v (busyL (l.take k)) ∧ Below w.heap.size w wr)
 case atStart => exact ⟨0, by omega, rfl, World.ownsRow_nil _ _ _ _, Below.refl _ _⟩
 case round =>
  obtain ⟨k, hgk, rfl, hown, hb⟩ := hrel
  have HO : Hid (Own2 wr w.heap.size u3 (busyL (l.take k)) ∧ Below w.heap.size w wr) := ⟨hown, hb⟩
  have hlen := busyL_length l k (by rw [HN.out]; omega)
  have hsz := hb.size
  by_cases hkn : k < n
  ·
   obtain ⟨⟨x, y, z⟩, hp, -⟩ := get_some l k (by rw [HN.out]; exact hkn)
   obtain ⟨b, off, rfl, -, hc⟩ := HL.out.place (by rw [HN.out]; omega)
   have c1 : wr.cell? ⟨b, off + k * 3, none⟩ = some (.int .i64 x) := cell_later hb (hc k _ hp).1
   have c2 : wr.cell? ⟨b, off + k * 3 + 1, none⟩ = some (.int .i64 y) := cell_later hb (hc k _ hp).2.1
   have c3 : wr.cell? ⟨b, off + k * 3 + 2, none⟩ = some (.int .i64 z) := cell_later hb (hc k _ hp).2.2
   have HStep : Hid (busyL (l.take (k + 1)) = busyStep (busyL (l.take k)) ⟨x, y, z⟩) := busyL_take hp
   clear hc hp hb hown
   rcases List.eq_nil_or_concat (busyL (l.take k)) with hnil | ⟨r, ⟨s, t⟩, hsn⟩
   ·
    have HO' : Hid (Own2 wr w.heap.size u3 [] ∧ Below w.heap.size w wr) := by have := HO.out; rw [hnil] at this; exact this
    obtain ⟨a3, k3, rfl, h31, h32⟩ := HO'.out.1.form
    simp only [List.length_nil] at h31 HO' ⊢
    unfold maxLen at h32
    have HNx : Hid (busyL (l.take (k + 1)) = [] ++ [(y, z)]) := by
     show _ = _
     rw [HStep.out, hnil]; rfl
    clear hnil
    go_wp2_with fail
    go_quiet (fail)
    obtain ⟨W, hW⟩ : ∃ W, (wr.alloc (.cells #[.int .i64 x, .int .i64 y, .int .i64 z] 78)).drewN nq = W := ⟨_, rfl⟩
    have hbW : Below wr.heap.size wr W := by rw [← hW]; exact below_drewN ((Below.refl _ _).alloc (Nat.le_refl _) _) _
    have w2 : W.cell? ⟨wr.heap.size, 1, none⟩ = some (.int .i64 y) := by rw [← hW]; simp
    have w3 : W.cell? ⟨wr.heap.size, 2, none⟩ = some (.int .i64 z) := by rw [← hW]; simp
    rw [hW]
    have HW : Hid (Below w.heap.size w W ∧ Own2 W w.heap.size (.slice a3 0 k3) []) := ⟨HO'.out.2.trans (hbW.mono hsz), HO'.out.1.later hbW⟩
    have HW4 : Hid (Below w.heap.size w (W.alloc (.cells #[.int .i64 y, .int .i64 z] 60)) ∧ Own2 (W.alloc (.cells #[.int .i64 y, .int .i64 z] 60)) w.heap.size (.slice a3 0 k3) []) := ⟨HW.out.1.alloc HW.out.1.size _, HW.out.2.later ((Below.refl _ _).alloc (Nat.le_refl _) _)⟩
    have HNews : Hid (∀ j u, (cells2 [(y, z)])[j]? = some u → (W.alloc (.cells #[.int .i64 y, .int .i64 z] 60)).cell? ((⟨W.heap.size, 0, none⟩ : Addr).add j) = some u) := World.news_of_block (cs := #[.int .i64 y, .int .i64 z]) (t := 60) (heap_alloc_new W _)
    clear hW hbW
    go_wp2_with (at_builtin; go_must (refine wpList_append_lies _ rfl _ _ 58 rfl w.heap.size 60 i0 (.agg #[.int .i64 0, .int .i64 0]) 2 16 Tryz.underlying58 hi hz0 hz1 hz2 rfl (by decide) (.slice a3 0 k3) 0 (cells2 []) rfl HW4.out.2 ⟨W.heap.size, 0, none⟩ 1 1 (cells2 [(y, z)]) rfl rfl HNews.out (cells2_one _) (by decide) (by unfold maxLen; omega) (by omega) HW4.out.1.size _ rfl ?_; intro g5 cap5 w5 ho5 hg5 hat5 hlt5; have H5 : Hid (Own2 w5 w.heap.size (.slice (some ⟨g5, 0, none⟩) (0 + 1) cap5) ([] ++ [(y, z)]) ∧ Below w.heap.size w w5) := ⟨Own2.snoc (ls := []) ho5, HW4.out.1.grown hg5 HW4.out.1.size (fun k hk => (ownsRow_lt HW4.out.2 hk).1)⟩; clear ho5 hg5 hat5 hlt5))
    go_roundg (gk - 1)
    case measure => omega
    case rel => exact ⟨k + 1, by omega, by go_num, by rw [HNx.out]; exact H5.out.1, H5.out.2⟩
   ·
    rw [List.concat_eq_append] at hsn
    have HO' : Hid (Own2 wr w.heap.size u3 (r ++ [(s, t)]) ∧ Below w.heap.size w wr) := by have := HO.out; rw [hsn] at this; exact this
    have hrl : r.length + 1 ≤ k := by rw [hsn] at hlen; simpa using hlen
    obtain ⟨g, k3, rfl, h31, h32, h33, h34, h35, h36⟩ := HO'.out.1.place (by simp)
    rw [List.length_append] at h31 ⊢
    simp only [List.length_cons, List.length_nil, Nat.zero_add] at h31 ⊢
    have e1 := h35 r.length s t (by simp)
    have HCs : Hid (wr.cell? ⟨g, r.length * 2, none⟩ = some (.int .i64 s) ∧ wr.cell? ⟨g, r.length * 2 + 1, none⟩ = some (.int .i64 t)) := e1
    have d1 : (wr.alloc (.cells #[.int .i64 x, .int .i64 y, .int .i64 z] 78)).cell? ⟨g, r.length * 2, none⟩ = some (.int .i64 s) := cell_later ((Below.refl _ _).alloc (Nat.le_refl _) _) e1.1
    have d2 : (wr.alloc (.cells #[.int .i64 x, .int .i64 y, .int .i64 z] 78)).cell? ⟨g, r.length * 2 + 1, none⟩ = some (.int .i64 t) := cell_later ((Below.refl _ _).alloc (Nat.le_refl _) _) e1.2
    unfold maxLen at h32
    clear h35 h36 e1 hlen
    obtain ⟨m, hm⟩ : ∃ m, r.length = m := ⟨_, rfl⟩
    have HAl : Hid ((r ++ [(s, t)]).length = m + 1) := by show _ = _; simp [hm]
    have HMr : Hid (r.length = m) := hm
    rw [hm] at d1 d2 h31 hrl HCs ⊢
    simp only [List.length_append, List.length_cons, List.length_nil, Nat.zero_add, hm] at HO'
    by_cases hyt : t < y
    ·
     have HNx : Hid (busyL (l.take (k + 1)) = r ++ [(s, t)] ++ [(y, z)]) := by
      show _ = _
      rw [HStep.out, hsn, busyStep_far _ _ _ _ hyt]
     clear hsn hm
     have t0 : decide ((m : Int) < 0) = false := decide_eq_false (by omega)
     have t1 : decide (y > t) = true := decide_eq_true hyt
     go_wp2_with fail
     go_quiet (fail)
     obtain ⟨W, hW⟩ : ∃ W, (wr.alloc (.cells #[.int .i64 x, .int .i64 y, .int .i64 z] 78)).drewN nq = W := ⟨_, rfl⟩
     have hbW : Below wr.heap.size wr W := by rw [← hW]; exact below_drewN ((Below.refl _ _).alloc (Nat.le_refl _) _) _
     have w2 : W.cell? ⟨wr.heap.size, 1, none⟩ = some (.int .i64 y) := by rw [← hW]; simp
     have w3 : W.cell? ⟨wr.heap.size, 2, none⟩ = some (.int .i64 z) := by rw [← hW]; simp
     rw [hW]
     have HW : Hid (Below w.heap.size w W ∧ Own2 W w.heap.size (.slice (some ⟨g, 0, none⟩) (m + 1) k3) (r ++ [(s, t)])) := ⟨HO'.out.2.trans (hbW.mono hsz), HO'.out.1.later hbW⟩
     have HW4 : Hid (Below w.heap.size w (W.alloc (.cells #[.int .i64 y, .int .i64 z] 60)) ∧ Own2 (W.alloc (.cells #[.int .i64 y, .int .i64 z] 60)) w.heap.size (.slice (some ⟨g, 0, none⟩) (m + 1) k3) (r ++ [(s, t)])) := ⟨HW.out.1.alloc HW.out.1.size _, HW.out.2.later ((Below.refl _ _).alloc (Nat.le_refl _) _)⟩
     have HNews : Hid (∀ j u, (cells2 [(y, z)])[j]? = some u → (W.alloc (.cells #[.int .i64 y, .int .i64 z] 60)).cell? ((⟨W.heap.size, 0, none⟩ : Addr).add j) = some u) := World.news_of_block (cs := #[.int .i64 y, .int .i64 z]) (t := 60) (heap_alloc_new W _)
     clear hW hbW
     go_wp2_with (at_builtin; go_must (refine wpList_append_lies _ rfl _ _ 58 rfl w.heap.size 60 i0 (.agg #[.int .i64 0, .int .i64 0]) 2 16 Tryz.underlying58 hi hz0 hz1 hz2 rfl (by decide) (.slice (some ⟨g, 0, none⟩) (m + 1) k3) (m + 1) (cells2 (r ++ [(s, t)])) rfl (by have := HW4.out.2; unfold Own2 at this; rwa [HAl.out] at this) ⟨W.heap.size, 0, none⟩ 1 1 (cells2 [(y, z)]) rfl rfl HNews.out (cells2_one _) (by decide) (by unfold maxLen; omega) (by omega) HW4.out.1.size _ rfl ?_; intro g5 cap5 w5 ho5 hg5 hat5 hlt5; have H5 : Hid (Own2 w5 w.heap.size (.slice (some ⟨g5, 0, none⟩) ((m + 1) + 1) cap5) ((r ++ [(s, t)]) ++ [(y, z)]) ∧ Below w.heap.size w w5) := ⟨(by have h := Own2.snoc (ls := r ++ [(s, t)]) (x := y) (y := z) (g := g5) (cap := cap5) (by rw [HAl.out]; exact ho5); rwa [HAl.out] at h), HW4.out.1.grown hg5 HW4.out.1.size (fun k hk => (ownsRow_lt HW4.out.2 hk).1)⟩; clear ho5 hg5 hat5 hlt5))
     go_roundg (gk - 1)
     case measure => omega
     case rel => exact ⟨k + 1, by omega, by go_num, by rw [HNx.out]; exact H5.out.1, H5.out.2⟩
    ·
     have HNx : Hid (busyL (l.take (k + 1)) = r ++ [(s, max t z)]) := by
      show _ = _
      rw [HStep.out, hsn, busyStep_near _ _ _ _ hyt]
     clear hsn hm
     have t0 : decide ((m : Int) < 0) = false := decide_eq_false (by omega)
     have t1 : decide (y > t) = false := decide_eq_false hyt
     go_wp2_with fail
     go_quiet (fail)
     obtain ⟨W, hW⟩ : ∃ W, (wr.alloc (.cells #[.int .i64 x, .int .i64 y, .int .i64 z] 78)).drewN nq = W := ⟨_, rfl⟩
     have hbW : Below wr.heap.size wr W := by rw [← hW]; exact below_drewN ((Below.refl _ _).alloc (Nat.le_refl _) _) _
     have w3 : W.cell? ⟨wr.heap.size, 2, none⟩ = some (.int .i64 z) := by rw [← hW]; simp
     have w4 : W.cell? ⟨g, m * 2 + 1, none⟩ = some (.int .i64 t) := cell_later hbW HCs.out.2
     rw [hW]
     have HW : Hid (Below w.heap.size w W ∧ Own2 W w.heap.size (.slice (some ⟨g, 0, none⟩) (m + 1) k3) (r ++ [(s, t)])) := ⟨HO'.out.2.trans (hbW.mono hsz), HO'.out.1.later hbW⟩
     have f4 : W.frozen? ⟨g, m * 2 + 1, none⟩ = false := World.ownsRow.frozenAt (n := m + 1) (cap := k3) (by have := HW.out.2; unfold Own2 at this; rw [HAl.out] at this; exact this) _
     clear hW hbW d1 d2
     by_cases hzt : z > t
     ·
      have HNx2 : Hid (busyL (l.take (k + 1)) = r ++ [(s, z)]) := by
       have := HNx.out
       rwa [show max t z = z by omega] at this
      have HEnd : Hid (Own2 (W.setCell ⟨g, m * 2 + 1, none⟩ (.int .i64 z)).drew w.heap.size (.slice (some ⟨g, 0, none⟩) (m + 1) k3) (r ++ [(s, z)]) ∧ Below w.heap.size w (W.setCell ⟨g, m * 2 + 1, none⟩ (.int .i64 z)).drew) := by
       have hp := Own2.put (n := m + 1) HW.out.2 (by rw [HMr.out]) z
       rw [HMr.out] at hp
       have hgB : w.heap.size ≤ g := (ownsRow_lt HW.out.2 rfl).1
       exact ⟨hp.later (below_drewN (Below.refl _ _) 1), below_drewN (HW.out.1.setCell hgB _) 1⟩
      go_wp2_with fail
      go_region
      go_wp2_with fail
      go_roundg (gk - 1)
      case measure => omega
      case rel =>
       have HMx : max t z = z := by omega
       try rw [HMx]
       exact ⟨k + 1, by omega, by go_num, by rw [HNx2.out]; exact HEnd.out.1, HEnd.out.2⟩
     ·
      have HNx2 : Hid (busyL (l.take (k + 1)) = r ++ [(s, t)]) := by
       have := HNx.out
       rwa [show max t z = t by omega] at this
      have HEnd : Hid (Own2 (W.setCell ⟨g, m * 2 + 1, none⟩ (.int .i64 t)).drew w.heap.size (.slice (some ⟨g, 0, none⟩) (m + 1) k3) (r ++ [(s, t)]) ∧ Below w.heap.size w (W.setCell ⟨g, m * 2 + 1, none⟩ (.int .i64 t)).drew) := by
       have hp := Own2.put (n := m + 1) HW.out.2 (by rw [HMr.out]) t
       rw [HMr.out] at hp
       have hgB : w.heap.size ≤ g := (ownsRow_lt HW.out.2 rfl).1
       exact ⟨hp.later (below_drewN (Below.refl _ _) 1), below_drewN (HW.out.1.setCell hgB _) 1⟩
      go_wp2_with fail
      go_region
      go_wp2_with fail
      go_roundg (gk - 1)
      case measure => omega
      case rel =>
       have HMx : max t z = t := by omega
       try rw [HMx]
       exact ⟨k + 1, by omega, by go_num, by rw [HNx2.out]; exact HEnd.out.1, HEnd.out.2⟩
  ·
   go_wp2_with fail
   go_ret
   refine ⟨_, rfl, ?_, HO.out.2⟩
   have := HO.out.1
   rwa [List.take_of_length_le (by rw [HN.out]; omega)] at this
end Go.Proofs.YtibhkijaafdkoaaGreatDoor

namespace Go.Proofs.YtibhkijaafdkoaaGreatDoor
open Go.RowKit
def GoodBusy (cs : List (List (Int × Int))) (per : Int) (ps : List Pk) (F : List (Int × Int)) : Prop := ∃ k ns qs l, GateOk cs k per ns ∧ OkPks ps ∧ GateRun (curveFl cs) k per ns ps qs l ∧ F = busyL l
theorem GoodBusy.one {cs : List (List (Int × Int))} {per : Int} {ps : List Pk} {F G : List (Int × Int)} (h : GoodBusy cs per ps F) (h' : GoodBusy cs per ps G) : F = G := by
 obtain ⟨k, ns, qs, l, h1, h2, h3, rfl⟩ := h
 obtain ⟨k', ns', qs', l', g1, g2, g3, rfl⟩ := h'
 exact busy_same h2 h1 g1 h3 g3
def RunB (cs : List (List (Int × Int))) (per : Int) (ps : List Pk) (n : Nat) (w : World) (e : Ending) (w' : World) : Prop := Below w.heap.size w w' ∧ ∃ q1 q2 E, e = .returned (.tuple #[q1, q2, E]) ∧ ((∃ ty v, E = .iface ty v) ∨ (E = .nilIface ∧ ∃ la lcap l, q2 = .slice la n lcap ∧ LiesS w' la l ∧ l.length = n ∧ n ≤ 300 ∧ GoodBusy cs per ps (busyL l)))
theorem runB (GW : GateWalks) (ca : Option Addr) (ccap : Nat) (cs : List (List (Int × Int))) (kb : ByteArray) (per : Int) (na : Option Addr) (ncap : Nat) (ns : List Int) (pa : Option Addr) (pcap : Nat) (ps : List Pk) (w : World) (ad : Nat → Addr) (he : Errs9 w ad) (hg : GateLies w ca ccap cs na ncap ns) (hp : PksLie w pa pcap ps) :
  Calls Tryz.prog 20 #[.agg #[.slice ca cs.length ccap, .string kb, .int .i64 per, .slice na ns.length ncap], .slice pa ps.length pcap] w fun e w' => RunB cs per ps ps.length w e w' := by
 obtain ⟨c, p, hri⟩ := runIs_is cs (kindOf_le kb.toList) per ns ps
 by_cases hc : 0 < c
 ·
  refine (GW.bad ca ccap cs kb per na ncap ns pa pcap ps w ad c p he hg hp hri hc).mono ?_
  rintro e w' ⟨qa, qcap, la, lcap, E, rfl, hE, hb⟩
  obtain ⟨ty, v, rfl⟩ := hE.some_ (by omega)
  exact ⟨hb, _, _, _, rfl, .inl ⟨ty, v, rfl⟩⟩
 ·
  have hok : GateOk cs (kindOf kb.toList) per ns ∧ OkPks ps ∧ ∀ i, ¬ NeverAt (curveFl cs) ps i := by
   rcases hri with ⟨-, h⟩ | ⟨-, -, h⟩ | ⟨-, -, i, -, -, h, -⟩ | ⟨h1, h2, h3, -, -⟩
   · exact absurd h hc
   · exact absurd h hc
   · omega
   · exact ⟨h1, h2, h3⟩
  refine (GW.good ca ccap cs kb per na ncap ns pa pcap ps w ad he hg hp hok.1 hok.2.1 hok.2.2).mono ?_
  rintro e w' ⟨qa, qcap, la, lcap, qs, l, rfl, hq, hl, hrun, hb⟩
  obtain ⟨hoq, hql, hls⟩ := hrun.ok hok.2.1 hok.1.curves.ok
  obtain ⟨-, -, hll⟩ := hls.may hok.1.nums hoq hok.1.per.1
  have e := hll.trans hql
  exact ⟨hb, _, _, _, rfl, .inr ⟨rfl, la, lcap, l, by rw [e], hl.sent, e, hok.2.1.few, _, ns, qs, l, hok.1, hok.2.1, hrun, rfl⟩⟩
end Go.Proofs.YtibhkijaafdkoaaGreatDoor
