/- Own facts, put together: no statement of its own. -/
import Derived.Deep.AppendLies
import Derived.Test.YtibhkijaafdkoaaGreatDoorQ13
import Derived.Test.YtibhkijaafdkoaaGreatDoorQ15
import Derived.Test.YtibhkijaafdkoaaGreatDoorQ37
import Derived.Test.YtibhkijaafdkoaaGreatDoorQ35
import Derived.Test.YtibhkijaafdkoaaGreatDoorQ17
import Derived.Test.YtibhkijaafdkoaaGreatDoorQ19
namespace Go.Proofs.YtibhkijaafdkoaaGreatDoor
open Go.RowKit
theorem OwnP.mono {w : World} {B B' : Nat} {v : Value} {ps : List Pk} (h : OwnP w B v ps) (hb : B' ≤ B) : OwnP w B' v ps := ownsRow_mono h hb
theorem OwnP.later {w w' : World} {B : Nat} {v : Value} {ps : List Pk} (h : OwnP w B v ps) (hb : Below w.heap.size w w') : OwnP w' B v ps := ownsRow_of_block h fun g _ hg => hb.block g hg
theorem run_append_pks (w : World) (ty : TypeId) (B : Nat) (v : Value) (ps qs : List Pk) (xa : Option Addr) (xcap : Nat) (hown : OwnP w B v ps) (hl : LiesP w xa qs) (hxa : xa = none → qs = [] ∧ xcap = 0) (hn : ps.length + qs.length ≤ 1000) (hB : B ≤ w.heap.size) :
  ∃ v' w', (Builtin.append_ #[43, 43] ty #[v, .slice xa qs.length xcap]).run Tryz.prog w = .ok v' w' ∧ OwnP w' B v' (ps ++ qs) ∧ Below B w w' := by
 obtain ⟨i0, hi, hz0, hz1, hz2⟩ := info_parts Tryz.infoPkt
 cases xa with
 | none =>
  obtain ⟨rfl, rfl⟩ := hxa rfl
  exact ⟨v, w, run_append_owned_none (P := Tryz.prog) w B 43 ty 52 i0 3 Tryz.underlying43 hi v ps.length (cellsP ps) hown, by rw [List.append_nil]; exact hown, Below.refl _ _⟩
 | some ad =>
  obtain ⟨v', w', hrun, h1, h2, -⟩ := run_append_own (P := Tryz.prog) w B 43 ty 52 i0 (.agg #[.int .i64 0, .int .i64 0, .int .i64 0]) 3 24 Tryz.underlying43 hi hz0 hz1 hz2 rfl (by decide) v ps.length (cellsP ps) hown ad qs.length xcap (cellsP qs) (cellsP_length qs) (liesP_news hl) (cellsP_one qs) (by unfold maxLen; omega) (by omega) hB
  refine ⟨v', w', hrun, ?_, (Below.refl _ _).grown h2 hB fun k hk => (ownsRow_lt hown hk).1⟩
  unfold OwnP
  rw [List.length_append, cellsP_append]
  exact h1
theorem wpList_append_pks (w : World) {ops : Array Oper} {rest : List Oper} {o : Oper} {a : Act} {Q : Exit → Act → World → Prop} (hgd : o.guard = none) (s x : Operand)
  (ho : o.op = .call { callee := .builtin .append, args := #[s, x], argTypes := #[43, 43] })
  (B : Nat) (v : Value) (ps qs : List Pk) (xa : Option Addr) (m xcap : Nat) (hm : qs.length = m) (hs : a.eval s = v) (hx : a.eval x = .slice xa m xcap) (hown : OwnP w B v ps) (hl : LiesP w xa qs) (hxa : xa = none → qs = [] ∧ xcap = 0) (hn : ps.length + qs.length ≤ 1000) (hB : B ≤ w.heap.size)
  (hK : ∀ v' w', OwnP w' B v' (ps ++ qs) ∧ Below B w w' → wpList Tryz.prog ops Q rest (a.put o.dst v') w') : wpList Tryz.prog ops Q (o :: rest) a w := by
 subst hm
 refine wpList_plain hgd fun K hK' => ?_
 obtain ⟨v', w', hrun, g1, g2⟩ := run_append_pks w o.type B v ps qs xa xcap hown hl hxa hn hB
 unfold Oper.wp
 simp [execOp, ho, resolve, invoke, builtin, hs, hx, hrun, Result.andThen]
 exact hK' _ _ (hK v' w' ⟨g1, g2⟩)
structure Both (w : World) (B : Nat) (v1 v2 : Value) (ps : List Pk) (ns : List Int) : Prop where
 pks : OwnP w B v1 ps
 nums : w.ownsRow B 3 1 v2 ns.length (ints ns)
 apart : ∀ g, v1.ownBlock = some g → v2.ownBlock ≠ some g
theorem both_nil (w : World) (B : Nat) : Both w B (.slice none 0 0) (.slice none 0 0) [] [] := ⟨World.ownsRow_nil _ _ _ _, World.ownsRow_nil _ _ _ _, fun g h => by cases h⟩
theorem Both.later {w w' : World} {B : Nat} {v1 v2 : Value} {ps : List Pk} {ns : List Int} (h : Both w B v1 v2 ps ns) (hb : Below w.heap.size w w') : Both w' B v1 v2 ps ns := ⟨h.pks.later hb, ownsRow_of_block h.nums fun g _ hg => hb.block g hg, h.apart⟩
theorem wpList_both_num (w : World) {ops : Array Oper} {rest : List Oper} {o : Oper} {a : Act} {Q : Exit → Act → World → Prop} (hgd : o.guard = none) (s x : Operand)
  (ho : o.op = .call { callee := .builtin .append, args := #[s, x], argTypes := #[23, 23] })
  (B : Nat) (v1 v2 : Value) (ps : List Pk) (ns : List Int) (z : Int) (ad : Addr) (hs : a.eval s = v2) (hx : a.eval x = .slice (some ad) 1 1) (hown : Both w B v1 v2 ps ns) (hl : w.cell? ad = some (.int .i64 z)) (hn : ns.length ≤ 1000) (hB : B ≤ w.heap.size)
  (hK : ∀ v' w', Both w' B v1 v' ps (ns ++ [z]) ∧ Below B w w' → wpList Tryz.prog ops Q rest (a.put o.dst v') w') : wpList Tryz.prog ops Q (o :: rest) a w := by
 obtain ⟨i0, hi, hz0, hz1, hz2⟩ := info_parts Tryz.infoInt
 refine wpList_append_lies w hgd s x 23 ho B 3 i0 (.int .i64 0) 1 8 Tryz.underlying23 hi hz0 hz1 hz2 rfl (by decide) v2 ns.length (ints ns) hs hown.nums ad 1 1 (ints [z]) hx rfl ?_ (ints_one _) (by decide) (by unfold maxLen; omega) (by omega) hB _ rfl ?_
 ·
  intro j u hj
  cases j with
  | zero =>
   have : u = .int .i64 z := by simpa [ints] using hj.symm
   rw [this]
   simpa [Addr.add] using hl
  | succ j => simp [ints] at hj
 intro g cap w' h1 h2 h3 h4
 refine hK _ _ ⟨⟨?_, ?_, ?_⟩, (Below.refl _ _).grown h2 hB fun k hk => (ownsRow_lt hown.nums hk).1⟩
 ·
  exact World.ownsRow.kept hown.pks h2 (by
   cases e : v1.ownBlock with
   | none => exact .inl rfl
   | some k => exact .inr fun e' => hown.apart k e e'.symm)
 ·
  rw [List.length_append, show ints (ns ++ [z]) = ints ns ++ ints [z] by simp [ints]]
  exact h1
 ·
  intro k hk e
  obtain rfl : g = k := Option.some.inj e
  rcases h3 with h3 | h3
  · exact hown.apart g hk h3
  ·
   have := (ownsRow_lt hown.pks hk).2
   omega
theorem liesP_new (w : World) (x y z : Int) : LiesP (w.alloc (.cells #[.int .i64 x, .int .i64 y, .int .i64 z] 52)) (some ⟨w.heap.size, 0, none⟩) [⟨x, y, z⟩] := by
 refine .inr ⟨w.heap.size, 0, rfl, by simp, fun j q hj => ?_⟩
 cases j with
 | zero =>
  obtain rfl := Option.some.inj hj
  exact ⟨by simp, by simp, by simp⟩
 | succ j => simp at hj
end Go.Proofs.YtibhkijaafdkoaaGreatDoor

namespace Go.Proofs.YtibhkijaafdkoaaGreatDoor
open Go.RowKit
structure GateLies (w : World) (ca : Option Addr) (ccap : Nat) (cs : List (List (Int × Int))) (na : Option Addr) (ncap : Nat) (ns : List Int) : Prop where
 curves : LiesC w ca cs
 cfit : cs.length ≤ ccap
 cmax : ccap ≤ maxLen
 nums : LiesN w na ns
 nfit : ns.length ≤ ncap
 nmax : ncap ≤ maxLen
 nnone : na = none → ns = [] ∧ ncap = 0
 slim : Slim cs ns
theorem GateLies.below {w w' : World} {ca : Option Addr} {ccap : Nat} {cs : List (List (Int × Int))} {na : Option Addr} {ncap : Nat} {ns : List Int} (h : GateLies w ca ccap cs na ncap ns) (hb : Below w.heap.size w w') : GateLies w' ca ccap cs na ncap ns := ⟨h.curves.below hb, h.cfit, h.cmax, h.nums.below hb, h.nfit, h.nmax, h.nnone, h.slim⟩
structure PksLie (w : World) (pa : Option Addr) (pcap : Nat) (ps : List Pk) : Prop where
 pks : LiesP w pa ps
 cap : ps.length ≤ pcap
 max : pcap ≤ maxLen
 none_ : pa = none → ps = [] ∧ pcap = 0
theorem PksLie.below {w w' : World} {pa : Option Addr} {pcap : Nat} {ps : List Pk} (h : PksLie w pa pcap ps) (hb : Below w.heap.size w w') : PksLie w' pa pcap ps := ⟨h.pks.below hb, h.cap, h.max, h.none_⟩
structure SntLie (w : World) (la : Option Addr) (lcap : Nat) (l : List Sn) : Prop where
 sent : LiesS w la l
 cap : l.length ≤ lcap
 max : lcap ≤ maxLen
 none_ : la = none → l = [] ∧ lcap = 0
theorem SntLie.below {w w' : World} {la : Option Addr} {lcap : Nat} {l : List Sn} (h : SntLie w la lcap l) (hb : Below w.heap.size w w') : SntLie w' la lcap l := ⟨h.sent.below hb, h.cap, h.max, h.none_⟩
def GateBad (c p : Int) (w : World) (e : Ending) (w' : World) : Prop := ∃ qa qcap la lcap E, e = .returned (.tuple #[.slice qa 0 qcap, .slice la 0 lcap, E]) ∧ ErrIs w' E c p ∧ Below w.heap.size w w'
def GateGood (cs : List (List (Int × Int))) (k : Nat) (per : Int) (ns : List Int) (ps : List Pk) (w : World) (e : Ending) (w' : World) : Prop := ∃ qa qcap la lcap qs l, e = .returned (.tuple #[.slice qa qs.length qcap, .slice la l.length lcap, .nilIface]) ∧ PksLie w' qa qcap qs ∧ SntLie w' la lcap l ∧ GateRun (curveFl cs) k per ns ps qs l ∧ Below w.heap.size w w'
structure GateWalks : Prop where
 check : ∀ (ca : Option Addr) (ccap : Nat) (cs : List (List (Int × Int))) (kb : ByteArray) (per : Int) (na : Option Addr) (ncap : Nat) (ns : List Int) (w : World) (ad : Nat → Addr) (c p : Int), Errs9 w ad → GateLies w ca ccap cs na ncap ns → GateIs cs (kindOf kb.toList) per ns c p →
  Calls Tryz.prog 29 #[.agg #[.slice ca cs.length ccap, .string kb, .int .i64 per, .slice na ns.length ncap]] w fun e w' => ∃ E, e = .returned E ∧ ErrIs w' E c p ∧ Below w.heap.size w w'
 bad : ∀ (ca : Option Addr) (ccap : Nat) (cs : List (List (Int × Int))) (kb : ByteArray) (per : Int) (na : Option Addr) (ncap : Nat) (ns : List Int) (pa : Option Addr) (pcap : Nat) (ps : List Pk) (w : World) (ad : Nat → Addr) (c p : Int), Errs9 w ad → GateLies w ca ccap cs na ncap ns → PksLie w pa pcap ps → RunIs cs (kindOf kb.toList) per ns ps c p → 0 < c →
  Calls Tryz.prog 20 #[.agg #[.slice ca cs.length ccap, .string kb, .int .i64 per, .slice na ns.length ncap], .slice pa ps.length pcap] w fun e w' => GateBad c p w e w'
 good : ∀ (ca : Option Addr) (ccap : Nat) (cs : List (List (Int × Int))) (kb : ByteArray) (per : Int) (na : Option Addr) (ncap : Nat) (ns : List Int) (pa : Option Addr) (pcap : Nat) (ps : List Pk) (w : World) (ad : Nat → Addr), Errs9 w ad → GateLies w ca ccap cs na ncap ns → PksLie w pa pcap ps → GateOk cs (kindOf kb.toList) per ns → OkPks ps → (∀ i, ¬ NeverAt (curveFl cs) ps i) →
  Calls Tryz.prog 20 #[.agg #[.slice ca cs.length ccap, .string kb, .int .i64 per, .slice na ns.length ncap], .slice pa ps.length pcap] w fun e w' => GateGood cs (kindOf kb.toList) per ns ps w e w'
def bare8 : List (List (Int × Int)) := List.replicate 8 []
theorem curveFl_bare : curveFl bare8 = fun _ => [] := by
 funext f
 cases h : bare8[f]? with
 | none => simp [curveFl, List.getD, h]
 | some ls =>
  rw [curveFl_get h]
  exact List.eq_of_mem_replicate (List.mem_of_getElem? h)
theorem never_bare (ps : List Pk) (i : Nat) : ¬ NeverAt (curveFl bare8) ps i := by
 rw [curveFl_bare]
 rintro ⟨p, s, -, h, -⟩
 exact h rfl
theorem run_bare {k : Nat} {per : Int} {ns : List Int} {ps qs : List Pk} {l : List Sn} (ho : OkPks ps) (h : GateRun (curveFl bare8) k per ns ps qs l) : qs = ps ∧ LinkSends k per ps ns l := by
 obtain ⟨a, L, h1, h2, rfl, h3⟩ := h
 rw [curveFl_bare] at h1
 obtain ⟨g1, g2, g3⟩ := open_gate ho
 have e := (gate_one ho h1 g1 h2 g2).trans g3
 rw [e] at h3
 exact ⟨e, h3⟩
def gpk1 : Pk := ⟨0, 3, 5⟩
theorem gpk1_ok : OkPks [gpk1] := ⟨by decide, fun i p h => by
 match i, h with
 | 0, h => cases h; exact ⟨rfl, by decide⟩
 | i + 1, h => simp at h⟩
theorem bare_ok : GateOk bare8 1 2 [] := ⟨rfl, fun i ls _ h => .inl (List.eq_of_mem_replicate (List.mem_of_getElem? h)), by decide, by decide, .inl ⟨rfl, .inr ⟨rfl, rfl⟩⟩⟩
theorem slim_bare (ns : List Int) (h : ns.length ≤ 30) : Slim bare8 ns := ⟨by decide, h, fun i ls hi => by rw [List.eq_of_mem_replicate (List.mem_of_getElem? hi)]; simp⟩
theorem liesC_bare (w : World) (t : TypeId) : LiesC (w.alloc (.cells (madeCells #[.slice none 0 0] 8) t)) (some ⟨w.heap.size, 0, none⟩) bare8 :=
 .inr ⟨w.heap.size, 0, rfl, by simp, fun i ls hi => by
  have hl : ls = [] := List.eq_of_mem_replicate (List.mem_of_getElem? hi)
  subst hl
  have hi8 : i < 8 := lt_of_get hi
  refine ⟨none, 0, ?_, .inl rfl, Nat.le_refl _, by simp [maxLen], fun _ => ⟨rfl, rfl⟩⟩
  rw [World.cell?_alloc_at _ _ _ _ rfl, Nat.zero_add]
  exact made_get _ _ _ hi8⟩
theorem kind_fifo : kindOf (ByteArray.toList ⟨#[102, 105, 102, 111]⟩) = 1 := by rw [bytes_fifo]; rfl
theorem make_curves (w' : World) : (Instr.makeSlice 22 (.int .i64 8) (.int .i64 8)).run Tryz.prog w' = .ok (.slice (some ⟨w'.heap.size, 0, none⟩) 8 8) (w'.alloc (.cells (madeCells #[.slice none 0 0] 8) 38)) := by
 obtain ⟨i0, hi, hz0, hz1, hz2⟩ := info_parts Tryz.infoLines
 have := run_make (P := Tryz.prog) w' 22 38 i0 (.slice none 0 0) Tryz.underlying22 hi hz0 .i64 .i64 8 8 (by omega) (by omega) (by rw [hz2]; omega) (by omega)
 simpa [hz1, Value.cells] using this
set_option maxRecDepth 100000 in
set_option maxHeartbeats 2000000 in
theorem opens_by (GW : GateWalks) (w : World) (ad : Nat → Addr) (he : Errs9 w ad) : Calls Tryz.prog 9 #[] w fun e w' => e = .returned (.bool true) ∧ Below w.heap.size w w' := by
 have HR : Hid (∀ W pb cb, Below w.heap.size w W → LiesC W (some ⟨cb, 0, none⟩) bare8 → LiesP W (some ⟨pb, 0, none⟩) [gpk1] → Calls Tryz.prog 20 #[.agg #[.slice (some ⟨cb, 0, none⟩) 8 8, .string ⟨#[102, 105, 102, 111]⟩, .int .i64 2, .slice none 0 0], .slice (some ⟨pb, 0, none⟩) 1 1] W fun e w' => ∃ qa qcap b o lcap, e = .returned (.tuple #[.slice qa 1 qcap, .slice (some ⟨b, o, none⟩) 1 lcap, .nilIface]) ∧ w'.cell? ⟨b, o + 2, none⟩ = some (.int .i64 11) ∧ Below W.heap.size W w') := fun W pb cb hb hc hp => by
  refine (GW.good (some ⟨cb, 0, none⟩) 8 bare8 ⟨#[102, 105, 102, 111]⟩ 2 none 0 [] (some ⟨pb, 0, none⟩) 1 [gpk1] W ad (he.below hb) ⟨hc, by decide, by decide, .inl rfl, by decide, by decide, fun _ => ⟨rfl, rfl⟩, slim_bare [] (by decide)⟩ ⟨hp, by decide, by decide, fun h => by cases h⟩ (by rw [kind_fifo]; exact bare_ok) gpk1_ok (never_bare _)).mono ?_
  rintro e w' ⟨qa, qcap, la, lcap, qs, l, rfl, h1, h2, h3, h4⟩
  rw [kind_fifo] at h3
  obtain ⟨rfl, h5⟩ := run_bare gpk1_ok h3
  obtain rfl : l = [⟨0, 5, 11⟩] := by
   rcases h5 with ⟨-, rfl⟩ | ⟨e, -⟩ | ⟨e, -⟩ | ⟨e, -⟩ | ⟨e, -⟩
   · rfl
   all_goals omega
  obtain ⟨b, o, rfl, -, hcl⟩ := h2.sent.place (by simp)
  refine ⟨qa, qcap, b, o, lcap, rfl, ?_, h4⟩
  have := (hcl 0 _ rfl).2.2
  simpa using this
 have hmk := make_curves
 have hs2 : ((w.alloc (.cells (madeCells #[.slice none 0 0] 8) 38)).alloc (.cells #[.slice (some ⟨w.heap.size, 0, none⟩) 8 8, .string ⟨#[102, 105, 102, 111]⟩, .int .i64 2, .slice none 0 0] 32)).heap.size = w.heap.size + 1 + 1 := by simp
 have hb1 : Below w.heap.size w (w.alloc (.cells (madeCells #[.slice none 0 0] 8) 38)) := (Below.refl _ _).alloc (Nat.le_refl _) _
 have hb2 : Below (w.alloc (.cells (madeCells #[.slice none 0 0] 8) 38)).heap.size (w.alloc (.cells (madeCells #[.slice none 0 0] 8) 38)) ((w.alloc (.cells (madeCells #[.slice none 0 0] 8) 38)).alloc (.cells #[.slice (some ⟨w.heap.size, 0, none⟩) 8 8, .string ⟨#[102, 105, 102, 111]⟩, .int .i64 2, .slice none 0 0] 32)) := (Below.refl _ _).alloc (Nat.le_refl _) _
 have hb3 : Below ((w.alloc (.cells (madeCells #[.slice none 0 0] 8) 38)).alloc (.cells #[.slice (some ⟨w.heap.size, 0, none⟩) 8 8, .string ⟨#[102, 105, 102, 111]⟩, .int .i64 2, .slice none 0 0] 32)).heap.size ((w.alloc (.cells (madeCells #[.slice none 0 0] 8) 38)).alloc (.cells #[.slice (some ⟨w.heap.size, 0, none⟩) 8 8, .string ⟨#[102, 105, 102, 111]⟩, .int .i64 2, .slice none 0 0] 32)) (((w.alloc (.cells (madeCells #[.slice none 0 0] 8) 38)).alloc (.cells #[.slice (some ⟨w.heap.size, 0, none⟩) 8 8, .string ⟨#[102, 105, 102, 111]⟩, .int .i64 2, .slice none 0 0] 32)).alloc (.cells #[.int .i64 0, .int .i64 3, .int .i64 5] 52)) := (Below.refl _ _).alloc (Nat.le_refl _) _
 have HV : Hid (Below w.heap.size w (((w.alloc (.cells (madeCells #[.slice none 0 0] 8) 38)).alloc (.cells #[.slice (some ⟨w.heap.size, 0, none⟩) 8 8, .string ⟨#[102, 105, 102, 111]⟩, .int .i64 2, .slice none 0 0] 32)).alloc (.cells #[.int .i64 0, .int .i64 3, .int .i64 5] 52)) ∧ LiesC (((w.alloc (.cells (madeCells #[.slice none 0 0] 8) 38)).alloc (.cells #[.slice (some ⟨w.heap.size, 0, none⟩) 8 8, .string ⟨#[102, 105, 102, 111]⟩, .int .i64 2, .slice none 0 0] 32)).alloc (.cells #[.int .i64 0, .int .i64 3, .int .i64 5] 52)) (some ⟨w.heap.size, 0, none⟩) bare8 ∧ LiesP (((w.alloc (.cells (madeCells #[.slice none 0 0] 8) 38)).alloc (.cells #[.slice (some ⟨w.heap.size, 0, none⟩) 8 8, .string ⟨#[102, 105, 102, 111]⟩, .int .i64 2, .slice none 0 0] 32)).alloc (.cells #[.int .i64 0, .int .i64 3, .int .i64 5] 52)) (some ⟨w.heap.size + 1 + 1, 0, none⟩) [gpk1]) := by
  have h12 := hb1.trans (hb2.mono hb1.size)
  refine ⟨h12.trans (hb3.mono h12.size), ((liesC_bare w 38).below hb2).below hb3, ?_⟩
  have := liesP_new ((w.alloc (.cells (madeCells #[.slice none 0 0] 8) 38)).alloc (.cells #[.slice (some ⟨w.heap.size, 0, none⟩) 8 8, .string ⟨#[102, 105, 102, 111]⟩, .int .i64 2, .slice none 0 0] 32)) 0 3 5
  rwa [hs2] at this
 clear GW he hs2 hb1 hb2 hb3
 go_enter Tryz.func9, Tryz.ntmps9
 go_wp2_with fail
 refine (HR.out _ _ _ HV.out.1 HV.out.2.1 HV.out.2.2).mono ?_
 rintro e w5 ⟨qa, qcap, b, o, lcap, rfl, hcell, hb5⟩
 have HB5 : Hid (Below w.heap.size w w5) := HV.out.1.trans (hb5.mono HV.out.1.size)
 clear hb5
 go_wp2_with fail
 go_ret
 exact ⟨rfl, HB5.out⟩
end Go.Proofs.YtibhkijaafdkoaaGreatDoor
