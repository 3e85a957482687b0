/- Own facts, put together: no statement of its own. -/
import Derived.Laws.StructEq
import Derived.BigQuiet
import Derived.Test.YtibhkijaafdkoaaGreatDoorP12
import Derived.Test.YtibhkijaafdkoaaGreatDoorP35
import Derived.Test.YtibhkijaafdkoaaGreatDoorP33
import Derived.Test.YtibhkijaafdkoaaGreatDoorP13
import Derived.Test.YtibhkijaafdkoaaGreatDoorP03
import Derived.Deep.AppendLies
import Derived.Test.YtibhkijaafdkoaaGreatDoorP14
namespace Go.Proofs.YtibhkijaafdkoaaGreatDoor
open Go.RowKit
def eqP (x y z x' y' z' : Int) : Bool := x == x' && (y == y' && z == z')
theorem eqP_iff (x y z x' y' z' : Int) : eqP x y z x' y' z' = true ↔ (⟨x, y, z⟩ : Pk) = ⟨x', y', z'⟩ := by simp [eqP]
def sameB : List Pk → List Pk → Bool
 | [], [] => true
 | p :: r, q :: s => eqP p.flow p.size p.tick q.flow q.size q.tick && sameB r s
 | _, _ => false
theorem sameB_iff : ∀ (p q : List Pk), sameB p q = true ↔ p = q := by
 intro p
 induction p with
 | nil => intro q; cases q <;> simp [sameB]
 | cons a r ih =>
  intro q
  cases q with
  | nil => simp [sameB]
  | cons b s => simp only [sameB, Bool.and_eq_true, ih, eqP_iff, List.cons.injEq]
theorem sameB_step (p q : List Pk) (k : Nat) (a b : Pk) (ha : p[k]? = some a) (hb : q[k]? = some b) : sameB (p.drop k) (q.drop k) = (eqP a.flow a.size a.tick b.flow b.size b.tick && sameB (p.drop (k + 1)) (q.drop (k + 1))) := by
 have h : ∀ (l : List Pk) (c : Pk), l[k]? = some c → l.drop k = c :: l.drop (k + 1) := fun l c h => by
  have hk : k < l.length := by
   rcases Nat.lt_or_ge k l.length with h' | h'
   · exact h'
   · simp [List.getElem?_eq_none h'] at h
  rw [List.drop_eq_getElem_cons hk]
  rw [List.getElem?_eq_getElem hk] at h
  rw [Option.some.inj h]
 rw [h p a ha, h q b hb]
 rfl
theorem Tryz.pktHeld : Tryz.prog.stoodInHeld 52 = false := by kernel_rfl
theorem Tryz.pktGuard : Tryz.prog.eqGuardType Tryz.prog.depth 52 = false := by kernel_rfl
theorem Tryz.pktFields : Tryz.prog.underlying 52 = some (.struct (Tryz.prog.fieldsOf 52)) := by
 simp only [Program.fieldsOf, Tryz.underlying52]
theorem Tryz.pktFieldsIs : (Tryz.prog.fieldsOf 52).toList = [{ name := "Flow", type := 3, offset := 0, embedded := false, tag := "", pkgPath := "", byteOffset := 0 }, { name := "Size", type := 3, offset := 1, embedded := false, tag := "", pkgPath := "", byteOffset := 8 }, { name := "At", type := 3, offset := 2, embedded := false, tag := "", pkgPath := "", byteOffset := 16 }] := by
 simp only [Program.fieldsOf, Tryz.underlying52]
theorem Tryz.pktPart0 (w : World) (x y z : Int) : (part 3 #[.int .i64 x, .int .i64 y, .int .i64 z] 0).run Tryz.prog w = .ok (.int .i64 x) w := by kernel_rfl
theorem Tryz.pktPart1 (w : World) (x y z : Int) : (part 3 #[.int .i64 x, .int .i64 y, .int .i64 z] 1).run Tryz.prog w = .ok (.int .i64 y) w := by kernel_rfl
theorem Tryz.pktPart2 (w : World) (x y z : Int) : (part 3 #[.int .i64 x, .int .i64 y, .int .i64 z] 2).run Tryz.prog w = .ok (.int .i64 z) w := by kernel_rfl
theorem Tryz.neqPkt (w : World) (x y z x' y' z' : Int) : (binOp .neq 52 (.agg #[.int .i64 x, .int .i64 y, .int .i64 z]) (.agg #[.int .i64 x', .int .i64 y', .int .i64 z'])).run Tryz.prog w = .ok (.bool (!(eqP x y z x' y' z'))) w := by
 rw [run_neq_struct, run_equalIn_struct _ 9999 _ _ _ Tryz.pktFields Tryz.pktHeld, Tryz.pktFieldsIs]
 have h1 : ("Flow" : String) ≠ "_" := by decide
 have h2 : ("Size" : String) ≠ "_" := by decide
 have h3 : ("At" : String) ≠ "_" := by decide
 simp only [Op.eqFields, if_pos h1, if_pos h2, if_pos h3, Sem.run_bind, Tryz.pktPart0, Tryz.pktPart1, Tryz.pktPart2, Result.andThen_ok, run_equalIn_int _ 9998 3 .i64 .i64 _ _ Tryz.underlying3, Sem.run_ite, Sem.run_pure, eqP]
 cases x == x' <;> cases y == y' <;> cases z == z' <;> rfl
set_option maxHeartbeats 1000000 in
theorem samePkts_any (a1 a2 : Option Addr) (cap1 cap2 : Nat) (p q : List Pk) (w : World) (h1 : LiesP w a1 p) (h2 : LiesP w a2 q) (hpq : p.length = q.length) (hn : p.length ≤ 1000) :
  Calls Tryz.prog 27 #[.slice a1 p.length cap1, .slice a2 q.length cap2] w fun e w' => e = .returned (.bool (sameB p q)) ∧ Below w.heap.size w w' := by
 have HA : Hid (LiesP w a1 p) := h1
 have HB : Hid (LiesP w a2 q) := h2
 have HLq : Hid (q.length = p.length) := hpq.symm
 rw [← hpq]
 obtain ⟨R, hR⟩ : ∃ R, sameB p q = R := ⟨_, rfl⟩
 rw [hR]
 have HSt : Hid (sameB p q = R) := hR
 clear h1 h2 hpq hR
 generalize hm : p.length = n at *
 have Hn := (show Hid (p.length = n) from hm)
 clear hm
 go_enter Tryz.func27, Tryz.ntmps27
 go_wp2_with fail
 go_loopw [5] (fun i wr => ∃ k : Nat, k ≤ n ∧ i = .int .i64 k ∧ sameB (p.drop k) (q.drop k) = R ∧ Below w.heap.size w wr) (fun i _ => n - (intOf i).toNat)
 case atStart => exact ⟨0, Nat.zero_le _, rfl, by simpa using HSt.out, Below.refl _ _⟩
 case round =>
  obtain ⟨k, hk, rfl, hst, hb⟩ := hrel
  have HBR : Hid (Below w.heap.size w wr) := hb
  have HS : Hid (sameB (p.drop k) (q.drop k) = R) := hst
  by_cases hkn : k < n
  ·
   obtain ⟨⟨x, y, z⟩, hp, -⟩ := get_some p k (by rw [Hn.out]; exact hkn)
   obtain ⟨⟨x', y', z'⟩, hq, -⟩ := get_some q k (by rw [HLq.out]; exact hkn)
   obtain ⟨b1, o1, rfl, -, hc1⟩ := HA.out.place (by rw [Hn.out]; omega)
   obtain ⟨b2, o2, rfl, -, hc2⟩ := HB.out.place (by rw [HLq.out]; omega)
   have c1 : wr.cell? ⟨b1, o1 + k * 3, none⟩ = some (.int .i64 x) := cell_later hb (hc1 k _ hp).1
   have c2 : wr.cell? ⟨b1, o1 + k * 3 + 1, none⟩ = some (.int .i64 y) := cell_later hb (hc1 k _ hp).2.1
   have c3 : wr.cell? ⟨b1, o1 + k * 3 + 2, none⟩ = some (.int .i64 z) := cell_later hb (hc1 k _ hp).2.2
   have d1 : wr.cell? ⟨b2, o2 + k * 3, none⟩ = some (.int .i64 x') := cell_later hb (hc2 k _ hq).1
   have d2 : wr.cell? ⟨b2, o2 + k * 3 + 1, none⟩ = some (.int .i64 y') := cell_later hb (hc2 k _ hq).2.1
   have d3 : wr.cell? ⟨b2, o2 + k * 3 + 2, none⟩ = some (.int .i64 z') := cell_later hb (hc2 k _ hq).2.2
   have q1 := Tryz.neqPkt
   have g1 := fun (w : World) op x y xs ys => run_eqGuard_agg (P := Tryz.prog) w op 52 x y xs ys Tryz.pktGuard
   have HStep : Hid (sameB (p.drop k) (q.drop k) = (eqP x y z x' y' z' && sameB (p.drop (k + 1)) (q.drop (k + 1)))) := sameB_step p q k _ _ hp hq
   clear hc1 hc2 hp hq hst
   cases he : eqP x y z x' y' z' with
   | true =>
    have HNext : Hid (sameB (p.drop (k + 1)) (q.drop (k + 1)) = R) := by
     show _ = _
     rw [← HS.out, HStep.out, he, Bool.true_and]
    go_wp2_with fail
    go_quiet (fail)
    go_wp2_with fail
    go_roundw
    case rel => exact ⟨k + 1, by omega, by go_num, HNext.out, below_drewN HBR.out _⟩
    case measure => simp [intOf]; omega
   | false =>
    have HNext : Hid (R = false) := by
     show _ = _
     rw [← HS.out, HStep.out, he, Bool.false_and]
    go_wp2_with fail
    go_quiet (fail)
    go_wp2_with fail
    go_ret
    obtain rfl := HNext.out
    exact ⟨rfl, below_drewN HBR.out _⟩
  ·
   have HNext : Hid (R = true) := by
    show _ = _
    rw [← HS.out, List.drop_eq_nil_of_le (by rw [Hn.out]; omega), List.drop_eq_nil_of_le (by rw [HLq.out]; omega)]
    rfl
   clear hst
   go_wp2_with fail
   go_ret
   obtain rfl := HNext.out
   exact ⟨rfl, HBR.out⟩
end Go.Proofs.YtibhkijaafdkoaaGreatDoor

namespace Go.Proofs.YtibhkijaafdkoaaGreatDoor
open Go.RowKit
theorem foldl_none (l : List Pk) : l.foldl (fun (s : Option Sh) p => s.bind fun s => shStep s p) none = none := by
 induction l with
 | nil => rfl
 | cons a r ih => exact ih
theorem shape_stuck {ls : List (Int × Int)} {ps : List Pk} {j : Nat} {p : Pk} {s : Sh} (h1 : ps[j]? = some p) (h2 : shape ls (ps.take j) = some s) (h3 : shStep s p = none) : shape ls ps = none := by
 have e : ps = ps.take j ++ p :: ps.drop (j + 1) := by rw [← drop_cons h1, List.take_append_drop]
 have h2' : (ps.take j).foldl (fun (s : Option Sh) p => s.bind fun s => shStep s p) (some ⟨ls.map bkOf, 0, []⟩) = some s := h2
 rw [e]
 unfold shape
 rw [List.foldl_append, h2', List.foldl_cons]
 show List.foldl _ (shStep s p) _ = none
 rw [h3]
 exact foldl_none _
end Go.Proofs.YtibhkijaafdkoaaGreatDoor

namespace Go.Proofs.YtibhkijaafdkoaaGreatDoor
open Go.RowKit
structure Slim (cs : List (List (Int × Int))) (ns : List Int) : Prop where
 curves : cs.length ≤ 20
 nums : ns.length ≤ 30
 each : ∀ (i : Nat) ls, cs[i]? = some ls → ls.length ≤ 20
theorem lies_but {S : Nat → Prop} {w w' : World} {a : Option Addr} {ls : List (Int × Int)} (h : Lies w a ls) (hb : But S w w') (hs : ∀ ad, a = some ad → ¬ S ad.block) : Lies w' a ls := by
 rcases h with rfl | ⟨b, off, rfl, hlt, hc⟩
 · exact .inl rfl
 ·
  have hn : ¬ S b := hs _ rfl
  refine .inr ⟨b, off, rfl, Nat.lt_of_lt_of_le hlt hb.size, fun i x y hi => ?_⟩
  have := hc i x y hi
  exact ⟨by rw [hb.cell (p := ⟨b, off + i * 2, none⟩) hlt hn]; exact this.1, by rw [hb.cell (p := ⟨b, off + i * 2 + 1, none⟩) hlt hn]; exact this.2⟩
structure OwnC (w : World) (B : Nat) (v : Value) (cs : List (List (Int × Int))) (xs : List Value) : Prop where
 row : w.ownsRow B 38 1 v cs.length xs
 each : ∀ (i : Nat) ls, cs[i]? = some ls → ∃ a cap, xs[i]? = some (.slice a ls.length cap) ∧ Lies w a ls ∧ ls.length ≤ cap ∧ cap ≤ maxLen ∧ (a = none → ls = [] ∧ cap = 0) ∧ ∀ ad, a = some ad → B ≤ ad.block ∧ ad.block < w.heap.size ∧ v.ownBlock ≠ some ad.block
theorem OwnC.but {S : Nat → Prop} {w w' : World} {B : Nat} {v : Value} {cs : List (List (Int × Int))} {xs : List Value} (h : OwnC w B v cs xs) (hb : But S w w') (hs : ∀ k, S k → k < B) : OwnC w' B v cs xs := by
 refine ⟨ownsRow_of_block h.row fun g hg hlt => hb.block g hlt fun hS => ?_, fun i ls hi => ?_⟩
 ·
  have := hs g hS
  have := (ownsRow_lt h.row hg).1
  omega
 ·
  obtain ⟨a', cap', e1, e2, e3, e4, e5, e6⟩ := h.each i ls hi
  refine ⟨a', cap', e1, lies_but e2 hb fun ad had hS => ?_, e3, e4, e5, fun ad had => ⟨(e6 ad had).1, Nat.lt_of_lt_of_le (e6 ad had).2.1 hb.size, (e6 ad had).2.2⟩⟩
  have := hs _ hS
  have := (e6 ad had).1
  omega
theorem Tryz.infoLines : (Tryz.prog.info? 38).map (fun i => (i.zero, i.size, i.bytes)) = some (some (.slice none 0 0), 1, 24) := by kernel_rfl
theorem run_append_nums {P : Program} (w : World) (t ty e : TypeId) (i : TypeInfo) (z : Value) (ht : P.underlying t = some (.slice e)) (hi : P.info? e = some i) (hz : i.zero = some z) (hsize : i.size = 1) (hby : i.bytes = 8) (hzs : z.cells.size = 1)
  (na : Option Addr) (ncap : Nat) (ns : List Int) (hl : LiesN w na ns) (hna : na = none → ns = [] ∧ ncap = 0) (hn : ns.length ≤ 1000) :
  ∃ a cap w', (Builtin.append_ #[t, t] ty #[.slice none 0 0, .slice na ns.length ncap]).run P w = .ok (.slice a ns.length cap) w' ∧ LiesN w' a ns ∧ ns.length ≤ cap ∧ cap ≤ maxLen ∧ Below w.heap.size w w' ∧ (a = none → ns = [] ∧ cap = 0) ∧ ∀ ad, a = some ad → w.heap.size ≤ ad.block := by
 cases na with
 | none =>
  obtain ⟨rfl, rfl⟩ := hna rfl
  exact ⟨none, 0, w, run_append_owned_none (P := P) w w.heap.size t ty e i 1 ht hi (.slice none 0 0) 0 [] (World.ownsRow_nil _ _ _ _), .inl rfl, Nat.le_refl _, by simp [maxLen], Below.refl _ _, fun _ => ⟨rfl, rfl⟩, fun ad h => by cases h⟩
 | some ad =>
  have hnews : ∀ j u, (ints ns)[j]? = some u → w.cell? (ad.add j) = some u := by
   intro j u hu
   rcases hl with rfl | ⟨b, off, e', -, hc⟩
   · simp [ints] at hu
   ·
    cases e'
    rw [Addr.add_lit]
    simp only [ints, List.getElem?_map] at hu
    cases hx : ns[j]? with
    | none => rw [hx] at hu; cases hu
    | some x =>
     rw [hx] at hu
     rw [hc j x hx]
     simpa using hu
  obtain ⟨v', w', hrun, h1, h2, h3⟩ := run_append_own (P := P) w w.heap.size t ty e i z 1 8 ht hi hz hsize hby hzs (by decide) (.slice none 0 0) 0 [] (World.ownsRow_nil _ _ _ _) ad ns.length ncap (ints ns) (by rw [ints_length, Nat.mul_one]) hnews (ints_one _) (by unfold maxLen; omega) (by omega) (Nat.le_refl _)
  rw [Nat.zero_add, List.nil_append] at h1
  have hlt := fun g (hg : v'.ownBlock = some g) => (ownsRow_lt h1 hg).1
  have hno : v' = .slice none 0 0 → ns = [] := fun e => List.length_eq_zero_iff.1 (h3.1 e).2
  obtain ⟨a, cap, rfl, g1, g2, g3⟩ := own_lies h1
  refine ⟨a, cap, w', hrun, g3, g1, g2, (Below.refl _ _).grown h2 (Nat.le_refl _) (fun k hk => by cases hk), fun e => ?_, fun ad h => ?_⟩
  ·
   subst e
   obtain ⟨-, ⟨e, h0⟩ | ⟨g, c', cur, e, -⟩⟩ := h1
   ·
    injection e with e1 e2 e3
    exact ⟨List.length_eq_zero_iff.1 h0, e3⟩
   · cases e
  ·
   subst h
   exact hlt ad.block rfl
theorem wpList_append_nums {P : Program} (w : World) {ops : Array Oper} {rest : List Oper} {o : Oper} {a : Act} {Q : Exit → Act → World → Prop} (hgd : o.guard = none) (s x : Operand) (t : TypeId)
  (ho : o.op = .call { callee := .builtin .append, args := #[s, x], argTypes := #[t, t] })
  (e : TypeId) (i : TypeInfo) (z : Value) (ht : P.underlying t = some (.slice e)) (hi : P.info? e = some i) (hz : i.zero = some z) (hsize : i.size = 1) (hby : i.bytes = 8) (hzs : z.cells.size = 1)
  (na : Option Addr) (ncap n : Nat) (ns : List Int) (hnn : ns.length = n) (hs : a.eval s = .slice none 0 0) (hx : a.eval x = .slice na n ncap) (hl : LiesN w na ns) (hna : na = none → ns = [] ∧ ncap = 0) (hn : n ≤ 1000)
  (hK : ∀ a' cap' w', LiesN w' a' ns ∧ n ≤ cap' ∧ cap' ≤ maxLen ∧ Below w.heap.size w w' ∧ (a' = none → ns = [] ∧ cap' = 0) ∧ (∀ ad, a' = some ad → w.heap.size ≤ ad.block) → wpList P ops Q rest (a.put o.dst (.slice a' n cap')) w') : wpList P ops Q (o :: rest) a w := by
 subst hnn
 refine wpList_plain hgd fun K hK' => ?_
 obtain ⟨ao, cap, w', hrun, g⟩ := run_append_nums (P := P) w t o.type e i z ht hi hz hsize hby hzs na ncap ns hl hna hn
 unfold Oper.wp
 simp [execOp, ho, resolve, invoke, builtin, hs, hx, hrun, Result.andThen]
 exact hK' _ _ (hK ao cap w' g)
theorem liesN_but {S : Nat → Prop} {w w' : World} {a : Option Addr} {ns : List Int} (h : LiesN w a ns) (hb : But S w w') (hs : ∀ ad, a = some ad → ¬ S ad.block) : LiesN w' a ns := by
 rcases h with rfl | ⟨b, off, rfl, hlt, hc⟩
 · exact .inl rfl
 ·
  have hn : ¬ S b := hs _ rfl
  exact .inr ⟨b, off, rfl, Nat.lt_of_lt_of_le hlt hb.size, fun i x hi => by rw [hb.cell (p := ⟨b, off + i, none⟩) hlt hn]; exact hc i x hi⟩
end Go.Proofs.YtibhkijaafdkoaaGreatDoor

namespace Go.Proofs.YtibhkijaafdkoaaGreatDoor
open Go.RowKit
structure CopyAt (V wr : World) (O : Nat) (v : Value) (kb : ByteArray) (per : Int) (cs : List (List (Int × Int))) (xs : List Value) : Prop where
 c0 : wr.cell? ⟨O, 0, none⟩ = some v
 c1 : wr.cell? ⟨O, 1, none⟩ = some (.string kb)
 c2 : wr.cell? ⟨O, 2, none⟩ = some (.int .i64 per)
 c3 : wr.cell? ⟨O, 3, none⟩ = some (.slice none 0 0)
 free : ∀ i, wr.frozen? ⟨O, i, none⟩ = false
 own : OwnC wr V.heap.size v cs xs
 below : Below O V wr
 lt : O < V.heap.size
theorem CopyAt.later {V wr wr' : World} {O : Nat} {v : Value} {kb : ByteArray} {per : Int} {cs : List (List (Int × Int))} {xs : List Value} (h : CopyAt V wr O v kb per cs xs) (hb : Below wr.heap.size wr wr') : CopyAt V wr' O v kb per cs xs :=
 ⟨cell_later hb h.c0, cell_later hb h.c1, cell_later hb h.c2, cell_later hb h.c3, fun i => by rw [hb.frozen (p := ⟨O, i, none⟩) (show O < wr.heap.size from cell_lt h.c0)]; exact h.free i, h.own.but (S := fun _ => False) (.ofBelow hb) (fun _ hk => hk.elim), h.below.trans (hb.mono (Nat.le_of_lt (Nat.lt_of_lt_of_le h.lt h.below.size))), h.lt⟩
end Go.Proofs.YtibhkijaafdkoaaGreatDoor

namespace Go.Proofs.YtibhkijaafdkoaaGreatDoor
open Go.RowKit
theorem OwnP.mono {w : World} {B B' : Nat} {v : Value} {ps : List Pk} (h : OwnP w B v ps) (hb : B' ≤ B) : OwnP w B' v ps := ownsRow_mono h hb
theorem OwnP.later {w w' : World} {B : Nat} {v : Value} {ps : List Pk} (h : OwnP w B v ps) (hb : Below w.heap.size w w') : OwnP w' B v ps := ownsRow_of_block h fun g _ hg => hb.block g hg
theorem run_append_pks (w : World) (ty : TypeId) (B : Nat) (v : Value) (ps qs : List Pk) (xa : Option Addr) (xcap : Nat) (hown : OwnP w B v ps) (hl : LiesP w xa qs) (hxa : xa = none → qs = [] ∧ xcap = 0) (hn : ps.length + qs.length ≤ 1000) (hB : B ≤ w.heap.size) :
  ∃ v' w', (Builtin.append_ #[43, 43] ty #[v, .slice xa qs.length xcap]).run Tryz.prog w = .ok v' w' ∧ OwnP w' B v' (ps ++ qs) ∧ Below B w w' := by
 obtain ⟨i0, hi, hz0, hz1, hz2⟩ := info_parts Tryz.infoPkt
 cases xa with
 | none =>
  obtain ⟨rfl, rfl⟩ := hxa rfl
  exact ⟨v, w, run_append_owned_none (P := Tryz.prog) w B 43 ty 52 i0 3 Tryz.underlying43 hi v ps.length (cellsP ps) hown, by rw [List.append_nil]; exact hown, Below.refl _ _⟩
 | some ad =>
  obtain ⟨v', w', hrun, h1, h2, -⟩ := run_append_own (P := Tryz.prog) w B 43 ty 52 i0 (.agg #[.int .i64 0, .int .i64 0, .int .i64 0]) 3 24 Tryz.underlying43 hi hz0 hz1 hz2 rfl (by decide) v ps.length (cellsP ps) hown ad qs.length xcap (cellsP qs) (cellsP_length qs) (liesP_news hl) (cellsP_one qs) (by unfold maxLen; omega) (by omega) hB
  refine ⟨v', w', hrun, ?_, (Below.refl _ _).grown h2 hB fun k hk => (ownsRow_lt hown hk).1⟩
  unfold OwnP
  rw [List.length_append, cellsP_append]
  exact h1
theorem wpList_append_pks (w : World) {ops : Array Oper} {rest : List Oper} {o : Oper} {a : Act} {Q : Exit → Act → World → Prop} (hgd : o.guard = none) (s x : Operand)
  (ho : o.op = .call { callee := .builtin .append, args := #[s, x], argTypes := #[43, 43] })
  (B : Nat) (v : Value) (ps qs : List Pk) (xa : Option Addr) (m xcap : Nat) (hm : qs.length = m) (hs : a.eval s = v) (hx : a.eval x = .slice xa m xcap) (hown : OwnP w B v ps) (hl : LiesP w xa qs) (hxa : xa = none → qs = [] ∧ xcap = 0) (hn : ps.length + qs.length ≤ 1000) (hB : B ≤ w.heap.size)
  (hK : ∀ v' w', OwnP w' B v' (ps ++ qs) ∧ Below B w w' → wpList Tryz.prog ops Q rest (a.put o.dst v') w') : wpList Tryz.prog ops Q (o :: rest) a w := by
 subst hm
 refine wpList_plain hgd fun K hK' => ?_
 obtain ⟨v', w', hrun, g1, g2⟩ := run_append_pks w o.type B v ps qs xa xcap hown hl hxa hn hB
 unfold Oper.wp
 simp [execOp, ho, resolve, invoke, builtin, hs, hx, hrun, Result.andThen]
 exact hK' _ _ (hK v' w' ⟨g1, g2⟩)
structure Both (w : World) (B : Nat) (v1 v2 : Value) (ps : List Pk) (ns : List Int) : Prop where
 pks : OwnP w B v1 ps
 nums : w.ownsRow B 3 1 v2 ns.length (ints ns)
 apart : ∀ g, v1.ownBlock = some g → v2.ownBlock ≠ some g
theorem both_nil (w : World) (B : Nat) : Both w B (.slice none 0 0) (.slice none 0 0) [] [] := ⟨World.ownsRow_nil _ _ _ _, World.ownsRow_nil _ _ _ _, fun g h => by cases h⟩
theorem Both.later {w w' : World} {B : Nat} {v1 v2 : Value} {ps : List Pk} {ns : List Int} (h : Both w B v1 v2 ps ns) (hb : Below w.heap.size w w') : Both w' B v1 v2 ps ns := ⟨h.pks.later hb, ownsRow_of_block h.nums fun g _ hg => hb.block g hg, h.apart⟩
theorem wpList_both_num (w : World) {ops : Array Oper} {rest : List Oper} {o : Oper} {a : Act} {Q : Exit → Act → World → Prop} (hgd : o.guard = none) (s x : Operand)
  (ho : o.op = .call { callee := .builtin .append, args := #[s, x], argTypes := #[23, 23] })
  (B : Nat) (v1 v2 : Value) (ps : List Pk) (ns : List Int) (z : Int) (ad : Addr) (hs : a.eval s = v2) (hx : a.eval x = .slice (some ad) 1 1) (hown : Both w B v1 v2 ps ns) (hl : w.cell? ad = some (.int .i64 z)) (hn : ns.length ≤ 1000) (hB : B ≤ w.heap.size)
  (hK : ∀ v' w', Both w' B v1 v' ps (ns ++ [z]) ∧ Below B w w' → wpList Tryz.prog ops Q rest (a.put o.dst v') w') : wpList Tryz.prog ops Q (o :: rest) a w := by
 obtain ⟨i0, hi, hz0, hz1, hz2⟩ := info_parts Tryz.infoInt
 refine wpList_append_lies w hgd s x 23 ho B 3 i0 (.int .i64 0) 1 8 Tryz.underlying23 hi hz0 hz1 hz2 rfl (by decide) v2 ns.length (ints ns) hs hown.nums ad 1 1 (ints [z]) hx rfl ?_ (ints_one _) (by decide) (by unfold maxLen; omega) (by omega) hB _ rfl ?_
 ·
  intro j u hj
  cases j with
  | zero =>
   have : u = .int .i64 z := by simpa [ints] using hj.symm
   rw [this]
   simpa [Addr.add] using hl
  | succ j => simp [ints] at hj
 intro g cap w' h1 h2 h3 h4
 refine hK _ _ ⟨⟨?_, ?_, ?_⟩, (Below.refl _ _).grown h2 hB fun k hk => (ownsRow_lt hown.nums hk).1⟩
 ·
  exact World.ownsRow.kept hown.pks h2 (by
   cases e : v1.ownBlock with
   | none => exact .inl rfl
   | some k => exact .inr fun e' => hown.apart k e e'.symm)
 ·
  rw [List.length_append, show ints (ns ++ [z]) = ints ns ++ ints [z] by simp [ints]]
  exact h1
 ·
  intro k hk e
  obtain rfl : g = k := Option.some.inj e
  rcases h3 with h3 | h3
  · exact hown.apart g hk h3
  ·
   have := (ownsRow_lt hown.pks hk).2
   omega
theorem liesP_new (w : World) (x y z : Int) : LiesP (w.alloc (.cells #[.int .i64 x, .int .i64 y, .int .i64 z] 52)) (some ⟨w.heap.size, 0, none⟩) [⟨x, y, z⟩] := by
 refine .inr ⟨w.heap.size, 0, rfl, by simp, fun j q hj => ?_⟩
 cases j with
 | zero =>
  obtain rfl := Option.some.inj hj
  exact ⟨by simp, by simp, by simp⟩
 | succ j => simp at hj
end Go.Proofs.YtibhkijaafdkoaaGreatDoor
