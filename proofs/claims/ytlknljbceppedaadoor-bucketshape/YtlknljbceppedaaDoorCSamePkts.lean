/- Walks: the document's answer: are two rows of packets the same? And '!=' on packets. -/
import Derived.Test.YtlknljbceppedaaDoorCAllPkts
import Derived.Test.YtlknljbceppedaaDoorCFitPkts
import Derived.Laws.StructEq
import Derived.BigQuiet
namespace Go.Proofs.YtlknljbceppedaaDoor
open Go.RowKit

/-- Are two packets the same? -/
def eqP (x y z x' y' z' : Int) : Bool := x == x' && (y == y' && z == z')
theorem eqP_iff (x y z x' y' z' : Int) : eqP x y z x' y' z' = true ↔ (⟨x, y, z⟩ : Pk) = ⟨x', y', z'⟩ := by simp [eqP]
def sameB : List Pk → List Pk → Bool
  | [], [] => true
  | p :: r, q :: s => eqP p.flow p.size p.tick q.flow q.size q.tick && sameB r s
  | _, _ => false
theorem sameB_iff : ∀ (p q : List Pk), sameB p q = true ↔ p = q := by
  intro p
  induction p with
  | nil => intro q; cases q <;> simp [sameB]
  | cons a r ih =>
    intro q
    cases q with
    | nil => simp [sameB]
    | cons b s => simp only [sameB, Bool.and_eq_true, ih, eqP_iff, List.cons.injEq]
theorem sameB_step (p q : List Pk) (k : Nat) (a b : Pk) (ha : p[k]? = some a) (hb : q[k]? = some b) : sameB (p.drop k) (q.drop k) = (eqP a.flow a.size a.tick b.flow b.size b.tick && sameB (p.drop (k + 1)) (q.drop (k + 1))) := by
  have h : ∀ (l : List Pk) (c : Pk), l[k]? = some c → l.drop k = c :: l.drop (k + 1) := fun l c h => by
    have hk : k < l.length := by
      rcases Nat.lt_or_ge k l.length with h' | h'
      · exact h'
      · simp [List.getElem?_eq_none h'] at h
    rw [List.drop_eq_getElem_cons hk]
    rw [List.getElem?_eq_getElem hk] at h
    rw [Option.some.inj h]
  rw [h p a ha, h q b hb]
  rfl

theorem Tryd.pktHeld : Tryd.prog.stoodInHeld 76 = false := by kernel_rfl
theorem Tryd.pktGuard : Tryd.prog.eqGuardType Tryd.prog.depth 76 = false := by kernel_rfl
theorem Tryd.pktFields : Tryd.prog.underlying 76 = some (.struct (Tryd.prog.fieldsOf 76)) := by
  simp only [Program.fieldsOf, Tryd.underlying76]
theorem Tryd.pktFieldsIs : (Tryd.prog.fieldsOf 76).toList = [{ name := "Flow", type := 3, offset := 0, embedded := false, tag := "", pkgPath := "", byteOffset := 0 }, { name := "Size", type := 3, offset := 1, embedded := false, tag := "", pkgPath := "", byteOffset := 8 }, { name := "At", type := 3, offset := 2, embedded := false, tag := "", pkgPath := "", byteOffset := 16 }] := by
  simp only [Program.fieldsOf, Tryd.underlying76]
theorem Tryd.pktPart0 (w : World) (x y z : Int) : (part 3 #[.int .i64 x, .int .i64 y, .int .i64 z] 0).run Tryd.prog w = .ok (.int .i64 x) w := by kernel_rfl
theorem Tryd.pktPart1 (w : World) (x y z : Int) : (part 3 #[.int .i64 x, .int .i64 y, .int .i64 z] 1).run Tryd.prog w = .ok (.int .i64 y) w := by kernel_rfl
theorem Tryd.pktPart2 (w : World) (x y z : Int) : (part 3 #[.int .i64 x, .int .i64 y, .int .i64 z] 2).run Tryd.prog w = .ok (.int .i64 z) w := by kernel_rfl
theorem Tryd.neqPkt (w : World) (x y z x' y' z' : Int) : (binOp .neq 76 (.agg #[.int .i64 x, .int .i64 y, .int .i64 z]) (.agg #[.int .i64 x', .int .i64 y', .int .i64 z'])).run Tryd.prog w = .ok (.bool (!(eqP x y z x' y' z'))) w := by
  rw [run_neq_struct, run_equalIn_struct _ 9999 _ _ _ Tryd.pktFields Tryd.pktHeld, Tryd.pktFieldsIs]
  have h1 : ("Flow" : String) ≠ "_" := by decide
  have h2 : ("Size" : String) ≠ "_" := by decide
  have h3 : ("At" : String) ≠ "_" := by decide
  simp only [Op.eqFields, if_pos h1, if_pos h2, if_pos h3, Sem.run_bind, Tryd.pktPart0, Tryd.pktPart1, Tryd.pktPart2, Result.andThen_ok, run_equalIn_int _ 9998 3 .i64 .i64 _ _ Tryd.underlying3, Sem.run_ite, Sem.run_pure, eqP]
  cases x == x' <;> cases y == y' <;> cases z == z' <;> rfl

set_option maxHeartbeats 1000000 in
theorem samePkts_any (a1 a2 : Option Addr) (cap1 cap2 : Nat) (p q : List Pk) (w : World) (h1 : LiesP w a1 p) (h2 : LiesP w a2 q) (hpq : p.length = q.length) (hn : p.length ≤ 1000) :
    Calls Tryd.prog 45 #[.slice a1 p.length cap1, .slice a2 q.length cap2] w fun e w' => e = .returned (.bool (sameB p q)) ∧ Below w.heap.size w w' := by
  have HA : Hid (LiesP w a1 p) := h1
  have HB : Hid (LiesP w a2 q) := h2
  have HLq : Hid (q.length = p.length) := hpq.symm
  rw [← hpq]
  obtain ⟨R, hR⟩ : ∃ R, sameB p q = R := ⟨_, rfl⟩
  rw [hR]
  have HSt : Hid (sameB p q = R) := hR
  clear h1 h2 hpq hR
  generalize hm : p.length = n at *
  have Hn := (show Hid (p.length = n) from hm)
  clear hm
  go_enter Tryd.func45, Tryd.ntmps45
  go_wp2_with fail
  go_loopw [5] (fun i wr => ∃ k : Nat, k ≤ n ∧ i = .int .i64 k ∧ sameB (p.drop k) (q.drop k) = R ∧ Below w.heap.size w wr) (fun i _ => n - (intOf i).toNat)
  case atStart => exact ⟨0, Nat.zero_le _, rfl, by simpa using HSt.out, Below.refl _ _⟩
  case round =>
    obtain ⟨k, hk, rfl, hst, hb⟩ := hrel
    have HBR : Hid (Below w.heap.size w wr) := hb
    have HS : Hid (sameB (p.drop k) (q.drop k) = R) := hst
    by_cases hkn : k < n
    · obtain ⟨⟨x, y, z⟩, hp, -⟩ := get_some p k (by rw [Hn.out]; exact hkn)
      obtain ⟨⟨x', y', z'⟩, hq, -⟩ := get_some q k (by rw [HLq.out]; exact hkn)
      obtain ⟨b1, o1, rfl, -, hc1⟩ := HA.out.place (by rw [Hn.out]; omega)
      obtain ⟨b2, o2, rfl, -, hc2⟩ := HB.out.place (by rw [HLq.out]; omega)
      have c1 : wr.cell? ⟨b1, o1 + k * 3, none⟩ = some (.int .i64 x) := cell_later hb (hc1 k _ hp).1
      have c2 : wr.cell? ⟨b1, o1 + k * 3 + 1, none⟩ = some (.int .i64 y) := cell_later hb (hc1 k _ hp).2.1
      have c3 : wr.cell? ⟨b1, o1 + k * 3 + 2, none⟩ = some (.int .i64 z) := cell_later hb (hc1 k _ hp).2.2
      have d1 : wr.cell? ⟨b2, o2 + k * 3, none⟩ = some (.int .i64 x') := cell_later hb (hc2 k _ hq).1
      have d2 : wr.cell? ⟨b2, o2 + k * 3 + 1, none⟩ = some (.int .i64 y') := cell_later hb (hc2 k _ hq).2.1
      have d3 : wr.cell? ⟨b2, o2 + k * 3 + 2, none⟩ = some (.int .i64 z') := cell_later hb (hc2 k _ hq).2.2
      have q1 := Tryd.neqPkt
      have g1 := fun (w : World) op x y xs ys => run_eqGuard_agg (P := Tryd.prog) w op 76 x y xs ys Tryd.pktGuard
      have HStep : Hid (sameB (p.drop k) (q.drop k) = (eqP x y z x' y' z' && sameB (p.drop (k + 1)) (q.drop (k + 1)))) := sameB_step p q k _ _ hp hq
      clear hc1 hc2 hp hq hst
      cases he : eqP x y z x' y' z' with
      | true =>
        have HNext : Hid (sameB (p.drop (k + 1)) (q.drop (k + 1)) = R) := by
          show _ = _
          rw [← HS.out, HStep.out, he, Bool.true_and]
        go_wp2_with fail
        go_quiet (fail)
        go_wp2_with fail
        go_roundw
        case rel => exact ⟨k + 1, by omega, by go_num, HNext.out, below_drewN HBR.out _⟩
        case measure => simp [intOf]; omega
      | false =>
        have HNext : Hid (R = false) := by
          show _ = _
          rw [← HS.out, HStep.out, he, Bool.false_and]
        go_wp2_with fail
        go_quiet (fail)
        go_wp2_with fail
        go_ret
        obtain rfl := HNext.out
        exact ⟨rfl, below_drewN HBR.out _⟩
    · have HNext : Hid (R = true) := by
        show _ = _
        rw [← HS.out, List.drop_eq_nil_of_le (by rw [Hn.out]; omega), List.drop_eq_nil_of_le (by rw [HLq.out]; omega)]
        rfl
      clear hst
      go_wp2_with fail
      go_ret
      obtain rfl := HNext.out
      exact ⟨rfl, HBR.out⟩

end Go.Proofs.YtlknljbceppedaaDoor
