/- Own facts, put together: no statement of its own. -/
import Derived.Deep.LoopGhost
import Derived.Test.YtolbmkniafkeaaaDoorCAllPlain
import Derived.Test.YtolbmkniafkeaaaDoorCSent1
import Derived.Test.YtolbmkniafkeaaaDoorCOwnRow
import Derived.Test.YtolbmkniafkeaaaDoorCBare
import Derived.Test.YtolbmkniafkeaaaDoorCAllErrs
import Derived.Test.YtolbmkniafkeaaaDoorCAllPkts

/- Walks: is what was sent tame; the document's answer's SentFault; package fifo's Delays. -/
namespace Go.Proofs.YtolbmkniafkeaaaDoor
open Go.RowKit

def big : Int := 1125899906842624
/-- Not too great for sums. -/
def tame (x : Sn) : Bool := decide (-1125899906842624 ≤ x.beg ∧ x.beg ≤ 1125899906842624 ∧ -1125899906842624 ≤ x.fin ∧ x.fin ≤ 1125899906842624)
theorem tame_true {x : Sn} (h : tame x = true) : -1125899906842624 ≤ x.beg ∧ x.beg ≤ 1125899906842624 ∧ -1125899906842624 ≤ x.fin ∧ x.fin ≤ 1125899906842624 := of_decide_eq_true h
theorem tame_false {x : Sn} (h : tame x = false) : x.beg < -1125899906842624 ∨ (¬ x.beg < -1125899906842624 ∧ 1125899906842624 < x.beg) ∨ (¬ x.beg < -1125899906842624 ∧ ¬ 1125899906842624 < x.beg ∧ x.fin < -1125899906842624) ∨ (¬ x.beg < -1125899906842624 ∧ ¬ 1125899906842624 < x.beg ∧ ¬ x.fin < -1125899906842624 ∧ 1125899906842624 < x.fin) := by
  have : ¬ (-1125899906842624 ≤ x.beg ∧ x.beg ≤ 1125899906842624 ∧ -1125899906842624 ≤ x.fin ∧ x.fin ≤ 1125899906842624) := of_decide_eq_false h
  omega
def tameAll (l : List Sn) : Prop := ∀ (i : Nat) x, l[i]? = some x → tame x = true
/-- What TameSent tells. -/
def TameEnd (l : List Sn) (w : World) (e : Ending) (w' : World) : Prop := (e = .returned (.int .i64 1) ∧ tameAll l ∨ e = .returned (.int .i64 0)) ∧ Below w.heap.size w w'

set_option maxHeartbeats 2000000 in
theorem tameSent_any (a : Option Addr) (cap : Nat) (l : List Sn) (w : World) (hl : LiesS w a l) (hn : l.length ≤ 300) :
    Calls Tryd.prog 7 #[.slice a l.length cap] w fun e w' => TameEnd l w e w' := by
  have HL : Hid (LiesS w a l) := hl
  clear hl
  obtain ⟨n, hnn⟩ : ∃ n, l.length = n := ⟨_, rfl⟩
  have HN : Hid (l.length = n) := hnn
  rw [hnn] at hn ⊢
  clear hnn
  go_enter Tryd.func7, Tryd.ntmps7
  go_wp2_with fail
  go_loopw [3] (fun i wr => ∃ k : Nat, k ≤ n ∧ i = .int .i64 k ∧ (∀ (i : Nat) x, i < k → l[i]? = some x → tame x = true) ∧ Below w.heap.size w wr) (fun i _ => n - (intOf i).toNat)
  case atStart => exact ⟨0, Nat.zero_le _, rfl, fun i x h => by omega, Below.refl _ _⟩
  case round =>
    obtain ⟨k, hk, rfl, hok, hb⟩ := hrel
    have HB : Hid (Below w.heap.size w wr ∧ (∀ (i : Nat) x, i < k → l[i]? = some x → tame x = true)) := ⟨hb, hok⟩
    by_cases hkn : k < n
    · obtain ⟨p, hp, -⟩ := get_some l k (by rw [HN.out]; exact hkn)
      obtain ⟨b, off, rfl, -, hc⟩ := HL.out.place (by rw [HN.out]; omega)
      have c2 : wr.cell? ⟨b, off + k * 3 + 1, none⟩ = some (.int .i64 p.beg) := cell_later hb (hc k _ hp).2.1
      have c3 : wr.cell? ⟨b, off + k * 3 + 2, none⟩ = some (.int .i64 p.fin) := cell_later hb (hc k _ hp).2.2
      have HP : Hid (l[k]? = some p) := hp
      clear hc hp hok hb
      cases ht : tame p with
      | true =>
        obtain ⟨t1, t2, t3, t4⟩ := tame_true ht
        have s1 : ¬ p.beg < -1125899906842624 := by omega
        have s2 : ¬ 1125899906842624 < p.beg := by omega
        have s3 : ¬ p.fin < -1125899906842624 := by omega
        have s4 : ¬ 1125899906842624 < p.fin := by omega
        have HT : Hid (tame p = true) := ht
        clear ht t1 t2 t3 t4
        go_wp2_with fail
        go_roundw
        case rel =>
          refine ⟨k + 1, by omega, by go_num, fun i x hi hx => ?_, HB.out.1⟩
          rcases Nat.lt_or_ge i k with h | h
          · exact HB.out.2 i x h hx
          · obtain rfl : i = k := by omega
            obtain rfl := Option.some.inj (HP.out.symm.trans hx)
            exact HT.out
        case measure => simp [intOf]; omega
      | false =>
        rcases tame_false ht with s1 | ⟨s1, s2⟩ | ⟨s1, s2, s3⟩ | ⟨s1, s2, s3, s4⟩
        all_goals
          clear ht
          go_wp2_with fail
          go_ret
          exact ⟨.inr rfl, HB.out.1⟩
    · clear hok hb
      go_wp2_with fail
      go_ret
      exact ⟨.inl ⟨rfl, fun i x hx => HB.out.2 i x (by have := lt_of_get hx; have := HN.out; omega) hx⟩, HB.out.1⟩
end Go.Proofs.YtolbmkniafkeaaaDoor

/- Walks: the document's answer's SentFault; package fifo's Delays. -/
namespace Go.Proofs.YtolbmkniafkeaaaDoor
open Go.RowKit

set_option maxHeartbeats 2000000 in
theorem sentFault_any (pa : Option Addr) (m pcap : Nat) (a : Option Addr) (cap : Nat) (l : List Sn) (w : World) (hl : LiesS w a l) (hn : l.length ≤ 300) (_hm : m ≤ 300) (c p : Int) (h : SentFaultIs m l c p) :
    Calls Tryd.prog 15 #[.slice pa m pcap, .slice a l.length cap] w fun e w' => e = .returned (.agg #[.int .i64 c, .int .i64 p]) ∧ Below w.heap.size w w' := by
  have HL : Hid (LiesS w a l) := hl
  have HF : Hid (SentFaultIs m l c p) := h
  clear hl h
  obtain ⟨n, hnn⟩ : ∃ n, l.length = n := ⟨_, rfl⟩
  have HN : Hid (l.length = n) := hnn
  rw [hnn] at hn ⊢
  clear hnn
  have hb0 : Below w.heap.size w (w.alloc (.cells #[.int .i64 0, .int .i64 0] 34)) := (Below.refl _ _).alloc (Nat.le_refl _) _
  go_enter Tryd.func15, Tryd.ntmps15
  go_wp2_with fail
  go_loopw [5] (fun i wr => ∃ k : Nat, k ≤ n ∧ i = .int .i64 k ∧ (∀ (i : Nat) x, i < k → l[i]? = some x → named m x = true) ∧ Below w.heap.size w wr ∧ Two w wr (.int .i64 0) (.int .i64 0)) (fun i _ => n - (intOf i).toNat)
  case atStart => exact ⟨0, Nat.zero_le _, rfl, fun i x h => by omega, hb0, two_new w _ _ _⟩
  case round =>
    obtain ⟨k, hk, rfl, hok, hb, h2⟩ := hrel
    have HB : Hid (Below w.heap.size w wr ∧ (∀ (i : Nat) x, i < k → l[i]? = some x → named m x = true) ∧ Two w wr (.int .i64 0) (.int .i64 0)) := ⟨hb, hok, h2⟩
    by_cases hkn : k < n
    · obtain ⟨x, hp, -⟩ := get_some l k (by rw [HN.out]; exact hkn)
      obtain ⟨b, off, rfl, -, hc⟩ := HL.out.place (by rw [HN.out]; omega)
      have c1 : wr.cell? ⟨b, off + k * 3, none⟩ = some (.int .i64 x.num) := cell_later hb (hc k _ hp).1
      have HP : Hid (l[k]? = some x) := hp
      obtain ⟨q0, q1, f0, f1⟩ := h2
      clear hc hp hok hb hb0
      cases ht : named m x with
      | true =>
        obtain ⟨t1, t2⟩ := named_true ht
        have s1 : ¬ x.num < 0 := by omega
        have s2 : ¬ (m : Int) ≤ x.num := by omega
        have HT : Hid (named m x = true) := ht
        clear ht t1 t2
        go_wp2_with fail
        go_roundw
        case rel =>
          refine ⟨k + 1, by omega, by go_num, fun i y hi hy => ?_, HB.out.1, HB.out.2.2⟩
          rcases Nat.lt_or_ge i k with h | h
          · exact HB.out.2.1 i y h hy
          · obtain rfl : i = k := by omega
            obtain rfl := Option.some.inj (HP.out.symm.trans hy)
            exact HT.out
        case measure => simp [intOf]; omega
      | false =>
        have HCP : Hid (c = 4 ∧ p = k) := by
          rcases HF.out with ⟨j, y, h1, h2, h3, h4, h5⟩ | ⟨h1, -, -⟩
          · have hjk : j = k := by
              rcases Nat.lt_trichotomy j k with h | h | h
              · have := HB.out.2.1 j y h h1
                rw [h3] at this; cases this
              · exact h
              · have := h2 k x h HP.out
                rw [ht] at this; cases this
            exact ⟨h4, by rw [h5, hjk]⟩
          · have := h1 k x HP.out
            rw [ht] at this; cases this
        obtain ⟨rfl, rfl⟩ := HCP.out
        have hcases := named_false ht
        clear ht
        rcases hcases with s1 | ⟨s1, s2⟩
        all_goals
          go_wp2_with fail
          exact bodyPost_ret (v := .agg #[.int .i64 4, .int .i64 k]) (by simp [results, Tryd.results15, go_sem, q0, q1]) rfl ⟨rfl, (HB.out.1.setCell (Nat.le_refl _) _).setCell (Nat.le_refl _) _⟩
    · have HCP : Hid (c = 0 ∧ p = -1) := by
        rcases HF.out with ⟨j, y, h1, h2, h3, h4, h5⟩ | ⟨-, h1, h2⟩
        · have := HB.out.2.1 j y (by have := lt_of_get h1; have := HN.out; omega) h1
          rw [h3] at this; cases this
        · exact ⟨h1, h2⟩
      obtain ⟨rfl, rfl⟩ := HCP.out
      clear hok hb h2 hb0
      go_wp2_with fail
      refine (fine_any _).mono ?_
      rintro e w1 ⟨rfl, hb1⟩
      obtain ⟨q0, q1, f0, f1⟩ := HB.out.2.2.later hb1
      have HB1 : Hid (Below w.heap.size w w1) := HB.out.1.trans (hb1.mono HB.out.1.size)
      clear hb1
      go_wp2_with fail
      exact bodyPost_ret (v := .agg #[.int .i64 0, .int .i64 (-1)]) (by simp [results, Tryd.results15, go_sem, q0, q1]) rfl ⟨rfl, (HB1.out.setCell (Nat.le_refl _) _).setCell (Nat.le_refl _) _⟩

/-- The delay of one that names a packet. -/
def delayOf (ps : List Pk) (x : Sn) : Int := x.fin - tickOf ps x.num.toNat
/-- Delays that were told so far. -/
structure DelAt (w : World) (D n : Nat) (ps : List Pk) (l : List Sn) (k : Nat) : Prop where
  cell : ∀ (i : Nat) x, i < k → l[i]? = some x → w.cell? ⟨D, i, none⟩ = some (.int .i64 (delayOf ps x))
  room : ∀ i, i < n → ∃ u, w.cell? ⟨D, i, none⟩ = some u
  frozen : ∀ i, w.frozen? ⟨D, i, none⟩ = false
  lt : D < w.heap.size
theorem del_made (w : World) (n : Nat) (t : TypeId) (ps : List Pk) (l : List Sn) : DelAt (w.alloc (.cells (madeCells #[.int .i64 0] n) t)) w.heap.size n ps l 0 := by
  refine ⟨fun i x h => by omega, fun i hi => ⟨.int .i64 0, ?_⟩, fun i => World.frozen?_alloc_new w _ _ i, by simp⟩
  rw [World.cell?_alloc_at _ _ _ _ rfl]
  exact made_get _ _ _ hi
theorem DelAt.later {w w' : World} {D n : Nat} {ps : List Pk} {l : List Sn} {k : Nat} (h : DelAt w D n ps l k) (hb : Below w.heap.size w w') : DelAt w' D n ps l k :=
  ⟨fun i x hi hx => cell_later hb (h.cell i x hi hx), fun i hi => by obtain ⟨u, hu⟩ := h.room i hi; exact ⟨u, cell_later hb hu⟩, fun i => by rw [hb.frozen (p := ⟨D, i, none⟩) h.lt]; exact h.frozen i, Nat.lt_of_lt_of_le h.lt hb.size⟩
theorem DelAt.put {w : World} {D n : Nat} {ps : List Pk} {l : List Sn} {k : Nat} (h : DelAt w D n ps l k) (hk : k < n) (x : Sn) (hx : l[k]? = some x) : DelAt (w.setCell ⟨D, k, none⟩ (.int .i64 (delayOf ps x))) D n ps l (k + 1) := by
  have hs : (w.cell? ⟨D, k, none⟩).isSome = true := by obtain ⟨u, hu⟩ := h.room k hk; rw [hu]; rfl
  refine ⟨fun i y hi hy => ?_, fun i hi => ?_, fun i => by rw [World.frozen?_setCell]; exact h.frozen i, by simp [World.setCell]; exact h.lt⟩
  · by_cases e : k = i
    · subst e
      obtain rfl := Option.some.inj (hx.symm.trans hy)
      exact World.cell?_setCell_same' _ _ _ hs
    · rw [World.cell?_setCell_other _ _ _ _ (by intro e'; cases e'; exact e rfl)]
      exact h.cell i y (by omega) hy
  · by_cases e : k = i
    · subst e
      exact ⟨_, World.cell?_setCell_same' _ _ _ hs⟩
    · rw [World.cell?_setCell_other _ _ _ _ (by intro e'; cases e'; exact e rfl)]
      exact h.room i hi

/-- What Delays leaves. -/
def DelaysEnd (ps : List Pk) (l : List Sn) (ad : Nat → Addr) (w : World) (e : Ending) (w' : World) : Prop :=
  Below w.heap.size w w' ∧ ((∃ D, e = .returned (.tuple #[.slice (some ⟨D, 0, none⟩) l.length l.length, .nilIface]) ∧ DelAt w' D l.length ps l l.length ∧ ∀ (i : Nat) x, l[i]? = some x → named ps.length x = true) ∨
    (∃ (j : Nat) (x : Sn) (F : Nat), l[j]? = some x ∧ (∀ (i : Nat) y, i < j → l[i]? = some y → named ps.length y = true) ∧ named ps.length x = false ∧ e = .returned (.tuple #[.slice none 0 0, .iface 62 (.pointer (some ⟨F, 0, none⟩))]) ∧ w'.cell? ⟨F, 0, none⟩ = some (.int .i64 j) ∧ w'.cell? ⟨F, 1, none⟩ = some (.iface 143 (.pointer (some (ad 3))))))
end Go.Proofs.YtolbmkniafkeaaaDoor

/- Walks: package fifo's Delays. -/
namespace Go.Proofs.YtolbmkniafkeaaaDoor
open Go.RowKit

set_option maxRecDepth 100000 in
set_option maxHeartbeats 4000000 in
theorem delays_any (pa : Option Addr) (pcap : Nat) (ps : List Pk) (a : Option Addr) (cap : Nat) (l : List Sn) (w : World) (ad : Nat → Addr) (he : w.cell? ⟨0, 0, none⟩ = some (.iface 143 (.pointer (some (ad 3))))) (hp : LiesP w pa ps) (hl : LiesS w a l) (hn : l.length ≤ 300) (hm : ps.length ≤ 300) (ht : tameAll l)
    (htp : ∀ (i : Nat) p, ps[i]? = some p → -1125899906842624 ≤ p.tick ∧ p.tick ≤ 1125899906842624) :
    Calls Tryd.prog 57 #[.slice pa ps.length pcap, .slice a l.length cap] w fun e w' => DelaysEnd ps l ad w e w' := by
  have HP : Hid (LiesP w pa ps ∧ (∀ (i : Nat) p, ps[i]? = some p → -1125899906842624 ≤ p.tick ∧ p.tick ≤ 1125899906842624)) := ⟨hp, htp⟩
  have HL : Hid (LiesS w a l ∧ tameAll l) := ⟨hl, ht⟩
  have HE : Hid (w.cell? ⟨0, 0, none⟩ = some (.iface 143 (.pointer (some (ad 3))))) := he
  clear hp htp hl ht he
  obtain ⟨n, hnn⟩ : ∃ n, l.length = n := ⟨_, rfl⟩
  obtain ⟨m, hmm⟩ : ∃ m, ps.length = m := ⟨_, rfl⟩
  have HN : Hid (l.length = n ∧ ps.length = m) := ⟨hnn, hmm⟩
  rw [hnn] at hn ⊢
  rw [hmm] at hm ⊢
  clear hnn hmm
  have hmk : ∀ w' : World, (Instr.makeSlice 46 (.int .i64 n) (.int .i64 n)).run Tryd.prog w' = .ok (.slice (some ⟨w'.heap.size, 0, none⟩) n n) (w'.alloc (.cells (madeCells #[.int .i64 0] n) 3)) := fun w' => by
    obtain ⟨i0, hi, hz0, hz1, hz2⟩ := info_parts Tryd.infoInt
    have := run_make (P := Tryd.prog) w' 46 3 i0 (.int .i64 0) Tryd.underlying46 hi hz0 .i64 .i64 n n (by omega) (by omega) (by rw [hz2]; omega) (by omega)
    simpa [hz1, Value.cells] using this
  have HS0 : Hid (DelAt (w.alloc (.cells (madeCells #[.int .i64 0] n) 3)) w.heap.size n ps l 0 ∧ Below w.heap.size w (w.alloc (.cells (madeCells #[.int .i64 0] n) 3))) := ⟨del_made w n _ ps l, (Below.refl _ _).alloc (Nat.le_refl _) _⟩
  go_enter Tryd.func57, Tryd.ntmps57
  go_wp2_with fail
  obtain ⟨D, hD⟩ : ∃ D, w.heap.size = D := ⟨_, rfl⟩
  have HD : Hid (w.heap.size = D) := hD
  rw [hD]
  clear hD hmk
  go_loopg [14] n (fun gk i wr => ∃ k : Nat, gk + k = n ∧ i = .int .i64 k ∧ (∀ (i : Nat) x, i < k → l[i]? = some x → named m x = true) ∧ DelAt wr D n ps l k ∧ Below w.heap.size w wr)
  case atStart => exact ⟨0, by omega, rfl, fun i x h => by omega, by have := HS0.out.1; rwa [HD.out] at this, HS0.out.2⟩
  case round =>
    obtain ⟨k, hgk, rfl, hok, hdel, hb⟩ := hrel
    have HB : Hid (Below w.heap.size w wr ∧ (∀ (i : Nat) x, i < k → l[i]? = some x → named m x = true) ∧ DelAt wr D n ps l k) := ⟨hb, hok, hdel⟩
    by_cases hkn : k < n
    · obtain ⟨x, hx, -⟩ := get_some l k (by rw [HN.out.1]; exact hkn)
      obtain ⟨b, off, rfl, -, hc⟩ := HL.out.1.place (by rw [HN.out.1]; omega)
      have c1 : wr.cell? ⟨b, off + k * 3, none⟩ = some (.int .i64 x.num) := cell_later hb (hc k _ hx).1
      have c2 : wr.cell? ⟨b, off + k * 3 + 1, none⟩ = some (.int .i64 x.beg) := cell_later hb (hc k _ hx).2.1
      have c3 : wr.cell? ⟨b, off + k * 3 + 2, none⟩ = some (.int .i64 x.fin) := cell_later hb (hc k _ hx).2.2
      obtain ⟨-, -, t3, t4⟩ := tame_true (HL.out.2 k x hx)
      have HX : Hid (l[k]? = some x) := hx
      clear hc hx hok hdel
      cases ht : named m x with
      | true =>
        obtain ⟨s1, s2⟩ := named_true ht
        have s1' : ¬ x.num < 0 := by omega
        have s2' : ¬ (m : Int) ≤ x.num := by omega
        obtain ⟨q, hq⟩ : ∃ q : Nat, x.num = q := ⟨x.num.toNat, by omega⟩
        have hqm : q < m := by omega
        obtain ⟨p, hp, -⟩ := get_some ps q (by rw [HN.out.2]; exact hqm)
        obtain ⟨b2, o2, rfl, -, hc2⟩ := HP.out.1.place (by rw [HN.out.2]; omega)
        obtain ⟨t1, t2⟩ := HP.out.2 q p hp
        have HDl : Hid (delayOf ps x = x.fin - p.tick) := by
          show _ = _
          unfold delayOf
          rw [hq, Int.toNat_natCast, tickOf_get hp]
        have HT : Hid (named m x = true) := ht
        rw [hq] at c1
        have d1 : (wr.alloc (.cells #[.int .i64 q, .int .i64 x.beg, .int .i64 x.fin] 44)).cell? ⟨b2, o2 + q * 3 + 2, none⟩ = some (.int .i64 p.tick) := cell_later ((Below.refl _ _).alloc (Nat.le_refl _) _) (cell_later hb (hc2 q _ hp).2.2)
        obtain ⟨u0, hu0⟩ := HB.out.2.2.room k hkn
        have d2 : (wr.alloc (.cells #[.int .i64 q, .int .i64 x.beg, .int .i64 x.fin] 44)).cell? ⟨D, k, none⟩ = some u0 := cell_later ((Below.refl _ _).alloc (Nat.le_refl _) _) hu0
        have d3 : (wr.alloc (.cells #[.int .i64 q, .int .i64 x.beg, .int .i64 x.fin] 44)).frozen? ⟨D, k, none⟩ = false := by
          rw [((Below.refl _ _).alloc (Nat.le_refl _) _ : Below wr.heap.size wr _).frozen (p := ⟨D, k, none⟩) HB.out.2.2.lt]
          exact HB.out.2.2.frozen k
        have hw : IntKind.i64.wrap (x.fin - p.tick) = x.fin - p.tick := IntWalk.i64_in _ (by omega)
        clear hc2 hp ht s1 s2 hu0 hq hb
        generalize x.beg = y at *
        generalize p.tick = tk at *
        go_wp2_with fail
        have HEnd : Hid (DelAt ((wr.alloc (.cells #[.int .i64 q, .int .i64 y, .int .i64 x.fin] 44)).setCell ⟨D, k, none⟩ (.int .i64 (x.fin - tk))).drew D n ps l (k + 1) ∧ Below w.heap.size w ((wr.alloc (.cells #[.int .i64 q, .int .i64 y, .int .i64 x.fin] 44)).setCell ⟨D, k, none⟩ (.int .i64 (x.fin - tk))).drew) := by
          have h1 := (HB.out.2.2.later ((Below.refl _ _).alloc (Nat.le_refl _) (.cells #[.int .i64 q, .int .i64 y, .int .i64 x.fin] 44))).put hkn x HX.out
          rw [HDl.out] at h1
          exact ⟨h1.later (below_drewN (Below.refl _ _) 1), below_drewN ((HB.out.1.alloc HB.out.1.size _).setCell (by rw [HD.out]; exact Nat.le_refl D) _) 1⟩
        go_region
        go_wp2_with fail
        go_roundg (gk - 1)
        case measure => omega
        case rel =>
          refine ⟨k + 1, by omega, by go_num, fun i z hi hz => ?_, HEnd.out.1, HEnd.out.2⟩
          rcases Nat.lt_or_ge i k with h | h
          · exact HB.out.2.1 i z h hz
          · obtain rfl : i = k := by omega
            obtain rfl := Option.some.inj (HX.out.symm.trans hz)
            exact HT.out
      | false =>
        have HEw := cell_later HB.out.1 HE.out
        have HEa : Hid (wr.cell? ⟨0, 0, none⟩ = some (.iface 143 (.pointer (some (ad 3))))) := HEw
        have hE1 : (wr.alloc (.cells #[.int .i64 x.num, .int .i64 x.beg, .int .i64 x.fin] 44)).cell? ⟨0, 0, none⟩ = some (.iface 143 (.pointer (some (ad 3)))) := cell_later ((Below.refl _ _).alloc (Nat.le_refl _) _) HEw
        have hcases := named_false ht
        have HT : Hid (named m x = false) := ht
        clear ht HEw hb
        have HEnd : Hid (DelaysEnd ps l ad w (.returned (.tuple #[.slice none 0 0, .iface 62 (.pointer (some ⟨wr.heap.size + 1, 0, none⟩))])) ((wr.alloc (.cells #[.int .i64 x.num, .int .i64 x.beg, .int .i64 x.fin] 44)).alloc (.cells #[.int .i64 k, .iface 143 (.pointer (some (ad 3)))] 64)).drew) := by
          have hs : (wr.alloc (.cells #[.int .i64 x.num, .int .i64 x.beg, .int .i64 x.fin] 44)).heap.size = wr.heap.size + 1 := by simp
          refine ⟨below_drewN ((HB.out.1.alloc HB.out.1.size _).alloc (by rw [hs]; exact Nat.le_succ_of_le HB.out.1.size) _) 1, .inr ⟨k, x, wr.heap.size + 1, HX.out, ?_, ?_, rfl, ?_, ?_⟩⟩
          · intro i y hi hy
            rw [HN.out.2]
            exact HB.out.2.1 i y hi hy
          · rw [HN.out.2]; exact HT.out
          · rw [World.cell?_drew, World.cell?_alloc_at _ _ _ _ hs.symm]; rfl
          · rw [World.cell?_drew, World.cell?_alloc_at _ _ _ _ hs.symm]; rfl
        rcases hcases with s1 | ⟨s1, s2⟩
        · go_wp2_with fail
          go_region
          go_wp2_with fail
          go_ret2
          exact HEnd.out
        · go_wp2_with fail
          go_region
          go_wp2_with fail
          go_ret2
          exact HEnd.out
    · clear hok hdel hb
      go_wp2_with fail
      go_ret2
      refine ⟨HB.out.1, .inl ⟨D, by rw [HN.out.1]; rfl, ?_, fun i x hx => ?_⟩⟩
      · obtain rfl : k = n := by omega
        rw [HN.out.1]; exact HB.out.2.2
      · rw [HN.out.2]
        exact HB.out.2.1 i x (by have := lt_of_get hx; have := HN.out.1; omega) hx
end Go.Proofs.YtolbmkniafkeaaaDoor
