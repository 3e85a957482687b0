/- Walks: Check of packets that are not right; the reference's PacketsFault. -/
import Derived.Test.YtcldgpbimaoliaaDoorPkts2
import Derived.Test.YtcldgpbimaoliaaDoorBare
namespace Go.Proofs.YtcldgpbimaoliaaDoor
open Go.RowKit

/-- What is wrong with one packet: an error's number (less one). -/
def PkBad (ps : List Pk) (j : Nat) (p : Pk) (k : Nat) : Prop := (okPk p = false ∧ k = 1) ∨ (okPk p = true ∧ p.tick < ahead ps j ∧ k = 4)
/-- What is wrong with packets: right, too many, or a first one. -/
theorem pks_split (ps : List Pk) : OkPks ps ∨ 300 < ps.length ∨ (ps.length ≤ 300 ∧ ∃ j p k, ps[j]? = some p ∧ goodTo ps j ∧ PkBad ps j p k) := by
  by_cases hn : 300 < ps.length
  · exact .inr (.inl hn)
  · have h : ∀ j, j ≤ ps.length → goodTo ps j ∨ ∃ i p k, ps[i]? = some p ∧ goodTo ps i ∧ PkBad ps i p k := by
      intro j
      induction j with
      | zero => intro _; exact .inl fun i q hi => by omega
      | succ j ih =>
        intro hj
        rcases ih (by omega) with h | h
        · obtain ⟨p, hp, -⟩ := get_some ps j (by omega)
          cases ho : okPk p with
          | false => exact .inr ⟨j, p, 1, hp, h, .inl ⟨ho, rfl⟩⟩
          | true =>
            by_cases ht : p.tick < ahead ps j
            · exact .inr ⟨j, p, 4, hp, h, .inr ⟨ho, ht, rfl⟩⟩
            · refine .inl fun i q hi hq => ?_
              by_cases hij : i < j
              · exact h i q hij hq
              · obtain rfl : i = j := by omega
                obtain rfl : p = q := Option.some.inj (hp.symm.trans hq)
                exact ⟨ho, by omega⟩
        · exact .inr h
    rcases h ps.length (Nat.le_refl _) with h | h
    · exact .inl ⟨by omega, fun i p hp => h i p (by
        rcases Nat.lt_or_ge i ps.length with h | h
        · exact h
        · simp [List.getElem?_eq_none h] at hp) hp⟩
    · exact .inr (.inr ⟨by omega, h⟩)


set_option maxHeartbeats 1000000 in
theorem pcheck_bad (a : Option Addr) (cap : Nat) (ps : List Pk) (w : World) (ad : Nat → Addr) (he : ErrsBO w ad) (hl : LiesP w a ps) (h300 : ps.length ≤ 300) (j : Nat) (p : Pk) (hj : ps[j]? = some p) (hg : goodTo ps j) (k : Nat) (hbad : PkBad ps j p k) :
    Calls Tryd.prog 43 #[.slice a ps.length cap] w fun e w' => Below w.heap.size w w' ∧ ∃ B, e = .returned (.iface 29 (.pointer (some ⟨B, 0, none⟩))) ∧ w.heap.size ≤ B ∧ B < w'.heap.size ∧ w'.cell? ⟨B, 0, none⟩ = some (.int .i64 j) ∧ w'.cell? ⟨B, 1, none⟩ = some (.iface 98 (.pointer (some (ad k)))) := by
  have hjl : j < ps.length := by
    rcases Nat.lt_or_ge j ps.length with h | h
    · exact h
    · simp [List.getElem?_eq_none h] at hj
  obtain ⟨b, off, rfl, hlt, hc⟩ := hl.place (by omega)
  have HC : Hid (∀ (i : Nat) p, ps[i]? = some p → w.cell? ⟨b, off + i * 3, none⟩ = some (.int .i64 p.flow) ∧ w.cell? ⟨b, off + i * 3 + 1, none⟩ = some (.int .i64 p.size) ∧ w.cell? ⟨b, off + i * 3 + 2, none⟩ = some (.int .i64 p.tick)) := hc
  have HG : Hid (goodTo ps j) := hg
  have HE : Hid (ErrsBO w ad) := he
  have HJ : Hid (ps[j]? = some p) := hj
  have HBad : Hid (PkBad ps j p k) := hbad
  clear hl hg hc he hj hbad
  generalize hn : ps.length = n at *
  have Hn := (show Hid (ps.length = n) from hn)
  clear hn
  go_enter Tryd.func43, Tryd.ntmps43
  go_wp2
  go_loopw [3, 12] (fun l i wr => ∃ q : Nat, q ≤ j ∧ i = .int .i64 q ∧ l = .int .i64 (ahead ps q) ∧ Below w.heap.size w wr) (fun _ i _ => n - (intOf i).toNat)
  case atStart => exact ⟨0, Nat.zero_le _, rfl, rfl, Below.refl _ _⟩
  case round =>
    obtain ⟨q, hq, rfl, rfl, hb⟩ := hrel
    have HB : Hid (Below w.heap.size w wr) := hb
    have hs := hb.size
    have hqn : q < n := by omega
    obtain ⟨r, hp, -⟩ := get_some ps q (by rw [Hn.out]; exact hqn)
    obtain ⟨d1, d2, d3⟩ := HC.out q r hp
    have hc1 : wr.cell? ⟨b, off + q * 3, none⟩ = some (.int .i64 r.flow) := by rw [hb.cell (p := ⟨b, off + q * 3, none⟩) hlt]; exact d1
    have hc2 : wr.cell? ⟨b, off + q * 3 + 1, none⟩ = some (.int .i64 r.size) := by rw [hb.cell (p := ⟨b, off + q * 3 + 1, none⟩) hlt]; exact d2
    have hc3 : wr.cell? ⟨b, off + q * 3 + 2, none⟩ = some (.int .i64 r.tick) := by rw [hb.cell (p := ⟨b, off + q * 3 + 2, none⟩) hlt]; exact d3
    by_cases hqj : q < j
    · obtain ⟨o1, o2⟩ := HG.out q r hqj hp
      have HA : Hid (ahead ps (q + 1) = r.tick) := ahead_succ hp
      have HP : Hid (∀ w', Calls Tryd.prog 73 #[.agg #[.int .i64 r.flow, .int .i64 r.size, .int .i64 r.tick]] w' fun e w'' => e = .returned (.bool true) ∧ w'' = w'.alloc (.cells #[.int .i64 r.flow, .int .i64 r.size, .int .i64 r.tick] 76)) := fun w' => by
        have := isPacket_any r w'
        rwa [o1] at this
      clear d1 d2 d3 hp o1 hb
      have o2' : ¬ r.tick < ahead ps q := by omega
      generalize ahead ps q = L at *
      generalize r.flow = x at *
      generalize r.size = y at *
      generalize r.tick = z at *
      go_wp2_with (go_at_call 73; refine (HP.out _).mono ?_; rintro e w' ⟨rfl, rfl⟩)
      go_roundw
      case rel => exact ⟨q + 1, by omega, by go_num, by rw [HA.out], (HB.out.alloc hs _).alloc (by simp; omega) _⟩
      case measure => simp [intOf]; omega
    · obtain rfl : q = j := by omega
      obtain rfl : r = p := Option.some.inj (hp.symm.trans HJ.out)
      have hB2 := cell_later (((Below.refl wr.heap.size wr).alloc (Nat.le_refl _) (.cells #[.int .i64 r.flow, .int .i64 r.size, .int .i64 r.tick] 76)).alloc (by simp) (.cells #[.int .i64 r.flow, .int .i64 r.size, .int .i64 r.tick] 76)) (cell_later HB.out HE.out.c1)
      have hB5 := cell_later (((Below.refl wr.heap.size wr).alloc (Nat.le_refl _) (.cells #[.int .i64 r.flow, .int .i64 r.size, .int .i64 r.tick] 76)).alloc (by simp) (.cells #[.int .i64 r.flow, .int .i64 r.size, .int .i64 r.tick] 76)) (cell_later HB.out HE.out.c4)
      rcases HBad.out with ⟨o1, rfl⟩ | ⟨o1, o2, rfl⟩
      · have HP : Hid (∀ w', Calls Tryd.prog 73 #[.agg #[.int .i64 r.flow, .int .i64 r.size, .int .i64 r.tick]] w' fun e w'' => e = .returned (.bool false) ∧ w'' = w'.alloc (.cells #[.int .i64 r.flow, .int .i64 r.size, .int .i64 r.tick] 76)) := fun w' => by
          have := isPacket_any r w'
          rwa [o1] at this
        clear d1 d2 d3 hp o1 hb hB5 hqj
        generalize ahead ps q = L at *
        generalize r.flow = x at *
        generalize r.size = y at *
        generalize r.tick = z at *
        go_wp2_with (go_at_call 73; refine (HP.out _).mono ?_; rintro e w' ⟨rfl, rfl⟩)
        go_ret
        refine ⟨((HB.out.alloc hs _).alloc (by simp; omega) _).alloc (by simp; omega) _, _, rfl, ?_, ?_, ?_, ?_⟩
        · omega
        · simp
        · rw [World.cell?_alloc_at _ _ _ _ (by simp)]; rfl
        · rw [World.cell?_alloc_at _ _ _ _ (by simp)]; rfl
      · have HP : Hid (∀ w', Calls Tryd.prog 73 #[.agg #[.int .i64 r.flow, .int .i64 r.size, .int .i64 r.tick]] w' fun e w'' => e = .returned (.bool true) ∧ w'' = w'.alloc (.cells #[.int .i64 r.flow, .int .i64 r.size, .int .i64 r.tick] 76)) := fun w' => by
          have := isPacket_any r w'
          rwa [o1] at this
        clear d1 d2 d3 hp o1 hb hB2 hqj
        generalize ahead ps q = L at *
        generalize r.flow = x at *
        generalize r.size = y at *
        generalize r.tick = z at *
        go_wp2_with (go_at_call 73; refine (HP.out _).mono ?_; rintro e w' ⟨rfl, rfl⟩)
        go_ret
        refine ⟨((HB.out.alloc hs _).alloc (by simp; omega) _).alloc (by simp; omega) _, _, rfl, ?_, ?_, ?_, ?_⟩
        · omega
        · simp
        · rw [World.cell?_alloc_at _ _ _ _ (by simp)]; rfl
        · rw [World.cell?_alloc_at _ _ _ _ (by simp)]; rfl
end Go.Proofs.YtcldgpbimaoliaaDoor
