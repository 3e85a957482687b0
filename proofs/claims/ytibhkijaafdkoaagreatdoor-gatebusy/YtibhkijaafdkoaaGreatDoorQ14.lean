/- Own facts, put together: no statement of its own. -/
import Derived.Test.YtibhkijaafdkoaaGreatDoorQ13
import Derived.Test.YtibhkijaafdkoaaGreatDoorQ02
namespace Go.Proofs.YtibhkijaafdkoaaGreatDoor
open Go.RowKit
set_option maxHeartbeats 400000 in
theorem isPacket_core (x y z : Int) (s t : Bool) (w : World) (HS : Hid (∀ w', Calls Tryz.prog 123 #[.int .i64 y] w' fun e w'' => e = .returned (.bool s) ∧ w'' = w')) (HT : Hid (∀ w', Calls Tryz.prog 124 #[.int .i64 z] w' fun e w'' => e = .returned (.bool t) ∧ w'' = w')) :
  Calls Tryz.prog 78 #[.agg #[.int .i64 x, .int .i64 y, .int .i64 z]] w fun e w' => e = .returned (.bool (decide (0 ≤ x) && decide (x < 8) && s && t)) ∧ w' = w.alloc (.cells #[.int .i64 x, .int .i64 y, .int .i64 z] 52) := by
 by_cases h1 : 0 ≤ x
 ·
  by_cases h2 : x < 8
  ·
   rw [show (decide (0 ≤ x) && decide (x < 8) && s && t) = (s && t) by simp [h1, h2]]
   cases s with
   | false =>
    go_enter Tryz.func78, Tryz.ntmps78
    go_wp2_with (first
     | (go_at_call 123; refine (HS.out _).mono ?_; rintro e w1 ⟨rfl, rfl⟩)
     | (go_at_call 124; refine (HT.out _).mono ?_; rintro e w1 ⟨rfl, rfl⟩))
    go_ret
    exact ⟨rfl, rfl⟩
   | true =>
    cases t with
    | false =>
     go_enter Tryz.func78, Tryz.ntmps78
     go_wp2_with (first
      | (go_at_call 123; refine (HS.out _).mono ?_; rintro e w1 ⟨rfl, rfl⟩)
      | (go_at_call 124; refine (HT.out _).mono ?_; rintro e w1 ⟨rfl, rfl⟩))
     go_ret
     exact ⟨rfl, rfl⟩
    | true =>
     go_enter Tryz.func78, Tryz.ntmps78
     go_wp2_with (first
      | (go_at_call 123; refine (HS.out _).mono ?_; rintro e w1 ⟨rfl, rfl⟩)
      | (go_at_call 124; refine (HT.out _).mono ?_; rintro e w1 ⟨rfl, rfl⟩))
     go_ret
     exact ⟨rfl, rfl⟩
  ·
   rw [show (decide (0 ≤ x) && decide (x < 8) && s && t) = false by simp [h2]]
   go_enter Tryz.func78, Tryz.ntmps78
   go_wp2
   go_ret
   exact ⟨rfl, rfl⟩
 ·
  rw [show (decide (0 ≤ x) && decide (x < 8) && s && t) = false by simp [h1]]
  go_enter Tryz.func78, Tryz.ntmps78
  go_wp2
  go_ret
  exact ⟨rfl, rfl⟩
theorem isPacket_any (p : Pk) (w : World) :
  Calls Tryz.prog 78 #[.agg #[.int .i64 p.flow, .int .i64 p.size, .int .i64 p.tick]] w fun e w' => e = .returned (.bool (okPk p)) ∧ w' = w.alloc (.cells #[.int .i64 p.flow, .int .i64 p.size, .int .i64 p.tick] 52) := by
 have h := isPacket_core p.flow p.size p.tick _ _ w (fun w' => isSize_any p.size w') (fun w' => isTick_any p.tick w')
 rw [show (decide (0 ≤ p.flow) && decide (p.flow < 8) && decide (1 ≤ p.size ∧ p.size ≤ 1500) && decide (0 ≤ p.tick ∧ p.tick ≤ 1099511627776)) = okPk p by
  unfold okPk
  simp only [Bool.decide_and, Bool.and_assoc]] at h
 exact h
def goodTo (ps : List Pk) (j : Nat) : Prop := ∀ (i : Nat) q, i < j → ps[i]? = some q → okPk q = true ∧ ahead ps i ≤ q.tick
theorem ahead_succ {ps : List Pk} {k : Nat} {p : Pk} (h : ps[k]? = some p) : ahead ps (k + 1) = p.tick := by simp only [ahead]; rw [h]
set_option maxHeartbeats 400000 in
theorem pcheck_long (a : Option Addr) (n cap : Nat) (w : World) (ad : Nat → Addr) (he : ErrsBO w ad) (hm : n ≤ maxLen) (h : 300 < n) :
  Calls Tryz.prog 49 #[.slice a n cap] w fun e w' => e = .returned (.iface 271 (.pointer (some (ad 1)))) ∧ w' = w := by
 unfold maxLen at hm
 have e1 := he.c1
 go_enter Tryz.func49, Tryz.ntmps49
 go_wp2
 go_ret
 exact ⟨rfl, rfl⟩
set_option maxHeartbeats 400000 in
theorem pcheck_ok (a : Option Addr) (cap : Nat) (ps : List Pk) (w : World) (hl : LiesP w a ps) (h : OkPks ps) :
  Calls Tryz.prog 49 #[.slice a ps.length cap] w fun e w' => e = .returned .nilIface ∧ Below w.heap.size w w' := by
 by_cases h0 : ps = []
 ·
  subst h0
  show Calls Tryz.prog 49 #[.slice a 0 cap] w _
  clear hl
  go_enter Tryz.func49, Tryz.ntmps49
  go_wp2
  refine wp_loop_rounds 1 ?_
  rw [rounds_succ]
  go_wp2
  go_ret
  exact ⟨rfl, Below.refl _ _⟩
 ·
  obtain ⟨b, off, rfl, hlt, hc⟩ := hl.place (by cases ps with | nil => exact absurd rfl h0 | cons p r => simp)
  have HC : Hid (∀ (i : Nat) p, ps[i]? = some p → w.cell? ⟨b, off + i * 3, none⟩ = some (.int .i64 p.flow) ∧ w.cell? ⟨b, off + i * 3 + 1, none⟩ = some (.int .i64 p.size) ∧ w.cell? ⟨b, off + i * 3 + 2, none⟩ = some (.int .i64 p.tick)) := hc
  have HO : Hid (OkPks ps) := h
  have hn300 : ps.length ≤ 300 := h.few
  clear hl h hc h0
  generalize hn : ps.length = n at *
  have Hn := (show Hid (ps.length = n) from hn)
  clear hn
  go_enter Tryz.func49, Tryz.ntmps49
  go_wp2
  go_loopw [3, 12] (fun l i wr => ∃ k : Nat, k ≤ n ∧ i = .int .i64 k ∧ l = .int .i64 (ahead ps k) ∧ Below w.heap.size w wr) (fun _ i _ => n - (intOf i).toNat)
  case atStart => exact ⟨0, Nat.zero_le _, rfl, rfl, Below.refl _ _⟩
  case round =>
   obtain ⟨k, hk, rfl, rfl, hb⟩ := hrel
   have HB : Hid (Below w.heap.size w wr) := hb
   by_cases hkn : k < n
   ·
    obtain ⟨p, hp, -⟩ := get_some ps k (by rw [Hn.out]; exact hkn)
    obtain ⟨d1, d2, d3⟩ := HC.out k p hp
    have hc1 : wr.cell? ⟨b, off + k * 3, none⟩ = some (.int .i64 p.flow) := by rw [hb.cell (p := ⟨b, off + k * 3, none⟩) hlt]; exact d1
    have hc2 : wr.cell? ⟨b, off + k * 3 + 1, none⟩ = some (.int .i64 p.size) := by rw [hb.cell (p := ⟨b, off + k * 3 + 1, none⟩) hlt]; exact d2
    have hc3 : wr.cell? ⟨b, off + k * 3 + 2, none⟩ = some (.int .i64 p.tick) := by rw [hb.cell (p := ⟨b, off + k * 3 + 2, none⟩) hlt]; exact d3
    obtain ⟨o1, o2⟩ := HO.out.each k p hp
    have HA : Hid (ahead ps (k + 1) = p.tick) := ahead_succ hp
    have HP : Hid (∀ w', Calls Tryz.prog 78 #[.agg #[.int .i64 p.flow, .int .i64 p.size, .int .i64 p.tick]] w' fun e w'' => e = .returned (.bool true) ∧ w'' = w'.alloc (.cells #[.int .i64 p.flow, .int .i64 p.size, .int .i64 p.tick] 52)) := fun w' => by
     have := isPacket_any p w'
     rwa [o1] at this
    clear d1 d2 d3 hp o1 hb
    have o2' : ¬ p.tick < ahead ps k := by omega
    generalize ahead ps k = L at *
    generalize p.flow = x at *
    generalize p.size = y at *
    generalize p.tick = z at *
    go_wp2_with (go_at_call 78; refine (HP.out _).mono ?_; rintro e w' ⟨rfl, rfl⟩)
    have hs := HB.out.size
    go_roundw
    case rel => exact ⟨k + 1, by omega, by go_num, by rw [HA.out], (HB.out.alloc hs _).alloc (by simp; omega) _⟩
    case measure => simp [intOf]; omega
   ·
    go_wp2
    go_ret
    exact ⟨rfl, HB.out⟩
end Go.Proofs.YtibhkijaafdkoaaGreatDoor

namespace Go.Proofs.YtibhkijaafdkoaaGreatDoor
open Go.RowKit
def PkBad (ps : List Pk) (j : Nat) (p : Pk) (k : Nat) : Prop := (okPk p = false ∧ k = 1) ∨ (okPk p = true ∧ p.tick < ahead ps j ∧ k = 4)
theorem pks_split (ps : List Pk) : OkPks ps ∨ 300 < ps.length ∨ (ps.length ≤ 300 ∧ ∃ j p k, ps[j]? = some p ∧ goodTo ps j ∧ PkBad ps j p k) := by
 by_cases hn : 300 < ps.length
 · exact .inr (.inl hn)
 ·
  have h : ∀ j, j ≤ ps.length → goodTo ps j ∨ ∃ i p k, ps[i]? = some p ∧ goodTo ps i ∧ PkBad ps i p k := by
   intro j
   induction j with
   | zero => intro _; exact .inl fun i q hi => by omega
   | succ j ih =>
    intro hj
    rcases ih (by omega) with h | h
    ·
     obtain ⟨p, hp, -⟩ := get_some ps j (by omega)
     cases ho : okPk p with
     | false => exact .inr ⟨j, p, 1, hp, h, .inl ⟨ho, rfl⟩⟩
     | true =>
      by_cases ht : p.tick < ahead ps j
      · exact .inr ⟨j, p, 4, hp, h, .inr ⟨ho, ht, rfl⟩⟩
      ·
       refine .inl fun i q hi hq => ?_
       by_cases hij : i < j
       · exact h i q hij hq
       ·
        obtain rfl : i = j := by omega
        obtain rfl : p = q := Option.some.inj (hp.symm.trans hq)
        exact ⟨ho, by omega⟩
    · exact .inr h
  rcases h ps.length (Nat.le_refl _) with h | h
  ·
   exact .inl ⟨by omega, fun i p hp => h i p (by
    rcases Nat.lt_or_ge i ps.length with h | h
    · exact h
    · simp [List.getElem?_eq_none h] at hp) hp⟩
  · exact .inr (.inr ⟨by omega, h⟩)
set_option maxHeartbeats 1000000 in
theorem pcheck_bad (a : Option Addr) (cap : Nat) (ps : List Pk) (w : World) (ad : Nat → Addr) (he : ErrsBO w ad) (hl : LiesP w a ps) (h300 : ps.length ≤ 300) (j : Nat) (p : Pk) (hj : ps[j]? = some p) (hg : goodTo ps j) (k : Nat) (hbad : PkBad ps j p k) :
  Calls Tryz.prog 49 #[.slice a ps.length cap] w fun e w' => Below w.heap.size w w' ∧ ∃ B, e = .returned (.iface 110 (.pointer (some ⟨B, 0, none⟩))) ∧ w.heap.size ≤ B ∧ B < w'.heap.size ∧ w'.cell? ⟨B, 0, none⟩ = some (.int .i64 j) ∧ w'.cell? ⟨B, 1, none⟩ = some (.iface 271 (.pointer (some (ad k)))) := by
 have hjl : j < ps.length := by
  rcases Nat.lt_or_ge j ps.length with h | h
  · exact h
  · simp [List.getElem?_eq_none h] at hj
 obtain ⟨b, off, rfl, hlt, hc⟩ := hl.place (by omega)
 have HC : Hid (∀ (i : Nat) p, ps[i]? = some p → w.cell? ⟨b, off + i * 3, none⟩ = some (.int .i64 p.flow) ∧ w.cell? ⟨b, off + i * 3 + 1, none⟩ = some (.int .i64 p.size) ∧ w.cell? ⟨b, off + i * 3 + 2, none⟩ = some (.int .i64 p.tick)) := hc
 have HG : Hid (goodTo ps j) := hg
 have HE : Hid (ErrsBO w ad) := he
 have HJ : Hid (ps[j]? = some p) := hj
 have HBad : Hid (PkBad ps j p k) := hbad
 clear hl hg hc he hj hbad
 generalize hn : ps.length = n at *
 have Hn := (show Hid (ps.length = n) from hn)
 clear hn
 go_enter Tryz.func49, Tryz.ntmps49
 go_wp2
 go_loopw [3, 12] (fun l i wr => ∃ q : Nat, q ≤ j ∧ i = .int .i64 q ∧ l = .int .i64 (ahead ps q) ∧ Below w.heap.size w wr) (fun _ i _ => n - (intOf i).toNat)
 case atStart => exact ⟨0, Nat.zero_le _, rfl, rfl, Below.refl _ _⟩
 case round =>
  obtain ⟨q, hq, rfl, rfl, hb⟩ := hrel
  have HB : Hid (Below w.heap.size w wr) := hb
  have hs := hb.size
  have hqn : q < n := by omega
  obtain ⟨r, hp, -⟩ := get_some ps q (by rw [Hn.out]; exact hqn)
  obtain ⟨d1, d2, d3⟩ := HC.out q r hp
  have hc1 : wr.cell? ⟨b, off + q * 3, none⟩ = some (.int .i64 r.flow) := by rw [hb.cell (p := ⟨b, off + q * 3, none⟩) hlt]; exact d1
  have hc2 : wr.cell? ⟨b, off + q * 3 + 1, none⟩ = some (.int .i64 r.size) := by rw [hb.cell (p := ⟨b, off + q * 3 + 1, none⟩) hlt]; exact d2
  have hc3 : wr.cell? ⟨b, off + q * 3 + 2, none⟩ = some (.int .i64 r.tick) := by rw [hb.cell (p := ⟨b, off + q * 3 + 2, none⟩) hlt]; exact d3
  by_cases hqj : q < j
  ·
   obtain ⟨o1, o2⟩ := HG.out q r hqj hp
   have HA : Hid (ahead ps (q + 1) = r.tick) := ahead_succ hp
   have HP : Hid (∀ w', Calls Tryz.prog 78 #[.agg #[.int .i64 r.flow, .int .i64 r.size, .int .i64 r.tick]] w' fun e w'' => e = .returned (.bool true) ∧ w'' = w'.alloc (.cells #[.int .i64 r.flow, .int .i64 r.size, .int .i64 r.tick] 52)) := fun w' => by
    have := isPacket_any r w'
    rwa [o1] at this
   clear d1 d2 d3 hp o1 hb
   have o2' : ¬ r.tick < ahead ps q := by omega
   generalize ahead ps q = L at *
   generalize r.flow = x at *
   generalize r.size = y at *
   generalize r.tick = z at *
   go_wp2_with (go_at_call 78; refine (HP.out _).mono ?_; rintro e w' ⟨rfl, rfl⟩)
   go_roundw
   case rel => exact ⟨q + 1, by omega, by go_num, by rw [HA.out], (HB.out.alloc hs _).alloc (by simp; omega) _⟩
   case measure => simp [intOf]; omega
  ·
   obtain rfl : q = j := by omega
   obtain rfl : r = p := Option.some.inj (hp.symm.trans HJ.out)
   have hB2 := cell_later (((Below.refl wr.heap.size wr).alloc (Nat.le_refl _) (.cells #[.int .i64 r.flow, .int .i64 r.size, .int .i64 r.tick] 52)).alloc (by simp) (.cells #[.int .i64 r.flow, .int .i64 r.size, .int .i64 r.tick] 52)) (cell_later HB.out HE.out.c1)
   have hB5 := cell_later (((Below.refl wr.heap.size wr).alloc (Nat.le_refl _) (.cells #[.int .i64 r.flow, .int .i64 r.size, .int .i64 r.tick] 52)).alloc (by simp) (.cells #[.int .i64 r.flow, .int .i64 r.size, .int .i64 r.tick] 52)) (cell_later HB.out HE.out.c4)
   rcases HBad.out with ⟨o1, rfl⟩ | ⟨o1, o2, rfl⟩
   ·
    have HP : Hid (∀ w', Calls Tryz.prog 78 #[.agg #[.int .i64 r.flow, .int .i64 r.size, .int .i64 r.tick]] w' fun e w'' => e = .returned (.bool false) ∧ w'' = w'.alloc (.cells #[.int .i64 r.flow, .int .i64 r.size, .int .i64 r.tick] 52)) := fun w' => by
     have := isPacket_any r w'
     rwa [o1] at this
    clear d1 d2 d3 hp o1 hb hB5 hqj
    generalize ahead ps q = L at *
    generalize r.flow = x at *
    generalize r.size = y at *
    generalize r.tick = z at *
    go_wp2_with (go_at_call 78; refine (HP.out _).mono ?_; rintro e w' ⟨rfl, rfl⟩)
    go_ret
    refine ⟨((HB.out.alloc hs _).alloc (by simp; omega) _).alloc (by simp; omega) _, _, rfl, ?_, ?_, ?_, ?_⟩
    · omega
    · simp
    · rw [World.cell?_alloc_at _ _ _ _ (by simp)]; rfl
    · rw [World.cell?_alloc_at _ _ _ _ (by simp)]; rfl
   ·
    have HP : Hid (∀ w', Calls Tryz.prog 78 #[.agg #[.int .i64 r.flow, .int .i64 r.size, .int .i64 r.tick]] w' fun e w'' => e = .returned (.bool true) ∧ w'' = w'.alloc (.cells #[.int .i64 r.flow, .int .i64 r.size, .int .i64 r.tick] 52)) := fun w' => by
     have := isPacket_any r w'
     rwa [o1] at this
    clear d1 d2 d3 hp o1 hb hB2 hqj
    generalize ahead ps q = L at *
    generalize r.flow = x at *
    generalize r.size = y at *
    generalize r.tick = z at *
    go_wp2_with (go_at_call 78; refine (HP.out _).mono ?_; rintro e w' ⟨rfl, rfl⟩)
    go_ret
    refine ⟨((HB.out.alloc hs _).alloc (by simp; omega) _).alloc (by simp; omega) _, _, rfl, ?_, ?_, ?_, ?_⟩
    · omega
    · simp
    · rw [World.cell?_alloc_at _ _ _ _ (by simp)]; rfl
    · rw [World.cell?_alloc_at _ _ _ _ (by simp)]; rfl
end Go.Proofs.YtibhkijaafdkoaaGreatDoor

namespace Go.Proofs.YtibhkijaafdkoaaGreatDoor
open Go.RowKit
theorem Errs9.bo {w : World} {ad : Nat → Addr} (h : Errs9 w ad) : ErrsBO w ad := ⟨h.c1, h.c4⟩
def PksFault (ps : List Pk) (c p : Int) : Prop :=
 (300 < ps.length ∧ c = 2 ∧ p = -1) ∨
 (ps.length ≤ 300 ∧ ∃ (j : Nat) (q : Pk) (k : Nat), ps[j]? = some q ∧ goodTo ps j ∧ PkBad ps j q k ∧ c = k + 1 ∧ p = j) ∨
 (OkPks ps ∧ c = 0 ∧ p = -1)
theorem pksFault_is (ps : List Pk) : ∃ c p, PksFault ps c p := by
 rcases pks_split ps with h | h | ⟨h, j, q, k, h1, h2, h3⟩
 · exact ⟨0, -1, .inr (.inr ⟨h, rfl, rfl⟩)⟩
 · exact ⟨2, -1, .inl ⟨h, rfl, rfl⟩⟩
 · exact ⟨k + 1, j, .inr (.inl ⟨h, j, q, k, h1, h2, h3, rfl, rfl⟩)⟩
theorem PksFault.num {ps : List Pk} {c p : Int} (h : PksFault ps c p) : c = 0 ∧ p = -1 ∧ OkPks ps ∨ 0 < c := by
 rcases h with ⟨_, h, _⟩ | ⟨_, j, q, k, _, _, _, h, _⟩ | ⟨h, h1, h2⟩
 · exact .inr (by omega)
 · exact .inr (by omega)
 · exact .inl ⟨h1, h2, h⟩
theorem pcheck_is (a : Option Addr) (cap : Nat) (ps : List Pk) (w : World) (ad : Nat → Addr) (he : Errs9 w ad) (hl : LiesP w a ps) (hcap : ps.length ≤ cap) (hm : cap ≤ maxLen) (c p : Int) (h : PksFault ps c p) :
  Calls Tryz.prog 49 #[.slice a ps.length cap] w fun e w' => ∃ E, e = .returned E ∧ ErrIs w' E c p ∧ Below w.heap.size w w' := by
 rcases h with ⟨h, rfl, rfl⟩ | ⟨h, j, q, k, h1, h2, h3, rfl, rfl⟩ | ⟨h, rfl, rfl⟩
 ·
  refine (pcheck_long a ps.length cap w ad he.bo (Nat.le_trans hcap hm) h).mono ?_
  rintro e w' ⟨rfl, rfl⟩
  exact ⟨_, rfl, errIs_sent he 1 (by decide), Below.refl _ _⟩
 ·
  refine (pcheck_bad a cap ps w ad he.bo hl h j q h1 h2 k h3).mono ?_
  rintro e w' ⟨hb, B, rfl, -, -, c0, c1⟩
  have hk9 : k < 9 := by rcases h3 with ⟨-, rfl⟩ | ⟨-, -, rfl⟩ <;> omega
  exact ⟨_, rfl, ⟨codeIs_fault (he.below hb) k hk9 j B c0 c1, fun h => by omega, fun _ => ⟨_, _, rfl⟩⟩, hb⟩
 ·
  refine (pcheck_ok a cap ps w hl h).mono ?_
  rintro e w' ⟨rfl, hb⟩
  exact ⟨_, rfl, errIs_nil _, hb⟩
end Go.Proofs.YtibhkijaafdkoaaGreatDoor
