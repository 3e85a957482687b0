/- Own facts, put together: no statement of its own. -/
import Derived.Test.YtibhkijaafdkoaaGreatDoorA04
import Derived.Test.YtibhkijaafdkoaaGreatDoorA13
import Derived.Test.YtibhkijaafdkoaaGreatDoorA15
import Derived.Deep.LoopGhost
import Derived.WalkKit
import Derived.WalkSpells
import Derived.WalkLawsBesides
import Derived.BigQuiet
import Derived.Test.YtibhkijaafdkoaaGreatDoorA01
namespace Go.Proofs.YtibhkijaafdkoaaGreatDoor
structure MayLaw {σ : Type} (Q : Que σ) (per : Int) (ps : List Pk) (q0 : σ) : Prop where
 law : QueLaw Q per ps q0
 pick : ∀ s, Reaches Q per ps q0 s → 0 < Q.rest s.q → isDone s.out (Q.pick s.q) = false ∧ ∀ j, j < Q.pick s.q → flowOf ps j = flowOf ps (Q.pick s.q) → isDone s.out j = true
 none : ∀ s, Reaches Q per ps q0 s → Q.rest s.q = 0 → ∀ i, i < s.next → isDone s.out i = true
structure MayRun {σ : Type} (per : Int) (ps : List Pk) (s : St σ) : Prop where
 conv : Conv per ps s.out
 turns : Turns ps s.out
 gone : ∀ i : Nat, isDone s.out i = true → i < s.next
 came : ∀ i, i < s.next → tickOf ps i ≤ s.now
 now : s.now = lastFin s.out ∨ ((∀ i, Undone ps.length s.out i → lastFin s.out < tickOf ps i) ∧ ∃ i, Undone ps.length s.out i ∧ s.now = tickOf ps i ∧ ∀ k, Undone ps.length s.out k → tickOf ps i ≤ tickOf ps k)
theorem may_run {σ : Type} {Q : Que σ} {per : Int} {ps : List Pk} {q0 : σ} {s : St σ} (hQ : MayLaw Q per ps q0) (hper : 0 ≤ per) (ho : OkPks ps) (h : Reaches Q per ps q0 s) : MayRun per ps s := by
 refine h.by_steps (C := fun s => MayRun per ps s) ⟨fun k x hx => by simp at hx, fun k x hx => by simp at hx, (fun i hi => by simp [isDone] at hi), fun i hi => absurd hi (Nat.not_lt_zero _), .inl rfl⟩ ?_ ?_ ?_
 ·
  rintro s p hs hp ht r
  refine ⟨r.conv, r.turns, fun i hi => Nat.lt_succ_of_lt (r.gone i hi), fun i hi => ?_, r.now⟩
  rcases Nat.lt_or_ge i s.next with h' | h'
  · exact r.came i h'
  ·
   obtain rfl : i = s.next := by simp only at hi; omega
   rw [tickOf_get hp]; exact ht
 ·
  rintro s p hs hall h0 hp r
  obtain ⟨p1, p2⟩ := hQ.pick s hs h0
  have p3 := hQ.law.pick s hs h0
  obtain ⟨k, hk⟩ : ∃ k, k = Q.pick s.q := ⟨_, rfl⟩
  rw [← hk] at p1 p2 p3 hp ⊢
  have hu : Undone ps.length s.out k := undone_iff.2 ⟨lt_of_get hp, p1⟩
  have hc := r.came k p3
  have htick : Tick ps s.out s.now := by
   rcases r.now with e | e
   · exact .inl ⟨e, k, hu, hc⟩
   · exact .inr e
  obtain ⟨-, -, z1, -, -, -⟩ := okPk_true (ho.each _ p hp).1
  have a1 : 0 ≤ per * p.size := Int.mul_nonneg hper (by omega)
  have htake : ∀ (i : Nat), i ≤ s.out.length → (s.out ++ [(⟨(k : Nat), s.now, s.now + per * p.size⟩ : Sn)]).take i = s.out.take i := fun i hi => List.take_append_of_le_length hi
  refine ⟨fun i x hx => ?_, fun i x hx j hj hf => ?_, fun i hi => ?_, fun i hi => ?_, .inl (by rw [lastFin_snoc])⟩
  ·
   rcases snoc_get hx with ⟨h', hx⟩ | ⟨rfl, rfl⟩
   ·
    simp only [htake i (by omega)]
    exact r.conv i x hx
   ·
    simp only [htake _ (Nat.le_refl _), List.take_length]
    exact ⟨s.now, k, htick, hu, hc, by rw [bytesOf_get hp]⟩
  ·
   rcases snoc_get hx with ⟨h', hx⟩ | ⟨rfl, rfl⟩
   ·
    simp only [htake i (by omega)]
    exact r.turns i x hx j hj hf
   ·
    simp only [htake _ (Nat.le_refl _), List.take_length]
    simp only [Int.toNat_natCast] at hj hf
    intro hu'
    have := p2 j hj hf
    rw [(undone_iff.1 hu').2] at this
    cases this
  ·
   rw [isDone_snoc, Bool.or_eq_true] at hi
   show i < s.next
   rcases hi with hi | hi
   · exact r.gone i hi
   ·
    have := beq_iff_eq.1 hi
    omega
  ·
   have := r.came i hi
   simp only
   omega
 ·
  rintro s p hs hp ht h0 r
  have hge : ∀ i, Undone ps.length s.out i → s.next ≤ i := fun i hi => by
   rcases Nat.lt_or_ge i s.next with h' | h'
   ·
    have := hQ.none s hs h0 i h'
    rw [(undone_iff.1 hi).2] at this
    cases this
   · exact h'
  have hmin : ∀ i, Undone ps.length s.out i → p.tick ≤ tickOf ps i := fun i hi => by
   have := ticks_le ho (hge i hi) (undone_iff.1 hi).1
   rwa [tickOf_get hp] at this
  have hnow : s.now = lastFin s.out := by
   rcases r.now with e | ⟨-, i, hi, e, -⟩
   · exact e
   ·
    have := hmin i hi
    omega
  have hund : Undone ps.length s.out s.next := by
   refine undone_iff.2 ⟨lt_of_get hp, ?_⟩
   cases hd : isDone s.out s.next with
   | false => rfl
   | true => have := r.gone _ hd; omega
  refine ⟨r.conv, r.turns, r.gone, fun i hi => ?_, .inr ⟨fun i hi => ?_, s.next, hund, (tickOf_get hp).symm, fun k hk => ?_⟩⟩
  ·
   have := r.came i hi
   simp only
   omega
  ·
   have := hmin i hi
   show lastFin s.out < _
   omega
  ·
   rw [tickOf_get hp]
   exact hmin k hk
section
variable {ps : List Pk} {ws ns : List Int} {per : Int} {l : List Sn} {ts : List Int}
theorem fair_may (hw : WtsOk ws) (ho : OkPks ps) (hper : 1 ≤ per) : MayLaw (fairQ ps ws) per ps fair0 where
 law := fair_law hw ho hper
 pick := fun s hs h0 => by
  obtain ⟨H, r⟩ := fair_run hw ho hper hs
  obtain ⟨l1, l2⟩ := least_first (tag := s.q.tag) (q := s.q.q) h0
  obtain ⟨k, hk⟩ : ∃ k, k = (fairQ ps ws).pick s.q := ⟨_, rfl⟩
  have hkd : s.q.q.getD (pickAt s.q.tag s.q.q) 0 = k := hk.symm
  rw [hkd] at l1 l2
  rw [← hk]
  refine ⟨(r.only k l1).2, fun j hj hf => ?_⟩
  cases hd : isDone s.out j with
  | true => rfl
  | false =>
   have hm := r.wait j (by have := (r.only k l1).1; omega) hd
   obtain ⟨t, ht⟩ := least_head r.state (fun i _ => (incOf_in hw ho i).1) ⟨l1, l2⟩
   have hp : (s.q.of (flowOf ps) (flowOf ps k)).Pairwise (· < ·) := r.rises.filter _
   have hjm : j ∈ s.q.of (flowOf ps) (flowOf ps k) := mem_of.2 ⟨hm, hf⟩
   rw [ht] at hp hjm
   rcases List.mem_cons.1 hjm with e | hjm
   · omega
   ·
    have := (List.pairwise_cons.1 hp).1 j hjm
    omega
 none := fun s hs h0 i hi => by
  obtain ⟨H, r⟩ := fair_run hw ho hper hs
  have hq : s.q.q = [] := List.length_eq_zero_iff.1 h0
  cases hd : isDone s.out i with
  | true => rfl
  | false =>
   have := r.wait i hi hd
   rw [hq] at this
   cases this
theorem FairSent.may (hw : WtsOk ws) (ho : OkPks ps) (hper : 1 ≤ per) (h : FairSent per ps ws l ts) : Conv per ps l ∧ Turns ps l ∧ l.length = ps.length := by
 have hl := (h.length hw ho hper).1
 obtain ⟨s, h1, h2, h3, rfl, rfl⟩ := h
 have r := may_run (fair_may hw ho hper) (by omega) ho h1
 exact ⟨r.conv, r.turns, hl⟩
theorem turns_may (ho : OkPks ps) (hq : ∀ f, 1 ≤ quOf ns f) (hper : 1 ≤ per) : MayLaw (turnsQ ps ns) per ps turns0 where
 law := turns_law ho hq
 pick := fun s hs h0 => by
  obtain ⟨H, r⟩ := turns_run (M := 1500) ho hq (by omega) (fun k => (sizeAt_in ho k).2) hs
  obtain ⟨k, e, hx, e1, e2, f, t, c, sa⟩ := r.good.picks hq h0
  obtain ⟨-, hl⟩ := turns_lists ho hq hper hs
  rw [e1]
  have hhead : s.q.d.qs f = k :: t := by rw [← sa.same]; exact sa.head
  have hkm : k ∈ s.q.d.qs f := by rw [hhead]; exact List.mem_cons_self ..
  have hkf : flowOf ps k = f := (r.state.size f k hkm).1
  refine ⟨(r.only f k hkm).2, fun j hj hf => ?_⟩
  cases hd : isDone s.out j with
  | true => rfl
  | false =>
   have hm := r.wait j (by have := (r.only f k hkm).1; omega) hd
   rw [hf, hkf] at hm
   have hp : (s.q.d.qs f).Pairwise (· < ·) := by
    rw [hl f]
    exact List.pairwise_lt_range.filter _
   rw [hhead] at hp hm
   rcases List.mem_cons.1 hm with e | hm
   · omega
   ·
    have := (List.pairwise_cons.1 hp).1 j hm
    omega
 none := fun s hs h0 i hi => by
  obtain ⟨H, r⟩ := turns_run (M := 1500) ho hq (by omega) (fun k => (sizeAt_in ho k).2) hs
  cases hd : isDone s.out i with
  | true => rfl
  | false =>
   have hm := r.wait i hi hd
   have hz := r.good.line.1 h0
   have := (r.state.active (flowOf ps i)).2 (by intro e; rw [e] at hm; cases hm)
   rw [hz] at this
   cases this
theorem RoundSent.may (ho : OkPks ps) (hq : ∀ f, 1 ≤ quOf ns f) (hper : 1 ≤ per) (h : RoundSent per ps ns l) : Conv per ps l ∧ Turns ps l ∧ l.length = ps.length := by
 have hl := h.length ho hq
 obtain ⟨s, h1, h2, h3, rfl⟩ := h
 have r := may_run (turns_may ho hq hper) (by omega) ho h1
 exact ⟨r.conv, r.turns, hl⟩
end
end Go.Proofs.YtibhkijaafdkoaaGreatDoor

namespace Go.Proofs.YtibhkijaafdkoaaGreatDoor
section
variable (per : Int) (ps : List Pk) (out : List Sn) (x : Sn)
def IdlesAt : Prop := lastFin out < x.beg ∧ ∃ i, i < ps.length ∧ isDone out i = false ∧ tickOf ps i < x.beg
def OutOfTurn (k : Nat) : Prop := ∃ i, i < k ∧ isDone out i = false ∧ flowOf ps i = flowOf ps k
def SentIs (c : Int) : Prop :=
 (c = 4 ∧ (x.num < 0 ∨ (ps.length : Int) ≤ x.num)) ∨ ∃ k : Nat, x.num = k ∧ k < ps.length ∧ ((c = 4 ∧ isDone out k = true) ∨ (isDone out k = false ∧
  ((c = 5 ∧ (x.beg < tickOf ps k ∨ x.beg < lastFin out)) ∨ (tickOf ps k ≤ x.beg ∧ lastFin out ≤ x.beg ∧
   ((c = 3 ∧ x.fin - x.beg ≠ per * bytesOf ps k) ∨ (x.fin - x.beg = per * bytesOf ps k ∧
    ((c = 7 ∧ IdlesAt ps out x) ∨ (¬ IdlesAt ps out x ∧ ((c = 8 ∧ OutOfTurn ps out k) ∨ (c = 0 ∧ ¬ OutOfTurn ps out k))))))))))
variable {per ps out x}
theorem SentIs.range {c : Int} (h : SentIs per ps out x c) : 0 ≤ c ∧ c ≤ 8 := by
 rcases h with ⟨h, -⟩ | ⟨k, -, -, ⟨h, -⟩ | ⟨-, ⟨h, -⟩ | ⟨-, -, ⟨h, -⟩ | ⟨-, ⟨h, -⟩ | ⟨-, ⟨h, -⟩ | ⟨h, -⟩⟩⟩⟩⟩⟩ <;> omega
end
end Go.Proofs.YtibhkijaafdkoaaGreatDoor

namespace Go.Proofs.YtibhkijaafdkoaaGreatDoor
open Go.RowKit
structure NumsOk (lo hi : Int) (ns : List Int) : Prop where
 len : ns.length = 8
 each : ∀ (i : Nat) x, ns[i]? = some x → lo ≤ x ∧ x ≤ hi
def NumBad (lo hi : Int) (ns : List Int) (j : Nat) : Prop := ns.length = 8 ∧ (∃ x, ns[j]? = some x ∧ ¬ (lo ≤ x ∧ x ≤ hi)) ∧ ∀ (i : Nat) y, i < j → ns[i]? = some y → lo ≤ y ∧ y ≤ hi
def NumsFault (lo hi : Int) (ns : List Int) (c : Nat) : Prop := (c = 3 ∧ ns.length ≠ 8) ∨ (c = 2 ∧ ∃ j, NumBad lo hi ns j) ∨ (c = 0 ∧ NumsOk lo hi ns)
theorem numsFault_is (lo hi : Int) (ns : List Int) : ∃ c, NumsFault lo hi ns c := by
 by_cases hl : ns.length = 8
 ·
  have key : ∀ k, k ≤ ns.length → (∀ (i : Nat) y, i < k → ns[i]? = some y → lo ≤ y ∧ y ≤ hi) ∨ ∃ j, NumBad lo hi ns j := by
   intro k
   induction k with
   | zero => intro _; exact .inl fun i y h => by omega
   | succ k ih =>
    intro hk
    rcases ih (by omega) with h | h
    ·
     obtain ⟨x, hx, -⟩ := get_some ns k (by omega)
     by_cases hb : lo ≤ x ∧ x ≤ hi
     ·
      refine .inl fun i y hi' hy => ?_
      rcases Nat.lt_or_ge i k with h' | h'
      · exact h i y h' hy
      ·
       obtain rfl : i = k := by omega
       obtain rfl := Option.some.inj (hx.symm.trans hy)
       exact hb
     · exact .inr ⟨k, hl, ⟨x, hx, hb⟩, h⟩
    · exact .inr h
  rcases key ns.length (Nat.le_refl _) with h | h
  ·
   exact ⟨0, .inr (.inr ⟨rfl, hl, fun i x hx => h i x (by
    rcases Nat.lt_or_ge i ns.length with h' | h'
    · exact h'
    · simp [List.getElem?_eq_none h'] at hx) hx⟩)⟩
  · exact ⟨2, .inr (.inl ⟨rfl, h⟩)⟩
 · exact ⟨3, .inl ⟨rfl, hl⟩⟩
end Go.Proofs.YtibhkijaafdkoaaGreatDoor

namespace Go.Proofs.YtibhkijaafdkoaaGreatDoor
def isWt (x : Int) : Prop := 1 ≤ x ∧ 12 % x = 0
theorem isWt_le {x : Int} (h : isWt x) : x ≤ 12 := Int.le_of_dvd (by decide) (Int.dvd_of_emod_eq_zero h.2)
structure WtsAll (ns : List Int) : Prop where
 len : ns.length = 8
 each : ∀ (i : Nat) x, ns[i]? = some x → isWt x
def WtBad (ns : List Int) (j : Nat) : Prop := ns.length = 8 ∧ (∃ x, ns[j]? = some x ∧ ¬ isWt x) ∧ ∀ (i : Nat) y, i < j → ns[i]? = some y → isWt y
def WtsFault (ns : List Int) (c : Nat) : Prop := (c = 3 ∧ ns.length ≠ 8) ∨ (c = 2 ∧ ∃ j, WtBad ns j) ∨ (c = 0 ∧ WtsAll ns)
theorem wtsFault_is (ns : List Int) : ∃ c, WtsFault ns c := by
 by_cases hl : ns.length = 8
 ·
  have key : ∀ k, k ≤ ns.length → (∀ (i : Nat) y, i < k → ns[i]? = some y → isWt y) ∨ ∃ j, WtBad ns j := by
   intro k
   induction k with
   | zero => intro _; exact .inl fun i y h => by omega
   | succ k ih =>
    intro hk
    rcases ih (by omega) with h | h
    ·
     obtain ⟨x, hx, -⟩ := get_some ns k (by omega)
     by_cases hb : isWt x
     ·
      refine .inl fun i y hi' hy => ?_
      rcases Nat.lt_or_ge i k with h' | h'
      · exact h i y h' hy
      ·
       obtain rfl : i = k := by omega
       obtain rfl := Option.some.inj (hx.symm.trans hy)
       exact hb
     · exact .inr ⟨k, hl, ⟨x, hx, hb⟩, h⟩
    · exact .inr h
  rcases key ns.length (Nat.le_refl _) with h | h
  · exact ⟨0, .inr (.inr ⟨rfl, hl, fun i x hx => h i x (lt_of_get hx) hx⟩)⟩
  · exact ⟨2, .inr (.inl ⟨rfl, h⟩)⟩
 · exact ⟨3, .inl ⟨rfl, hl⟩⟩
theorem WtsAll.ok {ns : List Int} (h : WtsAll ns) : WtsOk ns := fun f => by
 cases hf : ns[f]? with
 | some x =>
  rw [quOf_get hf]
  have := h.each f x hf
  exact ⟨this.1, Int.ediv_mul_cancel (Int.dvd_of_emod_eq_zero this.2)⟩
 | none =>
  have : quOf ns f = 1 := by simp [quOf, hf]
  rw [this]
  exact ⟨Int.le_refl _, by decide⟩
theorem inc_tdiv {x z : Int} (h : isWt x) (hz : 0 ≤ z) : (z * 12).tdiv x = z * (12 / x) := by
 have hd := Int.dvd_of_emod_eq_zero h.2
 rw [Int.tdiv_eq_ediv_of_nonneg (by omega), Int.mul_ediv_assoc _ hd]
theorem erase_filter : ∀ (q : List Nat) (i : Nat), q.Nodup → i < q.length → q.eraseIdx i = q.filter fun j => j != q.getD i 0
 | [], i, _, h => absurd h (Nat.not_lt_zero _)
 | a :: q, 0, hn, _ => by
  obtain ⟨h1, -⟩ := List.nodup_cons.1 hn
  have e : (a :: q).getD 0 0 = a := rfl
  rw [e, List.filter_cons, if_neg (by simp)]
  refine (List.filter_eq_self.2 fun j hj => ?_).symm
  have : j ≠ a := fun e => h1 (by rw [← e]; exact hj)
  simp [this]
 | a :: q, i + 1, hn, h => by
  obtain ⟨h1, h2⟩ := List.nodup_cons.1 hn
  have hi : i < q.length := by simpa using h
  have e : (a :: q).getD (i + 1) 0 = q.getD i 0 := by simp [List.getD]
  have hne : a ≠ q.getD i 0 := fun e' => h1 (by rw [e', getD_lt hi]; exact List.getElem_mem hi)
  rw [e, List.filter_cons, if_pos (bne_iff_ne.2 hne), ← erase_filter q i h2 hi]
  rfl
end Go.Proofs.YtibhkijaafdkoaaGreatDoor

namespace Go.Proofs.YtibhkijaafdkoaaGreatDoor
open Go.RowKit
set_option maxHeartbeats 400000 in
theorem isLine_yes (x y : Int) (w : World) (h : okLine x y = true) :
  Calls Tryz.prog 112 #[.agg #[.int .i64 x, .int .i64 y]] w fun e w' => e = .returned (.bool true) ∧ w' = w.alloc (.cells #[.int .i64 x, .int .i64 y] 133) := by
 obtain ⟨h1, h2, h3, h4⟩ := okLine_true h
 clear h
 go_enter Tryz.func112, Tryz.ntmps112
 go_wp2
 go_ret
 exact ⟨rfl, rfl⟩
set_option maxHeartbeats 400000 in
theorem isLine_no (x y : Int) (w : World) (h : okLine x y = false) :
  Calls Tryz.prog 112 #[.agg #[.int .i64 x, .int .i64 y]] w fun e w' => e = .returned (.bool false) ∧ w' = w.alloc (.cells #[.int .i64 x, .int .i64 y] 133) := by
 have h' : ¬ (1 ≤ x ∧ x ≤ 20000 ∧ 0 ≤ y ∧ y ≤ 100000) := of_decide_eq_false h
 clear h
 by_cases h1 : 1 ≤ x
 ·
  by_cases h2 : x ≤ 20000
  ·
   by_cases h3 : 0 ≤ y
   ·
    have h4 : ¬ y ≤ 100000 := fun h4 => h' ⟨h1, h2, h3, h4⟩
    clear h'
    go_enter Tryz.func112, Tryz.ntmps112
    go_wp2
    go_ret
    exact ⟨rfl, rfl⟩
   ·
    clear h'
    go_enter Tryz.func112, Tryz.ntmps112
    go_wp2
    go_ret
    exact ⟨rfl, rfl⟩
  ·
   clear h'
   go_enter Tryz.func112, Tryz.ntmps112
   go_wp2
   go_ret
   exact ⟨rfl, rfl⟩
 ·
  clear h'
  go_enter Tryz.func112, Tryz.ntmps112
  go_wp2
  go_ret
  exact ⟨rfl, rfl⟩
end Go.Proofs.YtibhkijaafdkoaaGreatDoor

namespace Go.Proofs.YtibhkijaafdkoaaGreatDoor
open Go.RowKit
def Lies (w : World) (a : Option Addr) (ls : List (Int × Int)) : Prop :=
 ls = [] ∨ ∃ b off, a = some ⟨b, off, none⟩ ∧ b < w.heap.size ∧ ∀ i x y, ls[i]? = some (x, y) → w.cell? ⟨b, off + i * 2, none⟩ = some (.int .i64 x) ∧ w.cell? ⟨b, off + i * 2 + 1, none⟩ = some (.int .i64 y)
theorem Lies.some {w : World} {a : Option Addr} {ls : List (Int × Int)} (h : Lies w a ls) (h1 : 1 ≤ ls.length) :
  ∃ b off, a = some ⟨b, off, none⟩ ∧ b < w.heap.size ∧ ∀ i x y, ls[i]? = some (x, y) → w.cell? ⟨b, off + i * 2, none⟩ = some (.int .i64 x) ∧ w.cell? ⟨b, off + i * 2 + 1, none⟩ = some (.int .i64 y) := by
 rcases h with rfl | h
 · simp at h1
 · exact h
theorem Lies.below {w w' : World} {a : Option Addr} {ls : List (Int × Int)} (h : Lies w a ls) (hb : Below w.heap.size w w') : Lies w' a ls := by
 rcases h with rfl | ⟨b, off, rfl, hlt, hc⟩
 · exact .inl rfl
 ·
  refine .inr ⟨b, off, rfl, Nat.lt_of_lt_of_le hlt hb.size, fun i x y hi => ?_⟩
  have := hc i x y hi
  exact ⟨by rw [hb.cell (p := ⟨b, off + i * 2, none⟩) hlt]; exact this.1, by rw [hb.cell (p := ⟨b, off + i * 2 + 1, none⟩) hlt]; exact this.2⟩
set_option maxHeartbeats 400000 in
theorem check_ok (a : Option Addr) (cap : Nat) (ls : List (Int × Int)) (w : World) (hl : Lies w a ls) (h : okCurve ls) :
  Calls Tryz.prog 73 #[.slice a ls.length cap] w fun e w' => e = .returned .nilIface ∧ Below w.heap.size w w' := by
 obtain ⟨h1, h6, hok⟩ := h
 obtain ⟨b, off, rfl, hlt, hc⟩ := hl.some h1
 clear hl
 generalize hn : ls.length = n at *
 have Hn := (show Hid (ls.length = n) from hn)
 clear hn
 go_enter Tryz.func73, Tryz.ntmps73
 go_wp2
 go_loopw [16] (fun i wr => ∃ k : Nat, k ≤ n ∧ i = .int .i64 k ∧ Below w.heap.size w wr) (fun i _ => n - (intOf i).toNat)
 case atStart => exact ⟨0, Nat.zero_le _, rfl, Below.refl _ _⟩
 case round =>
  obtain ⟨k, hk, rfl, hb⟩ := hrel
  by_cases hkn : k < n
  ·
   obtain ⟨⟨x, y⟩, hp, hm⟩ := get_some ls k (by rw [Hn.out]; exact hkn)
   have hc1 : wr.cell? ⟨b, off + k * 2, none⟩ = some (.int .i64 x) := by rw [hb.cell (p := ⟨b, off + k * 2, none⟩) hlt]; exact (hc k x y hp).1
   have hc2 : wr.cell? ⟨b, off + k * 2 + 1, none⟩ = some (.int .i64 y) := by rw [hb.cell (p := ⟨b, off + k * 2 + 1, none⟩) hlt]; exact (hc k x y hp).2
   have hxy := hok _ hm
   clear hc hok hp hm
   have Hxy := (show Hid (okLine x y = true) from hxy)
   clear hxy
   go_wp2_with (go_at_call 112; refine (isLine_yes x y _ Hxy.out).mono ?_; rintro e w' ⟨rfl, rfl⟩)
   have hs := hb.size
   go_roundw
   case rel => exact ⟨k + 1, by omega, by go_num, (hb.alloc hs _).alloc (by simp; omega) _⟩
   case measure => simp [intOf]; omega
  ·
   go_wp2
   go_ret
   exact ⟨rfl, hb⟩
set_option maxHeartbeats 400000 in
theorem check_shape (a : Option Addr) (n cap : Nat) (w : World) (vS : Value) (hS : w.cell? ⟨4, 0, none⟩ = some vS) (hm : n ≤ maxLen) (h : n < 1 ∨ 6 < n) :
  Calls Tryz.prog 73 #[.slice a n cap] w fun e w' => e = .returned vS ∧ w' = w := by
 unfold maxLen at hm
 rcases h with h | h
 ·
  obtain rfl : n = 0 := by omega
  go_enter Tryz.func73, Tryz.ntmps73
  go_wp2
  go_ret
  exact ⟨rfl, rfl⟩
 ·
  have h1 : ¬ n < 1 := by omega
  go_enter Tryz.func73, Tryz.ntmps73
  go_wp2
  go_ret
  exact ⟨rfl, rfl⟩
set_option maxHeartbeats 400000 in
theorem check_bad (a : Option Addr) (cap : Nat) (ls : List (Int × Int)) (w : World) (aB : Addr) (hB : w.cell? ⟨3, 0, none⟩ = some (.iface 271 (.pointer (some aB)))) (hl : Lies w a ls) (h1 : 1 ≤ ls.length) (h6 : ls.length ≤ 6)
  (j : Nat) (hj : j < ls.length) (hok : ∀ i x y, i < j → ls[i]? = some (x, y) → okLine x y = true) (hbad : ∀ x y, ls[j]? = some (x, y) → okLine x y = false) :
  Calls Tryz.prog 73 #[.slice a ls.length cap] w fun e w' => Below w.heap.size w w' ∧ ∃ B, e = .returned (.iface 110 (.pointer (some ⟨B, 0, none⟩))) ∧ w.heap.size ≤ B ∧ B < w'.heap.size ∧ w'.cell? ⟨B, 0, none⟩ = some (.int .i64 j) ∧ w'.cell? ⟨B, 1, none⟩ = some (.iface 271 (.pointer (some aB))) := by
 obtain ⟨b, off, rfl, hlt, hc⟩ := hl.some h1
 clear hl
 generalize hn : ls.length = n at *
 have Hn := (show Hid (ls.length = n) from hn)
 clear hn
 go_enter Tryz.func73, Tryz.ntmps73
 go_wp2
 go_loopw [16] (fun i wr => ∃ k : Nat, k ≤ j ∧ i = .int .i64 k ∧ Below w.heap.size w wr) (fun i _ => n - (intOf i).toNat)
 case atStart => exact ⟨0, Nat.zero_le _, rfl, Below.refl _ _⟩
 case round =>
  obtain ⟨k, hk, rfl, hb⟩ := hrel
  have hs := hb.size
  have hkn : k < n := by omega
  obtain ⟨⟨x, y⟩, hp, hm⟩ := get_some ls k (by rw [Hn.out]; exact hkn)
  have hc1 : wr.cell? ⟨b, off + k * 2, none⟩ = some (.int .i64 x) := by rw [hb.cell (p := ⟨b, off + k * 2, none⟩) hlt]; exact (hc k x y hp).1
  have hc2 : wr.cell? ⟨b, off + k * 2 + 1, none⟩ = some (.int .i64 y) := by rw [hb.cell (p := ⟨b, off + k * 2 + 1, none⟩) hlt]; exact (hc k x y hp).2
  have hgs : 3 < w.heap.size := by
   rcases Nat.lt_or_ge 3 w.heap.size with h | h
   · exact h
   · simp [World.cell?, Array.getElem?_eq_none h] at hB
  have hB2 : wr.cell? ⟨3, 0, none⟩ = some (.iface 271 (.pointer (some aB))) := by rw [hb.cell (p := ⟨3, 0, none⟩) hgs]; exact hB
  by_cases hkj : k < j
  ·
   have Hxy := (show Hid (okLine x y = true) from hok k x y hkj hp)
   clear hc hok hp hm hbad hB hB2
   go_wp2_with (go_at_call 112; refine (isLine_yes x y _ Hxy.out).mono ?_; rintro e w' ⟨rfl, rfl⟩)
   go_roundw
   case rel => exact ⟨k + 1, by omega, by go_num, (hb.alloc hs _).alloc (by simp; omega) _⟩
   case measure => simp [intOf]; omega
  ·
   obtain rfl : k = j := by omega
   have Hxy := (show Hid (okLine x y = false) from hbad x y hp)
   clear hc hok hp hm hbad hB
   have hB3 : ((wr.alloc (.cells #[.int .i64 x, .int .i64 y] 133)).alloc (.cells #[.int .i64 x, .int .i64 y] 133)).cell? ⟨3, 0, none⟩ = some (.iface 271 (.pointer (some aB))) := by
    rw [World.cell?_alloc_lt _ _ ⟨3, 0, none⟩ (Nat.lt_of_lt_of_le hgs (by simp; omega)), World.cell?_alloc_lt _ _ ⟨3, 0, none⟩ (Nat.lt_of_lt_of_le hgs hs)]; exact hB2
   go_wp2_with (go_at_call 112; refine (isLine_no x y _ Hxy.out).mono ?_; rintro e w' ⟨rfl, rfl⟩)
   go_ret
   refine ⟨((hb.alloc hs _).alloc (by simp; omega) _).alloc (by simp; omega) _, _, rfl, ?_, ?_, ?_, ?_⟩
   · omega
   · simp
   · rw [World.cell?_alloc_at _ _ _ _ (by simp)]; rfl
   · rw [World.cell?_alloc_at _ _ _ _ (by simp)]; rfl
end Go.Proofs.YtibhkijaafdkoaaGreatDoor
