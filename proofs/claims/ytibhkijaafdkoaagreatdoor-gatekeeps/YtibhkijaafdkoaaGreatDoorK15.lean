/- Own facts, put together: no statement of its own. -/
import Derived.Test.YtibhkijaafdkoaaGreatDoorK14
namespace Go.Proofs.YtibhkijaafdkoaaGreatDoor
section
variable (fl : Nat → Nat) (sz : Nat → Int) (qu : Nat → Int)
def Drr.go : Nat → Drr → Option (Nat × Drr)
 | 0, _ => none
 | n + 1, d => match d.srv with
  | none => (match d.row with | [] => none | f :: r => Drr.go n (d.turn qu f r))
  | some f => (match d.qs f with | [] => none | k :: r => if sz k ≤ d.cr f then some (k, d.sent sz f k r) else Drr.go n (d.back f))
def Picks (d : Drr) (k : Nat) (e : Drr) : Prop := ∃ n, Drr.go sz qu n d = some (k, e)
structure SendsAt (M : Int) (d : Drr) (k : Nat) (e : Drr) (f : Nat) (r : List Nat) (c : Drr) : Prop where
 ok : DrrOk fl sz qu M c
 srv : c.srv = some f
 head : c.qs f = k :: r
 fit : sz k ≤ c.cr f
 left : e = c.sent sz f k r
 same : c.qs = d.qs
 lead : ∀ a b, a ≠ b → a ∈ d.line → b ∈ d.line → c.lead qu a b = d.lead qu a b
variable {fl sz qu} {M : Int}
theorem go_sends (hq : ∀ f, 1 ≤ qu f) : ∀ (n : Nat) (d : Drr) (k : Nat) (e : Drr), DrrOk fl sz qu M d → Drr.go sz qu n d = some (k, e) → ∃ f r c, SendsAt fl sz qu M d k e f r c := by
 intro n
 induction n with
 | zero => intro d k e _ h; simp [Drr.go] at h
 | succ n ih =>
  intro d k e hok h
  unfold Drr.go at h
  cases hs : d.srv with
  | none =>
   rw [hs] at h
   simp only at h
   cases hr : d.row with
   | nil => rw [hr] at h; simp at h
   | cons f r =>
    rw [hr] at h
    simp only at h
    have e0 : d.line = f :: r := by unfold Drr.line; rw [hs]; exact hr
    have hline : (d.turn qu f r).line = d.line := by rw [e0]; rfl
    obtain ⟨f', r', c, h1⟩ := ih _ k e (hok.turn hq hs hr) h
    exact ⟨f', r', c, h1.ok, h1.srv, h1.head, h1.fit, h1.left, h1.same, fun a b hab ha hb => (h1.lead a b hab (by rw [hline]; exact ha) (by rw [hline]; exact hb)).trans (lead_turn hab hs hr)⟩
  | some f =>
   rw [hs] at h
   simp only at h
   cases hk : d.qs f with
   | nil => rw [hk] at h; simp at h
   | cons j r =>
    rw [hk] at h
    simp only at h
    by_cases hfit : sz j ≤ d.cr f
    ·
     rw [if_pos hfit] at h
     have h := Option.some.inj h
     obtain ⟨rfl, rfl⟩ := Prod.mk.inj h
     exact ⟨f, r, d, hok, hs, hk, hfit, rfl, rfl, fun _ _ _ _ _ => rfl⟩
    ·
     rw [if_neg hfit] at h
     have e0 : d.line = f :: d.row := by unfold Drr.line; rw [hs]
     have hline : (d.back f).line = d.row ++ [f] := rfl
     have hmem : ∀ a, a ∈ d.line → a ∈ (d.back f).line := fun a ha => by
      rw [e0] at ha
      rw [hline]
      rcases List.mem_cons.1 ha with ha | ha
      · exact List.mem_append.2 (.inr (List.mem_singleton.2 ha))
      · exact List.mem_append.2 (.inl ha)
     obtain ⟨f', r', c, h1⟩ := ih _ k e (hok.back hs hk (Int.lt_of_not_ge hfit)) h
     exact ⟨f', r', c, h1.ok, h1.srv, h1.head, h1.fit, h1.left, h1.same, fun a b hab ha hb => (h1.lead a b hab (hmem a ha) (hmem b hb)).trans (lead_back hab hok.nodup hs ha hb)⟩
theorem go_more : ∀ (n : Nat) (d : Drr) (x : Nat × Drr), Drr.go sz qu n d = some x → Drr.go sz qu (n + 1) d = some x := by
 intro n
 induction n with
 | zero => intro d x h; simp [Drr.go] at h
 | succ n ih =>
  intro d x h
  rw [Drr.go] at h ⊢
  cases hs : d.srv with
  | none =>
   rw [hs] at h
   simp only at h ⊢
   cases hr : d.row with
   | nil => rw [hr] at h; simp at h
   | cons f r =>
    rw [hr] at h
    simp only at h ⊢
    exact ih _ _ h
  | some f =>
   rw [hs] at h
   simp only at h ⊢
   cases hk : d.qs f with
   | nil => rw [hk] at h; simp at h
   | cons j r =>
    rw [hk] at h
    simp only at h ⊢
    by_cases hfit : sz j ≤ d.cr f
    · rw [if_pos hfit] at h ⊢; exact h
    · rw [if_neg hfit] at h ⊢; exact ih _ _ h
def Drr.lack (sz : Nat → Int) (d : Drr) (f : Nat) : Nat := match d.qs f with | [] => 0 | k :: _ => (sz k - d.cr f).toNat
def Drr.need (sz : Nat → Int) (d : Drr) : Nat := (d.line.map (d.lack sz)).sum
theorem mem_le_sum : ∀ (l : List Nat) (a : Nat), a ∈ l → a ≤ l.sum
 | [], _, h => by cases h
 | x :: r, a, h => by
  rw [List.sum_cons]
  rcases List.mem_cons.1 h with h | h
  · omega
  · have := mem_le_sum r a h; omega
theorem go_ends0 (hq : ∀ f, 1 ≤ qu f) : ∀ (N : Nat) (d : Drr), DrrOk fl sz qu M d → d.line ≠ [] → d.need sz ≤ N → d.srv = none → ∃ x, Drr.go sz qu (2 * N + 4) d = some x := by
 intro N
 induction N with
 | zero =>
  intro d hok hne hN hs
  have e0 : d.line = d.row := by unfold Drr.line; rw [hs]
  cases hr : d.row with
  | nil => rw [e0, hr] at hne; exact absurd rfl hne
  | cons f r =>
   have hf : f ∈ d.line := by rw [e0, hr]; exact List.mem_cons_self ..
   have h0 : d.lack sz f ≤ d.need sz := mem_le_sum _ _ (List.mem_map.2 ⟨f, hf, rfl⟩)
   have hne' := (hok.active f).1 hf
   unfold Drr.lack at h0
   cases hk : d.qs f with
   | nil => exact absurd hk hne'
   | cons k r' =>
    rw [hk] at h0
    simp only at h0
    have hcr : (d.turn qu f r).cr f = d.cr f + qu f := put1_same _ _ _
    have hs1 : (d.turn qu f r).srv = some f := rfl
    have hk1 : (d.turn qu f r).qs f = k :: r' := hk
    have hfit : sz k ≤ (d.turn qu f r).cr f := by rw [hcr]; have := hq f; omega
    refine ⟨(k, (d.turn qu f r).sent sz f k r'), ?_⟩
    rw [Drr.go, hs]
    simp only [hr]
    rw [Drr.go, hs1]
    simp only [hk1, if_pos hfit]
 | succ N ih =>
  intro d hok hne hN hs
  have e0 : d.line = d.row := by unfold Drr.line; rw [hs]
  cases hr : d.row with
  | nil => rw [e0, hr] at hne; exact absurd rfl hne
  | cons f r =>
   have hok1 := hok.turn hq hs hr
   have hf : d.qs f ≠ [] := (hok.active f).1 (by rw [e0, hr]; exact List.mem_cons_self ..)
   cases hk : d.qs f with
   | nil => exact absurd hk hf
   | cons k r' =>
    have hs1 : (d.turn qu f r).srv = some f := rfl
    have hk1 : (d.turn qu f r).qs f = k :: r' := hk
    by_cases hfit : sz k ≤ (d.turn qu f r).cr f
    ·
     refine ⟨(k, (d.turn qu f r).sent sz f k r'), ?_⟩
     rw [show 2 * (N + 1) + 4 = (2 * N + 4) + 1 + 1 by omega, Drr.go, hs]
     simp only [hr]
     rw [Drr.go, hs1]
     simp only [hk1, if_pos hfit]
    ·
     have hok2 := hok1.back hs1 hk1 (Int.lt_of_not_ge hfit)
     have hline2 : ((d.turn qu f r).back f).line = r ++ [f] := rfl
     have hcr : (d.turn qu f r).cr f = d.cr f + qu f := put1_same _ _ _
     have hn := hok.nodup
     rw [e0, hr] at hn
     obtain ⟨n1, n2⟩ := List.nodup_cons.1 hn
     have hl1 : ∀ g, g ∈ r → ((d.turn qu f r).back f).lack sz g = d.lack sz g := fun g hg => by
      have e : g ≠ f := fun e => n1 (by rw [← e]; exact hg)
      unfold Drr.lack
      show (match d.qs g with | [] => 0 | k :: _ => (sz k - put1 d.cr f (d.cr f + qu f) g).toNat) = _
      rw [put1_other _ _ e]
     have hl2 : ((d.turn qu f r).back f).lack sz f + 1 ≤ d.lack sz f := by
      unfold Drr.lack
      show (match d.qs f with | [] => 0 | k :: _ => (sz k - put1 d.cr f (d.cr f + qu f) f).toNat) + 1 ≤ _
      rw [put1_same, hk]
      simp only
      rw [hcr] at hfit
      have := hq f
      omega
     have hneed : ((d.turn qu f r).back f).need sz + 1 ≤ d.need sz := by
      unfold Drr.need
      rw [hline2, e0, hr, List.map_append, List.sum_append, List.map_cons, List.sum_cons, List.map_congr_left hl1]
      simp only [List.map_cons, List.map_nil, List.sum_cons, List.sum_nil]
      omega
     obtain ⟨x, hx⟩ := ih ((d.turn qu f r).back f) hok2 (by rw [hline2]; simp) (by omega) rfl
     refine ⟨x, ?_⟩
     rw [show 2 * (N + 1) + 4 = (2 * N + 4) + 1 + 1 by omega, Drr.go, hs]
     simp only [hr]
     rw [Drr.go, hs1]
     simp only [hk1, if_neg hfit]
     exact hx
theorem go_ends (hq : ∀ f, 1 ≤ qu f) (N : Nat) (d : Drr) (hok : DrrOk fl sz qu M d) (hne : d.line ≠ []) (hN : d.need sz ≤ N) : ∃ x, Drr.go sz qu (2 * N + 5) d = some x := by
 cases hs : d.srv with
 | none =>
  obtain ⟨x, hx⟩ := go_ends0 hq N d hok hne hN hs
  exact ⟨x, go_more _ _ _ hx⟩
 | some f =>
  have e0 : d.line = f :: d.row := by unfold Drr.line; rw [hs]
  have hf : d.qs f ≠ [] := (hok.active f).1 (by rw [e0]; exact List.mem_cons_self ..)
  cases hk : d.qs f with
  | nil => exact absurd hk hf
  | cons k r' =>
   by_cases hfit : sz k ≤ d.cr f
   ·
    refine ⟨(k, d.sent sz f k r'), ?_⟩
    rw [Drr.go, hs]
    simp only [hk, if_pos hfit]
   ·
    have hok2 := hok.back hs hk (Int.lt_of_not_ge hfit)
    have hline2 : (d.back f).line = d.row ++ [f] := rfl
    have hneed : (d.back f).need sz = d.need sz := by
     have e1 : (d.back f).need sz = ((d.row ++ [f]).map (d.lack sz)).sum := rfl
     have e2 : d.need sz = ((f :: d.row).map (d.lack sz)).sum := by unfold Drr.need; rw [e0]
     rw [e1, e2, List.map_append, List.sum_append, List.map_cons, List.sum_cons]
     simp only [List.map_cons, List.map_nil, List.sum_cons, List.sum_nil]
     omega
    obtain ⟨x, hx⟩ := go_ends0 hq N (d.back f) hok2 (by rw [hline2]; simp) (by omega) rfl
    refine ⟨x, ?_⟩
    rw [Drr.go, hs]
    simp only [hk, if_neg hfit]
    exact hx
end
end Go.Proofs.YtibhkijaafdkoaaGreatDoor

namespace Go.Proofs.YtibhkijaafdkoaaGreatDoor
structure RoundLaw {σ : Type} (Q : Que σ) (fl : Nat → Nat) (sz qu : Nat → Int) (q0 : σ) (ok : σ → Prop) (view : σ → Drr) : Prop where
 start : ok q0 ∧ view q0 = ⟨fun _ => [], fun _ => 0, [], none⟩
 come : ∀ q k, ok q → ok (Q.come q k) ∧ view (Q.come q k) = (view q).come fl k
 pick : ∀ q, ok q → 0 < Q.rest q → ok (Q.left q) ∧ Picks sz qu (view q) (Q.pick q) (view (Q.left q))
 rest : ∀ q, ok q → (Q.rest q = 0 ↔ (view q).line = [])
 idle : ∀ q, ok q → Q.rest q = 0 → ok (Q.idle q) ∧ view (Q.idle q) = view q
structure RoundRun {σ : Type} (fl : Nat → Nat) (sz qu : Nat → Int) (M : Int) (ps : List Pk) (ok : σ → Prop) (view : σ → Drr) (s : St σ) (H : List (Drr × Drr)) : Prop where
 good : ok s.q
 state : DrrOk fl sz qu M (view s.q)
 len : H.length = s.out.length
 each : ∀ (i : Nat) x h, s.out[i]? = some x → H[i]? = some h → ∃ k : Nat, x.num = k ∧ DrrOk fl sz qu M h.1 ∧ DrrOk fl sz qu M h.2 ∧ Picks sz qu h.1 k h.2 ∧ ∀ w : Nat, w < ps.length → tickOf ps w ≤ x.beg → isDone (s.out.take (i + 1)) w = false → w ∈ h.2.qs (fl w)
 next : ∀ (i : Nat) h h', H[i]? = some h → H[i + 1]? = some h' → ∀ a b, a ∈ h.2.line → b ∈ h.2.line → h'.1.lead qu a b = h.2.lead qu a b
 last : ∀ h, H[H.length - 1]? = some h → 0 < H.length → ∀ a b, a ∈ h.2.line → b ∈ h.2.line → (∀ c, c ∈ h.2.line → c ∈ (view s.q).line) ∧ (view s.q).lead qu a b = h.2.lead qu a b
 wait : ∀ w, w < s.next → isDone s.out w = false → w ∈ (view s.q).qs (fl w)
 only : ∀ f w, w ∈ (view s.q).qs f → w < s.next ∧ isDone s.out w = false
 le : s.next ≤ ps.length
 gone : ∀ w : Nat, isDone s.out w = true → w < s.next
 once : ∀ f, ((view s.q).qs f).Nodup
section
variable {σ : Type} {Q : Que σ} {fl : Nat → Nat} {sz qu : Nat → Int} {q0 : σ} {ok : σ → Prop} {view : σ → Drr} {M : Int} {per : Int} {ps : List Pk}
theorem come_line {d : Drr} {k c : Nat} (h : c ∈ d.line) : c ∈ (d.come fl k).line := by
 rw [Drr.line_come]
 split
 · exact h
 · exact List.mem_append.2 (.inl h)
theorem drrOk_none (hM : 1 ≤ M) : DrrOk fl sz qu M ⟨fun _ => [], fun _ => 0, [], none⟩ :=
 ⟨List.nodup_nil, fun f => ⟨(fun h => by cases h), fun h => absurd rfl h⟩, fun _ => Int.le_refl _, fun _ _ => rfl, (fun _ _ => by show (0 : Int) ≤ M - 1; omega), (fun _ h => by cases h), (fun _ _ h => by cases h), hM⟩
theorem sent_qs {d : Drr} {f k : Nat} {r : List Nat} : (d.sent sz f k r).qs = put1 d.qs f r := by
 unfold Drr.sent
 split
 · next h => rw [h]
 · rfl
theorem round_run (hL : RoundLaw Q fl sz qu q0 ok view) (hq : ∀ f, 1 ≤ qu f) (hM : 1 ≤ M) (hsz : ∀ k, k < ps.length → 1 ≤ sz k ∧ sz k ≤ M) (ho : OkPks ps) {s : St σ} (h : Reaches Q per ps q0 s) : ∃ H, RoundRun fl sz qu M ps ok view s H := by
 refine h.by_steps (C := fun s => ∃ H, RoundRun fl sz qu M ps ok view s H) ?_ ?_ ?_ ?_
 ·
  refine ⟨[], hL.start.1, by rw [hL.start.2]; exact drrOk_none hM, rfl, fun i x h hx => by simp at hx, fun i h h' hx => by simp at hx, fun h _ h0 => by simp at h0, fun w hw => absurd hw (Nat.not_lt_zero _), fun f w hw => ?_, Nat.zero_le _, (fun w hw => by simp [isDone] at hw), fun f => ?_⟩
  rotate_left
  ·
   show ((view q0).qs f).Nodup
   rw [hL.start.2]
   exact List.nodup_nil
  have : w ∈ (view q0).qs f := hw
  rw [hL.start.2] at this
  cases this
 ·
  rintro s p hs hp ht ⟨H, r⟩
  obtain ⟨o1, o2⟩ := hL.come s.q s.next r.good
  have hlt := lt_of_get hp
  have hnew : isDone s.out s.next = false := by
   cases hd : isDone s.out s.next with
   | false => rfl
   | true => have := r.gone _ hd; omega
  refine ⟨H, o1, by rw [o2]; exact r.state.come _ (hsz _ hlt).1 (hsz _ hlt).2, r.len, r.each, r.next, fun h hh h0 a b ha hb => ?_, fun w hw hd => ?_, fun f w hw => ?_, hlt, fun w hw => Nat.lt_succ_of_lt (r.gone w hw), fun f => ?_⟩
  ·
   obtain ⟨g1, g2⟩ := r.last h hh h0 a b ha hb
   refine ⟨fun c hc => by rw [o2]; exact come_line (g1 c hc), ?_⟩
   rw [o2, lead_come _ (g1 a ha)]
   exact g2
  ·
   show w ∈ (view (Q.come s.q s.next)).qs (fl w)
   rw [o2]
   show w ∈ put1 (view s.q).qs (fl s.next) ((view s.q).qs (fl s.next) ++ [s.next]) (fl w)
   rcases Nat.lt_or_ge w s.next with hw' | hw'
   ·
    have := r.wait w hw' hd
    by_cases e : fl w = fl s.next
    · rw [e, put1_same]; rw [e] at this; exact List.mem_append.2 (.inl this)
    · rw [put1_other _ _ e]; exact this
   ·
    obtain rfl : w = s.next := by simp only at hw; omega
    rw [put1_same]
    exact List.mem_append.2 (.inr (List.mem_singleton.2 rfl))
  ·
   have hw2 : w ∈ (view (Q.come s.q s.next)).qs f := hw
   rw [o2] at hw2
   have hw3 : w ∈ put1 (view s.q).qs (fl s.next) ((view s.q).qs (fl s.next) ++ [s.next]) f := hw2
   by_cases e : f = fl s.next
   ·
    subst e
    rw [put1_same] at hw3
    rcases List.mem_append.1 hw3 with hw3 | hw3
    ·
     obtain ⟨g1, g2⟩ := r.only _ w hw3
     exact ⟨Nat.lt_succ_of_lt g1, g2⟩
    ·
     rw [List.mem_singleton] at hw3
     subst hw3
     exact ⟨Nat.lt_succ_self _, hnew⟩
   ·
    rw [put1_other _ _ e] at hw3
    obtain ⟨g1, g2⟩ := r.only _ w hw3
    exact ⟨Nat.lt_succ_of_lt g1, g2⟩
  ·
   show ((view (Q.come s.q s.next)).qs f).Nodup
   rw [o2]
   show (put1 (view s.q).qs (fl s.next) ((view s.q).qs (fl s.next) ++ [s.next]) f).Nodup
   by_cases e : f = fl s.next
   ·
    subst e
    rw [put1_same]
    refine List.nodup_append.2 ⟨r.once _, List.nodup_cons.2 ⟨by simp, List.nodup_nil⟩, fun a ha b hb e => ?_⟩
    rw [List.mem_singleton] at hb
    have := (r.only _ a ha).1
    omega
   · rw [put1_other _ _ e]; exact r.once f
 ·
  rintro s p hs hall h0 hp ⟨H, r⟩
  obtain ⟨o1, o2⟩ := hL.pick s.q r.good h0
  obtain ⟨n, hgo⟩ := o2
  obtain ⟨f, t, c, sa⟩ := go_sends hq n _ _ _ r.state hgo
  have hqs : (view (Q.left s.q)).qs = put1 (view s.q).qs f t := by rw [sa.left, sent_qs, sa.same]
  have hhead : (view s.q).qs f = Q.pick s.q :: t := by rw [← sa.same]; exact sa.head
  have hkm : Q.pick s.q ∈ (view s.q).qs f := by rw [hhead]; exact List.mem_cons_self ..
  obtain ⟨kf, ks1, ks2⟩ := r.state.size f _ hkm
  obtain ⟨k1, k2⟩ := r.only f _ hkm
  have hon := r.once f
  rw [hhead] at hon
  obtain ⟨n1, n2⟩ := List.nodup_cons.1 hon
  have hstay : ∀ w, w ∈ (view s.q).qs (fl w) → w ≠ Q.pick s.q → w ∈ (view (Q.left s.q)).qs (fl w) := by
   intro w hw hne
   rw [hqs]
   by_cases e : fl w = f
   ·
    rw [e, put1_same]
    rw [e, hhead] at hw
    rcases List.mem_cons.1 hw with h | h
    · exact absurd h hne
    · exact h
   · rw [put1_other _ _ e]; exact hw
  have hnd : ∀ w : Nat, isDone (s.out ++ [⟨(Q.pick s.q : Nat), s.now, s.now + per * p.size⟩]) w = false → isDone s.out w = false ∧ w ≠ Q.pick s.q := by
   intro w hw
   rw [isDone_snoc, Bool.or_eq_false_iff] at hw
   exact ⟨hw.1, fun e => beq_eq_false_iff_ne.1 hw.2 e.symm⟩
  refine ⟨H ++ [(view s.q, view (Q.left s.q))], o1, by rw [sa.left]; exact sa.ok.sent sa.srv sa.head sa.fit, by simp [r.len], fun i x h hx hh => ?_, fun i h h' hh hh' a b ha hb => ?_, fun h hh _ a b ha hb => ?_, fun w hw hd => ?_, fun f' w hw => ?_, r.le, fun w hw => ?_, fun f' => ?_⟩
  ·
   have hil := lt_of_get hx
   simp only [List.length_append, List.length_cons, List.length_nil] at hil
   rcases Nat.lt_or_ge i s.out.length with h' | h'
   ·
    simp only [List.getElem?_append_left h'] at hx
    rw [List.getElem?_append_left (by rw [r.len]; exact h')] at hh
    simp only [List.take_append_of_le_length (show i + 1 ≤ s.out.length by omega)]
    exact r.each i x h hx hh
   ·
    obtain rfl : i = s.out.length := by omega
    simp only [List.getElem?_append_right (Nat.le_refl _), Nat.sub_self, List.getElem?_cons_zero, Option.some.injEq] at hx
    rw [List.getElem?_append_right (by rw [r.len]; exact Nat.le_refl _), r.len, Nat.sub_self, List.getElem?_cons_zero] at hh
    have hh := Option.some.inj hh
    subst hx
    subst hh
    refine ⟨Q.pick s.q, rfl, r.state, by rw [sa.left]; exact sa.ok.sent sa.srv sa.head sa.fit, ⟨n, hgo⟩, fun w hw ht hd => ?_⟩
    rw [List.take_of_length_le (by simp)] at hd
    obtain ⟨d1, d2⟩ := hnd w hd
    refine hstay w (r.wait w ?_ d1) d2
    rcases Nat.lt_or_ge w s.next with h3 | h3
    · exact h3
    ·
     have hnl : s.next < ps.length := by omega
     have e : ps[s.next]? = some ps[s.next] := List.getElem?_eq_getElem hnl
     have a1 := hall _ e
     have a2 := ticks_le ho h3 hw
     rw [tickOf_get e] at a2
     simp only at ht
     omega
  ·
   have hil := lt_of_get hh'
   simp only [List.length_append, List.length_cons, List.length_nil] at hil
   rcases Nat.lt_or_ge (i + 1) H.length with h3 | h3
   ·
    rw [List.getElem?_append_left (by omega)] at hh
    rw [List.getElem?_append_left h3] at hh'
    exact r.next i h h' hh hh' a b ha hb
   ·
    have e1 : i + 1 = H.length := by omega
    rw [List.getElem?_append_left (by omega)] at hh
    rw [List.getElem?_append_right (by omega), e1, Nat.sub_self, List.getElem?_cons_zero] at hh'
    have hh' := Option.some.inj hh'
    subst hh'
    exact (r.last h (by rw [show H.length - 1 = i by omega]; exact hh) (by omega) a b ha hb).2
  ·
   simp only [List.length_append, List.length_cons, List.length_nil, Nat.add_sub_cancel] at hh
   rw [List.getElem?_append_right (Nat.le_refl _), Nat.sub_self, List.getElem?_cons_zero] at hh
   have hh := Option.some.inj hh
   subst hh
   exact ⟨fun c hc => hc, rfl⟩
  ·
   obtain ⟨d1, d2⟩ := hnd w hd
   exact hstay w (r.wait w hw d1) d2
  ·
   have hw2 : w ∈ (view (Q.left s.q)).qs f' := hw
   rw [hqs] at hw2
   have hw3 : w ∈ (view s.q).qs f' ∧ w ≠ Q.pick s.q := by
    by_cases e : f' = f
    ·
     subst e
     rw [put1_same] at hw2
     exact ⟨by rw [hhead]; exact List.mem_cons_of_mem _ hw2, fun e => n1 (by rw [← e]; exact hw2)⟩
    ·
     rw [put1_other _ _ e] at hw2
     exact ⟨hw2, fun e2 => e (by rw [← (r.state.size f' w hw2).1, e2]; exact kf)⟩
   obtain ⟨g1, g2⟩ := r.only f' w hw3.1
   refine ⟨g1, ?_⟩
   rw [isDone_snoc, g2, Bool.false_or]
   exact beq_eq_false_iff_ne.2 (fun e => hw3.2 e.symm)
  ·
   rw [isDone_snoc, Bool.or_eq_true] at hw
   show w < s.next
   rcases hw with hw | hw
   · exact r.gone w hw
   ·
    have := beq_iff_eq.1 hw
    omega
  ·
   show ((view (Q.left s.q)).qs f').Nodup
   rw [hqs]
   by_cases e : f' = f
   · subst e; rw [put1_same]; exact n2
   · rw [put1_other _ _ e]; exact r.once f'
 ·
  rintro s p hs hp ht h0 ⟨H, r⟩
  obtain ⟨i1, i2⟩ := hL.idle s.q r.good h0
  exact ⟨H, i1, by rw [i2]; exact r.state, r.len, r.each, r.next, by rw [i2]; exact r.last, by rw [i2]; exact r.wait, by rw [i2]; exact r.only, r.le, r.gone, by rw [i2]; exact r.once⟩
end
end Go.Proofs.YtibhkijaafdkoaaGreatDoor

namespace Go.Proofs.YtibhkijaafdkoaaGreatDoor
def pre (ld : Nat → Int) : Nat → Int
 | 0 => 0
 | n + 1 => pre ld n + ld n
end Go.Proofs.YtibhkijaafdkoaaGreatDoor

namespace Go.Proofs.YtibhkijaafdkoaaGreatDoor
def sizeAt (ps : List Pk) (j : Nat) : Int := match ps[j]? with | some p => p.size | none => 1
theorem sizeAt_get {ps : List Pk} {j : Nat} {p : Pk} (h : ps[j]? = some p) : sizeAt ps j = p.size := by simp [sizeAt, h]
theorem sizeAt_in {ps : List Pk} (ho : OkPks ps) (j : Nat) : 1 ≤ sizeAt ps j ∧ sizeAt ps j ≤ 1500 := by
 cases h : ps[j]? with
 | none => simp [sizeAt, h]
 | some p =>
  rw [sizeAt_get h]
  have := okPk_true (ho.each _ p h).1
  omega
theorem flow_lt {ps : List Pk} (ho : OkPks ps) (j : Nat) : flowOf ps j < 8 := by
 cases h : ps[j]? with
 | none => simp [flowOf, h]
 | some p =>
  rw [flowOf_get h]
  have := okPk_true (ho.each _ p h).1
  omega
def quOf (ns : List Int) (f : Nat) : Int := ns.getD f 1
theorem quOf_get {ns : List Int} {f : Nat} {x : Int} (h : ns[f]? = some x) : quOf ns f = x := by simp [quOf, List.getD, h]
theorem quOf_in {ns : List Int} {hi : Int} (h : ∀ (i : Nat) x, ns[i]? = some x → 1 ≤ x ∧ x ≤ hi) (h1 : 1 ≤ hi) (f : Nat) : 1 ≤ quOf ns f ∧ quOf ns f ≤ hi := by
 cases hx : ns[f]? with
 | none => simp [quOf, List.getD, hx]; exact h1
 | some x => rw [quOf_get hx]; exact h f x hx
def cnt (q : Nat → List Nat) : Nat → Nat
 | 0 => 0
 | n + 1 => cnt q n + (q n).length
theorem cnt_put (q : Nat → List Nat) (f : Nat) (x : List Nat) : ∀ n, cnt (put1 q f x) n + (if f < n then (q f).length else 0) = cnt q n + (if f < n then x.length else 0)
 | 0 => by simp [cnt]
 | n + 1 => by
  have ih := cnt_put q f x n
  simp only [cnt]
  by_cases e : n = f
  ·
   subst e
   rw [put1_same, if_pos (Nat.lt_succ_self _), if_pos (Nat.lt_succ_self _)]
   rw [if_neg (Nat.lt_irrefl _), if_neg (Nat.lt_irrefl _)] at ih
   omega
  ·
   rw [put1_other _ _ e]
   by_cases h : f < n
   ·
    rw [if_pos h, if_pos h] at ih
    rw [if_pos (by omega), if_pos (by omega)]
    omega
   ·
    rw [if_neg h, if_neg h] at ih
    rw [if_neg (by omega), if_neg (by omega)]
    omega
theorem cnt_le (q : Nat → List Nat) {f : Nat} : ∀ n, f < n → (q f).length ≤ cnt q n
 | 0, h => by omega
 | n + 1, h => by
  simp only [cnt]
  by_cases e : f = n
  · subst e; omega
  · have := cnt_le q n (show f < n by omega); omega
theorem cnt_zero {q : Nat → List Nat} (h : ∀ f, q f = []) : ∀ n, cnt q n = 0
 | 0 => rfl
 | n + 1 => by simp only [cnt, h n, List.length_nil, cnt_zero h n]
structure TQ where
 d : Drr
 n : Nat
def fuelOf (ps : List Pk) (d : Drr) : Nat := 2 * d.need (sizeAt ps) + 5
def goOf (ps : List Pk) (ns : List Int) (d : Drr) : Option (Nat × Drr) := Drr.go (sizeAt ps) (quOf ns) (fuelOf ps d) d
def turnsQ (ps : List Pk) (ns : List Int) : Que TQ where
 come q k := ⟨q.d.come (flowOf ps) k, q.n + 1⟩
 pick q := match goOf ps ns q.d with | some x => x.1 | none => 0
 left q := match goOf ps ns q.d with | some x => ⟨x.2, q.n - 1⟩ | none => q
 rest q := q.n
def turns0 : TQ := ⟨⟨fun _ => [], fun _ => 0, [], none⟩, 0⟩
structure TQOk (ps : List Pk) (ns : List Int) (M : Int) (q : TQ) : Prop where
 state : DrrOk (flowOf ps) (sizeAt ps) (quOf ns) M q.d
 count : q.n = cnt q.d.qs 8
 few : ∀ f, 8 ≤ f → q.d.qs f = []
section
variable {ps : List Pk} {ns : List Int} {M : Int}
theorem TQOk.line {q : TQ} (h : TQOk ps ns M q) : q.n = 0 ↔ q.d.line = [] := by
 constructor
 ·
  intro h0
  have hz : ∀ f, q.d.qs f = [] := fun f => by
   rcases Nat.lt_or_ge f 8 with hf | hf
   ·
    have := cnt_le q.d.qs 8 hf
    have hc := h.count
    exact List.length_eq_zero_iff.1 (by omega)
   · exact h.few f hf
  cases hl : q.d.line with
  | nil => rfl
  | cons f r => exact absurd (hz f) ((h.state.active f).1 (by rw [hl]; exact List.mem_cons_self ..))
 ·
  intro hl
  rw [h.count]
  refine cnt_zero (fun f => ?_) 8
  cases hf : q.d.qs f with
  | nil => rfl
  | cons a b =>
   have := (h.state.active f).2 (by rw [hf]; simp)
   rw [hl] at this
   cases this
theorem TQOk.picks {q : TQ} (hq : ∀ f, 1 ≤ quOf ns f) (h : TQOk ps ns M q) (h0 : 0 < q.n) : ∃ k e, goOf ps ns q.d = some (k, e) ∧ (turnsQ ps ns).pick q = k ∧ (turnsQ ps ns).left q = ⟨e, q.n - 1⟩ ∧ ∃ f r c, SendsAt (flowOf ps) (sizeAt ps) (quOf ns) M q.d k e f r c := by
 have hne : q.d.line ≠ [] := fun e => by have := h.line.2 e; omega
 obtain ⟨⟨k, e⟩, hx⟩ := go_ends hq (q.d.need (sizeAt ps)) q.d h.state hne (Nat.le_refl _)
 have hx' : goOf ps ns q.d = some (k, e) := hx
 refine ⟨k, e, hx', ?_, ?_, go_sends hq _ _ _ _ h.state hx⟩
 · simp only [turnsQ, hx']
 · simp only [turnsQ, hx']
theorem TQOk.left {q : TQ} (hq : ∀ f, 1 ≤ quOf ns f) (h : TQOk ps ns M q) (h0 : 0 < q.n) : TQOk ps ns M ((turnsQ ps ns).left q) := by
 obtain ⟨k, e, hx, h1, h2, f, r, c, sa⟩ := h.picks hq h0
 rw [h2]
 have hqs : e.qs = put1 q.d.qs f r := by rw [sa.left, sent_qs, sa.same]
 have hhead : q.d.qs f = k :: r := by rw [← sa.same]; exact sa.head
 have hf8 : f < 8 := by
  rcases Nat.lt_or_ge f 8 with h' | h'
  · exact h'
  · have := h.few f h'; rw [hhead] at this; cases this
 refine ⟨by rw [sa.left]; exact sa.ok.sent sa.srv sa.head sa.fit, ?_, fun g hg => ?_⟩
 ·
  have hp := cnt_put q.d.qs f r 8
  rw [if_pos hf8, if_pos hf8, hhead, List.length_cons] at hp
  have hc := h.count
  show q.n - 1 = cnt e.qs 8
  rw [hqs]
  omega
 ·
  show e.qs g = []
  rw [hqs, put1_other _ _ (by omega)]
  exact h.few g hg
theorem TQOk.come {q : TQ} (ho : OkPks ps) (hM : ∀ k, sizeAt ps k ≤ M) (h : TQOk ps ns M q) (k : Nat) : TQOk ps ns M ((turnsQ ps ns).come q k) := by
 have hf := flow_lt ho k
 have hqs : ((turnsQ ps ns).come q k).d.qs = put1 q.d.qs (flowOf ps k) (q.d.qs (flowOf ps k) ++ [k]) := rfl
 refine ⟨h.state.come k (sizeAt_in ho k).1 (hM k), ?_, fun g hg => ?_⟩
 ·
  have hp := cnt_put q.d.qs (flowOf ps k) (q.d.qs (flowOf ps k) ++ [k]) 8
  rw [if_pos hf, if_pos hf, List.length_append, List.length_cons, List.length_nil] at hp
  have hc := h.count
  show q.n + 1 = cnt _ 8
  rw [hqs]
  omega
 ·
  rw [hqs, put1_other _ _ (by omega)]
  exact h.few g hg
theorem turns_round (ho : OkPks ps) (hq : ∀ f, 1 ≤ quOf ns f) (h1 : 1 ≤ M) (hM : ∀ k, sizeAt ps k ≤ M) : RoundLaw (turnsQ ps ns) (flowOf ps) (sizeAt ps) (quOf ns) turns0 (TQOk ps ns M) TQ.d where
 start := ⟨⟨drrOk_none h1, (cnt_zero (fun _ => rfl) 8).symm, fun _ _ => rfl⟩, rfl⟩
 come := fun q k h => ⟨h.come ho hM k, rfl⟩
 pick := fun q h h0 => ⟨h.left hq h0, by
  obtain ⟨k, e, hx, e1, e2, -⟩ := h.picks hq h0
  rw [e1, e2]
  exact ⟨_, hx⟩⟩
 rest := fun q h => h.line
 idle := fun q h _ => ⟨h, rfl⟩
variable {per : Int}
theorem turns_law (ho : OkPks ps) (hq : ∀ f, 1 ≤ quOf ns f) : QueLaw (turnsQ ps ns) per ps turns0 where
 none := rfl
 come := fun s _ _ => rfl
 left := fun s hr h0 => by
  obtain ⟨H, r⟩ := round_run (M := 1500) (turns_round ho hq (by omega) (fun k => (sizeAt_in ho k).2)) hq (by omega) (fun k _ => sizeAt_in ho k) ho hr
  obtain ⟨k, e, hx, e1, e2, -⟩ := r.good.picks hq h0
  rw [e2]
  have h0' : 0 < s.q.n := h0
  show s.q.n - 1 + 1 = s.q.n
  omega
 pick := fun s hr h0 => by
  obtain ⟨H, r⟩ := round_run (M := 1500) (turns_round ho hq (by omega) (fun k => (sizeAt_in ho k).2)) hq (by omega) (fun k _ => sizeAt_in ho k) ho hr
  obtain ⟨k, e, hx, e1, e2, f, t, c, sa⟩ := r.good.picks hq h0
  rw [e1]
  refine (r.only f k ?_).1
  rw [← sa.same, sa.head]
  exact List.mem_cons_self ..
 idle := fun s _ h => h
theorem turns_run (ho : OkPks ps) (hq : ∀ f, 1 ≤ quOf ns f) (h1 : 1 ≤ M) (hM : ∀ k, sizeAt ps k ≤ M) {s : St TQ} (hr : Reaches (turnsQ ps ns) per ps turns0 s) : ∃ H, RoundRun (flowOf ps) (sizeAt ps) (quOf ns) M ps (TQOk ps ns M) TQ.d s H :=
 round_run (turns_round ho hq h1 hM) hq h1 (fun k _ => ⟨(sizeAt_in ho k).1, hM k⟩) ho hr
theorem turns_ok (ho : OkPks ps) (hq : ∀ f, 1 ≤ quOf ns f) {s : St TQ} (hr : Reaches (turnsQ ps ns) per ps turns0 s) : TQOk ps ns 1500 s.q := by
 obtain ⟨H, r⟩ := turns_run (M := 1500) ho hq (by omega) (fun k => (sizeAt_in ho k).2) hr
 exact r.good
theorem turns_few (ho : OkPks ps) (hq : ∀ f, 1 ≤ quOf ns f) {s : St TQ} (hr : Reaches (turnsQ ps ns) per ps turns0 s) (f : Nat) : (s.q.d.qs f).length ≤ 300 ∧ ∀ k, k ∈ s.q.d.qs f → k < s.next ∧ flowOf ps k = f := by
 obtain ⟨H, r⟩ := turns_run (M := 1500) ho hq (by omega) (fun k => (sizeAt_in ho k).2) hr
 refine ⟨?_, fun k hk => ⟨(r.only f k hk).1, (r.state.size f k hk).1⟩⟩
 rcases Nat.lt_or_ge f 8 with hf | hf
 ·
  have h1 := cnt_le s.q.d.qs 8 hf
  have h2 := r.good.count
  have h3 := hr.count (turns_law ho hq)
  have h4 := hr.next_le
  have h5 := ho.few
  have h6 : (turnsQ ps ns).rest s.q = s.q.n := rfl
  omega
 · rw [r.good.few f hf]; simp
end
section
end
def RoundSent (per : Int) (ps : List Pk) (ns : List Int) (l : List Sn) : Prop := ∃ s, Reaches (turnsQ ps ns) per ps turns0 s ∧ ¬ s.next < ps.length ∧ (turnsQ ps ns).rest s.q = 0 ∧ s.out = l
section
variable {per : Int} {ps : List Pk} {ns : List Int} {l : List Sn}
theorem RoundSent.length (ho : OkPks ps) (hq : ∀ f, 1 ≤ quOf ns f) (h : RoundSent per ps ns l) : l.length = ps.length := by
 obtain ⟨s, h1, h2, h3, rfl⟩ := h
 have := h1.count (turns_law ho hq)
 have := h1.next_le
 omega
end
end Go.Proofs.YtibhkijaafdkoaaGreatDoor
