/- Own facts, put together: no statement of its own. -/
import Derived.Test.YtibhkijaafdkoaaGreatDoorR04
namespace Go.Proofs.YtibhkijaafdkoaaGreatDoor
structure RoundLaw {σ : Type} (Q : Que σ) (fl : Nat → Nat) (sz qu : Nat → Int) (q0 : σ) (ok : σ → Prop) (view : σ → Drr) : Prop where
 start : ok q0 ∧ view q0 = ⟨fun _ => [], fun _ => 0, [], none⟩
 come : ∀ q k, ok q → ok (Q.come q k) ∧ view (Q.come q k) = (view q).come fl k
 pick : ∀ q, ok q → 0 < Q.rest q → ok (Q.left q) ∧ Picks sz qu (view q) (Q.pick q) (view (Q.left q))
 rest : ∀ q, ok q → (Q.rest q = 0 ↔ (view q).line = [])
 idle : ∀ q, ok q → Q.rest q = 0 → ok (Q.idle q) ∧ view (Q.idle q) = view q
structure RoundRun {σ : Type} (fl : Nat → Nat) (sz qu : Nat → Int) (M : Int) (ps : List Pk) (ok : σ → Prop) (view : σ → Drr) (s : St σ) (H : List (Drr × Drr)) : Prop where
 good : ok s.q
 state : DrrOk fl sz qu M (view s.q)
 len : H.length = s.out.length
 each : ∀ (i : Nat) x h, s.out[i]? = some x → H[i]? = some h → ∃ k : Nat, x.num = k ∧ DrrOk fl sz qu M h.1 ∧ DrrOk fl sz qu M h.2 ∧ Picks sz qu h.1 k h.2 ∧ ∀ w : Nat, w < ps.length → tickOf ps w ≤ x.beg → isDone (s.out.take (i + 1)) w = false → w ∈ h.2.qs (fl w)
 next : ∀ (i : Nat) h h', H[i]? = some h → H[i + 1]? = some h' → ∀ a b, a ∈ h.2.line → b ∈ h.2.line → h'.1.lead qu a b = h.2.lead qu a b
 last : ∀ h, H[H.length - 1]? = some h → 0 < H.length → ∀ a b, a ∈ h.2.line → b ∈ h.2.line → (∀ c, c ∈ h.2.line → c ∈ (view s.q).line) ∧ (view s.q).lead qu a b = h.2.lead qu a b
 wait : ∀ w, w < s.next → isDone s.out w = false → w ∈ (view s.q).qs (fl w)
 only : ∀ f w, w ∈ (view s.q).qs f → w < s.next ∧ isDone s.out w = false
 le : s.next ≤ ps.length
 gone : ∀ w : Nat, isDone s.out w = true → w < s.next
 once : ∀ f, ((view s.q).qs f).Nodup
section
variable {σ : Type} {Q : Que σ} {fl : Nat → Nat} {sz qu : Nat → Int} {q0 : σ} {ok : σ → Prop} {view : σ → Drr} {M : Int} {per : Int} {ps : List Pk}
theorem come_line {d : Drr} {k c : Nat} (h : c ∈ d.line) : c ∈ (d.come fl k).line := by
 rw [Drr.line_come]
 split
 · exact h
 · exact List.mem_append.2 (.inl h)
theorem drrOk_none (hM : 1 ≤ M) : DrrOk fl sz qu M ⟨fun _ => [], fun _ => 0, [], none⟩ :=
 ⟨List.nodup_nil, fun f => ⟨(fun h => by cases h), fun h => absurd rfl h⟩, fun _ => Int.le_refl _, fun _ _ => rfl, (fun _ _ => by show (0 : Int) ≤ M - 1; omega), (fun _ h => by cases h), (fun _ _ h => by cases h), hM⟩
theorem sent_qs {d : Drr} {f k : Nat} {r : List Nat} : (d.sent sz f k r).qs = put1 d.qs f r := by
 unfold Drr.sent
 split
 · next h => rw [h]
 · rfl
theorem round_run (hL : RoundLaw Q fl sz qu q0 ok view) (hq : ∀ f, 1 ≤ qu f) (hM : 1 ≤ M) (hsz : ∀ k, k < ps.length → 1 ≤ sz k ∧ sz k ≤ M) (ho : OkPks ps) {s : St σ} (h : Reaches Q per ps q0 s) : ∃ H, RoundRun fl sz qu M ps ok view s H := by
 refine h.by_steps (C := fun s => ∃ H, RoundRun fl sz qu M ps ok view s H) ?_ ?_ ?_ ?_
 ·
  refine ⟨[], hL.start.1, by rw [hL.start.2]; exact drrOk_none hM, rfl, fun i x h hx => by simp at hx, fun i h h' hx => by simp at hx, fun h _ h0 => by simp at h0, fun w hw => absurd hw (Nat.not_lt_zero _), fun f w hw => ?_, Nat.zero_le _, (fun w hw => by simp [isDone] at hw), fun f => ?_⟩
  rotate_left
  ·
   show ((view q0).qs f).Nodup
   rw [hL.start.2]
   exact List.nodup_nil
  have : w ∈ (view q0).qs f := hw
  rw [hL.start.2] at this
  cases this
 ·
  rintro s p hs hp ht ⟨H, r⟩
  obtain ⟨o1, o2⟩ := hL.come s.q s.next r.good
  have hlt := lt_of_get hp
  have hnew : isDone s.out s.next = false := by
   cases hd : isDone s.out s.next with
   | false => rfl
   | true => have := r.gone _ hd; omega
  refine ⟨H, o1, by rw [o2]; exact r.state.come _ (hsz _ hlt).1 (hsz _ hlt).2, r.len, r.each, r.next, fun h hh h0 a b ha hb => ?_, fun w hw hd => ?_, fun f w hw => ?_, hlt, fun w hw => Nat.lt_succ_of_lt (r.gone w hw), fun f => ?_⟩
  ·
   obtain ⟨g1, g2⟩ := r.last h hh h0 a b ha hb
   refine ⟨fun c hc => by rw [o2]; exact come_line (g1 c hc), ?_⟩
   rw [o2, lead_come _ (g1 a ha)]
   exact g2
  ·
   show w ∈ (view (Q.come s.q s.next)).qs (fl w)
   rw [o2]
   show w ∈ put1 (view s.q).qs (fl s.next) ((view s.q).qs (fl s.next) ++ [s.next]) (fl w)
   rcases Nat.lt_or_ge w s.next with hw' | hw'
   ·
    have := r.wait w hw' hd
    by_cases e : fl w = fl s.next
    · rw [e, put1_same]; rw [e] at this; exact List.mem_append.2 (.inl this)
    · rw [put1_other _ _ e]; exact this
   ·
    obtain rfl : w = s.next := by simp only at hw; omega
    rw [put1_same]
    exact List.mem_append.2 (.inr (List.mem_singleton.2 rfl))
  ·
   have hw2 : w ∈ (view (Q.come s.q s.next)).qs f := hw
   rw [o2] at hw2
   have hw3 : w ∈ put1 (view s.q).qs (fl s.next) ((view s.q).qs (fl s.next) ++ [s.next]) f := hw2
   by_cases e : f = fl s.next
   ·
    subst e
    rw [put1_same] at hw3
    rcases List.mem_append.1 hw3 with hw3 | hw3
    ·
     obtain ⟨g1, g2⟩ := r.only _ w hw3
     exact ⟨Nat.lt_succ_of_lt g1, g2⟩
    ·
     rw [List.mem_singleton] at hw3
     subst hw3
     exact ⟨Nat.lt_succ_self _, hnew⟩
   ·
    rw [put1_other _ _ e] at hw3
    obtain ⟨g1, g2⟩ := r.only _ w hw3
    exact ⟨Nat.lt_succ_of_lt g1, g2⟩
  ·
   show ((view (Q.come s.q s.next)).qs f).Nodup
   rw [o2]
   show (put1 (view s.q).qs (fl s.next) ((view s.q).qs (fl s.next) ++ [s.next]) f).Nodup
   by_cases e : f = fl s.next
   ·
    subst e
    rw [put1_same]
    refine List.nodup_append.2 ⟨r.once _, List.nodup_cons.2 ⟨by simp, List.nodup_nil⟩, fun a ha b hb e => ?_⟩
    rw [List.mem_singleton] at hb
    have := (r.only _ a ha).1
    omega
   · rw [put1_other _ _ e]; exact r.once f
 ·
  rintro s p hs hall h0 hp ⟨H, r⟩
  obtain ⟨o1, o2⟩ := hL.pick s.q r.good h0
  obtain ⟨n, hgo⟩ := o2
  obtain ⟨f, t, c, sa⟩ := go_sends hq n _ _ _ r.state hgo
  have hqs : (view (Q.left s.q)).qs = put1 (view s.q).qs f t := by rw [sa.left, sent_qs, sa.same]
  have hhead : (view s.q).qs f = Q.pick s.q :: t := by rw [← sa.same]; exact sa.head
  have hkm : Q.pick s.q ∈ (view s.q).qs f := by rw [hhead]; exact List.mem_cons_self ..
  obtain ⟨kf, ks1, ks2⟩ := r.state.size f _ hkm
  obtain ⟨k1, k2⟩ := r.only f _ hkm
  have hon := r.once f
  rw [hhead] at hon
  obtain ⟨n1, n2⟩ := List.nodup_cons.1 hon
  have hstay : ∀ w, w ∈ (view s.q).qs (fl w) → w ≠ Q.pick s.q → w ∈ (view (Q.left s.q)).qs (fl w) := by
   intro w hw hne
   rw [hqs]
   by_cases e : fl w = f
   ·
    rw [e, put1_same]
    rw [e, hhead] at hw
    rcases List.mem_cons.1 hw with h | h
    · exact absurd h hne
    · exact h
   · rw [put1_other _ _ e]; exact hw
  have hnd : ∀ w : Nat, isDone (s.out ++ [⟨(Q.pick s.q : Nat), s.now, s.now + per * p.size⟩]) w = false → isDone s.out w = false ∧ w ≠ Q.pick s.q := by
   intro w hw
   rw [isDone_snoc, Bool.or_eq_false_iff] at hw
   exact ⟨hw.1, fun e => beq_eq_false_iff_ne.1 hw.2 e.symm⟩
  refine ⟨H ++ [(view s.q, view (Q.left s.q))], o1, by rw [sa.left]; exact sa.ok.sent sa.srv sa.head sa.fit, by simp [r.len], fun i x h hx hh => ?_, fun i h h' hh hh' a b ha hb => ?_, fun h hh _ a b ha hb => ?_, fun w hw hd => ?_, fun f' w hw => ?_, r.le, fun w hw => ?_, fun f' => ?_⟩
  ·
   have hil := lt_of_get hx
   simp only [List.length_append, List.length_cons, List.length_nil] at hil
   rcases Nat.lt_or_ge i s.out.length with h' | h'
   ·
    simp only [List.getElem?_append_left h'] at hx
    rw [List.getElem?_append_left (by rw [r.len]; exact h')] at hh
    simp only [List.take_append_of_le_length (show i + 1 ≤ s.out.length by omega)]
    exact r.each i x h hx hh
   ·
    obtain rfl : i = s.out.length := by omega
    simp only [List.getElem?_append_right (Nat.le_refl _), Nat.sub_self, List.getElem?_cons_zero, Option.some.injEq] at hx
    rw [List.getElem?_append_right (by rw [r.len]; exact Nat.le_refl _), r.len, Nat.sub_self, List.getElem?_cons_zero] at hh
    have hh := Option.some.inj hh
    subst hx
    subst hh
    refine ⟨Q.pick s.q, rfl, r.state, by rw [sa.left]; exact sa.ok.sent sa.srv sa.head sa.fit, ⟨n, hgo⟩, fun w hw ht hd => ?_⟩
    rw [List.take_of_length_le (by simp)] at hd
    obtain ⟨d1, d2⟩ := hnd w hd
    refine hstay w (r.wait w ?_ d1) d2
    rcases Nat.lt_or_ge w s.next with h3 | h3
    · exact h3
    ·
     have hnl : s.next < ps.length := by omega
     have e : ps[s.next]? = some ps[s.next] := List.getElem?_eq_getElem hnl
     have a1 := hall _ e
     have a2 := ticks_le ho h3 hw
     rw [tickOf_get e] at a2
     simp only at ht
     omega
  ·
   have hil := lt_of_get hh'
   simp only [List.length_append, List.length_cons, List.length_nil] at hil
   rcases Nat.lt_or_ge (i + 1) H.length with h3 | h3
   ·
    rw [List.getElem?_append_left (by omega)] at hh
    rw [List.getElem?_append_left h3] at hh'
    exact r.next i h h' hh hh' a b ha hb
   ·
    have e1 : i + 1 = H.length := by omega
    rw [List.getElem?_append_left (by omega)] at hh
    rw [List.getElem?_append_right (by omega), e1, Nat.sub_self, List.getElem?_cons_zero] at hh'
    have hh' := Option.some.inj hh'
    subst hh'
    exact (r.last h (by rw [show H.length - 1 = i by omega]; exact hh) (by omega) a b ha hb).2
  ·
   simp only [List.length_append, List.length_cons, List.length_nil, Nat.add_sub_cancel] at hh
   rw [List.getElem?_append_right (Nat.le_refl _), Nat.sub_self, List.getElem?_cons_zero] at hh
   have hh := Option.some.inj hh
   subst hh
   exact ⟨fun c hc => hc, rfl⟩
  ·
   obtain ⟨d1, d2⟩ := hnd w hd
   exact hstay w (r.wait w hw d1) d2
  ·
   have hw2 : w ∈ (view (Q.left s.q)).qs f' := hw
   rw [hqs] at hw2
   have hw3 : w ∈ (view s.q).qs f' ∧ w ≠ Q.pick s.q := by
    by_cases e : f' = f
    ·
     subst e
     rw [put1_same] at hw2
     exact ⟨by rw [hhead]; exact List.mem_cons_of_mem _ hw2, fun e => n1 (by rw [← e]; exact hw2)⟩
    ·
     rw [put1_other _ _ e] at hw2
     exact ⟨hw2, fun e2 => e (by rw [← (r.state.size f' w hw2).1, e2]; exact kf)⟩
   obtain ⟨g1, g2⟩ := r.only f' w hw3.1
   refine ⟨g1, ?_⟩
   rw [isDone_snoc, g2, Bool.false_or]
   exact beq_eq_false_iff_ne.2 (fun e => hw3.2 e.symm)
  ·
   rw [isDone_snoc, Bool.or_eq_true] at hw
   show w < s.next
   rcases hw with hw | hw
   · exact r.gone w hw
   ·
    have := beq_iff_eq.1 hw
    omega
  ·
   show ((view (Q.left s.q)).qs f').Nodup
   rw [hqs]
   by_cases e : f' = f
   · subst e; rw [put1_same]; exact n2
   · rw [put1_other _ _ e]; exact r.once f'
 ·
  rintro s p hs hp ht h0 ⟨H, r⟩
  obtain ⟨i1, i2⟩ := hL.idle s.q r.good h0
  exact ⟨H, i1, by rw [i2]; exact r.state, r.len, r.each, r.next, by rw [i2]; exact r.last, by rw [i2]; exact r.wait, by rw [i2]; exact r.only, r.le, r.gone, by rw [i2]; exact r.once⟩
end
end Go.Proofs.YtibhkijaafdkoaaGreatDoor

namespace Go.Proofs.YtibhkijaafdkoaaGreatDoor
def sizeAt (ps : List Pk) (j : Nat) : Int := match ps[j]? with | some p => p.size | none => 1
theorem sizeAt_get {ps : List Pk} {j : Nat} {p : Pk} (h : ps[j]? = some p) : sizeAt ps j = p.size := by simp [sizeAt, h]
theorem sizeAt_in {ps : List Pk} (ho : OkPks ps) (j : Nat) : 1 ≤ sizeAt ps j ∧ sizeAt ps j ≤ 1500 := by
 cases h : ps[j]? with
 | none => simp [sizeAt, h]
 | some p =>
  rw [sizeAt_get h]
  have := okPk_true (ho.each _ p h).1
  omega
theorem flow_lt {ps : List Pk} (ho : OkPks ps) (j : Nat) : flowOf ps j < 8 := by
 cases h : ps[j]? with
 | none => simp [flowOf, h]
 | some p =>
  rw [flowOf_get h]
  have := okPk_true (ho.each _ p h).1
  omega
def quOf (ns : List Int) (f : Nat) : Int := ns.getD f 1
theorem quOf_get {ns : List Int} {f : Nat} {x : Int} (h : ns[f]? = some x) : quOf ns f = x := by simp [quOf, List.getD, h]
theorem quOf_in {ns : List Int} {hi : Int} (h : ∀ (i : Nat) x, ns[i]? = some x → 1 ≤ x ∧ x ≤ hi) (h1 : 1 ≤ hi) (f : Nat) : 1 ≤ quOf ns f ∧ quOf ns f ≤ hi := by
 cases hx : ns[f]? with
 | none => simp [quOf, List.getD, hx]; exact h1
 | some x => rw [quOf_get hx]; exact h f x hx
def cnt (q : Nat → List Nat) : Nat → Nat
 | 0 => 0
 | n + 1 => cnt q n + (q n).length
theorem cnt_put (q : Nat → List Nat) (f : Nat) (x : List Nat) : ∀ n, cnt (put1 q f x) n + (if f < n then (q f).length else 0) = cnt q n + (if f < n then x.length else 0)
 | 0 => by simp [cnt]
 | n + 1 => by
  have ih := cnt_put q f x n
  simp only [cnt]
  by_cases e : n = f
  ·
   subst e
   rw [put1_same, if_pos (Nat.lt_succ_self _), if_pos (Nat.lt_succ_self _)]
   rw [if_neg (Nat.lt_irrefl _), if_neg (Nat.lt_irrefl _)] at ih
   omega
  ·
   rw [put1_other _ _ e]
   by_cases h : f < n
   ·
    rw [if_pos h, if_pos h] at ih
    rw [if_pos (by omega), if_pos (by omega)]
    omega
   ·
    rw [if_neg h, if_neg h] at ih
    rw [if_neg (by omega), if_neg (by omega)]
    omega
theorem cnt_le (q : Nat → List Nat) {f : Nat} : ∀ n, f < n → (q f).length ≤ cnt q n
 | 0, h => by omega
 | n + 1, h => by
  simp only [cnt]
  by_cases e : f = n
  · subst e; omega
  · have := cnt_le q n (show f < n by omega); omega
theorem cnt_zero {q : Nat → List Nat} (h : ∀ f, q f = []) : ∀ n, cnt q n = 0
 | 0 => rfl
 | n + 1 => by simp only [cnt, h n, List.length_nil, cnt_zero h n]
structure TQ where
 d : Drr
 n : Nat
def fuelOf (ps : List Pk) (d : Drr) : Nat := 2 * d.need (sizeAt ps) + 5
def goOf (ps : List Pk) (ns : List Int) (d : Drr) : Option (Nat × Drr) := Drr.go (sizeAt ps) (quOf ns) (fuelOf ps d) d
def turnsQ (ps : List Pk) (ns : List Int) : Que TQ where
 come q k := ⟨q.d.come (flowOf ps) k, q.n + 1⟩
 pick q := match goOf ps ns q.d with | some x => x.1 | none => 0
 left q := match goOf ps ns q.d with | some x => ⟨x.2, q.n - 1⟩ | none => q
 rest q := q.n
def turns0 : TQ := ⟨⟨fun _ => [], fun _ => 0, [], none⟩, 0⟩
structure TQOk (ps : List Pk) (ns : List Int) (M : Int) (q : TQ) : Prop where
 state : DrrOk (flowOf ps) (sizeAt ps) (quOf ns) M q.d
 count : q.n = cnt q.d.qs 8
 few : ∀ f, 8 ≤ f → q.d.qs f = []
section
variable {ps : List Pk} {ns : List Int} {M : Int}
theorem TQOk.line {q : TQ} (h : TQOk ps ns M q) : q.n = 0 ↔ q.d.line = [] := by
 constructor
 ·
  intro h0
  have hz : ∀ f, q.d.qs f = [] := fun f => by
   rcases Nat.lt_or_ge f 8 with hf | hf
   ·
    have := cnt_le q.d.qs 8 hf
    have hc := h.count
    exact List.length_eq_zero_iff.1 (by omega)
   · exact h.few f hf
  cases hl : q.d.line with
  | nil => rfl
  | cons f r => exact absurd (hz f) ((h.state.active f).1 (by rw [hl]; exact List.mem_cons_self ..))
 ·
  intro hl
  rw [h.count]
  refine cnt_zero (fun f => ?_) 8
  cases hf : q.d.qs f with
  | nil => rfl
  | cons a b =>
   have := (h.state.active f).2 (by rw [hf]; simp)
   rw [hl] at this
   cases this
theorem TQOk.picks {q : TQ} (hq : ∀ f, 1 ≤ quOf ns f) (h : TQOk ps ns M q) (h0 : 0 < q.n) : ∃ k e, goOf ps ns q.d = some (k, e) ∧ (turnsQ ps ns).pick q = k ∧ (turnsQ ps ns).left q = ⟨e, q.n - 1⟩ ∧ ∃ f r c, SendsAt (flowOf ps) (sizeAt ps) (quOf ns) M q.d k e f r c := by
 have hne : q.d.line ≠ [] := fun e => by have := h.line.2 e; omega
 obtain ⟨⟨k, e⟩, hx⟩ := go_ends hq (q.d.need (sizeAt ps)) q.d h.state hne (Nat.le_refl _)
 have hx' : goOf ps ns q.d = some (k, e) := hx
 refine ⟨k, e, hx', ?_, ?_, go_sends hq _ _ _ _ h.state hx⟩
 · simp only [turnsQ, hx']
 · simp only [turnsQ, hx']
theorem TQOk.left {q : TQ} (hq : ∀ f, 1 ≤ quOf ns f) (h : TQOk ps ns M q) (h0 : 0 < q.n) : TQOk ps ns M ((turnsQ ps ns).left q) := by
 obtain ⟨k, e, hx, h1, h2, f, r, c, sa⟩ := h.picks hq h0
 rw [h2]
 have hqs : e.qs = put1 q.d.qs f r := by rw [sa.left, sent_qs, sa.same]
 have hhead : q.d.qs f = k :: r := by rw [← sa.same]; exact sa.head
 have hf8 : f < 8 := by
  rcases Nat.lt_or_ge f 8 with h' | h'
  · exact h'
  · have := h.few f h'; rw [hhead] at this; cases this
 refine ⟨by rw [sa.left]; exact sa.ok.sent sa.srv sa.head sa.fit, ?_, fun g hg => ?_⟩
 ·
  have hp := cnt_put q.d.qs f r 8
  rw [if_pos hf8, if_pos hf8, hhead, List.length_cons] at hp
  have hc := h.count
  show q.n - 1 = cnt e.qs 8
  rw [hqs]
  omega
 ·
  show e.qs g = []
  rw [hqs, put1_other _ _ (by omega)]
  exact h.few g hg
theorem TQOk.come {q : TQ} (ho : OkPks ps) (hM : ∀ k, sizeAt ps k ≤ M) (h : TQOk ps ns M q) (k : Nat) : TQOk ps ns M ((turnsQ ps ns).come q k) := by
 have hf := flow_lt ho k
 have hqs : ((turnsQ ps ns).come q k).d.qs = put1 q.d.qs (flowOf ps k) (q.d.qs (flowOf ps k) ++ [k]) := rfl
 refine ⟨h.state.come k (sizeAt_in ho k).1 (hM k), ?_, fun g hg => ?_⟩
 ·
  have hp := cnt_put q.d.qs (flowOf ps k) (q.d.qs (flowOf ps k) ++ [k]) 8
  rw [if_pos hf, if_pos hf, List.length_append, List.length_cons, List.length_nil] at hp
  have hc := h.count
  show q.n + 1 = cnt _ 8
  rw [hqs]
  omega
 ·
  rw [hqs, put1_other _ _ (by omega)]
  exact h.few g hg
theorem turns_round (ho : OkPks ps) (hq : ∀ f, 1 ≤ quOf ns f) (h1 : 1 ≤ M) (hM : ∀ k, sizeAt ps k ≤ M) : RoundLaw (turnsQ ps ns) (flowOf ps) (sizeAt ps) (quOf ns) turns0 (TQOk ps ns M) TQ.d where
 start := ⟨⟨drrOk_none h1, (cnt_zero (fun _ => rfl) 8).symm, fun _ _ => rfl⟩, rfl⟩
 come := fun q k h => ⟨h.come ho hM k, rfl⟩
 pick := fun q h h0 => ⟨h.left hq h0, by
  obtain ⟨k, e, hx, e1, e2, -⟩ := h.picks hq h0
  rw [e1, e2]
  exact ⟨_, hx⟩⟩
 rest := fun q h => h.line
 idle := fun q h _ => ⟨h, rfl⟩
variable {per : Int}
theorem turns_law (ho : OkPks ps) (hq : ∀ f, 1 ≤ quOf ns f) : QueLaw (turnsQ ps ns) per ps turns0 where
 none := rfl
 come := fun s _ _ => rfl
 left := fun s hr h0 => by
  obtain ⟨H, r⟩ := round_run (M := 1500) (turns_round ho hq (by omega) (fun k => (sizeAt_in ho k).2)) hq (by omega) (fun k _ => sizeAt_in ho k) ho hr
  obtain ⟨k, e, hx, e1, e2, -⟩ := r.good.picks hq h0
  rw [e2]
  have h0' : 0 < s.q.n := h0
  show s.q.n - 1 + 1 = s.q.n
  omega
 pick := fun s hr h0 => by
  obtain ⟨H, r⟩ := round_run (M := 1500) (turns_round ho hq (by omega) (fun k => (sizeAt_in ho k).2)) hq (by omega) (fun k _ => sizeAt_in ho k) ho hr
  obtain ⟨k, e, hx, e1, e2, f, t, c, sa⟩ := r.good.picks hq h0
  rw [e1]
  refine (r.only f k ?_).1
  rw [← sa.same, sa.head]
  exact List.mem_cons_self ..
 idle := fun s _ h => h
theorem turns_run (ho : OkPks ps) (hq : ∀ f, 1 ≤ quOf ns f) (h1 : 1 ≤ M) (hM : ∀ k, sizeAt ps k ≤ M) {s : St TQ} (hr : Reaches (turnsQ ps ns) per ps turns0 s) : ∃ H, RoundRun (flowOf ps) (sizeAt ps) (quOf ns) M ps (TQOk ps ns M) TQ.d s H :=
 round_run (turns_round ho hq h1 hM) hq h1 (fun k _ => ⟨(sizeAt_in ho k).1, hM k⟩) ho hr
theorem turns_ok (ho : OkPks ps) (hq : ∀ f, 1 ≤ quOf ns f) {s : St TQ} (hr : Reaches (turnsQ ps ns) per ps turns0 s) : TQOk ps ns 1500 s.q := by
 obtain ⟨H, r⟩ := turns_run (M := 1500) ho hq (by omega) (fun k => (sizeAt_in ho k).2) hr
 exact r.good
theorem turns_few (ho : OkPks ps) (hq : ∀ f, 1 ≤ quOf ns f) {s : St TQ} (hr : Reaches (turnsQ ps ns) per ps turns0 s) (f : Nat) : (s.q.d.qs f).length ≤ 300 ∧ ∀ k, k ∈ s.q.d.qs f → k < s.next ∧ flowOf ps k = f := by
 obtain ⟨H, r⟩ := turns_run (M := 1500) ho hq (by omega) (fun k => (sizeAt_in ho k).2) hr
 refine ⟨?_, fun k hk => ⟨(r.only f k hk).1, (r.state.size f k hk).1⟩⟩
 rcases Nat.lt_or_ge f 8 with hf | hf
 ·
  have h1 := cnt_le s.q.d.qs 8 hf
  have h2 := r.good.count
  have h3 := hr.count (turns_law ho hq)
  have h4 := hr.next_le
  have h5 := ho.few
  have h6 : (turnsQ ps ns).rest s.q = s.q.n := rfl
  omega
 · rw [r.good.few f hf]; simp
end
def stepS {σ : Type} (Q : Que σ) (per : Int) (ps : List Pk) (s : St σ) : Option (St σ) :=
 match ps[s.next]? with
 | some p => if p.tick ≤ s.now then some ⟨s.out, s.now, s.next + 1, Q.come s.q s.next⟩ else if 0 < Q.rest s.q then (match ps[Q.pick s.q]? with | some p => some ⟨s.out ++ [⟨Q.pick s.q, s.now, s.now + per * p.size⟩], s.now + per * p.size, s.next, Q.left s.q⟩ | none => none) else some ⟨s.out, p.tick, s.next, Q.idle s.q⟩
 | none => if 0 < Q.rest s.q then (match ps[Q.pick s.q]? with | some p => some ⟨s.out ++ [⟨Q.pick s.q, s.now, s.now + per * p.size⟩], s.now + per * p.size, s.next, Q.left s.q⟩ | none => none) else none
def iterS {σ : Type} (Q : Que σ) (per : Int) (ps : List Pk) (s : St σ) : Nat → Option (St σ)
 | 0 => some s
 | n + 1 => (iterS Q per ps s n).bind (stepS Q per ps)
section
variable {σ : Type} {Q : Que σ} {per : Int} {ps : List Pk} {q0 : σ}
theorem reaches_iter {s : St σ} (h : Reaches Q per ps q0 s) : ∃ n, iterS Q per ps ⟨[], 0, 0, q0⟩ n = some s := by
 refine h.by_steps (C := fun s => ∃ n, iterS Q per ps ⟨[], 0, 0, q0⟩ n = some s) ⟨0, rfl⟩ ?_ ?_ ?_
 ·
  rintro s p _ hp ht ⟨n, hn⟩
  refine ⟨n + 1, ?_⟩
  rw [iterS, hn, Option.bind_some, stepS, hp]
  simp only [if_pos ht]
 ·
  rintro s p _ hall h0 hp ⟨n, hn⟩
  refine ⟨n + 1, ?_⟩
  rw [iterS, hn, Option.bind_some, stepS]
  cases hx : ps[s.next]? with
  | none => simp only [if_pos h0, hp]
  | some r =>
   have := hall r hx
   simp only [if_neg (show ¬ r.tick ≤ s.now by omega), if_pos h0, hp]
 ·
  rintro s p _ hp ht h0 ⟨n, hn⟩
  refine ⟨n + 1, ?_⟩
  rw [iterS, hn, Option.bind_some, stepS, hp]
  simp only [if_neg (show ¬ p.tick ≤ s.now by omega), if_neg (show ¬ 0 < Q.rest s.q by omega)]
theorem iter_none {s0 s : St σ} {n : Nat} (h : iterS Q per ps s0 n = some s) (he : stepS Q per ps s = none) : ∀ k, iterS Q per ps s0 (n + k + 1) = none
 | 0 => by rw [Nat.add_zero, iterS, h, Option.bind_some, he]
 | k + 1 => by rw [show n + (k + 1) + 1 = (n + k + 1) + 1 by omega, iterS, iter_none h he k]; rfl
theorem reaches_same {s t : St σ} (hs : Reaches Q per ps q0 s) (ht : Reaches Q per ps q0 t) (s1 : ¬ s.next < ps.length) (s2 : Q.rest s.q = 0) (t1 : ¬ t.next < ps.length) (t2 : Q.rest t.q = 0) : s = t := by
 have end_ : ∀ u : St σ, ¬ u.next < ps.length → Q.rest u.q = 0 → stepS Q per ps u = none := fun u h1 h2 => by
  rw [stepS, List.getElem?_eq_none (by omega)]
  simp only [if_neg (show ¬ 0 < Q.rest u.q by omega)]
 obtain ⟨n, hn⟩ := reaches_iter hs
 obtain ⟨m, hm⟩ := reaches_iter ht
 rcases Nat.lt_trichotomy n m with h | h | h
 ·
  have := iter_none hn (end_ s s1 s2) (m - n - 1)
  rw [show n + (m - n - 1) + 1 = m by omega, hm] at this
  cases this
 ·
  subst h
  exact Option.some.inj (hn.symm.trans hm)
 ·
  have := iter_none hm (end_ t t1 t2) (n - m - 1)
  rw [show m + (n - m - 1) + 1 = n by omega, hn] at this
  cases this
end
def RoundSent (per : Int) (ps : List Pk) (ns : List Int) (l : List Sn) : Prop := ∃ s, Reaches (turnsQ ps ns) per ps turns0 s ∧ ¬ s.next < ps.length ∧ (turnsQ ps ns).rest s.q = 0 ∧ s.out = l
theorem RoundSent.same {per : Int} {ps : List Pk} {ns : List Int} {l m : List Sn} (h : RoundSent per ps ns l) (k : RoundSent per ps ns m) : l = m := by
 obtain ⟨s, h1, h2, h3, rfl⟩ := h
 obtain ⟨t, k1, k2, k3, rfl⟩ := k
 rw [reaches_same h1 k1 h2 h3 k2 k3]
section
variable {per : Int} {ps : List Pk} {ns : List Int} {l : List Sn}
theorem RoundSent.length (ho : OkPks ps) (hq : ∀ f, 1 ≤ quOf ns f) (h : RoundSent per ps ns l) : l.length = ps.length := by
 obtain ⟨s, h1, h2, h3, rfl⟩ := h
 have := h1.count (turns_law ho hq)
 have := h1.next_le
 omega
end
end Go.Proofs.YtibhkijaafdkoaaGreatDoor

namespace Go.Proofs.YtibhkijaafdkoaaGreatDoor
def waitL (ps : List Pk) (out : List Sn) (f : Nat) (now : Int) (n : Nat) : List Nat := (List.range n).filter fun i => flowOf ps i == f && !isDone out i && decide (tickOf ps i ≤ now)
def cameL (ps : List Pk) (out : List Sn) (f n : Nat) : List Nat := (List.range n).filter fun i => flowOf ps i == f && !isDone out i
theorem cameL_succ (ps : List Pk) (out : List Sn) (f n : Nat) : cameL ps out f (n + 1) = cameL ps out f n ++ if flowOf ps n = f ∧ isDone out n = false then [n] else [] := by
 unfold cameL
 rw [List.range_succ, List.filter_append]
 congr 1
 by_cases h : flowOf ps n = f ∧ isDone out n = false
 · rw [if_pos h]; simp [h.1, h.2]
 ·
  rw [if_neg h]
  simp only [List.filter_cons, List.filter_nil]
  rw [if_neg]
  intro h'
  rw [Bool.and_eq_true, beq_iff_eq, Bool.not_eq_true'] at h'
  exact h h'
theorem waitL_came {ps : List Pk} {out : List Sn} {f : Nat} {now : Int} {next : Nat} (h1 : ∀ i, i < next → tickOf ps i ≤ now) (h2 : ∀ i, next ≤ i → i < ps.length → now < tickOf ps i) (hn : next ≤ ps.length) : waitL ps out f now ps.length = cameL ps out f next := by
 have key : ∀ k, next + k ≤ ps.length → waitL ps out f now (next + k) = cameL ps out f next := by
  intro k
  induction k with
  | zero =>
   intro _
   unfold waitL cameL
   refine List.filter_congr fun i hi => ?_
   have := h1 i (List.mem_range.1 hi)
   simp [this]
  | succ k ih =>
   intro hk
   have e := ih (by omega)
   have h3 := h2 (next + k) (by omega) (by omega)
   unfold waitL at e ⊢
   rw [show next + (k + 1) = (next + k) + 1 by omega, List.range_succ, List.filter_append, e]
   simp [show ¬ tickOf ps (next + k) ≤ now by omega]
 have := key (ps.length - next) (by omega)
 rwa [show next + (ps.length - next) = ps.length by omega] at this
section
variable {ps : List Pk} {ns : List Int} {per : Int}
theorem turns_lists (ho : OkPks ps) (hq : ∀ f, 1 ≤ quOf ns f) (hper : 1 ≤ per) {s : St TQ} (hr : Reaches (turnsQ ps ns) per ps turns0 s) : (∀ i, i < s.next → tickOf ps i ≤ s.now) ∧ ∀ f, s.q.d.qs f = cameL ps s.out f s.next := by
 refine hr.by_steps (C := fun s => (∀ i, i < s.next → tickOf ps i ≤ s.now) ∧ ∀ f, s.q.d.qs f = cameL ps s.out f s.next) ⟨fun i h => absurd h (Nat.not_lt_zero _), fun f => rfl⟩ ?_ ?_ ?_
 ·
  rintro s p hs hp ht ⟨i1, i2⟩
  refine ⟨fun i hi => ?_, fun f => ?_⟩
  ·
   rcases Nat.lt_or_ge i s.next with h | h
   · exact i1 i h
   ·
    obtain rfl : i = s.next := by simp only at hi; omega
    rw [tickOf_get hp]; exact ht
  ·
   obtain ⟨H, r⟩ := turns_run (M := 1500) ho hq (by omega) (fun k => (sizeAt_in ho k).2) hs
   have hnew : isDone s.out s.next = false := by
    cases hd : isDone s.out s.next with
    | false => rfl
    | true => have := r.gone _ hd; omega
   show put1 s.q.d.qs (flowOf ps s.next) (s.q.d.qs (flowOf ps s.next) ++ [s.next]) f = cameL ps s.out f (s.next + 1)
   rw [cameL_succ]
   by_cases e : f = flowOf ps s.next
   ·
    subst e
    rw [put1_same, i2, if_pos ⟨rfl, hnew⟩]
   · rw [put1_other _ _ e, i2, if_neg (fun h => e h.1.symm), List.append_nil]
 ·
  rintro s p hs hall h0 hp ⟨i1, i2⟩
  obtain ⟨H, r⟩ := turns_run (M := 1500) ho hq (by omega) (fun k => (sizeAt_in ho k).2) hs
  obtain ⟨k, e, hx, e1, e2, f, t, c, sa⟩ := r.good.picks hq h0
  rw [e1] at hp ⊢
  obtain ⟨-, -, z1, -, -, -⟩ := okPk_true (ho.each _ p hp).1
  have a1 : 0 ≤ per * p.size := Int.mul_nonneg (by omega) (by omega)
  have hqs : e.qs = put1 s.q.d.qs f t := by rw [sa.left, sent_qs, sa.same]
  have hhead : s.q.d.qs f = k :: t := by rw [← sa.same]; exact sa.head
  have hkf : flowOf ps k = f := (r.state.size f k (by rw [hhead]; exact List.mem_cons_self ..)).1
  have hnd := r.once f
  rw [hhead] at hnd
  obtain ⟨n1, -⟩ := List.nodup_cons.1 hnd
  refine ⟨fun i hi => by have := i1 i hi; simp only; omega, fun g => ?_⟩
  rw [e2]
  show e.qs g = cameL ps (s.out ++ [(⟨(k : Nat), s.now, s.now + per * p.size⟩ : Sn)]) g s.next
  have hfil : cameL ps (s.out ++ [(⟨(k : Nat), s.now, s.now + per * p.size⟩ : Sn)]) g s.next = (s.q.d.qs g).filter fun i => !(i == k) := by
   rw [i2, cameL, cameL, List.filter_filter]
   refine List.filter_congr fun i _ => ?_
   rw [isDone_snoc]
   have e3 : (k == i) = (i == k) := by
    rw [Bool.eq_iff_iff, beq_iff_eq, beq_iff_eq]
    omega
   rw [e3]
   cases (flowOf ps i == g) <;> cases isDone s.out i <;> cases (i == k) <;> rfl
  rw [hfil, hqs]
  by_cases eg : g = f
  ·
   subst eg
   rw [put1_same, hhead, List.filter_cons, if_neg (by simp)]
   refine (List.filter_eq_self.2 fun i hi => ?_).symm
   have : i ≠ k := fun e => n1 (by rw [← e]; exact hi)
   simp [this]
  ·
   rw [put1_other _ _ eg]
   refine (List.filter_eq_self.2 fun i hi => ?_).symm
   have : i ≠ k := fun e => eg (by rw [← (r.state.size g i hi).1, e]; exact hkf)
   simp [this]
 ·
  rintro s p hs hp ht h0 ⟨i1, i2⟩
  exact ⟨fun i hi => by have := i1 i hi; simp only; omega, i2⟩
end
theorem sum_but (g : Nat → Nat) (n : Nat) : ∀ l : List Nat, l.Nodup → (l.map g).sum ≤ ((l.filter fun x => x != n).map g).sum + g n
 | [], _ => by simp
 | x :: r, h => by
  obtain ⟨h1, h2⟩ := List.nodup_cons.1 h
  have ih := sum_but g n r h2
  by_cases e : x = n
  ·
   subst e
   have : r.filter (fun y => y != x) = r := List.filter_eq_self.2 fun y hy => by
    have : y ≠ x := fun e => h1 (by rw [← e]; exact hy)
    simp [this]
   simp [this]
   omega
  ·
   simp only [List.filter_cons, bne_iff_ne, ne_eq, e, not_false_eq_true, if_true, List.map_cons, List.sum_cons]
   omega
theorem sum_le (g : Nat → Nat) (c : Nat) : ∀ (n : Nat) (l : List Nat), l.Nodup → (∀ x, x ∈ l → x < n) → (∀ x, g x ≤ c) → (l.map g).sum ≤ n * c
 | 0, l, _, hl, _ => by
  cases l with
  | nil => simp
  | cons x r => exact absurd (hl x (List.mem_cons_self ..)) (Nat.not_lt_zero _)
 | n + 1, l, hn, hl, hc => by
  have h1 := sum_but g n l hn
  have h2 := sum_le g c n (l.filter fun x => x != n) (hn.filter _) (fun x hx => by
   rw [List.mem_filter, bne_iff_ne] at hx
   have := hl x hx.1
   omega) hc
  have := hc n
  rw [Nat.add_mul, Nat.one_mul]
  omega
structure RoAt (per : Int) (ps : List Pk) (ns : List Int) (s : St TQ) (d : Drr) (fu z : Nat) : Prop where
 reach : Reaches (turnsQ ps ns) per ps turns0 s
 ok : DrrOk (flowOf ps) (sizeAt ps) (quOf ns) 1500 d
 qs : d.qs = s.q.d.qs
 path : (d = s.q.d ∧ fu = 29999) ∨ ((∀ r, ps[s.next]? = some r → s.now < r.tick) ∧ fu ≤ 29999 ∧ ∃ x, Drr.go (sizeAt ps) (quOf ns) fu d = some x ∧ goOf ps ns s.q.d = some x)
 idle : z ≤ 1 ∧ (z = 0 → d.line ≠ [] ∨ ∃ p, ps[s.next]? = some p ∧ p.tick ≤ s.now)
def roLeft (ps : List Pk) (s : St TQ) (fu z : Nat) : Nat := 30000 * (2 * (ps.length - s.out.length) + z) + fu
section
variable {ps : List Pk} {ns : List Int} {per : Int} {s : St TQ} {d : Drr} {fu z : Nat}
theorem RoAt.start (per : Int) (ps : List Pk) (ns : List Int) : RoAt per ps ns ⟨[], 0, 0, turns0⟩ turns0.d 29999 1 :=
 ⟨.start, drrOk_none (by omega), rfl, .inl ⟨rfl, rfl⟩, Nat.le_refl _, fun h => by omega⟩
theorem go_line {sz qu : Nat → Int} : ∀ {n : Nat} {d : Drr} {x : Nat × Drr}, Drr.go sz qu n d = some x → d.line ≠ []
 | 0, d, x, h => by simp [Drr.go] at h
 | n + 1, d, x, h => by
  rw [Drr.go] at h
  unfold Drr.line
  cases hs : d.srv with
  | some f => simp
  | none =>
   rw [hs] at h
   simp only at h ⊢
   intro e
   rw [e] at h
   cases h
theorem RoAt.more (h : RoAt per ps ns s d fu z) {k : Nat} {p : Pk} (ho : OkPks ps) (hb : ∀ j, j < k → tickOf ps j ≤ s.now → j < s.next) (hp : ps[k]? = some p) (ht : p.tick ≤ s.now) (hk : s.next ≤ k) :
  k = s.next ∧ d = s.q.d ∧ fu = 29999 := by
 have e : k = s.next := by
  rcases Nat.lt_or_ge s.next k with h1 | h1
  ·
   have h2 := ticks_le ho (Nat.le_of_lt h1) (lt_of_get hp)
   rw [tickOf_get hp] at h2
   have := hb s.next h1 (by omega)
   omega
  · omega
 refine ⟨e, ?_⟩
 rcases h.path with h1 | ⟨h1, -⟩
 · exact h1
 ·
  subst e
  have := h1 p hp
  omega
theorem RoAt.come (h : RoAt per ps ns s d fu z) (ho : OkPks ps) {p : Pk} (hp : ps[s.next]? = some p) (ht : p.tick ≤ s.now) (hd : d = s.q.d ∧ fu = 29999) : RoAt per ps ns ⟨s.out, s.now, s.next + 1, (turnsQ ps ns).come s.q s.next⟩ (d.come (flowOf ps) s.next) fu z := by
 obtain ⟨rfl, rfl⟩ := hd
 refine ⟨.come s p h.reach hp ht, h.ok.come _ (sizeAt_in ho _).1 (sizeAt_in ho _).2, rfl, .inl ⟨rfl, rfl⟩, h.idle.1, fun _ => .inl ?_⟩
 rw [Drr.line_come]
 split
 · next hm => intro e; rw [e] at hm; cases hm
 · simp
def NoMore (ps : List Pk) (s : St TQ) : Prop := ∀ i, s.next ≤ i → i < ps.length → s.now < tickOf ps i
theorem RoAt.fuel (h : RoAt per ps ns s d fu z) (ho : OkPks ps) (hq : ∀ f, 1 ≤ quOf ns f) (hl : d.line ≠ []) : ∃ fu' x, fu' ≤ fu ∧ Drr.go (sizeAt ps) (quOf ns) fu' d = some x ∧ goOf ps ns s.q.d = some x := by
 rcases h.path with ⟨rfl, rfl⟩ | ⟨-, -, x, h1, h2⟩
 ·
  obtain ⟨x, hx⟩ := go_ends hq (s.q.d.need (sizeAt ps)) s.q.d h.ok hl (Nat.le_refl _)
  refine ⟨fuelOf ps s.q.d, x, ?_, hx, hx⟩
  have hok := turns_ok ho hq h.reach
  have h8 : ∀ f, f ∈ s.q.d.line → f < 8 := fun f hf => by
   rcases Nat.lt_or_ge f 8 with h' | h'
   · exact h'
   · exact absurd (hok.few f h') ((hok.state.active f).1 hf)
  have hb : ∀ f, s.q.d.lack (sizeAt ps) f ≤ 1500 := fun f => by
   unfold Drr.lack
   cases hk : s.q.d.qs f with
   | nil => simp
   | cons k r =>
    simp only
    have := (sizeAt_in ho k).2
    have := h.ok.low f
    omega
  have := sum_le (s.q.d.lack (sizeAt ps)) 1500 8 s.q.d.line h.ok.nodup h8 hb
  unfold fuelOf
  have e : s.q.d.need (sizeAt ps) = (s.q.d.line.map (s.q.d.lack (sizeAt ps))).sum := rfl
  omega
 · exact ⟨fu, x, Nat.le_refl _, h1, h2⟩
theorem RoAt.rests (h : RoAt per ps ns s d fu z) (ho : OkPks ps) (hq : ∀ f, 1 ≤ quOf ns f) (hl : d.line = []) : d = s.q.d ∧ fu = 29999 ∧ (turnsQ ps ns).rest s.q = 0 := by
 rcases h.path with ⟨rfl, rfl⟩ | ⟨-, -, x, h1, h2⟩
 · exact ⟨rfl, rfl, (turns_ok ho hq h.reach).line.2 hl⟩
 · exact absurd hl (go_line h1)
theorem RoAt.undone (h : RoAt per ps ns s d fu z) (ho : OkPks ps) (hq : ∀ f, 1 ≤ quOf ns f) (h0 : (turnsQ ps ns).rest s.q = 0) : (∀ i, i < s.next → isDone s.out i = true) ∧ isDone s.out s.next = false := by
 obtain ⟨H, r⟩ := turns_run (M := 1500) ho hq (by omega) (fun k => (sizeAt_in ho k).2) h.reach
 refine ⟨fun i hi => ?_, ?_⟩
 ·
  cases hd : isDone s.out i with
  | true => rfl
  | false =>
   have hm := r.wait i hi hd
   have hz := r.good.line.1 h0
   have := (r.state.active (flowOf ps i)).2 (by intro e; rw [e] at hm; cases hm)
   rw [hz] at this
   cases this
 ·
  cases hd : isDone s.out s.next with
  | false => rfl
  | true => have := r.gone _ hd; omega
theorem RoAt.idles (h : RoAt per ps ns s d fu z) (ho : OkPks ps) (hq : ∀ f, 1 ≤ quOf ns f) (hl : d.line = []) (hno : NoMore ps s) (hlen : s.out.length < ps.length) :
  s.next < ps.length ∧ z = 1 ∧ ∀ p, ps[s.next]? = some p → RoAt per ps ns ⟨s.out, p.tick, s.next, s.q⟩ d fu 0 := by
 obtain ⟨rfl, rfl, h0⟩ := h.rests ho hq hl
 have hc := h.reach.count (turns_law ho hq)
 have hn : s.next < ps.length := by omega
 refine ⟨hn, ?_, fun p hp => ?_⟩
 ·
  rcases Nat.lt_or_ge z 1 with hz | hz
  ·
   rcases h.idle.2 (by omega) with h1 | ⟨p, h1, h2⟩
   · exact absurd hl h1
   ·
    have := hno s.next (Nat.le_refl _) hn
    rw [tickOf_get h1] at this
    omega
  · have := h.idle.1; omega
 ·
  have ht := hno s.next (Nat.le_refl _) hn
  rw [tickOf_get hp] at ht
  exact ⟨.idle s p h.reach hp ht h0, h.ok, rfl, .inl ⟨rfl, rfl⟩, by omega, fun _ => .inr ⟨p, hp, Int.le_refl _⟩⟩
structure ServeAt (per : Int) (ps : List Pk) (ns : List Int) (s : St TQ) (d : Drr) (f : Nat) (fu z : Nat) : Prop where
 reach : Reaches (turnsQ ps ns) per ps turns0 s
 more : NoMore ps s
 ok : DrrOk (flowOf ps) (sizeAt ps) (quOf ns) 1500 d
 qs : d.qs = s.q.d.qs
 srv : d.srv = some f
 lt : f < 8
 fuel : fu ≤ 29999
 ends : ∃ x, Drr.go (sizeAt ps) (quOf ns) fu d = some x ∧ goOf ps ns s.q.d = some x
 idle : z ≤ 1
theorem line_lt (ho : OkPks ps) (hq : ∀ f, 1 ≤ quOf ns f) (hr : Reaches (turnsQ ps ns) per ps turns0 s) (hok : DrrOk (flowOf ps) (sizeAt ps) (quOf ns) 1500 d) (hqs : d.qs = s.q.d.qs) {f : Nat} (hf : f ∈ d.line) : f < 8 := by
 rcases Nat.lt_or_ge f 8 with h' | h'
 · exact h'
 ·
  have := (turns_ok ho hq hr).few f h'
  rw [← hqs] at this
  exact absurd this ((hok.active f).1 hf)
theorem RoAt.turns (h : RoAt per ps ns s d fu z) (ho : OkPks ps) (hq : ∀ f, 1 ≤ quOf ns f) (hno : NoMore ps s) {f : Nat} {r : List Nat} (hs : d.srv = none) (hr : d.row = f :: r) : ∃ fu', fu' ≤ fu ∧ ServeAt per ps ns s (d.turn (quOf ns) f r) f fu' z := by
 have hl : d.line = f :: r := by unfold Drr.line; rw [hs]; exact hr
 obtain ⟨fu1, x, h1, h2, h3⟩ := h.fuel ho hq (by rw [hl]; simp)
 cases fu1 with
 | zero => simp [Drr.go] at h2
 | succ n =>
  rw [Drr.go, hs] at h2
  simp only [hr] at h2
  have hfu : fu ≤ 29999 := by
   rcases h.path with ⟨-, rfl⟩ | ⟨-, h', -⟩
   · exact Nat.le_refl _
   · exact h'
  exact ⟨n, by omega, h.reach, hno, h.ok.turn hq hs hr, h.qs, rfl, line_lt ho hq h.reach h.ok h.qs (by rw [hl]; exact List.mem_cons_self ..), by omega, ⟨x, h2, h3⟩, h.idle.1⟩
theorem RoAt.stays (h : RoAt per ps ns s d fu z) (ho : OkPks ps) (hq : ∀ f, 1 ≤ quOf ns f) (hno : NoMore ps s) {f : Nat} (hs : d.srv = some f) : ∃ fu', fu' ≤ fu ∧ ServeAt per ps ns s d f fu' z := by
 have hl : d.line = f :: d.row := by unfold Drr.line; rw [hs]
 obtain ⟨fu1, x, h1, h2, h3⟩ := h.fuel ho hq (by rw [hl]; simp)
 have hfu : fu ≤ 29999 := by
  rcases h.path with ⟨-, rfl⟩ | ⟨-, h', -⟩
  · exact Nat.le_refl _
  · exact h'
 exact ⟨fu1, h1, h.reach, hno, h.ok, h.qs, hs, line_lt ho hq h.reach h.ok h.qs (by rw [hl]; exact List.mem_cons_self ..), by omega, ⟨x, h2, h3⟩, h.idle.1⟩
theorem ServeAt.head {f : Nat} (h : ServeAt per ps ns s d f fu z) (ho : OkPks ps) (hq : ∀ f, 1 ≤ quOf ns f) (hper : 1 ≤ per) : ∃ k r, d.qs f = k :: r ∧ waitL ps s.out f s.now ps.length = k :: r ∧ k < ps.length ∧ k < s.next ∧ isDone s.out k = false ∧ flowOf ps k = f ∧ (k :: r).length ≤ 300 := by
 have hl : d.line = f :: d.row := by unfold Drr.line; rw [h.srv]
 have hne := (h.ok.active f).1 (by rw [hl]; exact List.mem_cons_self ..)
 obtain ⟨H, rr⟩ := turns_run (M := 1500) ho hq (by omega) (fun k => (sizeAt_in ho k).2) h.reach
 obtain ⟨t1, t2⟩ := turns_lists ho hq hper h.reach
 have hw := waitL_came (out := s.out) (f := f) t1 h.more h.reach.next_le
 have hfew := (turns_few ho hq h.reach f).1
 cases hk : d.qs f with
 | nil => exact absurd hk hne
 | cons k r =>
  have hk' : s.q.d.qs f = k :: r := by rw [← h.qs]; exact hk
  have hm := rr.only f k (by rw [hk']; exact List.mem_cons_self ..)
  have hf := (rr.state.size f k (by rw [hk']; exact List.mem_cons_self ..)).1
  rw [hk'] at hfew
  exact ⟨k, r, rfl, by rw [hw, ← t2, hk'], by have := h.reach.next_le; omega, hm.1, hm.2, hf, hfew⟩
theorem ServeAt.back {f : Nat} (h : ServeAt per ps ns s d f fu z) {k : Nat} {r : List Nat} (hk : d.qs f = k :: r) (hb : d.cr f < sizeAt ps k) : ∃ fu', fu' < fu ∧ RoAt per ps ns s (d.back f) fu' z := by
 obtain ⟨x, h1, h2⟩ := h.ends
 cases fu with
 | zero => simp [Drr.go] at h1
 | succ n =>
  rw [Drr.go, h.srv] at h1
  simp only [hk, if_neg (show ¬ sizeAt ps k ≤ d.cr f by omega)] at h1
  have hf := h.fuel
  exact ⟨n, Nat.lt_succ_self _, h.reach, h.ok.back h.srv hk hb, h.qs, .inr ⟨fun p hp => by have := h.more s.next (Nat.le_refl _) (lt_of_get hp); rwa [tickOf_get hp] at this, by omega, x, h1, h2⟩, h.idle, fun _ => .inl (go_line h1)⟩
theorem ServeAt.send {f : Nat} (h : ServeAt per ps ns s d f fu z) (ho : OkPks ps) (hq : ∀ f, 1 ≤ quOf ns f) {k : Nat} {r : List Nat} {p : Pk} (hk : d.qs f = k :: r) (hp : ps[k]? = some p) (hb : sizeAt ps k ≤ d.cr f) :
  RoAt per ps ns ⟨s.out ++ [⟨(k : Nat), s.now, s.now + per * p.size⟩], s.now + per * p.size, s.next, (turnsQ ps ns).left s.q⟩ (d.sent (sizeAt ps) f k r) 29999 1 := by
 obtain ⟨x, h1, h2⟩ := h.ends
 have hx : x = (k, d.sent (sizeAt ps) f k r) := by
  cases fu with
  | zero => simp [Drr.go] at h1
  | succ n =>
   rw [Drr.go, h.srv] at h1
   simp only [hk, if_pos hb] at h1
   exact (Option.some.inj h1).symm
 subst hx
 have hl : d.line = f :: d.row := by unfold Drr.line; rw [h.srv]
 have hn : 0 < s.q.n := by
  have hok := turns_ok ho hq h.reach
  rcases Nat.eq_zero_or_pos s.q.n with h0 | h0
  · exact absurd (hok.line.1 h0) (go_line h2)
  · exact h0
 have e1 : (turnsQ ps ns).pick s.q = k := by simp only [turnsQ, h2]
 have e2 : (turnsQ ps ns).left s.q = ⟨d.sent (sizeAt ps) f k r, s.q.n - 1⟩ := by simp only [turnsQ, h2]
 have hr := Reaches.send s p h.reach (fun r hr => by have := h.more s.next (Nat.le_refl _) (lt_of_get hr); rwa [tickOf_get hr] at this) hn (by rw [e1]; exact hp)
 rw [e1] at hr
 refine ⟨hr, h.ok.sent h.srv hk hb, ?_, .inl ⟨?_, rfl⟩, Nat.le_refl _, fun h => by omega⟩
 · rw [e2]
 · rw [e2]
theorem ServeAt.left {f : Nat} (h : ServeAt per ps ns s d f fu z) (ho : OkPks ps) (hq : ∀ f, 1 ≤ quOf ns f) (hper : 1 ≤ per) {k : Nat} {r : List Nat} {p : Pk} (hk : d.qs f = k :: r) (hp : ps[k]? = some p) (hb : sizeAt ps k ≤ d.cr f) :
  waitL ps (s.out ++ [⟨(k : Nat), s.now, s.now + per * p.size⟩]) f s.now ps.length = r := by
 have hs := h.send ho hq hk hp hb
 obtain ⟨t1, -⟩ := turns_lists ho hq hper h.reach
 obtain ⟨-, t2⟩ := turns_lists ho hq hper hs.reach
 have hw := waitL_came (out := s.out ++ [⟨(k : Nat), s.now, s.now + per * p.size⟩]) (f := f) t1 h.more h.reach.next_le
 have h1 := t2 f
 rw [← hs.qs, sent_qs, put1_same] at h1
 rw [hw, h1]
theorem RoAt.end_ (h : RoAt per ps ns s d fu z) (ho : OkPks ps) (hq : ∀ f, 1 ≤ quOf ns f) (hlen : ¬ s.out.length < ps.length) : RoundSent per ps ns s.out := by
 have := h.reach.count (turns_law ho hq)
 have := h.reach.next_le
 exact ⟨s, h.reach, by omega, by omega, rfl⟩
end
end Go.Proofs.YtibhkijaafdkoaaGreatDoor
