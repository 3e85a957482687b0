/- Own facts, put together: no statement of its own. -/
import Derived.Test.YtnomdlclkpnjpaaGreatDoorR08
import Derived.Test.YtnomdlclkpnjpaaGreatDoorR07
import Derived.Test.YtnomdlclkpnjpaaGreatDoorR05
namespace Go.Proofs.YtnomdlclkpnjpaaGreatDoor
def incOf (ps : List Pk) (ws : List Int) (k : Nat) : Int := sizeAt ps k * (12 / quOf ws (flowOf ps k))
def fairQ (ps : List Pk) (ws : List Int) : Que FQ where
 come := fun s k => s.come (flowOf ps) (incOf ps ws) k
 pick := fun s => s.q.getD (pickAt s.tag s.q) 0
 left := fun s => s.left (s.q.getD (pickAt s.tag s.q) 0)
 rest := fun s => s.q.length
 idle := FQ.rests
def fair0 : FQ := ⟨[], fun _ => 0, 0, fun _ => 0⟩
def WtsOk (ws : List Int) : Prop := ∀ f, 1 ≤ quOf ws f ∧ 12 / quOf ws f * quOf ws f = 12
section
variable {ps : List Pk} {ws : List Int} {per : Int}
theorem WtsOk.part (h : WtsOk ws) (f : Nat) : 1 ≤ 12 / quOf ws f ∧ 12 / quOf ws f ≤ 12 := by
 obtain ⟨h1, h2⟩ := h f
 have h3 : 0 ≤ 12 / quOf ws f := Int.ediv_nonneg (by omega) (by omega)
 constructor
 ·
  rcases Int.lt_or_le (12 / quOf ws f) 1 with h4 | h4
  ·
   have : 12 / quOf ws f = 0 := by omega
   rw [this] at h2
   omega
  · exact h4
 ·
  have := Int.mul_le_mul_of_nonneg_left h1 h3
  omega
theorem incOf_in (hw : WtsOk ws) (ho : OkPks ps) (k : Nat) : 1 ≤ incOf ps ws k ∧ incOf ps ws k ≤ 18000 := by
 obtain ⟨h1, h2⟩ := hw.part (flowOf ps k)
 obtain ⟨h3, h4⟩ := sizeAt_in ho k
 unfold incOf
 have a1 : 1 * 1 ≤ sizeAt ps k * (12 / quOf ws (flowOf ps k)) := Int.mul_le_mul h3 h1 (by omega) (by omega)
 have a2 : sizeAt ps k * (12 / quOf ws (flowOf ps k)) ≤ 1500 * 12 := Int.mul_le_mul h4 h2 (by omega) (by omega)
 omega
theorem least_first {tag : Nat → Int} {q : List Nat} (h : 0 < q.length) : q.getD (pickAt tag q) 0 ∈ q ∧ ∀ i, i ∈ q → tag (q.getD (pickAt tag q) 0) ≤ tag i := by
 have hl := pickAt_lt tag h
 refine ⟨by rw [getD_lt hl]; exact List.getElem_mem _, fun i hi => ?_⟩
 obtain ⟨j, hj, e⟩ := List.getElem_of_mem hi
 have := firstLeast_min tag q q.length j hj
 rw [getD_lt (d := 0) hj, e] at this
 have e2 : pickAt tag q = firstLeast tag q q.length := rfl
 rw [e2]
 omega
theorem filter_erase {q : List Nat} (h : q.Nodup) {k : Nat} (hk : k ∈ q) : (q.filter fun i => i != k).length + 1 = q.length := by
 have := h.erase_eq_filter k
 rw [← this, List.length_erase_of_mem hk]
 have : 0 < q.length := List.length_pos_of_mem hk
 omega
structure FairRun (ps : List Pk) (ws : List Int) (s : St FQ) (H : List (FQ × FQ)) : Prop where
 state : FQOk (flowOf ps) (incOf ps ws) s.q
 rises : s.q.q.Pairwise (· < ·)
 len : H.length = s.out.length
 each : ∀ (i : Nat) x h, s.out[i]? = some x → H[i]? = some h → ∃ k : Nat, x.num = k ∧ FQOk (flowOf ps) (incOf ps ws) h.1 ∧ h.1.Least k ∧ h.2 = h.1.left k ∧ ∀ w : Nat, w < ps.length → tickOf ps w ≤ x.beg → isDone (s.out.take (i + 1)) w = false → w ∈ h.2.q
 next : ∀ (i : Nat) h h', H[i]? = some h → H[i + 1]? = some h' → ∀ f, h.2.of (flowOf ps) f ≠ [] → h'.1.begins (flowOf ps) (incOf ps ws) f = h.2.begins (flowOf ps) (incOf ps ws) f
 last : ∀ h, H[H.length - 1]? = some h → 0 < H.length → ∀ f, h.2.of (flowOf ps) f ≠ [] → s.q.of (flowOf ps) f ≠ [] ∧ s.q.begins (flowOf ps) (incOf ps ws) f = h.2.begins (flowOf ps) (incOf ps ws) f
 clock : ∀ x, s.out[s.out.length - 1]? = some x → x.fin ≤ s.now ∧ (x.fin = s.now → s.q.v = s.q.tag x.num.toNat)
 busy : ∀ (i : Nat) x y, s.out[i]? = some x → s.out[i + 1]? = some y → y.beg = x.fin → s.q.tag x.num.toNat ≤ s.q.tag y.num.toNat
 wait : ∀ w, w < s.next → isDone s.out w = false → w ∈ s.q.q
 only : ∀ w, w ∈ s.q.q → w < s.next ∧ isDone s.out w = false
 le : s.next ≤ ps.length
 gone : ∀ w : Nat, isDone s.out w = true → w < s.next
 nums : ∀ (i : Nat) x, s.out[i]? = some x → ∃ k : Nat, x.num = k ∧ k < s.next
 within : ∀ (i : Nat) h, H[i]? = some h → ∀ k, k ∈ h.1.q → k < ps.length
theorem snoc_get {α : Type} {l : List α} {y x : α} {i : Nat} (h : (l ++ [y])[i]? = some x) : (i < l.length ∧ l[i]? = some x) ∨ (i = l.length ∧ x = y) := by
 have hl := lt_of_get h
 rw [List.length_append, List.length_cons, List.length_nil] at hl
 rcases Nat.lt_or_ge i l.length with h' | h'
 · rw [List.getElem?_append_left h'] at h; exact .inl ⟨h', h⟩
 ·
  obtain rfl : i = l.length := by omega
  rw [List.getElem?_append_right (Nat.le_refl _), Nat.sub_self, List.getElem?_cons_zero] at h
  exact .inr ⟨rfl, (Option.some.inj h).symm⟩
theorem fair_run (hw : WtsOk ws) (ho : OkPks ps) (hper : 1 ≤ per) {s : St FQ} (h : Reaches (fairQ ps ws) per ps fair0 s) : ∃ H, FairRun ps ws s H := by
 refine h.by_steps (C := fun s => ∃ H, FairRun ps ws s H) ?_ ?_ ?_ ?_
 · exact ⟨[], FQOk.start _ _ _, List.Pairwise.nil, rfl, (fun i x h hx => by simp at hx), (fun i h h' hx => by simp at hx), (fun h _ h0 => by simp at h0), (fun x hx => by simp at hx), (fun i x y hx => by simp at hx), (fun w hw => absurd hw (Nat.not_lt_zero _)), (fun w hw => by cases hw), Nat.zero_le _, (fun w hw => by simp [isDone] at hw), (fun i x hx => by simp at hx), fun i h hh => by simp at hh⟩
 ·
  rintro s p hs hp ht ⟨H, r⟩
  have hlt := lt_of_get hp
  have hnew : isDone s.out s.next = false := by
   cases hd : isDone s.out s.next with
   | false => rfl
   | true => have := r.gone _ hd; omega
  have hk : s.next ∉ s.q.q := fun hm => by have := (r.only _ hm).1; omega
  have hi := (incOf_in hw ho s.next).1
  have htag : ∀ (i : Nat) x, s.out[i]? = some x → ((fairQ ps ws).come s.q s.next).tag x.num.toNat = s.q.tag x.num.toNat := fun i x hx => by
   obtain ⟨k, e, hk'⟩ := r.nums i x hx
   refine put1_other _ _ ?_
   rw [e, Int.toNat_natCast]
   omega
  refine ⟨H, r.state.come hk (by omega), ?_, r.len, r.each, r.next, fun h hh h0 f hf => ?_, fun x hx => ?_, fun i x y hx hy hb => ?_, fun w hw hd => ?_, fun w hw => ?_, hlt, fun w hw => Nat.lt_succ_of_lt (r.gone w hw), fun i x hx => ?_, r.within⟩
  ·
   refine List.pairwise_append.2 ⟨r.rises, List.pairwise_singleton _ _, fun a ha b hb => ?_⟩
   rw [List.mem_singleton] at hb
   have := (r.only a ha).1
   omega
  ·
   obtain ⟨g1, g2⟩ := r.last h hh h0 f hf
   obtain ⟨c1, c2⟩ := begins_come (inc := incOf ps ws) hk g1
   exact ⟨c2, c1.trans g2⟩
  ·
   obtain ⟨c1, c2⟩ := r.clock x hx
   refine ⟨c1, fun e => ?_⟩
   show s.q.v = _
   rw [htag _ x hx]
   exact c2 e
  ·
   show ((fairQ ps ws).come s.q s.next).tag _ ≤ ((fairQ ps ws).come s.q s.next).tag _
   rw [htag _ x hx, htag _ y hy]
   exact r.busy i x y hx hy hb
  ·
   show w ∈ s.q.q ++ [s.next]
   rcases Nat.lt_or_ge w s.next with hw' | hw'
   · exact List.mem_append.2 (.inl (r.wait w hw' hd))
   ·
    obtain rfl : w = s.next := by simp only at hw; omega
    exact List.mem_append.2 (.inr (List.mem_singleton.2 rfl))
  ·
   have hw2 : w ∈ s.q.q ++ [s.next] := hw
   rcases List.mem_append.1 hw2 with hw3 | hw3
   ·
    obtain ⟨g1, g2⟩ := r.only w hw3
    exact ⟨Nat.lt_succ_of_lt g1, g2⟩
   ·
    rw [List.mem_singleton] at hw3
    subst hw3
    exact ⟨Nat.lt_succ_self _, hnew⟩
  ·
   obtain ⟨k, e, hk'⟩ := r.nums i x hx
   exact ⟨k, e, Nat.lt_succ_of_lt hk'⟩
 ·
  rintro s p hs hall h0 hp ⟨H, r⟩
  obtain ⟨l1, l2⟩ := least_first (tag := s.q.tag) (q := s.q.q) h0
  obtain ⟨k, hk⟩ : ∃ k, k = (fairQ ps ws).pick s.q := ⟨_, rfl⟩
  have hkd : s.q.q.getD (pickAt s.q.tag s.q.q) 0 = k := hk.symm
  have hleft : (fairQ ps ws).left s.q = s.q.left k := by rw [hk]; rfl
  rw [hkd] at l1 l2
  rw [← hk] at hp ⊢
  rw [hleft]
  have hL : s.q.Least k := ⟨l1, l2⟩
  have hinc : ∀ i, i ∈ s.q.q → 1 ≤ incOf ps ws i := fun i _ => (incOf_in hw ho i).1
  obtain ⟨-, -, z1, -, -, -⟩ := okPk_true (ho.each _ p hp).1
  have hpos : 1 * 1 ≤ per * p.size := Int.mul_le_mul hper z1 (by omega) (by omega)
  obtain ⟨k1, k2⟩ := r.only k l1
  have hstay : ∀ w, w ∈ s.q.q → w ≠ k → w ∈ (s.q.left k).q := fun w hw hne => List.mem_filter.2 ⟨hw, by simp [hne]⟩
  have hnd : ∀ w : Nat, isDone (s.out ++ [⟨(k : Nat), s.now, s.now + per * p.size⟩]) w = false → isDone s.out w = false ∧ w ≠ k := by
   intro w hw
   rw [isDone_snoc, Bool.or_eq_false_iff] at hw
   exact ⟨hw.1, fun e => beq_eq_false_iff_ne.1 hw.2 e.symm⟩
  refine ⟨H ++ [(s.q, s.q.left k)], r.state.left hinc hL, r.rises.filter _, by simp [r.len], fun i x h hx hh => ?_, fun i h h' hh hh' f hf => ?_, fun h hh _ f hf => ?_, fun x hx => ?_, fun i x y hx hy hb => ?_, fun w hw hd => ?_, fun w hw => ?_, r.le, fun w hw => ?_, fun i x hx => ?_, fun i h hh => ?_⟩
  ·
   rcases snoc_get hx with ⟨h', hx⟩ | ⟨rfl, rfl⟩
   ·
    rw [List.getElem?_append_left (by rw [r.len]; exact h')] at hh
    simp only [List.take_append_of_le_length (show i + 1 ≤ s.out.length by omega)]
    exact r.each i x h hx hh
   ·
    rw [List.getElem?_append_right (by rw [r.len]; exact Nat.le_refl _), r.len, Nat.sub_self, List.getElem?_cons_zero] at hh
    have hh := Option.some.inj hh
    subst hh
    refine ⟨k, rfl, r.state, hL, rfl, fun w hw ht hd => ?_⟩
    rw [List.take_of_length_le (by simp)] at hd
    obtain ⟨d1, d2⟩ := hnd w hd
    refine hstay w (r.wait w ?_ d1) d2
    rcases Nat.lt_or_ge w s.next with h3 | h3
    · exact h3
    ·
     have hnl : s.next < ps.length := by omega
     have e : ps[s.next]? = some ps[s.next] := List.getElem?_eq_getElem hnl
     have a1 := hall _ e
     have a2 := ticks_le ho h3 hw
     rw [tickOf_get e] at a2
     simp only at ht
     omega
  ·
   have hil := lt_of_get hh'
   simp only [List.length_append, List.length_cons, List.length_nil] at hil
   rcases Nat.lt_or_ge (i + 1) H.length with h3 | h3
   ·
    rw [List.getElem?_append_left (by omega)] at hh
    rw [List.getElem?_append_left h3] at hh'
    exact r.next i h h' hh hh' f hf
   ·
    have e1 : i + 1 = H.length := by omega
    rw [List.getElem?_append_left (by omega)] at hh
    rw [List.getElem?_append_right (by omega), e1, Nat.sub_self, List.getElem?_cons_zero] at hh'
    have hh' := Option.some.inj hh'
    subst hh'
    exact (r.last h (by rw [show H.length - 1 = i by omega]; exact hh) (by omega) f hf).2
  ·
   simp only [List.length_append, List.length_cons, List.length_nil, Nat.add_sub_cancel] at hh
   rw [List.getElem?_append_right (Nat.le_refl _), Nat.sub_self, List.getElem?_cons_zero] at hh
   have hh := Option.some.inj hh
   subst hh
   exact ⟨hf, rfl⟩
  ·
   simp only [List.length_append, List.length_cons, List.length_nil, Nat.add_sub_cancel] at hx
   rw [List.getElem?_append_right (Nat.le_refl _), Nat.sub_self, List.getElem?_cons_zero] at hx
   have hx := Option.some.inj hx
   subst hx
   refine ⟨Int.le_refl _, fun _ => ?_⟩
   show s.q.tag k = s.q.tag ((k : Nat) : Int).toNat
   rw [Int.toNat_natCast]
  ·
   show s.q.tag _ ≤ s.q.tag _
   rcases snoc_get hy with ⟨h', hy⟩ | ⟨e, rfl⟩
   ·
    rcases snoc_get hx with ⟨-, hx⟩ | ⟨e, -⟩
    · exact r.busy i x y hx hy hb
    · omega
   ·
    rcases snoc_get hx with ⟨-, hx⟩ | ⟨e', -⟩
    ·
     obtain ⟨-, c2⟩ := r.clock x (by rw [show s.out.length - 1 = i by omega]; exact hx)
     have hv := c2 hb.symm
     have := r.state.low k l1
     simp only [Int.toNat_natCast]
     omega
    · omega
  ·
   obtain ⟨d1, d2⟩ := hnd w hd
   exact hstay w (r.wait w hw d1) d2
  ·
   obtain ⟨w1, w2⟩ := List.mem_filter.1 (show w ∈ s.q.q.filter fun i => i != k from hw)
   obtain ⟨g1, g2⟩ := r.only w w1
   refine ⟨g1, ?_⟩
   rw [isDone_snoc, g2, Bool.false_or]
   exact beq_eq_false_iff_ne.2 (fun e => (bne_iff_ne.1 w2) e.symm)
  ·
   rw [isDone_snoc, Bool.or_eq_true] at hw
   show w < s.next
   rcases hw with hw | hw
   · exact r.gone w hw
   ·
    have := beq_iff_eq.1 hw
    omega
  ·
   rcases snoc_get hx with ⟨-, hx⟩ | ⟨-, rfl⟩
   · exact r.nums i x hx
   · exact ⟨k, rfl, k1⟩
  ·
   rcases snoc_get hh with ⟨-, hh⟩ | ⟨-, rfl⟩
   · exact r.within i h hh
   · exact fun k hk => Nat.lt_of_lt_of_le (r.only k hk).1 r.le
 ·
  rintro s p hs hp ht h0 ⟨H, r⟩
  have hq : s.q.q = [] := List.length_eq_zero_iff.1 h0
  refine ⟨H, r.state.rests hq, r.rises, r.len, r.each, r.next, fun h hh h0 f hf => ?_, fun x hx => ?_, r.busy, r.wait, r.only, r.le, r.gone, r.nums, r.within⟩
  ·
   obtain ⟨g1, -⟩ := r.last h hh h0 f hf
   refine absurd ?_ g1
   unfold FQ.of
   rw [hq]
   rfl
  ·
   obtain ⟨c1, -⟩ := r.clock x hx
   refine ⟨by simp only; omega, fun e => ?_⟩
   simp only at e
   omega
end
end Go.Proofs.YtnomdlclkpnjpaaGreatDoor

namespace Go.Proofs.YtnomdlclkpnjpaaGreatDoor
section
variable {ps : List Pk} {ws : List Int} {per : Int}
theorem fair_law (hw : WtsOk ws) (ho : OkPks ps) (hper : 1 ≤ per) : QueLaw (fairQ ps ws) per ps fair0 where
 none := rfl
 come := fun s _ _ => by
  show (s.q.q ++ [s.next]).length = _
  simp [fairQ]
 left := fun s hr h0 => by
  obtain ⟨H, r⟩ := fair_run hw ho hper hr
  obtain ⟨l1, -⟩ := least_first (tag := s.q.tag) (q := s.q.q) h0
  exact filter_erase r.state.nodup l1
 pick := fun s hr h0 => by
  obtain ⟨H, r⟩ := fair_run hw ho hper hr
  obtain ⟨l1, -⟩ := least_first (tag := s.q.tag) (q := s.q.q) h0
  exact (r.only _ l1).1
 idle := fun s _ h => h
theorem fair_tags (hw : WtsOk ws) (ho : OkPks ps) {s : St FQ} (h : Reaches (fairQ ps ws) per ps fair0 s) : (0 ≤ s.q.v ∧ s.q.v ≤ 18000 * (s.next : Int)) ∧ (∀ f, 0 ≤ s.q.last f ∧ s.q.last f ≤ 18000 * (s.next : Int)) ∧ ∀ k, 0 ≤ s.q.tag k ∧ s.q.tag k ≤ 18000 * (s.next : Int) := by
 refine h.by_steps (C := fun s : St FQ => (0 ≤ s.q.v ∧ s.q.v ≤ 18000 * (s.next : Int)) ∧ (∀ f, 0 ≤ s.q.last f ∧ s.q.last f ≤ 18000 * (s.next : Int)) ∧ ∀ k, 0 ≤ s.q.tag k ∧ s.q.tag k ≤ 18000 * (s.next : Int)) ⟨⟨Int.le_refl _, Int.le_refl _⟩, fun _ => ⟨Int.le_refl _, Int.le_refl _⟩, fun _ => ⟨Int.le_refl _, Int.le_refl _⟩⟩ ?_ ?_ ?_
 ·
  rintro s p hs hp ht ⟨⟨a1, a2⟩, b, c⟩
  obtain ⟨i1, i2⟩ := incOf_in hw ho s.next
  obtain ⟨f1, f2⟩ := b (flowOf ps s.next)
  refine ⟨⟨a1, ?_⟩, fun f => ?_, fun k => ?_⟩
  ·
   show s.q.v ≤ _
   simp only
   omega
  ·
   show 0 ≤ put1 s.q.last (flowOf ps s.next) (max s.q.v (s.q.last (flowOf ps s.next)) + incOf ps ws s.next) f ∧ put1 s.q.last (flowOf ps s.next) (max s.q.v (s.q.last (flowOf ps s.next)) + incOf ps ws s.next) f ≤ 18000 * ((s.next + 1 : Nat) : Int)
   by_cases e : f = flowOf ps s.next
   ·
    rw [e, put1_same]
    omega
   ·
    rw [put1_other _ _ e]
    have := b f
    omega
  ·
   show 0 ≤ put1 s.q.tag s.next (max s.q.v (s.q.last (flowOf ps s.next)) + incOf ps ws s.next) k ∧ put1 s.q.tag s.next (max s.q.v (s.q.last (flowOf ps s.next)) + incOf ps ws s.next) k ≤ 18000 * ((s.next + 1 : Nat) : Int)
   by_cases e : k = s.next
   ·
    rw [e, put1_same]
    omega
   ·
    rw [put1_other _ _ e]
    have := c k
    omega
 ·
  rintro s p hs hall h0 hp ⟨a, b, c⟩
  exact ⟨c _, b, c⟩
 ·
  rintro s p hs hp ht h0 ⟨a, b, c⟩
  exact ⟨⟨Int.le_refl _, by simp only [fairQ, FQ.rests]; omega⟩, fun f => ⟨Int.le_refl _, by simp only [fairQ, FQ.rests]; omega⟩, c⟩
end
end Go.Proofs.YtnomdlclkpnjpaaGreatDoor

namespace Go.Proofs.YtnomdlclkpnjpaaGreatDoor
def FairSent (per : Int) (ps : List Pk) (ws : List Int) (l : List Sn) (ts : List Int) : Prop := ∃ s, Reaches (fairQ ps ws) per ps fair0 s ∧ ¬ s.next < ps.length ∧ (fairQ ps ws).rest s.q = 0 ∧ s.out = l ∧ (List.range ps.length).map s.q.tag = ts
theorem FairSent.same {per : Int} {ps : List Pk} {ws : List Int} {l m : List Sn} {ts us : List Int} (h : FairSent per ps ws l ts) (k : FairSent per ps ws m us) : l = m ∧ ts = us := by
 obtain ⟨s, h1, h2, h3, rfl, rfl⟩ := h
 obtain ⟨t, k1, k2, k3, rfl, rfl⟩ := k
 rw [reaches_same h1 k1 h2 h3 k2 k3]
 exact ⟨rfl, rfl⟩
section
variable {per : Int} {ps : List Pk} {ws : List Int} {l : List Sn} {ts : List Int}
theorem FairSent.length (hw : WtsOk ws) (ho : OkPks ps) (hper : 1 ≤ per) (h : FairSent per ps ws l ts) : l.length = ps.length ∧ ts.length = ps.length := by
 obtain ⟨s, h1, h2, h3, rfl, rfl⟩ := h
 have := h1.count (fair_law hw ho hper)
 have := h1.next_le
 exact ⟨by omega, by simp⟩
end
structure FoIn (per : Int) (ps : List Pk) (ws : List Int) (s0 s : St FQ) (i : Nat) (first best : Int) : Prop where
 reach : Reaches (fairQ ps ws) per ps fair0 s
 from_ : Reaches (fairQ ps ws) per ps fair0 s0
 out : s.out = s0.out
 now : s.now = s0.now
 seen : ∀ j, j < i → tickOf ps j ≤ s.now → j < s.next
 first : (first = -1 ∧ ∀ j, j < i → isDone s.out j = true) ∨ ∃ f : Nat, first = f ∧ f < i ∧ isDone s.out f = false ∧ ∀ j, j < f → isDone s.out j = true
 best : (best = -1 ∧ ∀ j, j < i → j ∉ s.q.q) ∨ ∃ b : Nat, best = b ∧ b < i ∧ b ∈ s.q.q ∧ ∀ j, j < i → j ∈ s.q.q → s.q.tag b < s.q.tag j ∨ (s.q.tag b = s.q.tag j ∧ b ≤ j)
section
variable {per : Int} {ps : List Pk} {ws : List Int} {s0 s : St FQ} {i : Nat} {first best : Int}
theorem FoIn.start (h : Reaches (fairQ ps ws) per ps fair0 s0) : FoIn per ps ws s0 s0 0 (-1) (-1) :=
 ⟨h, h, rfl, rfl, fun _ hj => absurd hj (Nat.not_lt_zero _), .inl ⟨rfl, fun _ hj => absurd hj (Nat.not_lt_zero _)⟩, .inl ⟨rfl, fun _ hj => absurd hj (Nat.not_lt_zero _)⟩⟩
theorem FoIn.comes (ho : OkPks ps) (h : FoIn per ps ws s0 s i first best) {p : Pk} (hp : ps[i]? = some p) (hn : ¬ i < s.next) (ht : p.tick ≤ s.now) :
  i = s.next ∧ FoIn per ps ws s0 ⟨s.out, s.now, s.next + 1, s.q.come (flowOf ps) (incOf ps ws) i⟩ i first best := by
 have e : i = s.next := by
  rcases Nat.lt_or_ge s.next i with h1 | h1
  ·
   have h2 := ticks_le ho (Nat.le_of_lt h1) (lt_of_get hp)
   rw [tickOf_get hp] at h2
   have := h.seen s.next h1 (by omega)
   omega
  · omega
 refine ⟨e, ?_⟩
 have hin : ∀ j, j < i → (j ∈ (s.q.come (flowOf ps) (incOf ps ws) i).q ↔ j ∈ s.q.q) := fun j hj => by
  show j ∈ s.q.q ++ [i] ↔ _
  rw [List.mem_append, List.mem_singleton]
  exact ⟨fun h => h.elim id (fun h => by omega), .inl⟩
 have htag : ∀ j, j < i → (s.q.come (flowOf ps) (incOf ps ws) i).tag j = s.q.tag j := fun j hj => put1_other _ _ (by omega)
 refine ⟨?_, h.from_, h.out, h.now, fun j hj ht => by have := h.seen j hj ht; simp only; omega, h.first, ?_⟩
 ·
  have := Reaches.come s p h.reach (by rw [← e]; exact hp) ht
  rw [← e] at this ⊢
  exact this
 ·
  rcases h.best with ⟨b1, b2⟩ | ⟨b, b1, b2, b3, b4⟩
  · exact .inl ⟨b1, fun j hj hm => b2 j hj ((hin j hj).1 hm)⟩
  ·
   refine .inr ⟨b, b1, b2, (hin b b2).2 b3, fun j hj hm => ?_⟩
   show (s.q.come (flowOf ps) (incOf ps ws) i).tag b < (s.q.come (flowOf ps) (incOf ps ws) i).tag j ∨ ((s.q.come (flowOf ps) (incOf ps ws) i).tag b = (s.q.come (flowOf ps) (incOf ps ws) i).tag j ∧ b ≤ j)
   rw [htag b b2, htag j hj]
   exact b4 j hj ((hin j hj).1 hm)
theorem FoIn.waits (hw : WtsOk ws) (ho : OkPks ps) (hper : 1 ≤ per) (h : FoIn per ps ws s0 s i first best) (j : Nat) : j ∈ s.q.q ↔ j < s.next ∧ isDone s.out j = false := by
 obtain ⟨H, r⟩ := fair_run hw ho hper h.reach
 exact ⟨r.only j, fun h => r.wait j h.1 h.2⟩
theorem upto {P : Nat → Prop} {i : Nat} (h : ∀ j, j < i → P j) (hi : P i) : ∀ j, j < i + 1 → P j := fun j hj => by
 rcases Nat.lt_or_ge j i with h' | h'
 · exact h j h'
 ·
  obtain rfl : j = i := by omega
  exact hi
theorem FoIn.pass (hw : WtsOk ws) (ho : OkPks ps) (hper : 1 ≤ per) (h : FoIn per ps ws s0 s i first best) (hs : tickOf ps i ≤ s.now → i < s.next) (hd : isDone s.out i = true) : FoIn per ps ws s0 s (i + 1) first best := by
 have hni : i ∉ s.q.q := fun hm => by rw [((h.waits hw ho hper i).1 hm).2] at hd; cases hd
 refine ⟨h.reach, h.from_, h.out, h.now, upto h.seen hs, ?_, ?_⟩
 ·
  rcases h.first with ⟨b1, b2⟩ | ⟨f, b1, b2, b3⟩
  · exact .inl ⟨b1, upto b2 hd⟩
  · exact .inr ⟨f, b1, Nat.lt_succ_of_lt b2, b3⟩
 ·
  rcases h.best with ⟨b1, b2⟩ | ⟨b, b1, b2, b3, b4⟩
  · exact .inl ⟨b1, upto b2 hni⟩
  · exact .inr ⟨b, b1, Nat.lt_succ_of_lt b2, b3, upto b4 fun hm => absurd hm hni⟩
theorem FoIn.first_is (h : FoIn per ps ws s0 s i first best) (hd : isDone s.out i = false) {first' : Int} (hf : first' = if first < 0 then (i : Int) else first) : ∃ f : Nat, first' = f ∧ f < i + 1 ∧ isDone s.out f = false ∧ ∀ j, j < f → isDone s.out j = true := by
 rcases h.first with ⟨b1, b2⟩ | ⟨f, b1, b2, b3⟩
 ·
  rw [b1, if_pos (by omega)] at hf
  exact ⟨i, hf, Nat.lt_succ_self _, hd, b2⟩
 ·
  rw [b1, if_neg (by omega)] at hf
  exact ⟨f, hf, Nat.lt_succ_of_lt b2, b3⟩
theorem FoIn.keeps (hw : WtsOk ws) (ho : OkPks ps) (hper : 1 ≤ per) (h : FoIn per ps ws s0 s i first best) (hs : tickOf ps i ≤ s.now → i < s.next) (hd : isDone s.out i = false) {first' : Int} (hf : first' = if first < 0 then (i : Int) else first) (hb : ¬ i < s.next ∨ ∃ b : Nat, best = b ∧ s.q.tag b ≤ s.q.tag i) : FoIn per ps ws s0 s (i + 1) first' best := by
 refine ⟨h.reach, h.from_, h.out, h.now, upto h.seen hs, .inr (h.first_is hd hf), ?_⟩
 rcases hb with hn | ⟨c, hc1, hc2⟩
 ·
  have hni : i ∉ s.q.q := fun hm => hn ((h.waits hw ho hper i).1 hm).1
  rcases h.best with ⟨b1, b2⟩ | ⟨b, b1, b2, b3, b4⟩
  · exact .inl ⟨b1, upto b2 hni⟩
  · exact .inr ⟨b, b1, Nat.lt_succ_of_lt b2, b3, upto b4 fun hm => absurd hm hni⟩
 ·
  rcases h.best with ⟨b1, b2⟩ | ⟨b, b1, b2, b3, b4⟩
  · omega
  ·
   obtain rfl : c = b := by omega
   exact .inr ⟨c, b1, Nat.lt_succ_of_lt b2, b3, upto b4 fun hm => by omega⟩
theorem FoIn.takes (hw : WtsOk ws) (ho : OkPks ps) (hper : 1 ≤ per) (h : FoIn per ps ws s0 s i first best) (hs : i < s.next) (hd : isDone s.out i = false) {first' : Int} (hf : first' = if first < 0 then (i : Int) else first) (hb : best = -1 ∨ ∃ b : Nat, best = b ∧ s.q.tag i < s.q.tag b) : FoIn per ps ws s0 s (i + 1) first' i := by
 refine ⟨h.reach, h.from_, h.out, h.now, upto h.seen fun _ => hs, .inr (h.first_is hd hf), .inr ⟨i, rfl, Nat.lt_succ_self _, (h.waits hw ho hper i).2 ⟨hs, hd⟩, upto (fun j hj hm => ?_) fun _ => .inr ⟨rfl, Nat.le_refl _⟩⟩⟩
 rcases h.best with ⟨b1, b2⟩ | ⟨b, b1, b2, b3, b4⟩
 · exact absurd hm (b2 j hj)
 ·
  rcases hb with hb | ⟨c, hc1, hc2⟩
  · omega
  ·
   obtain rfl : c = b := by omega
   have := b4 j hj hm
   omega
theorem FoIn.none (hw : WtsOk ws) (ho : OkPks ps) (hper : 1 ≤ per) (h : FoIn per ps ws s0 s ps.length first best) (hb : best < 0) (hl : s.out.length < ps.length) :
  ∃ p, first = (s.next : Int) ∧ ps[s.next]? = some p ∧ Reaches (fairQ ps ws) per ps fair0 ⟨s.out, p.tick, s.next, s.q.rests⟩ ∧ ¬ ∃ p, ps[s0.next]? = some p ∧ p.tick ≤ s0.now := by
 obtain ⟨H, r⟩ := fair_run hw ho hper h.reach
 obtain ⟨H0, r0⟩ := fair_run hw ho hper h.from_
 have hno : ∀ j, j < ps.length → j ∉ s.q.q := by
  rcases h.best with ⟨b1, b2⟩ | ⟨b, b1, -⟩
  · exact b2
  · omega
 have hq : s.q.q = [] := by
  cases e : s.q.q with
  | nil => rfl
  | cons k t =>
   have hm : k ∈ s.q.q := by rw [e]; exact List.mem_cons_self ..
   have := (r.only k hm).1
   have := r.le
   exact absurd hm (hno k (by omega))
 have hrest : (fairQ ps ws).rest s.q = 0 := by show s.q.q.length = 0; rw [hq]; rfl
 have hc := h.reach.count (fair_law hw ho hper)
 have hn : s.next < ps.length := by omega
 have hnd : isDone s.out s.next = false := by
  cases hd : isDone s.out s.next with
  | false => rfl
  | true => have := r.gone _ hd; omega
 have hdone : ∀ j, j < s.next → isDone s.out j = true := fun j hj => by
  cases hd : isDone s.out j with
  | true => rfl
  | false =>
   have := r.wait j hj hd
   rw [hq] at this
   cases this
 have e : ps[s.next]? = some ps[s.next] := List.getElem?_eq_getElem hn
 have htick : s.now < tickOf ps s.next := by
  rcases Int.lt_or_le s.now (tickOf ps s.next) with h' | h'
  · exact h'
  ·
   have := h.seen s.next hn h'
   omega
 refine ⟨_, ?_, e, ?_, ?_⟩
 ·
  rcases h.first with ⟨b1, b2⟩ | ⟨f, b1, b2, b3, b4⟩
  · rw [b2 s.next hn] at hnd; cases hnd
  ·
   have h1 : ¬ s.next < f := fun hlt => by rw [b4 _ hlt] at hnd; cases hnd
   have h2 : ¬ f < s.next := fun hlt => by rw [hdone _ hlt] at b3; cases b3
   rw [b1]
   omega
 · exact Reaches.idle s _ h.reach e (by rw [← tickOf_get e]; exact htick) hrest
 ·
  rintro ⟨p, hp, ht⟩
  have hl0 := lt_of_get hp
  have h1 := h.seen s0.next hl0 (by rw [tickOf_get hp, h.now]; exact ht)
  have h2 : isDone s.out s0.next = false := by
   rw [h.out]
   cases hd : isDone s0.out s0.next with
   | false => rfl
   | true => have := r0.gone _ hd; omega
  exact hno _ hl0 (r.wait _ h1 h2)
theorem FoIn.one (hw : WtsOk ws) (ho : OkPks ps) (hper : 1 ≤ per) (h : FoIn per ps ws s0 s ps.length first best) (hb : ¬ best < 0) :
  ∃ (b : Nat) (p : Pk), best = b ∧ ps[b]? = some p ∧ isDone s.out b = false ∧ Reaches (fairQ ps ws) per ps fair0 ⟨s.out ++ [⟨(b : Nat), s.now, s.now + per * p.size⟩], s.now + per * p.size, s.next, s.q.left b⟩ := by
 obtain ⟨H, r⟩ := fair_run hw ho hper h.reach
 rcases h.best with ⟨b1, -⟩ | ⟨b, b1, b2, b3, b4⟩
 · omega
 ·
  have hlen : 0 < s.q.q.length := List.length_pos_of_mem b3
  have hpl := pickAt_lt s.q.tag hlen
  obtain ⟨l1, l2⟩ := least_first (tag := s.q.tag) (q := s.q.q) hlen
  obtain ⟨k, hk⟩ : ∃ k, k = (fairQ ps ws).pick s.q := ⟨_, rfl⟩
  have hkd : s.q.q.getD (pickAt s.q.tag s.q.q) 0 = k := hk.symm
  have hkb : k = b := by
   have hkm : k ∈ s.q.q := by rw [← hkd]; exact l1
   have c1 := b4 k (by have := (r.only k hkm).1; have := r.le; omega) hkm
   obtain ⟨j, hj, ej⟩ := List.getElem_of_mem b3
   have c2 := firstLeast_min s.q.tag s.q.q s.q.q.length j hj
   have e2 : firstLeast s.q.tag s.q.q s.q.q.length = pickAt s.q.tag s.q.q := rfl
   rw [e2, hkd, getD_lt (d := 0) hj, ej] at c2
   have hkb : k ≤ b ∨ s.q.tag k < s.q.tag b := by
    rcases c2 with c2 | ⟨-, c2⟩
    · exact .inr c2
    ·
     refine .inl ?_
     rw [← hkd, getD_lt (d := 0) hpl, ← ej]
     rcases Nat.lt_or_eq_of_le c2 with c3 | c3
     · exact Nat.le_of_lt (List.pairwise_iff_getElem.1 r.rises _ _ hpl hj c3)
     · simp only [c3]; exact Nat.le_refl _
   omega
  have hlt : b < ps.length := b2
  have e : ps[b]? = some ps[b] := List.getElem?_eq_getElem hlt
  refine ⟨b, _, b1, e, (r.only b b3).2, ?_⟩
  have := Reaches.send s ps[b] h.reach (fun q hq => by
   rcases Int.lt_or_le s.now q.tick with h' | h'
   · exact h'
   ·
    have := h.seen s.next (lt_of_get hq) (by rw [tickOf_get hq]; exact h')
    omega) hlen (by rw [← hk, hkb]; exact e)
  have hleft : (fairQ ps ws).left s.q = s.q.left b := by rw [← hkb, ← hkd]; rfl
  rw [← hk, hkb, hleft] at this
  exact this
end
end Go.Proofs.YtnomdlclkpnjpaaGreatDoor
