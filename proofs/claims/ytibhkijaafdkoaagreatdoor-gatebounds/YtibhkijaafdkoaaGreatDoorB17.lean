/- Own facts, put together: no statement of its own. -/
import Derived.Test.YtibhkijaafdkoaaGreatDoorB16
import Derived.Test.YtibhkijaafdkoaaGreatDoorB13
import Derived.Laws.MakeOwn
import Derived.Test.YtibhkijaafdkoaaGreatDoorB01
import Derived.Deep.LoopGhost
namespace Go.Proofs.YtibhkijaafdkoaaGreatDoor
def incOf (ps : List Pk) (ws : List Int) (k : Nat) : Int := sizeAt ps k * (12 / quOf ws (flowOf ps k))
def fairQ (ps : List Pk) (ws : List Int) : Que FQ where
 come := fun s k => s.come (flowOf ps) (incOf ps ws) k
 pick := fun s => s.q.getD (pickAt s.tag s.q) 0
 left := fun s => s.left (s.q.getD (pickAt s.tag s.q) 0)
 rest := fun s => s.q.length
 idle := FQ.rests
def fair0 : FQ := ⟨[], fun _ => 0, 0, fun _ => 0⟩
def WtsOk (ws : List Int) : Prop := ∀ f, 1 ≤ quOf ws f ∧ 12 / quOf ws f * quOf ws f = 12
section
variable {ps : List Pk} {ws : List Int} {per : Int}
theorem WtsOk.part (h : WtsOk ws) (f : Nat) : 1 ≤ 12 / quOf ws f ∧ 12 / quOf ws f ≤ 12 := by
 obtain ⟨h1, h2⟩ := h f
 have h3 : 0 ≤ 12 / quOf ws f := Int.ediv_nonneg (by omega) (by omega)
 constructor
 ·
  rcases Int.lt_or_le (12 / quOf ws f) 1 with h4 | h4
  ·
   have : 12 / quOf ws f = 0 := by omega
   rw [this] at h2
   omega
  · exact h4
 ·
  have := Int.mul_le_mul_of_nonneg_left h1 h3
  omega
theorem incOf_in (hw : WtsOk ws) (ho : OkPks ps) (k : Nat) : 1 ≤ incOf ps ws k ∧ incOf ps ws k ≤ 18000 := by
 obtain ⟨h1, h2⟩ := hw.part (flowOf ps k)
 obtain ⟨h3, h4⟩ := sizeAt_in ho k
 unfold incOf
 have a1 : 1 * 1 ≤ sizeAt ps k * (12 / quOf ws (flowOf ps k)) := Int.mul_le_mul h3 h1 (by omega) (by omega)
 have a2 : sizeAt ps k * (12 / quOf ws (flowOf ps k)) ≤ 1500 * 12 := Int.mul_le_mul h4 h2 (by omega) (by omega)
 omega
theorem least_first {tag : Nat → Int} {q : List Nat} (h : 0 < q.length) : q.getD (pickAt tag q) 0 ∈ q ∧ ∀ i, i ∈ q → tag (q.getD (pickAt tag q) 0) ≤ tag i := by
 have hl := pickAt_lt tag h
 refine ⟨by rw [getD_lt hl]; exact List.getElem_mem _, fun i hi => ?_⟩
 obtain ⟨j, hj, e⟩ := List.getElem_of_mem hi
 have := firstLeast_min tag q q.length j hj
 rw [getD_lt (d := 0) hj, e] at this
 have e2 : pickAt tag q = firstLeast tag q q.length := rfl
 rw [e2]
 omega
theorem filter_erase {q : List Nat} (h : q.Nodup) {k : Nat} (hk : k ∈ q) : (q.filter fun i => i != k).length + 1 = q.length := by
 have := h.erase_eq_filter k
 rw [← this, List.length_erase_of_mem hk]
 have : 0 < q.length := List.length_pos_of_mem hk
 omega
structure FairRun (ps : List Pk) (ws : List Int) (s : St FQ) (H : List (FQ × FQ)) : Prop where
 state : FQOk (flowOf ps) (incOf ps ws) s.q
 rises : s.q.q.Pairwise (· < ·)
 len : H.length = s.out.length
 each : ∀ (i : Nat) x h, s.out[i]? = some x → H[i]? = some h → ∃ k : Nat, x.num = k ∧ FQOk (flowOf ps) (incOf ps ws) h.1 ∧ h.1.Least k ∧ h.2 = h.1.left k ∧ ∀ w : Nat, w < ps.length → tickOf ps w ≤ x.beg → isDone (s.out.take (i + 1)) w = false → w ∈ h.2.q
 next : ∀ (i : Nat) h h', H[i]? = some h → H[i + 1]? = some h' → ∀ f, h.2.of (flowOf ps) f ≠ [] → h'.1.begins (flowOf ps) (incOf ps ws) f = h.2.begins (flowOf ps) (incOf ps ws) f
 last : ∀ h, H[H.length - 1]? = some h → 0 < H.length → ∀ f, h.2.of (flowOf ps) f ≠ [] → s.q.of (flowOf ps) f ≠ [] ∧ s.q.begins (flowOf ps) (incOf ps ws) f = h.2.begins (flowOf ps) (incOf ps ws) f
 clock : ∀ x, s.out[s.out.length - 1]? = some x → x.fin ≤ s.now ∧ (x.fin = s.now → s.q.v = s.q.tag x.num.toNat)
 busy : ∀ (i : Nat) x y, s.out[i]? = some x → s.out[i + 1]? = some y → y.beg = x.fin → s.q.tag x.num.toNat ≤ s.q.tag y.num.toNat
 wait : ∀ w, w < s.next → isDone s.out w = false → w ∈ s.q.q
 only : ∀ w, w ∈ s.q.q → w < s.next ∧ isDone s.out w = false
 le : s.next ≤ ps.length
 gone : ∀ w : Nat, isDone s.out w = true → w < s.next
 nums : ∀ (i : Nat) x, s.out[i]? = some x → ∃ k : Nat, x.num = k ∧ k < s.next
 within : ∀ (i : Nat) h, H[i]? = some h → ∀ k, k ∈ h.1.q → k < ps.length
theorem snoc_get {α : Type} {l : List α} {y x : α} {i : Nat} (h : (l ++ [y])[i]? = some x) : (i < l.length ∧ l[i]? = some x) ∨ (i = l.length ∧ x = y) := by
 have hl := lt_of_get h
 rw [List.length_append, List.length_cons, List.length_nil] at hl
 rcases Nat.lt_or_ge i l.length with h' | h'
 · rw [List.getElem?_append_left h'] at h; exact .inl ⟨h', h⟩
 ·
  obtain rfl : i = l.length := by omega
  rw [List.getElem?_append_right (Nat.le_refl _), Nat.sub_self, List.getElem?_cons_zero] at h
  exact .inr ⟨rfl, (Option.some.inj h).symm⟩
theorem fair_run (hw : WtsOk ws) (ho : OkPks ps) (hper : 1 ≤ per) {s : St FQ} (h : Reaches (fairQ ps ws) per ps fair0 s) : ∃ H, FairRun ps ws s H := by
 refine h.by_steps (C := fun s => ∃ H, FairRun ps ws s H) ?_ ?_ ?_ ?_
 · exact ⟨[], FQOk.start _ _ _, List.Pairwise.nil, rfl, (fun i x h hx => by simp at hx), (fun i h h' hx => by simp at hx), (fun h _ h0 => by simp at h0), (fun x hx => by simp at hx), (fun i x y hx => by simp at hx), (fun w hw => absurd hw (Nat.not_lt_zero _)), (fun w hw => by cases hw), Nat.zero_le _, (fun w hw => by simp [isDone] at hw), (fun i x hx => by simp at hx), fun i h hh => by simp at hh⟩
 ·
  rintro s p hs hp ht ⟨H, r⟩
  have hlt := lt_of_get hp
  have hnew : isDone s.out s.next = false := by
   cases hd : isDone s.out s.next with
   | false => rfl
   | true => have := r.gone _ hd; omega
  have hk : s.next ∉ s.q.q := fun hm => by have := (r.only _ hm).1; omega
  have hi := (incOf_in hw ho s.next).1
  have htag : ∀ (i : Nat) x, s.out[i]? = some x → ((fairQ ps ws).come s.q s.next).tag x.num.toNat = s.q.tag x.num.toNat := fun i x hx => by
   obtain ⟨k, e, hk'⟩ := r.nums i x hx
   refine put1_other _ _ ?_
   rw [e, Int.toNat_natCast]
   omega
  refine ⟨H, r.state.come hk (by omega), ?_, r.len, r.each, r.next, fun h hh h0 f hf => ?_, fun x hx => ?_, fun i x y hx hy hb => ?_, fun w hw hd => ?_, fun w hw => ?_, hlt, fun w hw => Nat.lt_succ_of_lt (r.gone w hw), fun i x hx => ?_, r.within⟩
  ·
   refine List.pairwise_append.2 ⟨r.rises, List.pairwise_singleton _ _, fun a ha b hb => ?_⟩
   rw [List.mem_singleton] at hb
   have := (r.only a ha).1
   omega
  ·
   obtain ⟨g1, g2⟩ := r.last h hh h0 f hf
   obtain ⟨c1, c2⟩ := begins_come (inc := incOf ps ws) hk g1
   exact ⟨c2, c1.trans g2⟩
  ·
   obtain ⟨c1, c2⟩ := r.clock x hx
   refine ⟨c1, fun e => ?_⟩
   show s.q.v = _
   rw [htag _ x hx]
   exact c2 e
  ·
   show ((fairQ ps ws).come s.q s.next).tag _ ≤ ((fairQ ps ws).come s.q s.next).tag _
   rw [htag _ x hx, htag _ y hy]
   exact r.busy i x y hx hy hb
  ·
   show w ∈ s.q.q ++ [s.next]
   rcases Nat.lt_or_ge w s.next with hw' | hw'
   · exact List.mem_append.2 (.inl (r.wait w hw' hd))
   ·
    obtain rfl : w = s.next := by simp only at hw; omega
    exact List.mem_append.2 (.inr (List.mem_singleton.2 rfl))
  ·
   have hw2 : w ∈ s.q.q ++ [s.next] := hw
   rcases List.mem_append.1 hw2 with hw3 | hw3
   ·
    obtain ⟨g1, g2⟩ := r.only w hw3
    exact ⟨Nat.lt_succ_of_lt g1, g2⟩
   ·
    rw [List.mem_singleton] at hw3
    subst hw3
    exact ⟨Nat.lt_succ_self _, hnew⟩
  ·
   obtain ⟨k, e, hk'⟩ := r.nums i x hx
   exact ⟨k, e, Nat.lt_succ_of_lt hk'⟩
 ·
  rintro s p hs hall h0 hp ⟨H, r⟩
  obtain ⟨l1, l2⟩ := least_first (tag := s.q.tag) (q := s.q.q) h0
  obtain ⟨k, hk⟩ : ∃ k, k = (fairQ ps ws).pick s.q := ⟨_, rfl⟩
  have hkd : s.q.q.getD (pickAt s.q.tag s.q.q) 0 = k := hk.symm
  have hleft : (fairQ ps ws).left s.q = s.q.left k := by rw [hk]; rfl
  rw [hkd] at l1 l2
  rw [← hk] at hp ⊢
  rw [hleft]
  have hL : s.q.Least k := ⟨l1, l2⟩
  have hinc : ∀ i, i ∈ s.q.q → 1 ≤ incOf ps ws i := fun i _ => (incOf_in hw ho i).1
  obtain ⟨-, -, z1, -, -, -⟩ := okPk_true (ho.each _ p hp).1
  have hpos : 1 * 1 ≤ per * p.size := Int.mul_le_mul hper z1 (by omega) (by omega)
  obtain ⟨k1, k2⟩ := r.only k l1
  have hstay : ∀ w, w ∈ s.q.q → w ≠ k → w ∈ (s.q.left k).q := fun w hw hne => List.mem_filter.2 ⟨hw, by simp [hne]⟩
  have hnd : ∀ w : Nat, isDone (s.out ++ [⟨(k : Nat), s.now, s.now + per * p.size⟩]) w = false → isDone s.out w = false ∧ w ≠ k := by
   intro w hw
   rw [isDone_snoc, Bool.or_eq_false_iff] at hw
   exact ⟨hw.1, fun e => beq_eq_false_iff_ne.1 hw.2 e.symm⟩
  refine ⟨H ++ [(s.q, s.q.left k)], r.state.left hinc hL, r.rises.filter _, by simp [r.len], fun i x h hx hh => ?_, fun i h h' hh hh' f hf => ?_, fun h hh _ f hf => ?_, fun x hx => ?_, fun i x y hx hy hb => ?_, fun w hw hd => ?_, fun w hw => ?_, r.le, fun w hw => ?_, fun i x hx => ?_, fun i h hh => ?_⟩
  ·
   rcases snoc_get hx with ⟨h', hx⟩ | ⟨rfl, rfl⟩
   ·
    rw [List.getElem?_append_left (by rw [r.len]; exact h')] at hh
    simp only [List.take_append_of_le_length (show i + 1 ≤ s.out.length by omega)]
    exact r.each i x h hx hh
   ·
    rw [List.getElem?_append_right (by rw [r.len]; exact Nat.le_refl _), r.len, Nat.sub_self, List.getElem?_cons_zero] at hh
    have hh := Option.some.inj hh
    subst hh
    refine ⟨k, rfl, r.state, hL, rfl, fun w hw ht hd => ?_⟩
    rw [List.take_of_length_le (by simp)] at hd
    obtain ⟨d1, d2⟩ := hnd w hd
    refine hstay w (r.wait w ?_ d1) d2
    rcases Nat.lt_or_ge w s.next with h3 | h3
    · exact h3
    ·
     have hnl : s.next < ps.length := by omega
     have e : ps[s.next]? = some ps[s.next] := List.getElem?_eq_getElem hnl
     have a1 := hall _ e
     have a2 := ticks_le ho h3 hw
     rw [tickOf_get e] at a2
     simp only at ht
     omega
  ·
   have hil := lt_of_get hh'
   simp only [List.length_append, List.length_cons, List.length_nil] at hil
   rcases Nat.lt_or_ge (i + 1) H.length with h3 | h3
   ·
    rw [List.getElem?_append_left (by omega)] at hh
    rw [List.getElem?_append_left h3] at hh'
    exact r.next i h h' hh hh' f hf
   ·
    have e1 : i + 1 = H.length := by omega
    rw [List.getElem?_append_left (by omega)] at hh
    rw [List.getElem?_append_right (by omega), e1, Nat.sub_self, List.getElem?_cons_zero] at hh'
    have hh' := Option.some.inj hh'
    subst hh'
    exact (r.last h (by rw [show H.length - 1 = i by omega]; exact hh) (by omega) f hf).2
  ·
   simp only [List.length_append, List.length_cons, List.length_nil, Nat.add_sub_cancel] at hh
   rw [List.getElem?_append_right (Nat.le_refl _), Nat.sub_self, List.getElem?_cons_zero] at hh
   have hh := Option.some.inj hh
   subst hh
   exact ⟨hf, rfl⟩
  ·
   simp only [List.length_append, List.length_cons, List.length_nil, Nat.add_sub_cancel] at hx
   rw [List.getElem?_append_right (Nat.le_refl _), Nat.sub_self, List.getElem?_cons_zero] at hx
   have hx := Option.some.inj hx
   subst hx
   refine ⟨Int.le_refl _, fun _ => ?_⟩
   show s.q.tag k = s.q.tag ((k : Nat) : Int).toNat
   rw [Int.toNat_natCast]
  ·
   show s.q.tag _ ≤ s.q.tag _
   rcases snoc_get hy with ⟨h', hy⟩ | ⟨e, rfl⟩
   ·
    rcases snoc_get hx with ⟨-, hx⟩ | ⟨e, -⟩
    · exact r.busy i x y hx hy hb
    · omega
   ·
    rcases snoc_get hx with ⟨-, hx⟩ | ⟨e', -⟩
    ·
     obtain ⟨-, c2⟩ := r.clock x (by rw [show s.out.length - 1 = i by omega]; exact hx)
     have hv := c2 hb.symm
     have := r.state.low k l1
     simp only [Int.toNat_natCast]
     omega
    · omega
  ·
   obtain ⟨d1, d2⟩ := hnd w hd
   exact hstay w (r.wait w hw d1) d2
  ·
   obtain ⟨w1, w2⟩ := List.mem_filter.1 (show w ∈ s.q.q.filter fun i => i != k from hw)
   obtain ⟨g1, g2⟩ := r.only w w1
   refine ⟨g1, ?_⟩
   rw [isDone_snoc, g2, Bool.false_or]
   exact beq_eq_false_iff_ne.2 (fun e => (bne_iff_ne.1 w2) e.symm)
  ·
   rw [isDone_snoc, Bool.or_eq_true] at hw
   show w < s.next
   rcases hw with hw | hw
   · exact r.gone w hw
   ·
    have := beq_iff_eq.1 hw
    omega
  ·
   rcases snoc_get hx with ⟨-, hx⟩ | ⟨-, rfl⟩
   · exact r.nums i x hx
   · exact ⟨k, rfl, k1⟩
  ·
   rcases snoc_get hh with ⟨-, hh⟩ | ⟨-, rfl⟩
   · exact r.within i h hh
   · exact fun k hk => Nat.lt_of_lt_of_le (r.only k hk).1 r.le
 ·
  rintro s p hs hp ht h0 ⟨H, r⟩
  have hq : s.q.q = [] := List.length_eq_zero_iff.1 h0
  refine ⟨H, r.state.rests hq, r.rises, r.len, r.each, r.next, fun h hh h0 f hf => ?_, fun x hx => ?_, r.busy, r.wait, r.only, r.le, r.gone, r.nums, r.within⟩
  ·
   obtain ⟨g1, -⟩ := r.last h hh h0 f hf
   refine absurd ?_ g1
   unfold FQ.of
   rw [hq]
   rfl
  ·
   obtain ⟨c1, -⟩ := r.clock x hx
   refine ⟨by simp only; omega, fun e => ?_⟩
   simp only at e
   omega
end
end Go.Proofs.YtibhkijaafdkoaaGreatDoor

namespace Go.Proofs.YtibhkijaafdkoaaGreatDoor
section
variable {ps : List Pk} {ws : List Int} {per : Int}
theorem fair_law (hw : WtsOk ws) (ho : OkPks ps) (hper : 1 ≤ per) : QueLaw (fairQ ps ws) per ps fair0 where
 none := rfl
 come := fun s _ _ => by
  show (s.q.q ++ [s.next]).length = _
  simp [fairQ]
 left := fun s hr h0 => by
  obtain ⟨H, r⟩ := fair_run hw ho hper hr
  obtain ⟨l1, -⟩ := least_first (tag := s.q.tag) (q := s.q.q) h0
  exact filter_erase r.state.nodup l1
 pick := fun s hr h0 => by
  obtain ⟨H, r⟩ := fair_run hw ho hper hr
  obtain ⟨l1, -⟩ := least_first (tag := s.q.tag) (q := s.q.q) h0
  exact (r.only _ l1).1
 idle := fun s _ h => h
theorem fair_tags (hw : WtsOk ws) (ho : OkPks ps) {s : St FQ} (h : Reaches (fairQ ps ws) per ps fair0 s) : (0 ≤ s.q.v ∧ s.q.v ≤ 18000 * (s.next : Int)) ∧ (∀ f, 0 ≤ s.q.last f ∧ s.q.last f ≤ 18000 * (s.next : Int)) ∧ ∀ k, 0 ≤ s.q.tag k ∧ s.q.tag k ≤ 18000 * (s.next : Int) := by
 refine h.by_steps (C := fun s : St FQ => (0 ≤ s.q.v ∧ s.q.v ≤ 18000 * (s.next : Int)) ∧ (∀ f, 0 ≤ s.q.last f ∧ s.q.last f ≤ 18000 * (s.next : Int)) ∧ ∀ k, 0 ≤ s.q.tag k ∧ s.q.tag k ≤ 18000 * (s.next : Int)) ⟨⟨Int.le_refl _, Int.le_refl _⟩, fun _ => ⟨Int.le_refl _, Int.le_refl _⟩, fun _ => ⟨Int.le_refl _, Int.le_refl _⟩⟩ ?_ ?_ ?_
 ·
  rintro s p hs hp ht ⟨⟨a1, a2⟩, b, c⟩
  obtain ⟨i1, i2⟩ := incOf_in hw ho s.next
  obtain ⟨f1, f2⟩ := b (flowOf ps s.next)
  refine ⟨⟨a1, ?_⟩, fun f => ?_, fun k => ?_⟩
  ·
   show s.q.v ≤ _
   simp only
   omega
  ·
   show 0 ≤ put1 s.q.last (flowOf ps s.next) (max s.q.v (s.q.last (flowOf ps s.next)) + incOf ps ws s.next) f ∧ put1 s.q.last (flowOf ps s.next) (max s.q.v (s.q.last (flowOf ps s.next)) + incOf ps ws s.next) f ≤ 18000 * ((s.next + 1 : Nat) : Int)
   by_cases e : f = flowOf ps s.next
   ·
    rw [e, put1_same]
    omega
   ·
    rw [put1_other _ _ e]
    have := b f
    omega
  ·
   show 0 ≤ put1 s.q.tag s.next (max s.q.v (s.q.last (flowOf ps s.next)) + incOf ps ws s.next) k ∧ put1 s.q.tag s.next (max s.q.v (s.q.last (flowOf ps s.next)) + incOf ps ws s.next) k ≤ 18000 * ((s.next + 1 : Nat) : Int)
   by_cases e : k = s.next
   ·
    rw [e, put1_same]
    omega
   ·
    rw [put1_other _ _ e]
    have := c k
    omega
 ·
  rintro s p hs hall h0 hp ⟨a, b, c⟩
  exact ⟨c _, b, c⟩
 ·
  rintro s p hs hp ht h0 ⟨a, b, c⟩
  exact ⟨⟨Int.le_refl _, by simp only [fairQ, FQ.rests]; omega⟩, fun f => ⟨Int.le_refl _, by simp only [fairQ, FQ.rests]; omega⟩, c⟩
end
end Go.Proofs.YtibhkijaafdkoaaGreatDoor

namespace Go.Proofs.YtibhkijaafdkoaaGreatDoor
def FairSent (per : Int) (ps : List Pk) (ws : List Int) (l : List Sn) (ts : List Int) : Prop := ∃ s, Reaches (fairQ ps ws) per ps fair0 s ∧ ¬ s.next < ps.length ∧ (fairQ ps ws).rest s.q = 0 ∧ s.out = l ∧ (List.range ps.length).map s.q.tag = ts
section
end
section
end
end Go.Proofs.YtibhkijaafdkoaaGreatDoor

namespace Go.Proofs.YtibhkijaafdkoaaGreatDoor
open Go.RowKit
theorem ownsRow_of_block {w w' : World} {base : Nat} {e : TypeId} {size : Nat} {v : Value} {n : Nat} {xs : List Value} (h : w.ownsRow base e size v n xs) (hb : ∀ g, v.ownBlock = some g → g < w.heap.size → w'.heap[g]? = w.heap[g]?) : w'.ownsRow base e size v n xs := by
 obtain ⟨h1, h2 | ⟨g, cap, cur, rfl, hB, hg, r⟩⟩ := h
 · exact ⟨h1, .inl h2⟩
 · exact ⟨h1, .inr ⟨g, cap, cur, rfl, hB, (hb g rfl (lt_of_block hg)).trans hg, r⟩⟩
theorem ownsRow_lt {w : World} {base : Nat} {e : TypeId} {size : Nat} {v : Value} {n : Nat} {xs : List Value} (h : w.ownsRow base e size v n xs) {g : Nat} (hg : v.ownBlock = some g) : base ≤ g ∧ g < w.heap.size := by
 obtain ⟨h1, ⟨rfl, -⟩ | ⟨g', cap, cur, rfl, hB, hgc, r⟩⟩ := h
 · cases hg
 ·
  cases hg
  exact ⟨hB, lt_of_block hgc⟩
theorem Tryz.infoInt : (Tryz.prog.info? 3).map (fun i => (i.zero, i.size, i.bytes)) = some (some (.int .i64 0), 1, 8) := by kernel_rfl
theorem made_get (u : Value) (n j : Nat) (h : j < n) : (madeCells #[u] n)[j]? = some u := by
 rw [Array.getElem?_eq_getElem (by rw [size_madeCells]; exact h)]
 simp [madeCells, Nat.mod_one]
def LiesN (w : World) (a : Option Addr) (xs : List Int) : Prop :=
 xs = [] ∨ ∃ b off, a = some ⟨b, off, none⟩ ∧ b < w.heap.size ∧ ∀ (i : Nat) x, xs[i]? = some x → w.cell? ⟨b, off + i, none⟩ = some (.int .i64 x)
theorem LiesN.place {w : World} {a : Option Addr} {xs : List Int} (h : LiesN w a xs) (h1 : 1 ≤ xs.length) : ∃ b off, a = some ⟨b, off, none⟩ ∧ b < w.heap.size ∧ ∀ (i : Nat) x, xs[i]? = some x → w.cell? ⟨b, off + i, none⟩ = some (.int .i64 x) := by
 rcases h with rfl | h
 · simp at h1
 · exact h
theorem LiesN.below {w w' : World} {a : Option Addr} {xs : List Int} (h : LiesN w a xs) (hb : Below w.heap.size w w') : LiesN w' a xs := by
 rcases h with rfl | ⟨b, off, rfl, hlt, hc⟩
 · exact .inl rfl
 · exact .inr ⟨b, off, rfl, Nat.lt_of_lt_of_le hlt hb.size, fun i x hi => cell_later hb (hc i x hi)⟩
end Go.Proofs.YtibhkijaafdkoaaGreatDoor

namespace Go.Proofs.YtibhkijaafdkoaaGreatDoor
open Go.RowKit
structure NumsOk (lo hi : Int) (ns : List Int) : Prop where
 len : ns.length = 8
 each : ∀ (i : Nat) x, ns[i]? = some x → lo ≤ x ∧ x ≤ hi
def NumBad (lo hi : Int) (ns : List Int) (j : Nat) : Prop := ns.length = 8 ∧ (∃ x, ns[j]? = some x ∧ ¬ (lo ≤ x ∧ x ≤ hi)) ∧ ∀ (i : Nat) y, i < j → ns[i]? = some y → lo ≤ y ∧ y ≤ hi
def NumsFault (lo hi : Int) (ns : List Int) (c : Nat) : Prop := (c = 3 ∧ ns.length ≠ 8) ∨ (c = 2 ∧ ∃ j, NumBad lo hi ns j) ∨ (c = 0 ∧ NumsOk lo hi ns)
theorem numsFault_is (lo hi : Int) (ns : List Int) : ∃ c, NumsFault lo hi ns c := by
 by_cases hl : ns.length = 8
 ·
  have key : ∀ k, k ≤ ns.length → (∀ (i : Nat) y, i < k → ns[i]? = some y → lo ≤ y ∧ y ≤ hi) ∨ ∃ j, NumBad lo hi ns j := by
   intro k
   induction k with
   | zero => intro _; exact .inl fun i y h => by omega
   | succ k ih =>
    intro hk
    rcases ih (by omega) with h | h
    ·
     obtain ⟨x, hx, -⟩ := get_some ns k (by omega)
     by_cases hb : lo ≤ x ∧ x ≤ hi
     ·
      refine .inl fun i y hi' hy => ?_
      rcases Nat.lt_or_ge i k with h' | h'
      · exact h i y h' hy
      ·
       obtain rfl : i = k := by omega
       obtain rfl := Option.some.inj (hx.symm.trans hy)
       exact hb
     · exact .inr ⟨k, hl, ⟨x, hx, hb⟩, h⟩
    · exact .inr h
  rcases key ns.length (Nat.le_refl _) with h | h
  ·
   exact ⟨0, .inr (.inr ⟨rfl, hl, fun i x hx => h i x (by
    rcases Nat.lt_or_ge i ns.length with h' | h'
    · exact h'
    · simp [List.getElem?_eq_none h'] at hx) hx⟩)⟩
  · exact ⟨2, .inr (.inl ⟨rfl, h⟩)⟩
 · exact ⟨3, .inl ⟨rfl, hl⟩⟩
end Go.Proofs.YtibhkijaafdkoaaGreatDoor

namespace Go.Proofs.YtibhkijaafdkoaaGreatDoor
def isWt (x : Int) : Prop := 1 ≤ x ∧ 12 % x = 0
theorem isWt_le {x : Int} (h : isWt x) : x ≤ 12 := Int.le_of_dvd (by decide) (Int.dvd_of_emod_eq_zero h.2)
structure WtsAll (ns : List Int) : Prop where
 len : ns.length = 8
 each : ∀ (i : Nat) x, ns[i]? = some x → isWt x
def WtBad (ns : List Int) (j : Nat) : Prop := ns.length = 8 ∧ (∃ x, ns[j]? = some x ∧ ¬ isWt x) ∧ ∀ (i : Nat) y, i < j → ns[i]? = some y → isWt y
def WtsFault (ns : List Int) (c : Nat) : Prop := (c = 3 ∧ ns.length ≠ 8) ∨ (c = 2 ∧ ∃ j, WtBad ns j) ∨ (c = 0 ∧ WtsAll ns)
theorem wtsFault_is (ns : List Int) : ∃ c, WtsFault ns c := by
 by_cases hl : ns.length = 8
 ·
  have key : ∀ k, k ≤ ns.length → (∀ (i : Nat) y, i < k → ns[i]? = some y → isWt y) ∨ ∃ j, WtBad ns j := by
   intro k
   induction k with
   | zero => intro _; exact .inl fun i y h => by omega
   | succ k ih =>
    intro hk
    rcases ih (by omega) with h | h
    ·
     obtain ⟨x, hx, -⟩ := get_some ns k (by omega)
     by_cases hb : isWt x
     ·
      refine .inl fun i y hi' hy => ?_
      rcases Nat.lt_or_ge i k with h' | h'
      · exact h i y h' hy
      ·
       obtain rfl : i = k := by omega
       obtain rfl := Option.some.inj (hx.symm.trans hy)
       exact hb
     · exact .inr ⟨k, hl, ⟨x, hx, hb⟩, h⟩
    · exact .inr h
  rcases key ns.length (Nat.le_refl _) with h | h
  · exact ⟨0, .inr (.inr ⟨rfl, hl, fun i x hx => h i x (lt_of_get hx) hx⟩)⟩
  · exact ⟨2, .inr (.inl ⟨rfl, h⟩)⟩
 · exact ⟨3, .inl ⟨rfl, hl⟩⟩
theorem WtsAll.nums {ns : List Int} (h : WtsAll ns) : NumsOk 1 12 ns := ⟨h.len, fun i x hx => ⟨(h.each i x hx).1, isWt_le (h.each i x hx)⟩⟩
theorem WtsAll.ok {ns : List Int} (h : WtsAll ns) : WtsOk ns := fun f => by
 cases hf : ns[f]? with
 | some x =>
  rw [quOf_get hf]
  have := h.each f x hf
  exact ⟨this.1, Int.ediv_mul_cancel (Int.dvd_of_emod_eq_zero this.2)⟩
 | none =>
  have : quOf ns f = 1 := by simp [quOf, hf]
  rw [this]
  exact ⟨Int.le_refl _, by decide⟩
theorem inc_tdiv {x z : Int} (h : isWt x) (hz : 0 ≤ z) : (z * 12).tdiv x = z * (12 / x) := by
 have hd := Int.dvd_of_emod_eq_zero h.2
 rw [Int.tdiv_eq_ediv_of_nonneg (by omega), Int.mul_ediv_assoc _ hd]
theorem erase_filter : ∀ (q : List Nat) (i : Nat), q.Nodup → i < q.length → q.eraseIdx i = q.filter fun j => j != q.getD i 0
 | [], i, _, h => absurd h (Nat.not_lt_zero _)
 | a :: q, 0, hn, _ => by
  obtain ⟨h1, -⟩ := List.nodup_cons.1 hn
  have e : (a :: q).getD 0 0 = a := rfl
  rw [e, List.filter_cons, if_neg (by simp)]
  refine (List.filter_eq_self.2 fun j hj => ?_).symm
  have : j ≠ a := fun e => h1 (by rw [← e]; exact hj)
  simp [this]
 | a :: q, i + 1, hn, h => by
  obtain ⟨h1, h2⟩ := List.nodup_cons.1 hn
  have hi : i < q.length := by simpa using h
  have e : (a :: q).getD (i + 1) 0 = q.getD i 0 := by simp [List.getD]
  have hne : a ≠ q.getD i 0 := fun e' => h1 (by rw [e', getD_lt hi]; exact List.getElem_mem hi)
  rw [e, List.filter_cons, if_pos (bne_iff_ne.2 hne), ← erase_filter q i h2 hi]
  rfl
end Go.Proofs.YtibhkijaafdkoaaGreatDoor
