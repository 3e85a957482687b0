/- Own facts, put together: no statement of its own. -/
import Derived.Test.YtibhkijaafdkoaaGreatDoorP05
namespace Go.Proofs.YtibhkijaafdkoaaGreatDoor
section
variable (ps : List Pk)
def ownTo (f k : Nat) : List Pk := (ps.take k).filter fun p => p.flow == (f : Int)
def numTo (f k : Nat) : List Nat := (List.range k).filter fun i => flowOf ps i == f
def rankIn (i : Nat) : Nat := (numTo ps (flowOf ps i) i).length
variable {ps}
theorem numTo_succ (f k : Nat) : numTo ps f (k + 1) = if flowOf ps k = f then numTo ps f k ++ [k] else numTo ps f k := by
 unfold numTo
 rw [List.range_succ, List.filter_append]
 by_cases h : flowOf ps k = f
 ·
  rw [if_pos h, List.filter_cons, if_pos (by rw [beq_iff_eq]; exact h)]
  rfl
 ·
  rw [if_neg h, List.filter_cons, if_neg (by rw [beq_iff_eq]; exact h)]
  exact List.append_nil _
theorem ownTo_succ {f k : Nat} {p : Pk} (hp : ps[k]? = some p) : ownTo ps f (k + 1) = if p.flow = (f : Int) then ownTo ps f k ++ [p] else ownTo ps f k := by
 unfold ownTo
 rw [List.take_add_one, hp, List.filter_append]
 by_cases h : p.flow = (f : Int)
 ·
  rw [if_pos h]
  congr 1
  show List.filter _ [p] = _
  rw [List.filter_cons, if_pos (by rw [beq_iff_eq]; exact h)]
  rfl
 ·
  rw [if_neg h]
  show _ ++ List.filter _ [p] = _
  rw [List.filter_cons, if_neg (by rw [beq_iff_eq]; exact h)]
  exact List.append_nil _
theorem flow_is (ho : OkPks ps) {k : Nat} {p : Pk} (hp : ps[k]? = some p) (f : Nat) : p.flow = (f : Int) ↔ flowOf ps k = f := by
 have := okPk_true (ho.each _ p hp).1
 rw [flowOf_get hp]
 omega
theorem own_num (ho : OkPks ps) (f : Nat) : ∀ k, k ≤ ps.length → (ownTo ps f k).length = (numTo ps f k).length ∧ ∀ (r i : Nat), (numTo ps f k)[r]? = some i → i < k ∧ flowOf ps i = f ∧ rankIn ps i = r ∧ (ownTo ps f k)[r]? = ps[i]?
 | 0, _ => ⟨rfl, fun r i h => by simp [numTo] at h⟩
 | k + 1, hk => by
  obtain ⟨h1, h2⟩ := own_num ho f k (by omega)
  have e : ps[k]? = some ps[k] := List.getElem?_eq_getElem (by omega)
  rw [numTo_succ, ownTo_succ e]
  by_cases h : flowOf ps k = f
  ·
   rw [if_pos h, if_pos ((flow_is ho e f).2 h)]
   refine ⟨by simp [h1], fun r i hi => ?_⟩
   rcases Nat.lt_or_ge r (numTo ps f k).length with hr | hr
   ·
    rw [List.getElem?_append_left hr] at hi
    obtain ⟨g1, g2, g3, g4⟩ := h2 r i hi
    exact ⟨by omega, g2, g3, by rw [List.getElem?_append_left (by omega)]; exact g4⟩
   ·
    rw [List.getElem?_append_right hr] at hi
    have hr0 : r = (numTo ps f k).length := by
     rcases Nat.eq_zero_or_pos (r - (numTo ps f k).length) with h' | h'
     · omega
     · rw [List.getElem?_eq_none (by simp; omega)] at hi; cases hi
    subst hr0
    rw [Nat.sub_self] at hi
    obtain rfl : k = i := by simpa using hi
    refine ⟨by omega, h, by unfold rankIn; rw [h], ?_⟩
    rw [List.getElem?_append_right (by omega), h1, Nat.sub_self, e]
    rfl
  ·
   rw [if_neg h, if_neg (fun h' => h ((flow_is ho e f).1 h'))]
   exact ⟨h1, fun r i hi => by obtain ⟨g1, g2⟩ := h2 r i hi; exact ⟨by omega, g2⟩⟩
theorem num_rises (f k : Nat) : (numTo ps f k).Pairwise (· < ·) := List.pairwise_lt_range.filter _
theorem num_mem {f k i : Nat} : i ∈ numTo ps f k ↔ i < k ∧ flowOf ps i = f := by
 unfold numTo
 rw [List.mem_filter, List.mem_range, beq_iff_eq]
theorem num_at (ho : OkPks ps) {i k : Nat} (hi : i < k) (hk : k ≤ ps.length) : (numTo ps (flowOf ps i) k)[rankIn ps i]? = some i := by
 have hm : i ∈ numTo ps (flowOf ps i) k := num_mem.2 ⟨hi, rfl⟩
 obtain ⟨r, hr, e⟩ := List.getElem_of_mem hm
 have h2 : (numTo ps (flowOf ps i) k)[r]? = some i := by rw [List.getElem?_eq_getElem hr, e]
 have := ((own_num ho (flowOf ps i) k hk).2 r i h2).2.2.1
 rw [this]
 exact h2
theorem own_ok (ho : OkPks ps) (f : Nat) : ∀ k, k ≤ ps.length → OkPks (ownTo ps f k) ∧ ahead (ownTo ps f k) (ownTo ps f k).length ≤ ahead ps k ∧ (ownTo ps f k).length ≤ k
 | 0, _ => ⟨okPks_none, Int.le_refl _, Nat.le_refl _⟩
 | k + 1, hk => by
  obtain ⟨h1, h2, h3⟩ := own_ok ho f k (by omega)
  have e : ps[k]? = some ps[k] := List.getElem?_eq_getElem (by omega)
  obtain ⟨o1, o2⟩ := ho.each k _ e
  have ea : ahead ps (k + 1) = ps[k].tick := by simp only [ahead, e]
  have hfew := ho.few
  rw [ownTo_succ e, ea]
  by_cases h : ps[k].flow = (f : Int)
  ·
   rw [if_pos h]
   refine ⟨(okPks_snoc _ _).2 ⟨h1, by omega, o1, by omega⟩, ?_, by simp; omega⟩
   rw [List.length_append, List.length_cons, List.length_nil, ahead_snoc_end]
   exact Int.le_refl _
  ·
   rw [if_neg h]
   exact ⟨h1, by omega, by omega⟩
end
end Go.Proofs.YtibhkijaafdkoaaGreatDoor

namespace Go.Proofs.YtibhkijaafdkoaaGreatDoor
def shapedFl (cs : Nat → List (Int × Int)) (ps : List Pk) (f : Nat) : Option (List Pk) := if cs f = [] then some (ownTo ps f ps.length) else (shape (cs f) (ownTo ps f ps.length)).map Sh.out
def Shaped (cs : Nat → List (Int × Int)) (ps : List Pk) (at_ : Nat → Int) : Prop := ∀ f, f < 8 → ∃ out, shapedFl cs ps f = some out ∧ ∀ (r i : Nat), (numTo ps f ps.length)[r]? = some i → at_ i = tickOf out r
def CurvesOk (cs : Nat → List (Int × Int)) : Prop := ∀ f, f < 8 → cs f = [] ∨ okCurve (cs f)
def gatePk (ps : List Pk) (at_ : Nat → Int) (i : Nat) : Pk := match ps[i]? with | some p => ⟨p.flow, p.size, at_ i⟩ | none => ⟨0, 1, 0⟩
def gatePks (ps : List Pk) (at_ : Nat → Int) (L : List Nat) : List Pk := L.map (gatePk ps at_)
theorem gatePk_get {ps : List Pk} {at_ : Nat → Int} {i : Nat} {p : Pk} (h : ps[i]? = some p) : gatePk ps at_ i = ⟨p.flow, p.size, at_ i⟩ := by simp [gatePk, h]
section
variable {cs : Nat → List (Int × Int)} {ps : List Pk} {at_ : Nat → Int} {L : List Nat}
structure OutOf (own out : List Pk) : Prop where
 len : out.length = own.length
 each : ∀ (i : Nat) p q, own[i]? = some p → out[i]? = some q → q.flow = p.flow ∧ q.size = p.size ∧ p.tick ≤ q.tick
 ok : OkPks out
theorem shapedFl_out (ho : OkPks ps) (hc : CurvesOk cs) {f : Nat} (hf : f < 8) {out : List Pk} (h : shapedFl cs ps f = some out) : OutOf (ownTo ps f ps.length) out ∧ (cs f ≠ [] → fitsB (cs f) out = true) := by
 have hown := (own_ok ho f ps.length (Nat.le_refl _)).1
 unfold shapedFl at h
 by_cases he : cs f = []
 ·
  rw [if_pos he] at h
  obtain rfl := Option.some.inj h
  refine ⟨⟨rfl, fun i p q hp hq => ?_, hown⟩, fun hn => absurd he hn⟩
  rw [hp] at hq
  obtain rfl := Option.some.inj hq
  exact ⟨rfl, rfl, Int.le_refl _⟩
 ·
  rw [if_neg he] at h
  have hok : okCurve (cs f) := by
   rcases hc f hf with h' | h'
   · exact absurd h' he
   · exact h'
  cases hs : shape (cs f) (ownTo ps f ps.length) with
  | none => rw [hs] at h; cases h
  | some s =>
   rw [hs] at h
   obtain rfl := Option.some.inj h
   have g := shape_good hok _ s hown hs
   exact ⟨⟨g.len, g.each, g.okOut⟩, fun _ => g.fits⟩
theorem flow_range (ho : OkPks ps) {i : Nat} (hi : i < ps.length) : flowOf ps i < 8 := by
 have e : ps[i]? = some ps[i] := List.getElem?_eq_getElem hi
 have := okPk_true (ho.each _ _ e).1
 rw [flowOf_get e]
 omega
theorem Shaped.at (ho : OkPks ps) (hc : CurvesOk cs) (h : Shaped cs ps at_) {i : Nat} (hi : i < ps.length) : ∃ out q p, shapedFl cs ps (flowOf ps i) = some out ∧ OutOf (ownTo ps (flowOf ps i) ps.length) out ∧ ps[i]? = some p ∧ out[rankIn ps i]? = some q ∧ q = ⟨p.flow, p.size, at_ i⟩ ∧ p.tick ≤ at_ i ∧ okPk q = true := by
 have hf := flow_range ho hi
 obtain ⟨out, h1, h2⟩ := h _ hf
 have ho' := (shapedFl_out ho hc hf h1).1
 have hat := num_at ho hi (Nat.le_refl _)
 have e : ps[i]? = some ps[i] := List.getElem?_eq_getElem hi
 have hn := own_num ho (flowOf ps i) ps.length (Nat.le_refl _)
 have hown := (hn.2 _ _ hat).2.2.2
 rw [e] at hown
 have hlt : rankIn ps i < out.length := by
  rw [ho'.len]
  exact (List.getElem?_eq_some_iff.1 hown).1
 have eq : out[rankIn ps i]? = some out[rankIn ps i] := List.getElem?_eq_getElem hlt
 have hx := ho'.each _ _ _ hown eq
 have ht := h2 _ _ hat
 rw [tickOf_get eq] at ht
 refine ⟨out, _, ps[i], h1, ho', e, eq, ?_, by omega, (ho'.ok.each _ _ eq).1⟩
 obtain ⟨x1, x2, x3⟩ := hx
 rw [ht, ← x1, ← x2]
theorem Shaped.mono (ho : OkPks ps) (hc : CurvesOk cs) (h : Shaped cs ps at_) {i j : Nat} (hij : i < j) (hj : j < ps.length) (hf : flowOf ps i = flowOf ps j) : at_ i ≤ at_ j := by
 have hi : i < ps.length := by omega
 obtain ⟨out, h1, h2⟩ := h _ (flow_range ho hj)
 have ho' := (shapedFl_out ho hc (flow_range ho hj) h1).1
 have a1 := num_at ho hi (Nat.le_refl _)
 have a2 := num_at ho hj (Nat.le_refl _)
 rw [hf] at a1
 rw [h2 _ _ a1, h2 _ _ a2]
 have r : rankIn ps i ≤ rankIn ps j := by
  rcases Nat.lt_or_ge (rankIn ps j) (rankIn ps i) with h' | h'
  ·
   have hp := List.pairwise_iff_getElem.1 (num_rises (ps := ps) (flowOf ps j) ps.length) _ _ (List.getElem?_eq_some_iff.1 a2).1 (List.getElem?_eq_some_iff.1 a1).1 h'
   have e1 := (List.getElem?_eq_some_iff.1 a1).2
   have e2 := (List.getElem?_eq_some_iff.1 a2).2
   omega
  · exact h'
 refine ticks_le ho'.ok r ?_
 have hn := own_num ho (flowOf ps j) ps.length (Nat.le_refl _)
 rw [ho'.len, hn.1]
 exact (List.getElem?_eq_some_iff.1 a2).1
theorem Shaped.ok (ho : OkPks ps) (hc : CurvesOk cs) (h : Shaped cs ps at_) (hL : IsOrder at_ ps.length L) : OkPks (gatePks ps at_ L) := by
 have hlen := hL.length
 have key : ∀ (r : Nat) (hr : r < L.length), (gatePks ps at_ L)[r]? = some (gatePk ps at_ L[r]) ∧ okPk (gatePk ps at_ L[r]) = true ∧ (gatePk ps at_ L[r]).tick = at_ L[r] := fun r hr => by
  have hin := (hL.mem _).1 (List.getElem_mem hr)
  obtain ⟨out, q, p, -, -, h3, -, h5, -, h7⟩ := h.at ho hc hin
  refine ⟨by simp [gatePks, hr], ?_, ?_⟩
  · rw [gatePk_get h3, ← h5]; exact h7
  · rw [gatePk_get h3]
 refine ⟨by simp [gatePks]; have := ho.few; omega, fun r p hp => ?_⟩
 have hr : r < L.length := by
  have := (List.getElem?_eq_some_iff.1 hp).1
  simpa [gatePks] using this
 obtain ⟨k1, k2, k3⟩ := key r hr
 rw [k1] at hp
 obtain rfl := Option.some.inj hp
 refine ⟨k2, ?_⟩
 rw [k3]
 cases r with
 | zero =>
  have := okPk_true k2
  show 0 ≤ _
  omega
 | succ r =>
  obtain ⟨m1, -, m3⟩ := key r (by omega)
  simp only [ahead, m1]
  rw [m3]
  have := List.pairwise_iff_getElem.1 hL.sorted r (r + 1) (by omega) hr (by omega)
  unfold Ahead at this
  omega
theorem gate_flow (ho : OkPks ps) {i : Nat} (hi : i < ps.length) (f : Nat) : ((gatePk ps at_ i).flow == (f : Int)) = (flowOf ps i == f) := by
 have e : ps[i]? = some ps[i] := List.getElem?_eq_getElem hi
 rw [gatePk_get e]
 have h1 := flow_is ho e f
 simp only
 by_cases h : flowOf ps i = f
 · rw [beq_iff_eq.2 (h1.2 h), beq_iff_eq.2 h]
 · rw [beq_eq_false_iff_ne.2 (fun h' => h (h1.1 h')), beq_eq_false_iff_ne.2 h]
theorem Shaped.own (ho : OkPks ps) (hc : CurvesOk cs) (h : Shaped cs ps at_) (hL : IsOrder at_ ps.length L) {f : Nat} (hf : f < 8) : shapedFl cs ps f = some (ownTo (gatePks ps at_ L) f (gatePks ps at_ L).length) := by
 obtain ⟨out, h1, h2⟩ := h f hf
 have ho' := (shapedFl_out ho hc hf h1).1
 have hn := own_num ho f ps.length (Nat.le_refl _)
 have hin : ∀ a, a ∈ L → a < ps.length := fun a ha => (hL.mem a).1 ha
 have e1 : ownTo (gatePks ps at_ L) f (gatePks ps at_ L).length = (L.filter fun i => flowOf ps i == f).map (gatePk ps at_) := by
  unfold ownTo
  rw [List.take_length]
  unfold gatePks
  rw [List.filter_map]
  congr 1
  exact List.filter_congr fun a ha => gate_flow ho (hin a ha) f
 have e2 : (L.filter fun i => flowOf ps i == f) = numTo ps f ps.length := by
  refine sorted_same (at_ := at_) (hL.sorted.filter _) ?_ (fun j => ?_)
  ·
   refine List.pairwise_iff_getElem.2 fun i j hi hj hij => ?_
   have hlt := List.pairwise_iff_getElem.1 (num_rises (ps := ps) f ps.length) i j hi hj hij
   obtain ⟨m1, m2⟩ := num_mem.1 (List.getElem_mem hi)
   obtain ⟨m3, m4⟩ := num_mem.1 (List.getElem_mem hj)
   have := h.mono ho hc hlt m3 (by rw [m2, m4])
   unfold Ahead
   omega
  · rw [List.mem_filter, hL.mem, beq_iff_eq, num_mem]
 have e3 : (numTo ps f ps.length).map (gatePk ps at_) = out := by
  apply List.ext_getElem?
  intro r
  rw [List.getElem?_map]
  cases hr : (numTo ps f ps.length)[r]? with
  | none =>
   have h5 : (numTo ps f ps.length).length ≤ r := List.getElem?_eq_none_iff.1 hr
   rw [List.getElem?_eq_none (by rw [ho'.len, hn.1]; exact h5)]
   rfl
  | some i =>
   obtain ⟨g1, g2, g3, -⟩ := hn.2 r i hr
   obtain ⟨out', q, p, k1, -, k3, k4, k5, -, -⟩ := h.at ho hc g1
   rw [g2, h1] at k1
   obtain rfl := Option.some.inj k1
   rw [g3] at k4
   rw [k4, k5]
   show some (gatePk ps at_ i) = _
   rw [gatePk_get k3]
 rw [h1, e1, e2, e3]
end
theorem open_gate {ps : List Pk} (ho : OkPks ps) : Shaped (fun _ => []) ps (tickOf ps) ∧ IsOrder (tickOf ps) ps.length (List.range ps.length) ∧ gatePks ps (tickOf ps) (List.range ps.length) = ps := by
 refine ⟨fun f _ => ⟨_, if_pos rfl, fun r i hr => ?_⟩, IsOrder.range fun i j hij hj => ticks_le ho (Nat.le_of_lt hij) hj, ?_⟩
 ·
  have := ((own_num ho f ps.length (Nat.le_refl _)).2 r i hr).2.2.2
  unfold tickOf
  rw [this]
 ·
  apply List.ext_getElem?
  intro r
  unfold gatePks
  rw [List.getElem?_map]
  rcases Nat.lt_or_ge r ps.length with h | h
  ·
   have e : ps[r]? = some ps[r] := List.getElem?_eq_getElem h
   rw [List.getElem?_eq_getElem (by simpa using h), List.getElem_range, Option.map_some, gatePk_get e, e, tickOf_get e]
  ·
   rw [List.getElem?_eq_none (by simpa using h), List.getElem?_eq_none h]
   rfl
end Go.Proofs.YtibhkijaafdkoaaGreatDoor
