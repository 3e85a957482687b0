/- Own facts, put together: no statement of its own. -/
import Derived.Test.YtibhkijaafdkoaaGreatDoorA05
import Derived.Test.YtibhkijaafdkoaaGreatDoorA02
import Derived.Test.YtibhkijaafdkoaaGreatDoorA04
namespace Go.Proofs.YtibhkijaafdkoaaGreatDoor
section
variable (ps : List Pk)
def ownTo (f k : Nat) : List Pk := (ps.take k).filter fun p => p.flow == (f : Int)
def numTo (f k : Nat) : List Nat := (List.range k).filter fun i => flowOf ps i == f
def rankIn (i : Nat) : Nat := (numTo ps (flowOf ps i) i).length
variable {ps}
theorem numTo_succ (f k : Nat) : numTo ps f (k + 1) = if flowOf ps k = f then numTo ps f k ++ [k] else numTo ps f k := by
 unfold numTo
 rw [List.range_succ, List.filter_append]
 by_cases h : flowOf ps k = f
 ·
  rw [if_pos h, List.filter_cons, if_pos (by rw [beq_iff_eq]; exact h)]
  rfl
 ·
  rw [if_neg h, List.filter_cons, if_neg (by rw [beq_iff_eq]; exact h)]
  exact List.append_nil _
theorem ownTo_succ {f k : Nat} {p : Pk} (hp : ps[k]? = some p) : ownTo ps f (k + 1) = if p.flow = (f : Int) then ownTo ps f k ++ [p] else ownTo ps f k := by
 unfold ownTo
 rw [List.take_add_one, hp, List.filter_append]
 by_cases h : p.flow = (f : Int)
 ·
  rw [if_pos h]
  congr 1
  show List.filter _ [p] = _
  rw [List.filter_cons, if_pos (by rw [beq_iff_eq]; exact h)]
  rfl
 ·
  rw [if_neg h]
  show _ ++ List.filter _ [p] = _
  rw [List.filter_cons, if_neg (by rw [beq_iff_eq]; exact h)]
  exact List.append_nil _
theorem flow_is (ho : OkPks ps) {k : Nat} {p : Pk} (hp : ps[k]? = some p) (f : Nat) : p.flow = (f : Int) ↔ flowOf ps k = f := by
 have := okPk_true (ho.each _ p hp).1
 rw [flowOf_get hp]
 omega
theorem own_num (ho : OkPks ps) (f : Nat) : ∀ k, k ≤ ps.length → (ownTo ps f k).length = (numTo ps f k).length ∧ ∀ (r i : Nat), (numTo ps f k)[r]? = some i → i < k ∧ flowOf ps i = f ∧ rankIn ps i = r ∧ (ownTo ps f k)[r]? = ps[i]?
 | 0, _ => ⟨rfl, fun r i h => by simp [numTo] at h⟩
 | k + 1, hk => by
  obtain ⟨h1, h2⟩ := own_num ho f k (by omega)
  have e : ps[k]? = some ps[k] := List.getElem?_eq_getElem (by omega)
  rw [numTo_succ, ownTo_succ e]
  by_cases h : flowOf ps k = f
  ·
   rw [if_pos h, if_pos ((flow_is ho e f).2 h)]
   refine ⟨by simp [h1], fun r i hi => ?_⟩
   rcases Nat.lt_or_ge r (numTo ps f k).length with hr | hr
   ·
    rw [List.getElem?_append_left hr] at hi
    obtain ⟨g1, g2, g3, g4⟩ := h2 r i hi
    exact ⟨by omega, g2, g3, by rw [List.getElem?_append_left (by omega)]; exact g4⟩
   ·
    rw [List.getElem?_append_right hr] at hi
    have hr0 : r = (numTo ps f k).length := by
     rcases Nat.eq_zero_or_pos (r - (numTo ps f k).length) with h' | h'
     · omega
     · rw [List.getElem?_eq_none (by simp; omega)] at hi; cases hi
    subst hr0
    rw [Nat.sub_self] at hi
    obtain rfl : k = i := by simpa using hi
    refine ⟨by omega, h, by unfold rankIn; rw [h], ?_⟩
    rw [List.getElem?_append_right (by omega), h1, Nat.sub_self, e]
    rfl
  ·
   rw [if_neg h, if_neg (fun h' => h ((flow_is ho e f).1 h'))]
   exact ⟨h1, fun r i hi => by obtain ⟨g1, g2⟩ := h2 r i hi; exact ⟨by omega, g2⟩⟩
theorem num_rises (f k : Nat) : (numTo ps f k).Pairwise (· < ·) := List.pairwise_lt_range.filter _
theorem num_mem {f k i : Nat} : i ∈ numTo ps f k ↔ i < k ∧ flowOf ps i = f := by
 unfold numTo
 rw [List.mem_filter, List.mem_range, beq_iff_eq]
theorem num_at (ho : OkPks ps) {i k : Nat} (hi : i < k) (hk : k ≤ ps.length) : (numTo ps (flowOf ps i) k)[rankIn ps i]? = some i := by
 have hm : i ∈ numTo ps (flowOf ps i) k := num_mem.2 ⟨hi, rfl⟩
 obtain ⟨r, hr, e⟩ := List.getElem_of_mem hm
 have h2 : (numTo ps (flowOf ps i) k)[r]? = some i := by rw [List.getElem?_eq_getElem hr, e]
 have := ((own_num ho (flowOf ps i) k hk).2 r i h2).2.2.1
 rw [this]
 exact h2
theorem own_ok (ho : OkPks ps) (f : Nat) : ∀ k, k ≤ ps.length → OkPks (ownTo ps f k) ∧ ahead (ownTo ps f k) (ownTo ps f k).length ≤ ahead ps k ∧ (ownTo ps f k).length ≤ k
 | 0, _ => ⟨okPks_none, Int.le_refl _, Nat.le_refl _⟩
 | k + 1, hk => by
  obtain ⟨h1, h2, h3⟩ := own_ok ho f k (by omega)
  have e : ps[k]? = some ps[k] := List.getElem?_eq_getElem (by omega)
  obtain ⟨o1, o2⟩ := ho.each k _ e
  have ea : ahead ps (k + 1) = ps[k].tick := by simp only [ahead, e]
  have hfew := ho.few
  rw [ownTo_succ e, ea]
  by_cases h : ps[k].flow = (f : Int)
  ·
   rw [if_pos h]
   refine ⟨(okPks_snoc _ _).2 ⟨h1, by omega, o1, by omega⟩, ?_, by simp; omega⟩
   rw [List.length_append, List.length_cons, List.length_nil, ahead_snoc_end]
   exact Int.le_refl _
  ·
   rw [if_neg h]
   exact ⟨h1, by omega, by omega⟩
end
end Go.Proofs.YtibhkijaafdkoaaGreatDoor

namespace Go.Proofs.YtibhkijaafdkoaaGreatDoor
def shapedFl (cs : Nat → List (Int × Int)) (ps : List Pk) (f : Nat) : Option (List Pk) := if cs f = [] then some (ownTo ps f ps.length) else (shape (cs f) (ownTo ps f ps.length)).map Sh.out
def Shaped (cs : Nat → List (Int × Int)) (ps : List Pk) (at_ : Nat → Int) : Prop := ∀ f, f < 8 → ∃ out, shapedFl cs ps f = some out ∧ ∀ (r i : Nat), (numTo ps f ps.length)[r]? = some i → at_ i = tickOf out r
def CurvesOk (cs : Nat → List (Int × Int)) : Prop := ∀ f, f < 8 → cs f = [] ∨ okCurve (cs f)
def gatePk (ps : List Pk) (at_ : Nat → Int) (i : Nat) : Pk := match ps[i]? with | some p => ⟨p.flow, p.size, at_ i⟩ | none => ⟨0, 1, 0⟩
def gatePks (ps : List Pk) (at_ : Nat → Int) (L : List Nat) : List Pk := L.map (gatePk ps at_)
theorem gatePk_get {ps : List Pk} {at_ : Nat → Int} {i : Nat} {p : Pk} (h : ps[i]? = some p) : gatePk ps at_ i = ⟨p.flow, p.size, at_ i⟩ := by simp [gatePk, h]
section
variable {cs : Nat → List (Int × Int)} {ps : List Pk} {at_ : Nat → Int} {L : List Nat}
structure OutOf (own out : List Pk) : Prop where
 len : out.length = own.length
 each : ∀ (i : Nat) p q, own[i]? = some p → out[i]? = some q → q.flow = p.flow ∧ q.size = p.size ∧ p.tick ≤ q.tick
 ok : OkPks out
theorem shapedFl_out (ho : OkPks ps) (hc : CurvesOk cs) {f : Nat} (hf : f < 8) {out : List Pk} (h : shapedFl cs ps f = some out) : OutOf (ownTo ps f ps.length) out ∧ (cs f ≠ [] → fitsB (cs f) out = true) := by
 have hown := (own_ok ho f ps.length (Nat.le_refl _)).1
 unfold shapedFl at h
 by_cases he : cs f = []
 ·
  rw [if_pos he] at h
  obtain rfl := Option.some.inj h
  refine ⟨⟨rfl, fun i p q hp hq => ?_, hown⟩, fun hn => absurd he hn⟩
  rw [hp] at hq
  obtain rfl := Option.some.inj hq
  exact ⟨rfl, rfl, Int.le_refl _⟩
 ·
  rw [if_neg he] at h
  have hok : okCurve (cs f) := by
   rcases hc f hf with h' | h'
   · exact absurd h' he
   · exact h'
  cases hs : shape (cs f) (ownTo ps f ps.length) with
  | none => rw [hs] at h; cases h
  | some s =>
   rw [hs] at h
   obtain rfl := Option.some.inj h
   have g := shape_good hok _ s hown hs
   exact ⟨⟨g.len, g.each, g.okOut⟩, fun _ => g.fits⟩
theorem flow_range (ho : OkPks ps) {i : Nat} (hi : i < ps.length) : flowOf ps i < 8 := by
 have e : ps[i]? = some ps[i] := List.getElem?_eq_getElem hi
 have := okPk_true (ho.each _ _ e).1
 rw [flowOf_get e]
 omega
theorem Shaped.at (ho : OkPks ps) (hc : CurvesOk cs) (h : Shaped cs ps at_) {i : Nat} (hi : i < ps.length) : ∃ out q p, shapedFl cs ps (flowOf ps i) = some out ∧ OutOf (ownTo ps (flowOf ps i) ps.length) out ∧ ps[i]? = some p ∧ out[rankIn ps i]? = some q ∧ q = ⟨p.flow, p.size, at_ i⟩ ∧ p.tick ≤ at_ i ∧ okPk q = true := by
 have hf := flow_range ho hi
 obtain ⟨out, h1, h2⟩ := h _ hf
 have ho' := (shapedFl_out ho hc hf h1).1
 have hat := num_at ho hi (Nat.le_refl _)
 have e : ps[i]? = some ps[i] := List.getElem?_eq_getElem hi
 have hn := own_num ho (flowOf ps i) ps.length (Nat.le_refl _)
 have hown := (hn.2 _ _ hat).2.2.2
 rw [e] at hown
 have hlt : rankIn ps i < out.length := by
  rw [ho'.len]
  exact (List.getElem?_eq_some_iff.1 hown).1
 have eq : out[rankIn ps i]? = some out[rankIn ps i] := List.getElem?_eq_getElem hlt
 have hx := ho'.each _ _ _ hown eq
 have ht := h2 _ _ hat
 rw [tickOf_get eq] at ht
 refine ⟨out, _, ps[i], h1, ho', e, eq, ?_, by omega, (ho'.ok.each _ _ eq).1⟩
 obtain ⟨x1, x2, x3⟩ := hx
 rw [ht, ← x1, ← x2]
theorem Shaped.mono (ho : OkPks ps) (hc : CurvesOk cs) (h : Shaped cs ps at_) {i j : Nat} (hij : i < j) (hj : j < ps.length) (hf : flowOf ps i = flowOf ps j) : at_ i ≤ at_ j := by
 have hi : i < ps.length := by omega
 obtain ⟨out, h1, h2⟩ := h _ (flow_range ho hj)
 have ho' := (shapedFl_out ho hc (flow_range ho hj) h1).1
 have a1 := num_at ho hi (Nat.le_refl _)
 have a2 := num_at ho hj (Nat.le_refl _)
 rw [hf] at a1
 rw [h2 _ _ a1, h2 _ _ a2]
 have r : rankIn ps i ≤ rankIn ps j := by
  rcases Nat.lt_or_ge (rankIn ps j) (rankIn ps i) with h' | h'
  ·
   have hp := List.pairwise_iff_getElem.1 (num_rises (ps := ps) (flowOf ps j) ps.length) _ _ (List.getElem?_eq_some_iff.1 a2).1 (List.getElem?_eq_some_iff.1 a1).1 h'
   have e1 := (List.getElem?_eq_some_iff.1 a1).2
   have e2 := (List.getElem?_eq_some_iff.1 a2).2
   omega
  · exact h'
 refine ticks_le ho'.ok r ?_
 have hn := own_num ho (flowOf ps j) ps.length (Nat.le_refl _)
 rw [ho'.len, hn.1]
 exact (List.getElem?_eq_some_iff.1 a2).1
theorem Shaped.ok (ho : OkPks ps) (hc : CurvesOk cs) (h : Shaped cs ps at_) (hL : IsOrder at_ ps.length L) : OkPks (gatePks ps at_ L) := by
 have hlen := hL.length
 have key : ∀ (r : Nat) (hr : r < L.length), (gatePks ps at_ L)[r]? = some (gatePk ps at_ L[r]) ∧ okPk (gatePk ps at_ L[r]) = true ∧ (gatePk ps at_ L[r]).tick = at_ L[r] := fun r hr => by
  have hin := (hL.mem _).1 (List.getElem_mem hr)
  obtain ⟨out, q, p, -, -, h3, -, h5, -, h7⟩ := h.at ho hc hin
  refine ⟨by simp [gatePks, hr], ?_, ?_⟩
  · rw [gatePk_get h3, ← h5]; exact h7
  · rw [gatePk_get h3]
 refine ⟨by simp [gatePks]; have := ho.few; omega, fun r p hp => ?_⟩
 have hr : r < L.length := by
  have := (List.getElem?_eq_some_iff.1 hp).1
  simpa [gatePks] using this
 obtain ⟨k1, k2, k3⟩ := key r hr
 rw [k1] at hp
 obtain rfl := Option.some.inj hp
 refine ⟨k2, ?_⟩
 rw [k3]
 cases r with
 | zero =>
  have := okPk_true k2
  show 0 ≤ _
  omega
 | succ r =>
  obtain ⟨m1, -, m3⟩ := key r (by omega)
  simp only [ahead, m1]
  rw [m3]
  have := List.pairwise_iff_getElem.1 hL.sorted r (r + 1) (by omega) hr (by omega)
  unfold Ahead at this
  omega
theorem gate_flow (ho : OkPks ps) {i : Nat} (hi : i < ps.length) (f : Nat) : ((gatePk ps at_ i).flow == (f : Int)) = (flowOf ps i == f) := by
 have e : ps[i]? = some ps[i] := List.getElem?_eq_getElem hi
 rw [gatePk_get e]
 have h1 := flow_is ho e f
 simp only
 by_cases h : flowOf ps i = f
 · rw [beq_iff_eq.2 (h1.2 h), beq_iff_eq.2 h]
 · rw [beq_eq_false_iff_ne.2 (fun h' => h (h1.1 h')), beq_eq_false_iff_ne.2 h]
theorem Shaped.own (ho : OkPks ps) (hc : CurvesOk cs) (h : Shaped cs ps at_) (hL : IsOrder at_ ps.length L) {f : Nat} (hf : f < 8) : shapedFl cs ps f = some (ownTo (gatePks ps at_ L) f (gatePks ps at_ L).length) := by
 obtain ⟨out, h1, h2⟩ := h f hf
 have ho' := (shapedFl_out ho hc hf h1).1
 have hn := own_num ho f ps.length (Nat.le_refl _)
 have hin : ∀ a, a ∈ L → a < ps.length := fun a ha => (hL.mem a).1 ha
 have e1 : ownTo (gatePks ps at_ L) f (gatePks ps at_ L).length = (L.filter fun i => flowOf ps i == f).map (gatePk ps at_) := by
  unfold ownTo
  rw [List.take_length]
  unfold gatePks
  rw [List.filter_map]
  congr 1
  exact List.filter_congr fun a ha => gate_flow ho (hin a ha) f
 have e2 : (L.filter fun i => flowOf ps i == f) = numTo ps f ps.length := by
  refine sorted_same (at_ := at_) (hL.sorted.filter _) ?_ (fun j => ?_)
  ·
   refine List.pairwise_iff_getElem.2 fun i j hi hj hij => ?_
   have hlt := List.pairwise_iff_getElem.1 (num_rises (ps := ps) f ps.length) i j hi hj hij
   obtain ⟨m1, m2⟩ := num_mem.1 (List.getElem_mem hi)
   obtain ⟨m3, m4⟩ := num_mem.1 (List.getElem_mem hj)
   have := h.mono ho hc hlt m3 (by rw [m2, m4])
   unfold Ahead
   omega
  · rw [List.mem_filter, hL.mem, beq_iff_eq, num_mem]
 have e3 : (numTo ps f ps.length).map (gatePk ps at_) = out := by
  apply List.ext_getElem?
  intro r
  rw [List.getElem?_map]
  cases hr : (numTo ps f ps.length)[r]? with
  | none =>
   have h5 : (numTo ps f ps.length).length ≤ r := List.getElem?_eq_none_iff.1 hr
   rw [List.getElem?_eq_none (by rw [ho'.len, hn.1]; exact h5)]
   rfl
  | some i =>
   obtain ⟨g1, g2, g3, -⟩ := hn.2 r i hr
   obtain ⟨out', q, p, k1, -, k3, k4, k5, -, -⟩ := h.at ho hc g1
   rw [g2, h1] at k1
   obtain rfl := Option.some.inj k1
   rw [g3] at k4
   rw [k4, k5]
   show some (gatePk ps at_ i) = _
   rw [gatePk_get k3]
 rw [h1, e1, e2, e3]
end
end Go.Proofs.YtibhkijaafdkoaaGreatDoor

namespace Go.Proofs.YtibhkijaafdkoaaGreatDoor
def sum8 (F : Int → Int) : Int := F 0 + F 1 + F 2 + F 3 + F 4 + F 5 + F 6 + F 7
theorem sum8_put {F G : Int → Int} {f d : Int} (h0 : 0 ≤ f) (h8 : f < 8) (hf : G f = F f + d) (ho : ∀ g, g ≠ f → G g = F g) : sum8 G = sum8 F + d := by
 unfold sum8
 rcases (show f = 0 ∨ f = 1 ∨ f = 2 ∨ f = 3 ∨ f = 4 ∨ f = 5 ∨ f = 6 ∨ f = 7 by omega) with rfl | rfl | rfl | rfl | rfl | rfl | rfl | rfl
 · rw [hf, ho 1 (by decide), ho 2 (by decide), ho 3 (by decide), ho 4 (by decide), ho 5 (by decide), ho 6 (by decide), ho 7 (by decide)]; omega
 · rw [hf, ho 0 (by decide), ho 2 (by decide), ho 3 (by decide), ho 4 (by decide), ho 5 (by decide), ho 6 (by decide), ho 7 (by decide)]; omega
 · rw [hf, ho 0 (by decide), ho 1 (by decide), ho 3 (by decide), ho 4 (by decide), ho 5 (by decide), ho 6 (by decide), ho 7 (by decide)]; omega
 · rw [hf, ho 0 (by decide), ho 1 (by decide), ho 2 (by decide), ho 4 (by decide), ho 5 (by decide), ho 6 (by decide), ho 7 (by decide)]; omega
 · rw [hf, ho 0 (by decide), ho 1 (by decide), ho 2 (by decide), ho 3 (by decide), ho 5 (by decide), ho 6 (by decide), ho 7 (by decide)]; omega
 · rw [hf, ho 0 (by decide), ho 1 (by decide), ho 2 (by decide), ho 3 (by decide), ho 4 (by decide), ho 6 (by decide), ho 7 (by decide)]; omega
 · rw [hf, ho 0 (by decide), ho 1 (by decide), ho 2 (by decide), ho 3 (by decide), ho 4 (by decide), ho 5 (by decide), ho 7 (by decide)]; omega
 · rw [hf, ho 0 (by decide), ho 1 (by decide), ho 2 (by decide), ho 3 (by decide), ho 4 (by decide), ho 5 (by decide), ho 6 (by decide)]; omega
section
variable {per : Int} {ps : List Pk} {l : List Sn}
theorem Conv.named (ho : OkPks ps) (hper : 1 ≤ per) (h : Conv per ps l) {k : Nat} {x : Sn} (hx : l[k]? = some x) : ∃ (j : Nat) (q : Pk), x.num = j ∧ ps[j]? = some q ∧ q.tick + 1 ≤ x.fin ∧ 0 ≤ q.tick ∧ 1 ≤ q.size ∧ 0 ≤ q.flow ∧ q.flow < 8 := by
 obtain ⟨t, b, -, hu, hc, e⟩ := h k x hx
 obtain ⟨q, eq⟩ : ∃ q, ps[b]? = some q := ⟨_, List.getElem?_eq_getElem hu.1⟩
 have hok := okPk_true (ho.each _ _ eq).1
 rw [tickOf_get eq] at hc
 refine ⟨b, q, by rw [e], eq, ?_, by omega, by omega, by omega, by omega⟩
 rw [e, bytesOf_get eq]
 have := Int.mul_le_mul_of_nonneg_right hper (show 0 ≤ q.size by omega)
 simp only
 omega
theorem tally_sum (ho : OkPks ps) (hper : 1 ≤ per) (h : Conv per ps l) : ∀ k, k ≤ l.length → sum8 (fun f => (tally ps l f k).bytes) = sumOf (bytesOf ps) (numsOf (l.take k))
 | 0, _ => by simp [tally, sum8, numsOf, sumOf]
 | k + 1, hk => by
  have ih := tally_sum ho hper h k (by omega)
  have hx : l[k]? = some l[k] := List.getElem?_eq_getElem (by omega)
  obtain ⟨j, q, hj, hq, -, -, -, hf0, hf8⟩ := h.named ho hper hx
  have ej : (l[k]).num.toNat = j := by rw [hj]; simp
  rw [nums_take1 hx, sumOf_append, ← ih, ej]
  simp only [sumOf, bytesOf_get hq, Int.add_zero]
  refine sum8_put hf0 hf8 ?_ fun g hg => ?_
  ·
   show (tally ps l q.flow (k + 1)).bytes = _
   rw [tally_succ hx, tlStep_in hj hq rfl]
  ·
   show (tally ps l g (k + 1)).bytes = _
   rw [tally_succ hx, tlStep_out hj hq (fun e => hg e.symm)]
def allBytes (ps : List Pk) : Int := sumOf (bytesOf ps) (List.range ps.length)
theorem bytesOf_low (ho : OkPks ps) (i : Nat) : 0 ≤ bytesOf ps i := by
 unfold bytesOf
 cases hi : ps[i]? with
 | none => exact Int.le_refl _
 | some p =>
  have := okPk_true (ho.each _ _ hi).1
  show 0 ≤ p.size
  omega
theorem tally_all (ho : OkPks ps) (hper : 1 ≤ per) (h : Conv per ps l) (hl : l.length = ps.length) : sum8 (fun f => (tally ps l f l.length).bytes) = allBytes ps := by
 rw [tally_sum ho hper h l.length (Nat.le_refl _)]
 obtain ⟨h1, h2, h3, -⟩ := h.nums l.length (Nat.le_refl _)
 refine same_of (bytesOf_low ho) h1 List.nodup_range fun a => ?_
 rw [List.mem_range]
 exact all_of h1 (h2.trans hl) h3 a
theorem tally_in (ho : OkPks ps) (hper : 1 ≤ per) (h : Conv per ps l) (f : Int) : ∀ k, k ≤ l.length → ((tally ps l f k).bytes = 0 ∧ (tally ps l f k).most = 0 ∧ (tally ps l f k).last = 0) ∨ (1 ≤ (tally ps l f k).bytes ∧ 1 ≤ (tally ps l f k).most ∧ (tally ps l f k).most ≤ (tally ps l f k).last)
 | 0, _ => .inl ⟨rfl, rfl, rfl⟩
 | k + 1, hk => by
  have ih := tally_in ho hper h f k (by omega)
  have hx : l[k]? = some l[k] := List.getElem?_eq_getElem (by omega)
  obtain ⟨j, q, hj, hq, h1, h2, h3, -, -⟩ := h.named ho hper hx
  rw [tally_succ hx]
  by_cases hf : q.flow = f
  ·
   rw [tlStep_in hj hq hf]
   right
   simp only
   omega
  ·
   rw [tlStep_out hj hq hf]
   exact ih
end
theorem sumOf_map (f : Nat → Int) (g : Nat → Nat) (L : List Nat) : sumOf f (L.map g) = sumOf (fun i => f (g i)) L := by
 induction L with
 | nil => rfl
 | cons a r ih => simp only [List.map_cons, sumOf, ih]
theorem sumOf_congr {f g : Nat → Int} : ∀ {L : List Nat}, (∀ a, a ∈ L → f a = g a) → sumOf f L = sumOf g L
 | [], _ => rfl
 | a :: r, h => by
  simp only [sumOf]
  rw [h a (List.mem_cons_self ..), sumOf_congr fun b hb => h b (List.mem_cons_of_mem _ hb)]
theorem gate_bytes {ps : List Pk} {at_ : Nat → Int} {L : List Nat} (ho : OkPks ps) (hL : IsOrder at_ ps.length L) : allBytes (gatePks ps at_ L) = allBytes ps := by
 have hlen := hL.length
 have e1 : (gatePks ps at_ L).length = L.length := by simp [gatePks]
 unfold allBytes
 rw [e1]
 have e2 : sumOf (bytesOf (gatePks ps at_ L)) (List.range L.length) = sumOf (bytesOf ps) L := by
  have h1 : L = (List.range L.length).map (fun i => L.getD i 0) := by
   apply List.ext_getElem?
   intro i
   rw [List.getElem?_map]
   rcases Nat.lt_or_ge i L.length with h | h
   · simp [List.getD, h]
   · simp [h]
  conv => rhs; rw [h1]
  rw [sumOf_map]
  refine sumOf_congr fun i hi => ?_
  have hi' := List.mem_range.1 hi
  have hin := (hL.mem _).1 (List.getElem_mem hi')
  have e : ps[L[i]]? = some ps[L[i]] := List.getElem?_eq_getElem hin
  have e3 : (gatePks ps at_ L)[i]? = some (gatePk ps at_ L[i]) := by simp [gatePks, hi']
  rw [bytesOf_get e3, gatePk_get e]
  have e4 : L.getD i 0 = L[i] := by simp [List.getD, hi']
  rw [e4, bytesOf_get e]
 rw [e2]
 exact same_of (bytesOf_low ho) hL.nodup List.nodup_range fun a => by rw [hL.mem, List.mem_range]
end Go.Proofs.YtibhkijaafdkoaaGreatDoor

namespace Go.Proofs.YtibhkijaafdkoaaGreatDoor
def tlAdd (t : Tl) (s d f : Int) : Tl := if t.bytes = 0 then ⟨s, d, f⟩ else ⟨t.bytes + s, max t.most d, max t.last f⟩
def toldStep (ps : List Pk) (f : Int) (t : Tl) (x : Sn) : Tl := match ps[x.num.toNat]? with
 | some q => if q.flow = f then tlAdd t q.size (x.fin - q.tick) x.fin else t
 | none => t
def told (ps : List Pk) (l : List Sn) (f : Int) : Nat → Tl
 | 0 => ⟨0, 0, 0⟩
 | k + 1 => match l[k]? with | some x => toldStep ps f (told ps l f k) x | none => told ps l f k
theorem told_succ {ps : List Pk} {l : List Sn} {f : Int} {k : Nat} {x : Sn} (hx : l[k]? = some x) : told ps l f (k + 1) = toldStep ps f (told ps l f k) x := by simp only [told, hx]
theorem toldStep_in {ps : List Pk} {f : Int} {t : Tl} {x : Sn} {j : Nat} {q : Pk} (hj : x.num = j) (hq : ps[j]? = some q) (hf : q.flow = f) : toldStep ps f t x = tlAdd t q.size (x.fin - q.tick) x.fin := by
 simp only [toldStep, hj, Int.toNat_natCast, hq]
 exact if_pos hf
theorem toldStep_out {ps : List Pk} {f : Int} {t : Tl} {x : Sn} {j : Nat} {q : Pk} (hj : x.num = j) (hq : ps[j]? = some q) (hf : q.flow ≠ f) : toldStep ps f t x = t := by
 simp only [toldStep, hj, Int.toNat_natCast, hq]
 exact if_neg hf
theorem told_is {per : Int} {ps : List Pk} {l : List Sn} (ho : OkPks ps) (hper : 1 ≤ per) (h : Conv per ps l) (f : Int) : ∀ k, k ≤ l.length → told ps l f k = tally ps l f k
 | 0, _ => rfl
 | k + 1, hk => by
  have ih := told_is ho hper h f k (by omega)
  have hx : l[k]? = some l[k] := List.getElem?_eq_getElem (by omega)
  obtain ⟨j, q, hj, hq, h1, h2, h3, -, -⟩ := h.named ho hper hx
  have hin := tally_in ho hper h f k (by omega)
  rw [told_succ hx, tally_succ hx, ih]
  by_cases hf : q.flow = f
  ·
   rw [toldStep_in hj hq hf, tlStep_in hj hq hf]
   unfold tlAdd
   split
   next e =>
    rcases hin with ⟨-, e1, e2⟩ | ⟨e1, -⟩
    · rw [e, e1, e2, show (0 : Int) + q.size = q.size by omega, show max 0 ((l[k]).fin - q.tick) = (l[k]).fin - q.tick by omega, show max 0 (l[k]).fin = (l[k]).fin by omega]
    · omega
   · rfl
  · rw [toldStep_out hj hq hf, tlStep_out hj hq hf]
end Go.Proofs.YtibhkijaafdkoaaGreatDoor
