/- Own facts, put together: no statement of its own. -/
import Derived.Test.YtibhkijaafdkoaaGreatDoorK13
import Derived.Test.YtibhkijaafdkoaaGreatDoorK12
namespace Go.Proofs.YtibhkijaafdkoaaGreatDoor
def shapedFl (cs : Nat → List (Int × Int)) (ps : List Pk) (f : Nat) : Option (List Pk) := if cs f = [] then some (ownTo ps f ps.length) else (shape (cs f) (ownTo ps f ps.length)).map Sh.out
def Shaped (cs : Nat → List (Int × Int)) (ps : List Pk) (at_ : Nat → Int) : Prop := ∀ f, f < 8 → ∃ out, shapedFl cs ps f = some out ∧ ∀ (r i : Nat), (numTo ps f ps.length)[r]? = some i → at_ i = tickOf out r
def CurvesOk (cs : Nat → List (Int × Int)) : Prop := ∀ f, f < 8 → cs f = [] ∨ okCurve (cs f)
def gatePk (ps : List Pk) (at_ : Nat → Int) (i : Nat) : Pk := match ps[i]? with | some p => ⟨p.flow, p.size, at_ i⟩ | none => ⟨0, 1, 0⟩
def gatePks (ps : List Pk) (at_ : Nat → Int) (L : List Nat) : List Pk := L.map (gatePk ps at_)
theorem gatePk_get {ps : List Pk} {at_ : Nat → Int} {i : Nat} {p : Pk} (h : ps[i]? = some p) : gatePk ps at_ i = ⟨p.flow, p.size, at_ i⟩ := by simp [gatePk, h]
section
variable {cs : Nat → List (Int × Int)} {ps : List Pk} {at_ : Nat → Int} {L : List Nat}
structure OutOf (own out : List Pk) : Prop where
 len : out.length = own.length
 each : ∀ (i : Nat) p q, own[i]? = some p → out[i]? = some q → q.flow = p.flow ∧ q.size = p.size ∧ p.tick ≤ q.tick
 ok : OkPks out
theorem shapedFl_out (ho : OkPks ps) (hc : CurvesOk cs) {f : Nat} (hf : f < 8) {out : List Pk} (h : shapedFl cs ps f = some out) : OutOf (ownTo ps f ps.length) out ∧ (cs f ≠ [] → fitsB (cs f) out = true) := by
 have hown := (own_ok ho f ps.length (Nat.le_refl _)).1
 unfold shapedFl at h
 by_cases he : cs f = []
 ·
  rw [if_pos he] at h
  obtain rfl := Option.some.inj h
  refine ⟨⟨rfl, fun i p q hp hq => ?_, hown⟩, fun hn => absurd he hn⟩
  rw [hp] at hq
  obtain rfl := Option.some.inj hq
  exact ⟨rfl, rfl, Int.le_refl _⟩
 ·
  rw [if_neg he] at h
  have hok : okCurve (cs f) := by
   rcases hc f hf with h' | h'
   · exact absurd h' he
   · exact h'
  cases hs : shape (cs f) (ownTo ps f ps.length) with
  | none => rw [hs] at h; cases h
  | some s =>
   rw [hs] at h
   obtain rfl := Option.some.inj h
   have g := shape_good hok _ s hown hs
   exact ⟨⟨g.len, g.each, g.okOut⟩, fun _ => g.fits⟩
theorem flow_range (ho : OkPks ps) {i : Nat} (hi : i < ps.length) : flowOf ps i < 8 := by
 have e : ps[i]? = some ps[i] := List.getElem?_eq_getElem hi
 have := okPk_true (ho.each _ _ e).1
 rw [flowOf_get e]
 omega
theorem Shaped.at (ho : OkPks ps) (hc : CurvesOk cs) (h : Shaped cs ps at_) {i : Nat} (hi : i < ps.length) : ∃ out q p, shapedFl cs ps (flowOf ps i) = some out ∧ OutOf (ownTo ps (flowOf ps i) ps.length) out ∧ ps[i]? = some p ∧ out[rankIn ps i]? = some q ∧ q = ⟨p.flow, p.size, at_ i⟩ ∧ p.tick ≤ at_ i ∧ okPk q = true := by
 have hf := flow_range ho hi
 obtain ⟨out, h1, h2⟩ := h _ hf
 have ho' := (shapedFl_out ho hc hf h1).1
 have hat := num_at ho hi (Nat.le_refl _)
 have e : ps[i]? = some ps[i] := List.getElem?_eq_getElem hi
 have hn := own_num ho (flowOf ps i) ps.length (Nat.le_refl _)
 have hown := (hn.2 _ _ hat).2.2.2
 rw [e] at hown
 have hlt : rankIn ps i < out.length := by
  rw [ho'.len]
  exact (List.getElem?_eq_some_iff.1 hown).1
 have eq : out[rankIn ps i]? = some out[rankIn ps i] := List.getElem?_eq_getElem hlt
 have hx := ho'.each _ _ _ hown eq
 have ht := h2 _ _ hat
 rw [tickOf_get eq] at ht
 refine ⟨out, _, ps[i], h1, ho', e, eq, ?_, by omega, (ho'.ok.each _ _ eq).1⟩
 obtain ⟨x1, x2, x3⟩ := hx
 rw [ht, ← x1, ← x2]
theorem Shaped.mono (ho : OkPks ps) (hc : CurvesOk cs) (h : Shaped cs ps at_) {i j : Nat} (hij : i < j) (hj : j < ps.length) (hf : flowOf ps i = flowOf ps j) : at_ i ≤ at_ j := by
 have hi : i < ps.length := by omega
 obtain ⟨out, h1, h2⟩ := h _ (flow_range ho hj)
 have ho' := (shapedFl_out ho hc (flow_range ho hj) h1).1
 have a1 := num_at ho hi (Nat.le_refl _)
 have a2 := num_at ho hj (Nat.le_refl _)
 rw [hf] at a1
 rw [h2 _ _ a1, h2 _ _ a2]
 have r : rankIn ps i ≤ rankIn ps j := by
  rcases Nat.lt_or_ge (rankIn ps j) (rankIn ps i) with h' | h'
  ·
   have hp := List.pairwise_iff_getElem.1 (num_rises (ps := ps) (flowOf ps j) ps.length) _ _ (List.getElem?_eq_some_iff.1 a2).1 (List.getElem?_eq_some_iff.1 a1).1 h'
   have e1 := (List.getElem?_eq_some_iff.1 a1).2
   have e2 := (List.getElem?_eq_some_iff.1 a2).2
   omega
  · exact h'
 refine ticks_le ho'.ok r ?_
 have hn := own_num ho (flowOf ps j) ps.length (Nat.le_refl _)
 rw [ho'.len, hn.1]
 exact (List.getElem?_eq_some_iff.1 a2).1
theorem Shaped.ok (ho : OkPks ps) (hc : CurvesOk cs) (h : Shaped cs ps at_) (hL : IsOrder at_ ps.length L) : OkPks (gatePks ps at_ L) := by
 have hlen := hL.length
 have key : ∀ (r : Nat) (hr : r < L.length), (gatePks ps at_ L)[r]? = some (gatePk ps at_ L[r]) ∧ okPk (gatePk ps at_ L[r]) = true ∧ (gatePk ps at_ L[r]).tick = at_ L[r] := fun r hr => by
  have hin := (hL.mem _).1 (List.getElem_mem hr)
  obtain ⟨out, q, p, -, -, h3, -, h5, -, h7⟩ := h.at ho hc hin
  refine ⟨by simp [gatePks, hr], ?_, ?_⟩
  · rw [gatePk_get h3, ← h5]; exact h7
  · rw [gatePk_get h3]
 refine ⟨by simp [gatePks]; have := ho.few; omega, fun r p hp => ?_⟩
 have hr : r < L.length := by
  have := (List.getElem?_eq_some_iff.1 hp).1
  simpa [gatePks] using this
 obtain ⟨k1, k2, k3⟩ := key r hr
 rw [k1] at hp
 obtain rfl := Option.some.inj hp
 refine ⟨k2, ?_⟩
 rw [k3]
 cases r with
 | zero =>
  have := okPk_true k2
  show 0 ≤ _
  omega
 | succ r =>
  obtain ⟨m1, -, m3⟩ := key r (by omega)
  simp only [ahead, m1]
  rw [m3]
  have := List.pairwise_iff_getElem.1 hL.sorted r (r + 1) (by omega) hr (by omega)
  unfold Ahead at this
  omega
theorem gate_flow (ho : OkPks ps) {i : Nat} (hi : i < ps.length) (f : Nat) : ((gatePk ps at_ i).flow == (f : Int)) = (flowOf ps i == f) := by
 have e : ps[i]? = some ps[i] := List.getElem?_eq_getElem hi
 rw [gatePk_get e]
 have h1 := flow_is ho e f
 simp only
 by_cases h : flowOf ps i = f
 · rw [beq_iff_eq.2 (h1.2 h), beq_iff_eq.2 h]
 · rw [beq_eq_false_iff_ne.2 (fun h' => h (h1.1 h')), beq_eq_false_iff_ne.2 h]
theorem Shaped.own (ho : OkPks ps) (hc : CurvesOk cs) (h : Shaped cs ps at_) (hL : IsOrder at_ ps.length L) {f : Nat} (hf : f < 8) : shapedFl cs ps f = some (ownTo (gatePks ps at_ L) f (gatePks ps at_ L).length) := by
 obtain ⟨out, h1, h2⟩ := h f hf
 have ho' := (shapedFl_out ho hc hf h1).1
 have hn := own_num ho f ps.length (Nat.le_refl _)
 have hin : ∀ a, a ∈ L → a < ps.length := fun a ha => (hL.mem a).1 ha
 have e1 : ownTo (gatePks ps at_ L) f (gatePks ps at_ L).length = (L.filter fun i => flowOf ps i == f).map (gatePk ps at_) := by
  unfold ownTo
  rw [List.take_length]
  unfold gatePks
  rw [List.filter_map]
  congr 1
  exact List.filter_congr fun a ha => gate_flow ho (hin a ha) f
 have e2 : (L.filter fun i => flowOf ps i == f) = numTo ps f ps.length := by
  refine sorted_same (at_ := at_) (hL.sorted.filter _) ?_ (fun j => ?_)
  ·
   refine List.pairwise_iff_getElem.2 fun i j hi hj hij => ?_
   have hlt := List.pairwise_iff_getElem.1 (num_rises (ps := ps) f ps.length) i j hi hj hij
   obtain ⟨m1, m2⟩ := num_mem.1 (List.getElem_mem hi)
   obtain ⟨m3, m4⟩ := num_mem.1 (List.getElem_mem hj)
   have := h.mono ho hc hlt m3 (by rw [m2, m4])
   unfold Ahead
   omega
  · rw [List.mem_filter, hL.mem, beq_iff_eq, num_mem]
 have e3 : (numTo ps f ps.length).map (gatePk ps at_) = out := by
  apply List.ext_getElem?
  intro r
  rw [List.getElem?_map]
  cases hr : (numTo ps f ps.length)[r]? with
  | none =>
   have h5 : (numTo ps f ps.length).length ≤ r := List.getElem?_eq_none_iff.1 hr
   rw [List.getElem?_eq_none (by rw [ho'.len, hn.1]; exact h5)]
   rfl
  | some i =>
   obtain ⟨g1, g2, g3, -⟩ := hn.2 r i hr
   obtain ⟨out', q, p, k1, -, k3, k4, k5, -, -⟩ := h.at ho hc g1
   rw [g2, h1] at k1
   obtain rfl := Option.some.inj k1
   rw [g3] at k4
   rw [k4, k5]
   show some (gatePk ps at_ i) = _
   rw [gatePk_get k3]
 rw [h1, e1, e2, e3]
theorem Shaped.fits (ho : OkPks ps) (hc : CurvesOk cs) (h : Shaped cs ps at_) (hL : IsOrder at_ ps.length L) {f : Nat} (hf : f < 8) (hn : cs f ≠ []) : FlowFits (fun t => curveAt t (cs f)) (gatePks ps at_ L) f :=
 own_fits (h.ok ho hc hL) (fits_all ((shapedFl_out ho hc hf (h.own ho hc hL hf)).2 hn))
end
theorem open_gate {ps : List Pk} (ho : OkPks ps) : Shaped (fun _ => []) ps (tickOf ps) ∧ IsOrder (tickOf ps) ps.length (List.range ps.length) ∧ gatePks ps (tickOf ps) (List.range ps.length) = ps := by
 refine ⟨fun f _ => ⟨_, if_pos rfl, fun r i hr => ?_⟩, IsOrder.range fun i j hij hj => ticks_le ho (Nat.le_of_lt hij) hj, ?_⟩
 ·
  have := ((own_num ho f ps.length (Nat.le_refl _)).2 r i hr).2.2.2
  unfold tickOf
  rw [this]
 ·
  apply List.ext_getElem?
  intro r
  unfold gatePks
  rw [List.getElem?_map]
  rcases Nat.lt_or_ge r ps.length with h | h
  ·
   have e : ps[r]? = some ps[r] := List.getElem?_eq_getElem h
   rw [List.getElem?_eq_getElem (by simpa using h), List.getElem_range, Option.map_some, gatePk_get e, e, tickOf_get e]
  ·
   rw [List.getElem?_eq_none (by simpa using h), List.getElem?_eq_none h]
   rfl
end Go.Proofs.YtibhkijaafdkoaaGreatDoor

namespace Go.Proofs.YtibhkijaafdkoaaGreatDoor
structure Drr where
 qs : Nat → List Nat
 cr : Nat → Int
 row : List Nat
 srv : Option Nat
def put1 {α : Type} (f : Nat → α) (k : Nat) (x : α) : Nat → α := fun i => if i = k then x else f i
theorem put1_same {α : Type} (f : Nat → α) (k : Nat) (x : α) : put1 f k x k = x := if_pos rfl
theorem put1_other {α : Type} (f : Nat → α) {k i : Nat} (x : α) (h : i ≠ k) : put1 f k x i = f i := if_neg h
def Drr.line (d : Drr) : List Nat := match d.srv with | some f => f :: d.row | none => d.row
section
variable (fl : Nat → Nat) (sz : Nat → Int) (qu : Nat → Int)
def Drr.come (d : Drr) (k : Nat) : Drr := { d with qs := put1 d.qs (fl k) (d.qs (fl k) ++ [k]), row := if fl k ∈ d.line then d.row else d.row ++ [fl k] }
def Drr.turn (d : Drr) (f : Nat) (r : List Nat) : Drr := { d with srv := some f, row := r, cr := put1 d.cr f (d.cr f + qu f) }
def Drr.back (d : Drr) (f : Nat) : Drr := { d with srv := none, row := d.row ++ [f] }
def Drr.sent (d : Drr) (f k : Nat) (r : List Nat) : Drr := if r = [] then { d with qs := put1 d.qs f [], cr := put1 d.cr f 0, srv := none } else { d with qs := put1 d.qs f r, cr := put1 d.cr f (d.cr f - sz k) }
structure DrrOk (M : Int) (d : Drr) : Prop where
 nodup : d.line.Nodup
 active : ∀ f, f ∈ d.line ↔ d.qs f ≠ []
 low : ∀ f, 0 ≤ d.cr f
 idle : ∀ f, d.qs f = [] → d.cr f = 0
 high : ∀ f, d.srv ≠ some f → d.cr f ≤ M - 1
 top : ∀ f, d.srv = some f → d.cr f ≤ M - 1 + qu f
 size : ∀ f k, k ∈ d.qs f → fl k = f ∧ 1 ≤ sz k ∧ sz k ≤ M
 big : 1 ≤ M
variable {fl sz qu} {M : Int} {d : Drr}
theorem Drr.line_come (d : Drr) (k : Nat) : (d.come fl k).line = if fl k ∈ d.line then d.line else d.line ++ [fl k] := by
 by_cases hm : fl k ∈ d.line
 ·
  have e : (d.come fl k).row = d.row := if_pos hm
  rw [if_pos hm]
  show (match d.srv with | some f => f :: (d.come fl k).row | none => (d.come fl k).row) = d.line
  rw [e]
  rfl
 ·
  have e : (d.come fl k).row = d.row ++ [fl k] := if_neg hm
  rw [if_neg hm]
  show (match d.srv with | some f => f :: (d.come fl k).row | none => (d.come fl k).row) = d.line ++ [fl k]
  rw [e]
  unfold Drr.line
  cases d.srv <;> rfl
theorem DrrOk.come (h : DrrOk fl sz qu M d) (k : Nat) (h1 : 1 ≤ sz k) (h2 : sz k ≤ M) : DrrOk fl sz qu M (d.come fl k) := by
 have hline := Drr.line_come (fl := fl) d k
 refine ⟨?_, fun f => ?_, h.low, fun f hf => ?_, h.high, h.top, fun f j hj => ?_, h.big⟩
 ·
  rw [hline]
  split
  · exact h.nodup
  · next hn => exact List.nodup_append.2 ⟨h.nodup, List.nodup_cons.2 ⟨by simp, List.nodup_nil⟩, fun a ha b hb e => hn (by rw [List.mem_singleton] at hb; rw [← hb, ← e]; exact ha)⟩
 ·
  rw [hline]
  show _ ↔ put1 d.qs (fl k) (d.qs (fl k) ++ [k]) f ≠ []
  by_cases e : f = fl k
  ·
   subst e
   rw [put1_same]
   constructor
   ·
    intro _ h0
    simp at h0
   ·
    intro _
    split
    · next hm => exact hm
    · exact List.mem_append.2 (.inr (List.mem_singleton.2 rfl))
  ·
   rw [put1_other _ _ e, ← h.active f]
   split
   · exact Iff.rfl
   ·
    constructor
    ·
     intro hm
     rcases List.mem_append.1 hm with hm | hm
     · exact hm
     · exact absurd (List.mem_singleton.1 hm) e
    · intro hm; exact List.mem_append.2 (.inl hm)
 ·
  by_cases e : f = fl k
  ·
   subst e
   have : (d.come fl k).qs (fl k) = d.qs (fl k) ++ [k] := put1_same _ _ _
   rw [this] at hf
   simp at hf
  ·
   have : (d.come fl k).qs f = d.qs f := put1_other _ _ e
   rw [this] at hf
   exact h.idle f hf
 ·
  by_cases e : f = fl k
  ·
   subst e
   have e2 : (d.come fl k).qs (fl k) = d.qs (fl k) ++ [k] := put1_same _ _ _
   rw [e2] at hj
   rcases List.mem_append.1 hj with hj | hj
   · exact h.size _ j hj
   ·
    rw [List.mem_singleton] at hj
    subst hj
    exact ⟨rfl, h1, h2⟩
  ·
   have e2 : (d.come fl k).qs f = d.qs f := put1_other _ _ e
   rw [e2] at hj
   exact h.size f j hj
theorem DrrOk.turn (h : DrrOk fl sz qu M d) (hq : ∀ f, 1 ≤ qu f) (hs : d.srv = none) {f : Nat} {r : List Nat} (hr : d.row = f :: r) : DrrOk fl sz qu M (d.turn qu f r) := by
 have e0 : d.line = f :: r := by unfold Drr.line; rw [hs]; exact hr
 have hline : (d.turn qu f r).line = d.line := by rw [e0]; rfl
 have hne := (h.active f).1 (by rw [e0]; exact List.mem_cons_self ..)
 refine ⟨by rw [hline]; exact h.nodup, fun g => by rw [hline]; exact h.active g, fun g => ?_, fun g hg => ?_, fun g hg => ?_, fun g hg => ?_, h.size, h.big⟩
 ·
  show 0 ≤ put1 d.cr f (d.cr f + qu f) g
  by_cases e : g = f
  ·
   subst e
   rw [put1_same]
   have := h.low g; have := hq g; omega
  · rw [put1_other _ _ e]; exact h.low g
 ·
  show put1 d.cr f (d.cr f + qu f) g = 0
  have hg' : d.qs g = [] := hg
  by_cases e : g = f
  · subst e; exact absurd hg' hne
  · rw [put1_other _ _ e]; exact h.idle g hg'
 ·
  show put1 d.cr f (d.cr f + qu f) g ≤ M - 1
  by_cases e : g = f
  · subst e; exact absurd rfl hg
  · rw [put1_other _ _ e]; exact h.high g (by rw [hs]; intro e; cases e)
 ·
  show put1 d.cr f (d.cr f + qu f) g ≤ M - 1 + qu g
  obtain rfl : f = g := Option.some.inj hg
  rw [put1_same]
  have := h.high f (by rw [hs]; intro e; cases e)
  omega
theorem DrrOk.back (h : DrrOk fl sz qu M d) {f k : Nat} {r : List Nat} (hs : d.srv = some f) (hk : d.qs f = k :: r) (hbig : d.cr f < sz k) : DrrOk fl sz qu M (d.back f) := by
 have e0 : d.line = f :: d.row := by unfold Drr.line; rw [hs]
 have hline : (d.back f).line = d.row ++ [f] := rfl
 have hsz := h.size f k (by rw [hk]; exact List.mem_cons_self ..)
 have hn := h.nodup
 rw [e0] at hn
 obtain ⟨n1, n2⟩ := List.nodup_cons.1 hn
 refine ⟨?_, fun g => ?_, h.low, h.idle, fun g _ => ?_, fun g hg => (by cases hg), h.size, h.big⟩
 ·
  rw [hline]
  exact List.nodup_append.2 ⟨n2, List.nodup_cons.2 ⟨by simp, List.nodup_nil⟩, fun a ha b hb e => n1 (by rw [List.mem_singleton] at hb; rw [← hb, ← e]; exact ha)⟩
 ·
  rw [hline]
  have := h.active g
  rw [e0] at this
  show _ ↔ d.qs g ≠ []
  rw [← this]
  simp only [List.mem_append, List.mem_cons, List.not_mem_nil, or_false]
  constructor
  ·
   rintro (h | h)
   · exact .inr h
   · exact .inl h
  ·
   rintro (h | h)
   · exact .inr h
   · exact .inl h
 ·
  show d.cr g ≤ M - 1
  by_cases e : g = f
  · subst e; omega
  · exact h.high g (by rw [hs]; intro e'; exact e (Option.some.inj e').symm)
theorem DrrOk.sent (h : DrrOk fl sz qu M d) {f k : Nat} {r : List Nat} (hs : d.srv = some f) (hk : d.qs f = k :: r) (hfit : sz k ≤ d.cr f) : DrrOk fl sz qu M (d.sent sz f k r) := by
 have e0 : d.line = f :: d.row := by unfold Drr.line; rw [hs]
 have hsz := h.size f k (by rw [hk]; exact List.mem_cons_self ..)
 have hn := h.nodup
 rw [e0] at hn
 obtain ⟨n1, n2⟩ := List.nodup_cons.1 hn
 have hB := h.big
 by_cases hr : r = []
 ·
  have e1 : d.sent sz f k r = { d with qs := put1 d.qs f [], cr := put1 d.cr f 0, srv := none } := if_pos hr
  rw [e1]
  refine ⟨n2, fun g => ?_, fun g => ?_, fun g hg => ?_, fun g _ => ?_, fun g hg => (by cases hg), fun g j hj => ?_, hB⟩
  ·
   show g ∈ d.row ↔ put1 d.qs f [] g ≠ []
   have := h.active g
   rw [e0] at this
   by_cases e : g = f
   ·
    subst e
    rw [put1_same]
    exact ⟨fun hm => absurd hm n1, fun h0 => absurd rfl h0⟩
   ·
    rw [put1_other _ _ e, ← this]
    exact ⟨fun hm => List.mem_cons_of_mem _ hm, fun hm => by
     rcases List.mem_cons.1 hm with hm | hm
     · exact absurd hm e
     · exact hm⟩
  ·
   show 0 ≤ put1 d.cr f 0 g
   by_cases e : g = f
   · subst e; rw [put1_same]; exact Int.le_refl _
   · rw [put1_other _ _ e]; exact h.low g
  ·
   show put1 d.cr f 0 g = 0
   by_cases e : g = f
   · subst e; exact put1_same _ _ _
   ·
    have hg' : put1 d.qs f [] g = [] := hg
    rw [put1_other _ _ e] at hg' ⊢
    exact h.idle g hg'
  ·
   show put1 d.cr f 0 g ≤ M - 1
   by_cases e : g = f
   · subst e; rw [put1_same]; omega
   ·
    rw [put1_other _ _ e]
    exact h.high g (by rw [hs]; intro e'; exact e (Option.some.inj e').symm)
  ·
   have hj' : j ∈ put1 d.qs f [] g := hj
   by_cases e : g = f
   · subst e; rw [put1_same] at hj'; cases hj'
   · rw [put1_other _ _ e] at hj'; exact h.size g j hj'
 ·
  have e1 : d.sent sz f k r = { d with qs := put1 d.qs f r, cr := put1 d.cr f (d.cr f - sz k) } := if_neg hr
  rw [e1]
  refine ⟨h.nodup, fun g => ?_, fun g => ?_, fun g hg => ?_, fun g hg => ?_, fun g hg => ?_, fun g j hj => ?_, hB⟩
  ·
   show g ∈ d.line ↔ put1 d.qs f r g ≠ []
   by_cases e : g = f
   ·
    subst e
    rw [put1_same]
    exact ⟨fun _ => hr, fun _ => by rw [e0]; exact List.mem_cons_self ..⟩
   · rw [put1_other _ _ e]; exact h.active g
  ·
   show 0 ≤ put1 d.cr f (d.cr f - sz k) g
   by_cases e : g = f
   · subst e; rw [put1_same]; omega
   · rw [put1_other _ _ e]; exact h.low g
  ·
   show put1 d.cr f (d.cr f - sz k) g = 0
   have hg' : put1 d.qs f r g = [] := hg
   by_cases e : g = f
   · subst e; rw [put1_same] at hg'; exact absurd hg' hr
   · rw [put1_other _ _ e] at hg' ⊢; exact h.idle g hg'
  ·
   show put1 d.cr f (d.cr f - sz k) g ≤ M - 1
   have hg' : d.srv ≠ some g := hg
   have e : g ≠ f := fun e => hg' (by rw [e]; exact hs)
   rw [put1_other _ _ e]; exact h.high g hg'
  ·
   show put1 d.cr f (d.cr f - sz k) g ≤ M - 1 + qu g
   have hg' : d.srv = some g := hg
   obtain rfl : f = g := Option.some.inj (hs.symm.trans hg')
   rw [put1_same]
   have := h.top f hs
   omega
  ·
   have hj' : j ∈ put1 d.qs f r g := hj
   by_cases e : g = f
   ·
    subst e
    rw [put1_same] at hj'
    exact h.size g j (by rw [hk]; exact List.mem_cons_of_mem _ hj')
   · rw [put1_other _ _ e] at hj'; exact h.size g j hj'
def aheadOf (a b : Nat) : List Nat → Bool
 | [] => true
 | x :: r => if x = a then true else if x = b then false else aheadOf a b r
theorem aheadOf_append {a b : Nat} : ∀ (l m : List Nat), a ∈ l ∨ b ∈ l → aheadOf a b (l ++ m) = aheadOf a b l := by
 intro l m
 induction l with
 | nil => intro h; rcases h with h | h <;> cases h
 | cons x r ih =>
  intro h
  simp only [List.cons_append, aheadOf]
  by_cases e : x = a
  · rw [if_pos e, if_pos e]
  ·
   by_cases e2 : x = b
   · rw [if_neg e, if_neg e, if_pos e2, if_pos e2]
   ·
    rw [if_neg e, if_neg e, if_neg e2, if_neg e2]
    refine ih ?_
    rcases h with h | h
    ·
     rcases List.mem_cons.1 h with h | h
     · exact absurd h.symm e
     · exact .inl h
    ·
     rcases List.mem_cons.1 h with h | h
     · exact absurd h.symm e2
     · exact .inr h
theorem aheadOf_end {a b : Nat} : ∀ (l : List Nat), a ∉ l → b ∈ l → aheadOf a b l = false := by
 intro l
 induction l with
 | nil => intro _ h; cases h
 | cons x r ih =>
  intro h1 h2
  simp only [aheadOf]
  have e : x ≠ a := fun e => h1 (by rw [e]; exact List.mem_cons_self ..)
  rw [if_neg e]
  by_cases e2 : x = b
  · rw [if_pos e2]
  ·
   rw [if_neg e2]
   refine ih (fun h => h1 (List.mem_cons_of_mem _ h)) ?_
   rcases List.mem_cons.1 h2 with h | h
   · exact absurd h.symm e2
   · exact h
theorem aheadOf_end' {a b : Nat} : ∀ (l : List Nat), b ∉ l → a ∈ l → aheadOf a b l = true := by
 intro l
 induction l with
 | nil => intro _ h; cases h
 | cons x r ih =>
  intro h1 h2
  simp only [aheadOf]
  by_cases e : x = a
  · rw [if_pos e]
  ·
   rw [if_neg e, if_neg (fun e => h1 (by rw [e]; exact List.mem_cons_self ..))]
   refine ih (fun h => h1 (List.mem_cons_of_mem _ h)) ?_
   rcases List.mem_cons.1 h2 with h | h
   · exact absurd h.symm e
   · exact h
def Drr.pot (d : Drr) (a b : Nat) : Int := (if aheadOf a b d.line then 0 else 1) + (if d.srv = some a then 1 else 0) - (if d.srv = some b then 1 else 0)
def Drr.lead (d : Drr) (qu : Nat → Int) (a b : Nat) : Int := qu a * qu b * d.pot a b - d.cr a * qu b + d.cr b * qu a
theorem DrrOk.cr_in (h : DrrOk fl sz qu M d) (hq : ∀ f, 1 ≤ qu f) (f : Nat) : 0 ≤ d.cr f ∧ d.cr f ≤ M - 1 + qu f := by
 refine ⟨h.low f, ?_⟩
 by_cases e : d.srv = some f
 · exact h.top f e
 · have := h.high f e; have := hq f; omega
theorem lead_come {a b : Nat} (k : Nat) (ha : a ∈ d.line) : (d.come fl k).lead qu a b = d.lead qu a b := by
 have hp : (d.come fl k).pot a b = d.pot a b := by
  unfold Drr.pot
  rw [Drr.line_come]
  have e : (d.come fl k).srv = d.srv := rfl
  rw [e]
  split
  · rfl
  · rw [aheadOf_append _ _ (.inl ha)]
 unfold Drr.lead
 rw [hp]
 rfl
theorem lead_turn {a b : Nat} (hab : a ≠ b) (hs : d.srv = none) {f : Nat} {r : List Nat} (hr : d.row = f :: r) : (d.turn qu f r).lead qu a b = d.lead qu a b := by
 have e0 : d.line = f :: r := by unfold Drr.line; rw [hs]; exact hr
 have hline : (d.turn qu f r).line = d.line := by rw [e0]; rfl
 have hs2 : (d.turn qu f r).srv = some f := rfl
 have hc : (d.turn qu f r).cr = put1 d.cr f (d.cr f + qu f) := rfl
 unfold Drr.lead Drr.pot
 rw [hline, hs2, hs, hc, e0]
 simp only [aheadOf, Option.some.injEq]
 by_cases ea : f = a
 ·
  subst ea
  rw [put1_same, put1_other _ _ (Ne.symm hab)]
  simp only [if_true, if_neg hab, reduceCtorEq, if_false]
  rw [Int.add_mul]
  omega
 ·
  by_cases eb : f = b
  ·
   subst eb
   rw [put1_same, put1_other _ _ (Ne.symm ea)]
   simp only [if_true, if_neg ea, reduceCtorEq, if_false, Bool.false_eq_true]
   rw [Int.add_mul, Int.mul_comm (qu f) (qu a)]
   omega
  ·
   rw [put1_other _ _ (Ne.symm ea), put1_other _ _ (Ne.symm eb)]
   simp only [if_neg ea, if_neg eb, reduceCtorEq, if_false]
theorem lead_back {a b : Nat} (hab : a ≠ b) (hn : d.line.Nodup) {f : Nat} (hs : d.srv = some f) (ha : a ∈ d.line) (hb : b ∈ d.line) : (d.back f).lead qu a b = d.lead qu a b := by
 have e0 : d.line = f :: d.row := by unfold Drr.line; rw [hs]
 have hline : (d.back f).line = d.row ++ [f] := rfl
 have hs2 : (d.back f).srv = none := rfl
 have hc : (d.back f).cr = d.cr := rfl
 rw [e0] at hn ha hb
 obtain ⟨n1, n2⟩ := List.nodup_cons.1 hn
 have hp : (d.back f).pot a b = d.pot a b := by
  unfold Drr.pot
  rw [hline, hs2, hs, e0]
  by_cases ea : f = a
  ·
   subst ea
   have hb' : b ∈ d.row := by
    rcases List.mem_cons.1 hb with h | h
    · exact absurd h.symm hab
    · exact h
   have k1 : aheadOf f b (f :: d.row) = true := by simp [aheadOf]
   have k2 : aheadOf f b (d.row ++ [f]) = false := by rw [aheadOf_append _ _ (.inr hb')]; exact aheadOf_end _ n1 hb'
   simp [k1, k2, hab]
  ·
   by_cases eb : f = b
   ·
    subst eb
    have ha' : a ∈ d.row := by
     rcases List.mem_cons.1 ha with h | h
     · exact absurd h.symm ea
     · exact h
    have k1 : aheadOf a f (f :: d.row) = false := by simp [aheadOf, ea]
    have k2 : aheadOf a f (d.row ++ [f]) = true := by rw [aheadOf_append _ _ (.inl ha')]; exact aheadOf_end' _ n1 ha'
    simp [k1, k2, ea]
   ·
    have ha' : a ∈ d.row := by
     rcases List.mem_cons.1 ha with h | h
     · exact absurd h.symm ea
     · exact h
    have k1 : aheadOf a b (f :: d.row) = aheadOf a b d.row := by simp [aheadOf, ea, eb]
    have k2 : aheadOf a b (d.row ++ [f]) = aheadOf a b d.row := aheadOf_append _ _ (.inl ha')
    simp [k1, k2, ea, eb]
 unfold Drr.lead
 rw [hp, hc]
end
end Go.Proofs.YtibhkijaafdkoaaGreatDoor
