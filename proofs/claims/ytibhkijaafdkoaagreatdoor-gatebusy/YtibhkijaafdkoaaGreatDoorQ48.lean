/- Own facts, put together: no statement of its own. -/
import Derived.Test.YtibhkijaafdkoaaGreatDoorQ41
import Derived.Test.YtibhkijaafdkoaaGreatDoorQ47
import Derived.Test.YtibhkijaafdkoaaGreatDoorQ33
import Derived.Test.YtibhkijaafdkoaaGreatDoorQ14
import Derived.Test.YtibhkijaafdkoaaGreatDoorQ02
import Derived.Deep.DeepCutAuto
import Derived.Deep.RegionLaw
import Derived.Test.YtibhkijaafdkoaaGreatDoorQ07
import Derived.Test.YtibhkijaafdkoaaGreatDoorQ15
namespace Go.Proofs.YtibhkijaafdkoaaGreatDoor
open Go.RowKit
structure Ac where
 kind : ByteArray
 tick : Int
 size : Int
def LiesA (w : World) (a : Option Addr) (q : List Ac) : Prop :=
 q = [] ∨ ∃ b off, a = some ⟨b, off, none⟩ ∧ b < w.heap.size ∧ ∀ (i : Nat) p, q[i]? = some p → w.cell? ⟨b, off + i * 3, none⟩ = some (.string p.kind) ∧ w.cell? ⟨b, off + i * 3 + 1, none⟩ = some (.int .i64 p.tick) ∧ w.cell? ⟨b, off + i * 3 + 2, none⟩ = some (.int .i64 p.size)
theorem LiesA.below {w w' : World} {a : Option Addr} {q : List Ac} (h : LiesA w a q) (hb : Below w.heap.size w w') : LiesA w' a q := by
 rcases h with rfl | ⟨b, off, rfl, hlt, hc⟩
 · exact .inl rfl
 ·
  refine .inr ⟨b, off, rfl, Nat.lt_of_lt_of_le hlt hb.size, fun i p hi => ?_⟩
  have := hc i p hi
  exact ⟨cell_later hb this.1, cell_later hb this.2.1, cell_later hb this.2.2⟩
end Go.Proofs.YtibhkijaafdkoaaGreatDoor

namespace Go.Proofs.YtibhkijaafdkoaaGreatDoor
open Go.RowKit
theorem never_one {ls : List (Int × Int)} {ps : List Pk} {j j' : Nat} {q q' : Pk} {s s' : Sh} (h1 : ps[j]? = some q) (h2 : shape ls (ps.take j) = some s) (h3 : shStep s q = none) (h1' : ps[j']? = some q') (h2' : shape ls (ps.take j') = some s') (h3' : shStep s' q' = none) : j = j' := by
 have key : ∀ (a b : Nat) (p : Pk) (u v : Sh), a < b → ps[a]? = some p → shape ls (ps.take a) = some u → shStep u p = none → shape ls (ps.take b) = some v → False := fun a b p u v hab e1 e2 e3 e4 => by
  have := shape_stuck (ls := ls) (ps := ps.take b) (j := a) (p := p) (s := u) (by rw [List.getElem?_take_of_lt hab]; exact e1) (by rw [List.take_take, Nat.min_eq_left (by omega)]; exact e2) e3
  rw [this] at e4; cases e4
 rcases Nat.lt_trichotomy j j' with h | h | h
 · exact (key j j' q s s' h h1 h2 h3 h2').elim
 · exact h
 · exact (key j' j q' s' s h h1' h2' h3' h2).elim
end Go.Proofs.YtibhkijaafdkoaaGreatDoor

namespace Go.Proofs.YtibhkijaafdkoaaGreatDoor
section
variable {cs : Nat → List (Int × Int)} {ps : List Pk}
theorem NeverAt.one (ho : OkPks ps) {i j : Nat} (h : NeverAt cs ps i) (k : NeverAt cs ps j) (hf : flowOf ps i = flowOf ps j) : i = j := by
 obtain ⟨p, s, h1, h2, h3, h4⟩ := h
 obtain ⟨q, t, k1, k2, k3, k4⟩ := k
 have hi := lt_of_get h1
 have hj := lt_of_get k1
 have ai := num_at ho hi (Nat.le_refl _)
 have aj := num_at ho hj (Nat.le_refl _)
 rw [← hf] at k2 k3 aj
 have hown := own_num ho (flowOf ps i) ps.length (Nat.le_refl _)
 have gi := (hown.2 _ _ ai).2.2.2
 have gj := (hown.2 _ _ aj).2.2.2
 have e := never_one (gi.trans h1) h3 h4 (gj.trans k1) k3 k4
 rw [e, aj] at ai
 exact (Option.some.inj ai).symm
theorem never_num (ho : OkPks ps) {f : Nat} (hc : cs f ≠ []) {r i : Nat} {p : Pk} {s : Sh} (hr : (numTo ps f ps.length)[r]? = some i) (h1 : (ownTo ps f ps.length)[r]? = some p) (h2 : shape (cs f) ((ownTo ps f ps.length).take r) = some s) (h3 : shStep s p = none) : NeverAt cs ps i ∧ flowOf ps i = f := by
 obtain ⟨g1, g2, g3, g4⟩ := (own_num ho f ps.length (Nat.le_refl _)).2 r i hr
 exact ⟨⟨p, s, g4.symm.trans h1, by rw [g2]; exact hc, by rw [g2, g3]; exact h2, h3⟩, g2⟩
theorem never_not (ho : OkPks ps) {f : Nat} {out : List Pk} (hs : shapedFl cs ps f = some out) {j : Nat} (hj : flowOf ps j = f) : ¬ NeverAt cs ps j := by
 rintro ⟨p, s, h1, h2, h3, h4⟩
 rw [hj] at h2 h3
 unfold shapedFl at hs
 rw [if_neg h2] at hs
 have hjl := lt_of_get h1
 have aj := num_at ho hjl (Nat.le_refl _)
 rw [hj] at aj
 have gj := ((own_num ho f ps.length (Nat.le_refl _)).2 _ _ aj).2.2.2
 rw [shape_stuck (gj.trans h1) h3 h4] at hs
 cases hs
def FlowsDone (cs : Nat → List (Int × Int)) (ps : List Pk) (f : Nat) (z : Int) (a : Nat → Int) : Prop :=
 (z = -1 ∧ ∀ g, g < f → ∃ out, shapedFl cs ps g = some out ∧ ∀ (r i : Nat), (numTo ps g ps.length)[r]? = some i → a i = tickOf out r) ∨
  (∃ i : Nat, z = i ∧ NeverAt cs ps i ∧ flowOf ps i < f ∧ ∀ j, NeverAt cs ps j → flowOf ps j < f → i ≤ j)
theorem flowsDone_none (a : Nat → Int) : FlowsDone cs ps 0 (-1) a := .inl ⟨rfl, fun _ h => absurd h (Nat.not_lt_zero _)⟩
theorem FlowsDone.range {f : Nat} {z : Int} {a : Nat → Int} (h : FlowsDone cs ps f z a) : z = -1 ∨ ∃ i : Nat, z = i ∧ i < ps.length := by
 rcases h with ⟨h, -⟩ | ⟨i, h, ⟨p, s, h1, -⟩, -⟩
 · exact .inl h
 · exact .inr ⟨i, h, lt_of_get h1⟩
theorem FlowsDone.shaped (ho : OkPks ps) {f : Nat} {z : Int} {a a' : Nat → Int} {out : List Pk} (h : FlowsDone cs ps f z a) (hs : shapedFl cs ps f = some out) (h1 : ∀ (r i : Nat), (numTo ps f ps.length)[r]? = some i → a' i = tickOf out r) (h2 : ∀ i, i ∉ numTo ps f ps.length → a' i = a i) : FlowsDone cs ps (f + 1) z a' := by
 rcases h with ⟨rfl, h⟩ | ⟨i, rfl, hi, hf, hall⟩
 ·
  refine .inl ⟨rfl, fun g hg => ?_⟩
  rcases Nat.lt_or_ge g f with h' | h'
  ·
   obtain ⟨o, e1, e2⟩ := h g h'
   refine ⟨o, e1, fun r i hr => ?_⟩
   rw [h2 i ?_]
   · exact e2 r i hr
   ·
    intro hm
    have m1 := num_mem.1 (List.mem_of_getElem? hr)
    have m2 := num_mem.1 hm
    omega
  ·
   obtain rfl : g = f := by omega
   exact ⟨out, hs, h1⟩
 ·
  refine .inr ⟨i, rfl, hi, by omega, fun j hj hjf => ?_⟩
  rcases Nat.lt_or_ge (flowOf ps j) f with h' | h'
  · exact hall j hj h'
  · exact absurd hj (never_not ho hs (by omega))
theorem FlowsDone.stuck (ho : OkPks ps) {f : Nat} {z : Int} {a a' : Nat → Int} {n : Nat} (h : FlowsDone cs ps f z a) (hn : NeverAt cs ps n) (hf : flowOf ps n = f) : FlowsDone cs ps (f + 1) (if z < 0 ∨ (n : Int) < z then (n : Int) else z) a' := by
 have self : ∀ j, NeverAt cs ps j → flowOf ps j < f + 1 → flowOf ps j < f ∨ j = n := fun j hj hjf => by
  rcases Nat.lt_or_ge (flowOf ps j) f with h' | h'
  · exact .inl h'
  · exact .inr (hj.one ho hn (by omega))
 rcases h with ⟨rfl, h⟩ | ⟨i, rfl, hi, hif, hall⟩
 ·
  rw [if_pos (.inl (by omega))]
  refine .inr ⟨n, rfl, hn, by omega, fun j hj hjf => ?_⟩
  rcases self j hj hjf with h' | h'
  ·
   obtain ⟨out, e1, -⟩ := h _ h'
   exact absurd hj (never_not ho e1 rfl)
  · omega
 ·
  by_cases hlt : n < i
  ·
   rw [if_pos (.inr (by omega))]
   refine .inr ⟨n, rfl, hn, by omega, fun j hj hjf => ?_⟩
   rcases self j hj hjf with h' | h'
   ·
    have := hall j hj h'
    omega
   · omega
  ·
   rw [if_neg (by omega)]
   refine .inr ⟨i, rfl, hi, by omega, fun j hj hjf => ?_⟩
   rcases self j hj hjf with h' | h'
   · exact hall j hj h'
   · omega
end
end Go.Proofs.YtibhkijaafdkoaaGreatDoor

namespace Go.Proofs.YtibhkijaafdkoaaGreatDoor
open Go.RowKit
def ShapeAllEnd (cs : List (List (Int × Int))) (ps : List Pk) (ad : Nat → Addr) (w : World) (e : Ending) (w' : World) : Prop :=
 Below w.heap.size w w' ∧ ((∃ (i F : Nat), NeverAt (curveFl cs) ps i ∧ (∀ j, j < i → ¬ NeverAt (curveFl cs) ps j) ∧ e = .returned (.tuple #[.slice none 0 0, .iface 110 (.pointer (some ⟨F, 0, none⟩))]) ∧ w'.cell? ⟨F, 0, none⟩ = some (.int .i64 (i : Int)) ∧ w'.cell? ⟨F, 1, none⟩ = some (.iface 271 (.pointer (some (ad 3))))) ∨
  (∃ qa qcap at_ L, (∀ i, ¬ NeverAt (curveFl cs) ps i) ∧ Shaped (curveFl cs) ps at_ ∧ IsOrder at_ ps.length L ∧ e = .returned (.tuple #[.slice qa (gatePks ps at_ L).length qcap, .nilIface]) ∧ PksLie w' qa qcap (gatePks ps at_ L)))
structure FlowsAt (ps : List Pk) (f : Nat) (xs : Nat → Pk) : Prop where
 flow : ∀ i p, ps[i]? = some p → (xs i).flow = p.flow ∧ (xs i).size = p.size
 left : ∀ i p, ps[i]? = some p → f ≤ flowOf ps i → xs i = p
def tickAt (n : Nat) (xs : Nat → Pk) (i : Nat) : Int := if i < n then (xs i).tick else 0
section
variable {cs : Nat → List (Int × Int)} {ps : List Pk} {f : Nat} {z : Int} {xs ys : Nat → Pk}
theorem FlowsAt.nums (ho : OkPks ps) (h : FlowsAt ps f xs) : ∀ i, i < ps.length → ((xs i).flow == (f : Int)) = (flowOf ps i == f) := fun i hi => by
 have e : ps[i]? = some ps[i] := List.getElem?_eq_getElem hi
 rw [(h.flow i _ e).1]
 have := flow_is ho e f
 by_cases hf : flowOf ps i = f
 · rw [beq_iff_eq.2 (this.2 hf), beq_iff_eq.2 hf]
 · rw [beq_eq_false_iff_ne.2 (fun h' => hf (this.1 h')), beq_eq_false_iff_ne.2 hf]
theorem FlowsAt.own (ho : OkPks ps) (h : FlowsAt ps f xs) : ∀ (r i : Nat), (numTo ps f ps.length)[r]? = some i → (ownTo ps f ps.length)[r]? = some (xs i) := fun r i hr => by
 obtain ⟨g1, g2, -, g4⟩ := (own_num ho f ps.length (Nat.le_refl _)).2 r i hr
 have e : ps[i]? = some ps[i] := List.getElem?_eq_getElem g1
 rw [g4, e, h.left i _ e (by omega)]
theorem flows_skip (ho : OkPks ps) (hc : cs f = []) (h : FlowsAt ps f xs) (hd : FlowsDone cs ps f z (tickAt ps.length xs)) : FlowsAt ps (f + 1) xs ∧ FlowsDone cs ps (f + 1) z (tickAt ps.length xs) := by
 refine ⟨⟨h.flow, fun i p hi hf => h.left i p hi (by omega)⟩, hd.shaped ho (out := ownTo ps f ps.length) (by unfold shapedFl; rw [if_pos hc]) (fun r i hr => ?_) (fun _ _ => rfl)⟩
 have hlt := ((own_num ho f ps.length (Nat.le_refl _)).2 r i hr).1
 unfold tickAt
 rw [if_pos hlt, tickOf_get (h.own ho r i hr)]
theorem flows_shape (ho : OkPks ps) (hk : okCurve (cs f)) (hne : cs f ≠ []) (h : FlowsAt ps f xs) (hd : FlowsDone cs ps f z (tickAt ps.length xs)) {s : Sh} (hs : shape (cs f) (ownTo ps f ps.length) = some s) (h1 : ∀ (r i : Nat), (numTo ps f ps.length)[r]? = some i → s.out[r]? = some (ys i)) (h2 : ∀ i, i < ps.length → i ∉ numTo ps f ps.length → ys i = xs i) : FlowsAt ps (f + 1) ys ∧ FlowsDone cs ps (f + 1) z (tickAt ps.length ys) := by
 have hown := (own_ok ho f ps.length (Nat.le_refl _)).1
 have hg := shape_good hk _ s hown hs
 refine ⟨⟨fun i p hi => ?_, fun i p hi hf => ?_⟩, hd.shaped ho (out := s.out) (by unfold shapedFl; rw [if_neg hne, hs]; rfl) (fun r i hr => ?_) (fun i hi => ?_)⟩
 ·
  by_cases hm : i ∈ numTo ps f ps.length
  ·
   obtain ⟨r, hr, e⟩ := List.getElem_of_mem hm
   have e2 : (numTo ps f ps.length)[r]? = some i := by rw [List.getElem?_eq_getElem hr, e]
   have := hg.each r _ _ (h.own ho r i e2) (h1 r i e2)
   rw [this.1, this.2.1]
   exact h.flow i p hi
  ·
   rw [h2 i (lt_of_get hi) hm]
   exact h.flow i p hi
 ·
  have hm : i ∉ numTo ps f ps.length := fun hm => by have := (num_mem.1 hm).2; omega
  rw [h2 i (lt_of_get hi) hm]
  exact h.left i p hi (by omega)
 ·
  have hlt := ((own_num ho f ps.length (Nat.le_refl _)).2 r i hr).1
  unfold tickAt
  rw [if_pos hlt, tickOf_get (h1 r i hr)]
 ·
  unfold tickAt
  by_cases hlt : i < ps.length
  · rw [if_pos hlt, if_pos hlt, h2 i hlt hi]
  · rw [if_neg hlt, if_neg hlt]
theorem flows_stuck (ho : OkPks ps) (hne : cs f ≠ []) (h : FlowsAt ps f xs) (hd : FlowsDone cs ps f z (tickAt ps.length xs)) {r i : Nat} {p : Pk} {s : Sh} (hr : (numTo ps f ps.length)[r]? = some i) (h1 : (ownTo ps f ps.length)[r]? = some p) (h2 : shape (cs f) ((ownTo ps f ps.length).take r) = some s) (h3 : shStep s p = none) : FlowsAt ps (f + 1) xs ∧ FlowsDone cs ps (f + 1) (if z < 0 ∨ (i : Int) < z then (i : Int) else z) (tickAt ps.length xs) := by
 obtain ⟨g1, g2⟩ := never_num ho hne hr h1 h2 h3
 exact ⟨⟨h.flow, fun j q hj hf => h.left j q hj (by omega)⟩, hd.stuck ho g1 g2⟩
end
def stuckAt (n : Nat) (z : Int) : Int := if z < 0 then (n : Int) else z
theorem gatePk_at {ps : List Pk} {xs : Nat → Pk} (h : ∀ i p, ps[i]? = some p → (xs i).flow = p.flow ∧ (xs i).size = p.size) {i : Nat} (hi : i < ps.length) : gatePk ps (tickAt ps.length xs) i = xs i := by
 have e : ps[i]? = some ps[i] := List.getElem?_eq_getElem hi
 obtain ⟨h1, h2⟩ := h i _ e
 rw [gatePk_get e, ← h1, ← h2]
 unfold tickAt
 rw [if_pos hi]
theorem liesP_row {w : World} {g off n : Nat} {pk : Nat → Pk} {h : Nat → Nat} (hr : RowP w g off n pk h) : LiesP w (some ⟨g, off, none⟩) (((List.range n).map h).map pk) := by
 refine .inr ⟨g, off, rfl, hr.lt, fun i p hi => ?_⟩
 have hin : i < n := by have := lt_of_get hi; simpa using this
 have e : pk (h i) = p := by simpa [hin] using hi
 have c0 := hr.c0 i hin
 have c1 := hr.c1 i hin
 have c2 := hr.c2 i hin
 rw [e] at c0 c1 c2
 exact ⟨c0, c1, c2⟩
theorem row_of_own {w : World} {B g cap : Nat} {ps : List Pk} (h : OwnP w B (.slice (some ⟨g, 0, none⟩) ps.length cap) ps) (hg : g < w.heap.size) : RowP w g 0 ps.length (fun i => ps.getD i ⟨0, 0, 0⟩) (fun i => i) := by
 refine ⟨hg, fun i hi => ?_, fun i hi => ?_, fun i hi => ?_, fun j => World.ownsRow.frozenAt h j⟩
 all_goals
  have e : ps[i]? = some ps[i] := List.getElem?_eq_getElem hi
  have hc := cellsP_get ps i ps[i] e
  rw [Nat.zero_add, World.ownsRow.cellAt h _ (by omega)]
  simp only [List.getD, e, Option.getD_some]
 · exact hc.1
 · exact hc.2.1
 · exact hc.2.2
end Go.Proofs.YtibhkijaafdkoaaGreatDoor
