/- Own facts, put together: no statement of its own. -/
import Derived.Test.YtnomdlclkpnjpaaGreatDoorR12
import Derived.Test.YtnomdlclkpnjpaaGreatDoorR42
import Derived.Test.YtnomdlclkpnjpaaGreatDoorR40
namespace Go.Proofs.YtnomdlclkpnjpaaGreatDoor
section
variable {cs : Nat → List (Int × Int)} {ps : List Pk}
theorem NeverAt.one (ho : OkPks ps) {i j : Nat} (h : NeverAt cs ps i) (k : NeverAt cs ps j) (hf : flowOf ps i = flowOf ps j) : i = j := by
 obtain ⟨p, s, h1, h2, h3, h4⟩ := h
 obtain ⟨q, t, k1, k2, k3, k4⟩ := k
 have hi := lt_of_get h1
 have hj := lt_of_get k1
 have ai := num_at ho hi (Nat.le_refl _)
 have aj := num_at ho hj (Nat.le_refl _)
 rw [← hf] at k2 k3 aj
 have hown := own_num ho (flowOf ps i) ps.length (Nat.le_refl _)
 have gi := (hown.2 _ _ ai).2.2.2
 have gj := (hown.2 _ _ aj).2.2.2
 have e := never_one (gi.trans h1) h3 h4 (gj.trans k1) k3 k4
 rw [e, aj] at ai
 exact (Option.some.inj ai).symm
theorem never_num (ho : OkPks ps) {f : Nat} (hc : cs f ≠ []) {r i : Nat} {p : Pk} {s : Sh} (hr : (numTo ps f ps.length)[r]? = some i) (h1 : (ownTo ps f ps.length)[r]? = some p) (h2 : shape (cs f) ((ownTo ps f ps.length).take r) = some s) (h3 : shStep s p = none) : NeverAt cs ps i ∧ flowOf ps i = f := by
 obtain ⟨g1, g2, g3, g4⟩ := (own_num ho f ps.length (Nat.le_refl _)).2 r i hr
 exact ⟨⟨p, s, g4.symm.trans h1, by rw [g2]; exact hc, by rw [g2, g3]; exact h2, h3⟩, g2⟩
theorem never_not (ho : OkPks ps) {f : Nat} {out : List Pk} (hs : shapedFl cs ps f = some out) {j : Nat} (hj : flowOf ps j = f) : ¬ NeverAt cs ps j := by
 rintro ⟨p, s, h1, h2, h3, h4⟩
 rw [hj] at h2 h3
 unfold shapedFl at hs
 rw [if_neg h2] at hs
 have hjl := lt_of_get h1
 have aj := num_at ho hjl (Nat.le_refl _)
 rw [hj] at aj
 have gj := ((own_num ho f ps.length (Nat.le_refl _)).2 _ _ aj).2.2.2
 rw [shape_stuck (gj.trans h1) h3 h4] at hs
 cases hs
def FlowsDone (cs : Nat → List (Int × Int)) (ps : List Pk) (f : Nat) (z : Int) (a : Nat → Int) : Prop :=
 (z = -1 ∧ ∀ g, g < f → ∃ out, shapedFl cs ps g = some out ∧ ∀ (r i : Nat), (numTo ps g ps.length)[r]? = some i → a i = tickOf out r) ∨
  (∃ i : Nat, z = i ∧ NeverAt cs ps i ∧ flowOf ps i < f ∧ ∀ j, NeverAt cs ps j → flowOf ps j < f → i ≤ j)
theorem flowsDone_none (a : Nat → Int) : FlowsDone cs ps 0 (-1) a := .inl ⟨rfl, fun _ h => absurd h (Nat.not_lt_zero _)⟩
theorem FlowsDone.range {f : Nat} {z : Int} {a : Nat → Int} (h : FlowsDone cs ps f z a) : z = -1 ∨ ∃ i : Nat, z = i ∧ i < ps.length := by
 rcases h with ⟨h, -⟩ | ⟨i, h, ⟨p, s, h1, -⟩, -⟩
 · exact .inl h
 · exact .inr ⟨i, h, lt_of_get h1⟩
theorem FlowsDone.shaped (ho : OkPks ps) {f : Nat} {z : Int} {a a' : Nat → Int} {out : List Pk} (h : FlowsDone cs ps f z a) (hs : shapedFl cs ps f = some out) (h1 : ∀ (r i : Nat), (numTo ps f ps.length)[r]? = some i → a' i = tickOf out r) (h2 : ∀ i, i ∉ numTo ps f ps.length → a' i = a i) : FlowsDone cs ps (f + 1) z a' := by
 rcases h with ⟨rfl, h⟩ | ⟨i, rfl, hi, hf, hall⟩
 ·
  refine .inl ⟨rfl, fun g hg => ?_⟩
  rcases Nat.lt_or_ge g f with h' | h'
  ·
   obtain ⟨o, e1, e2⟩ := h g h'
   refine ⟨o, e1, fun r i hr => ?_⟩
   rw [h2 i ?_]
   · exact e2 r i hr
   ·
    intro hm
    have m1 := num_mem.1 (List.mem_of_getElem? hr)
    have m2 := num_mem.1 hm
    omega
  ·
   obtain rfl : g = f := by omega
   exact ⟨out, hs, h1⟩
 ·
  refine .inr ⟨i, rfl, hi, by omega, fun j hj hjf => ?_⟩
  rcases Nat.lt_or_ge (flowOf ps j) f with h' | h'
  · exact hall j hj h'
  · exact absurd hj (never_not ho hs (by omega))
theorem FlowsDone.stuck (ho : OkPks ps) {f : Nat} {z : Int} {a a' : Nat → Int} {n : Nat} (h : FlowsDone cs ps f z a) (hn : NeverAt cs ps n) (hf : flowOf ps n = f) : FlowsDone cs ps (f + 1) (if z < 0 ∨ (n : Int) < z then (n : Int) else z) a' := by
 have self : ∀ j, NeverAt cs ps j → flowOf ps j < f + 1 → flowOf ps j < f ∨ j = n := fun j hj hjf => by
  rcases Nat.lt_or_ge (flowOf ps j) f with h' | h'
  · exact .inl h'
  · exact .inr (hj.one ho hn (by omega))
 rcases h with ⟨rfl, h⟩ | ⟨i, rfl, hi, hif, hall⟩
 ·
  rw [if_pos (.inl (by omega))]
  refine .inr ⟨n, rfl, hn, by omega, fun j hj hjf => ?_⟩
  rcases self j hj hjf with h' | h'
  ·
   obtain ⟨out, e1, -⟩ := h _ h'
   exact absurd hj (never_not ho e1 rfl)
  · omega
 ·
  by_cases hlt : n < i
  ·
   rw [if_pos (.inr (by omega))]
   refine .inr ⟨n, rfl, hn, by omega, fun j hj hjf => ?_⟩
   rcases self j hj hjf with h' | h'
   ·
    have := hall j hj h'
    omega
   · omega
  ·
   rw [if_neg (by omega)]
   refine .inr ⟨i, rfl, hi, by omega, fun j hj hjf => ?_⟩
   rcases self j hj hjf with h' | h'
   · exact hall j hj h'
   · omega
theorem FlowsDone.all (ho : OkPks ps) {z : Int} {a : Nat → Int} (h : FlowsDone cs ps 8 z a) : (z = -1 ∧ Shaped cs ps a ∧ ∀ i, ¬ NeverAt cs ps i) ∨ (∃ i : Nat, z = i ∧ NeverAt cs ps i ∧ ∀ j, j < i → ¬ NeverAt cs ps j) := by
 have fl : ∀ j, NeverAt cs ps j → flowOf ps j < 8 := fun j ⟨p, s, h1, _⟩ => flow_range ho (lt_of_get h1)
 rcases h with ⟨rfl, h⟩ | ⟨i, rfl, hi, hif, hall⟩
 ·
  refine .inl ⟨rfl, h, fun i hi => ?_⟩
  obtain ⟨out, e1, -⟩ := h _ (fl i hi)
  exact never_not ho e1 rfl hi
 · exact .inr ⟨i, rfl, hi, fun j hj hn => by have := hall j hn (fl j hn); omega⟩
end
theorem gatePks_put (ps : List Pk) (a : Nat → Int) (L : List Nat) (k i : Nat) {p : Pk} (hp : ps[i]? = some p) : (gatePks ps a L).take k ++ [(⟨p.flow, p.size, a i⟩ : Pk)] ++ (gatePks ps a L).drop k = gatePks ps a (L.take k ++ i :: L.drop k) := by
 simp [gatePks, gatePk_get hp, List.map_take, List.map_drop]
theorem order_low {a : Nat → Int} {n : Nat} {L : List Nat} (h : IsOrder a n L) {k m : Nat} (hm : L[k]? = some m) {t : Int} (ht : a m ≤ t) : ∀ (i : Nat) x, i < k + 1 → L[i]? = some x → a x ≤ t := fun i x hi hx => by
 rcases Nat.lt_or_ge i k with h' | h'
 ·
  have hil := lt_of_get hx
  have hkl := lt_of_get hm
  have hs := List.pairwise_iff_getElem.1 h.sorted i k hil hkl h'
  have e1 : L[i] = x := Option.some.inj ((List.getElem?_eq_getElem hil).symm.trans hx)
  have e2 : L[k] = m := Option.some.inj ((List.getElem?_eq_getElem hkl).symm.trans hm)
  rw [e1, e2] at hs
  rcases hs with hs | ⟨hs, -⟩ <;> omega
 ·
  obtain rfl : i = k := by omega
  rw [hm] at hx
  obtain rfl := Option.some.inj hx
  exact ht
end Go.Proofs.YtnomdlclkpnjpaaGreatDoor

namespace Go.Proofs.YtnomdlclkpnjpaaGreatDoor
open Go.RowKit
def ShapeAllEnd (cs : List (List (Int × Int))) (ps : List Pk) (ad : Nat → Addr) (w : World) (e : Ending) (w' : World) : Prop :=
 Below w.heap.size w w' ∧ ((∃ (i F : Nat), NeverAt (curveFl cs) ps i ∧ (∀ j, j < i → ¬ NeverAt (curveFl cs) ps j) ∧ e = .returned (.tuple #[.slice none 0 0, .iface 103 (.pointer (some ⟨F, 0, none⟩))]) ∧ w'.cell? ⟨F, 0, none⟩ = some (.int .i64 (i : Int)) ∧ w'.cell? ⟨F, 1, none⟩ = some (.iface 261 (.pointer (some (ad 3))))) ∨
  (∃ qa qcap at_ L, (∀ i, ¬ NeverAt (curveFl cs) ps i) ∧ Shaped (curveFl cs) ps at_ ∧ IsOrder at_ ps.length L ∧ e = .returned (.tuple #[.slice qa (gatePks ps at_ L).length qcap, .nilIface]) ∧ PksLie w' qa qcap (gatePks ps at_ L)))
structure FlowsAt (ps : List Pk) (f : Nat) (xs : Nat → Pk) : Prop where
 flow : ∀ i p, ps[i]? = some p → (xs i).flow = p.flow ∧ (xs i).size = p.size
 left : ∀ i p, ps[i]? = some p → f ≤ flowOf ps i → xs i = p
def tickAt (n : Nat) (xs : Nat → Pk) (i : Nat) : Int := if i < n then (xs i).tick else 0
section
variable {cs : Nat → List (Int × Int)} {ps : List Pk} {f : Nat} {z : Int} {xs ys : Nat → Pk}
theorem FlowsAt.nums (ho : OkPks ps) (h : FlowsAt ps f xs) : ∀ i, i < ps.length → ((xs i).flow == (f : Int)) = (flowOf ps i == f) := fun i hi => by
 have e : ps[i]? = some ps[i] := List.getElem?_eq_getElem hi
 rw [(h.flow i _ e).1]
 have := flow_is ho e f
 by_cases hf : flowOf ps i = f
 · rw [beq_iff_eq.2 (this.2 hf), beq_iff_eq.2 hf]
 · rw [beq_eq_false_iff_ne.2 (fun h' => hf (this.1 h')), beq_eq_false_iff_ne.2 hf]
theorem FlowsAt.own (ho : OkPks ps) (h : FlowsAt ps f xs) : ∀ (r i : Nat), (numTo ps f ps.length)[r]? = some i → (ownTo ps f ps.length)[r]? = some (xs i) := fun r i hr => by
 obtain ⟨g1, g2, -, g4⟩ := (own_num ho f ps.length (Nat.le_refl _)).2 r i hr
 have e : ps[i]? = some ps[i] := List.getElem?_eq_getElem g1
 rw [g4, e, h.left i _ e (by omega)]
theorem flows_skip (ho : OkPks ps) (hc : cs f = []) (h : FlowsAt ps f xs) (hd : FlowsDone cs ps f z (tickAt ps.length xs)) : FlowsAt ps (f + 1) xs ∧ FlowsDone cs ps (f + 1) z (tickAt ps.length xs) := by
 refine ⟨⟨h.flow, fun i p hi hf => h.left i p hi (by omega)⟩, hd.shaped ho (out := ownTo ps f ps.length) (by unfold shapedFl; rw [if_pos hc]) (fun r i hr => ?_) (fun _ _ => rfl)⟩
 have hlt := ((own_num ho f ps.length (Nat.le_refl _)).2 r i hr).1
 unfold tickAt
 rw [if_pos hlt, tickOf_get (h.own ho r i hr)]
theorem flows_shape (ho : OkPks ps) (hk : okCurve (cs f)) (hne : cs f ≠ []) (h : FlowsAt ps f xs) (hd : FlowsDone cs ps f z (tickAt ps.length xs)) {s : Sh} (hs : shape (cs f) (ownTo ps f ps.length) = some s) (h1 : ∀ (r i : Nat), (numTo ps f ps.length)[r]? = some i → s.out[r]? = some (ys i)) (h2 : ∀ i, i < ps.length → i ∉ numTo ps f ps.length → ys i = xs i) : FlowsAt ps (f + 1) ys ∧ FlowsDone cs ps (f + 1) z (tickAt ps.length ys) := by
 have hown := (own_ok ho f ps.length (Nat.le_refl _)).1
 have hg := shape_good hk _ s hown hs
 refine ⟨⟨fun i p hi => ?_, fun i p hi hf => ?_⟩, hd.shaped ho (out := s.out) (by unfold shapedFl; rw [if_neg hne, hs]; rfl) (fun r i hr => ?_) (fun i hi => ?_)⟩
 ·
  by_cases hm : i ∈ numTo ps f ps.length
  ·
   obtain ⟨r, hr, e⟩ := List.getElem_of_mem hm
   have e2 : (numTo ps f ps.length)[r]? = some i := by rw [List.getElem?_eq_getElem hr, e]
   have := hg.each r _ _ (h.own ho r i e2) (h1 r i e2)
   rw [this.1, this.2.1]
   exact h.flow i p hi
  ·
   rw [h2 i (lt_of_get hi) hm]
   exact h.flow i p hi
 ·
  have hm : i ∉ numTo ps f ps.length := fun hm => by have := (num_mem.1 hm).2; omega
  rw [h2 i (lt_of_get hi) hm]
  exact h.left i p hi (by omega)
 ·
  have hlt := ((own_num ho f ps.length (Nat.le_refl _)).2 r i hr).1
  unfold tickAt
  rw [if_pos hlt, tickOf_get (h1 r i hr)]
 ·
  unfold tickAt
  by_cases hlt : i < ps.length
  · rw [if_pos hlt, if_pos hlt, h2 i hlt hi]
  · rw [if_neg hlt, if_neg hlt]
theorem flows_stuck (ho : OkPks ps) (hne : cs f ≠ []) (h : FlowsAt ps f xs) (hd : FlowsDone cs ps f z (tickAt ps.length xs)) {r i : Nat} {p : Pk} {s : Sh} (hr : (numTo ps f ps.length)[r]? = some i) (h1 : (ownTo ps f ps.length)[r]? = some p) (h2 : shape (cs f) ((ownTo ps f ps.length).take r) = some s) (h3 : shStep s p = none) : FlowsAt ps (f + 1) xs ∧ FlowsDone cs ps (f + 1) (if z < 0 ∨ (i : Int) < z then (i : Int) else z) (tickAt ps.length xs) := by
 obtain ⟨g1, g2⟩ := never_num ho hne hr h1 h2 h3
 exact ⟨⟨h.flow, fun j q hj hf => h.left j q hj (by omega)⟩, hd.stuck ho g1 g2⟩
end
def stuckAt (n : Nat) (z : Int) : Int := if z < 0 then (n : Int) else z
theorem gatePk_at {ps : List Pk} {xs : Nat → Pk} (h : ∀ i p, ps[i]? = some p → (xs i).flow = p.flow ∧ (xs i).size = p.size) {i : Nat} (hi : i < ps.length) : gatePk ps (tickAt ps.length xs) i = xs i := by
 have e : ps[i]? = some ps[i] := List.getElem?_eq_getElem hi
 obtain ⟨h1, h2⟩ := h i _ e
 rw [gatePk_get e, ← h1, ← h2]
 unfold tickAt
 rw [if_pos hi]
theorem liesP_row {w : World} {g off n : Nat} {pk : Nat → Pk} {h : Nat → Nat} (hr : RowP w g off n pk h) : LiesP w (some ⟨g, off, none⟩) (((List.range n).map h).map pk) := by
 refine .inr ⟨g, off, rfl, hr.lt, fun i p hi => ?_⟩
 have hin : i < n := by have := lt_of_get hi; simpa using this
 have e : pk (h i) = p := by simpa [hin] using hi
 have c0 := hr.c0 i hin
 have c1 := hr.c1 i hin
 have c2 := hr.c2 i hin
 rw [e] at c0 c1 c2
 exact ⟨c0, c1, c2⟩
theorem row_of_own {w : World} {B g cap : Nat} {ps : List Pk} (h : OwnP w B (.slice (some ⟨g, 0, none⟩) ps.length cap) ps) (hg : g < w.heap.size) : RowP w g 0 ps.length (fun i => ps.getD i ⟨0, 0, 0⟩) (fun i => i) := by
 refine ⟨hg, fun i hi => ?_, fun i hi => ?_, fun i hi => ?_, fun j => World.ownsRow.frozenAt h j⟩
 all_goals
  have e : ps[i]? = some ps[i] := List.getElem?_eq_getElem hi
  have hc := cellsP_get ps i ps[i] e
  rw [Nat.zero_add, World.ownsRow.cellAt h _ (by omega)]
  simp only [List.getD, e, Option.getD_some]
 · exact hc.1
 · exact hc.2.1
 · exact hc.2.2
end Go.Proofs.YtnomdlclkpnjpaaGreatDoor

namespace Go.Proofs.YtnomdlclkpnjpaaGreatDoor
open Go.RowKit
set_option maxRecDepth 100000 in
set_option maxHeartbeats 2000000 in
theorem shapeAll_none (ca : Option Addr) (ccap : Nat) (cs : List (List (Int × Int))) (pa : Option Addr) (pcap : Nat) (w : World) (ad : Nat → Addr) (he : Errs9 w ad) (hl : LiesC w ca cs) (h8 : cs.length = 8) (hto : CurvesTo cs 8) (hp : PksLie w pa pcap []) :
  Calls Tryz.prog 46 #[.slice ca cs.length ccap, .slice pa 0 pcap] w fun e w' => ShapeAllEnd cs [] ad w e w' := by
 have HC := (show Hid (Calls Tryz.prog 74 #[.slice pa 0 pcap] w fun e w' => ∃ v, e = .returned v ∧ OwnP w' w.heap.size v [] ∧ Below w.heap.size w w') from clonePkts_any pa pcap [] w hp.pks (by simp) hp.none_)
 have HE : Hid (Errs9 w ad) := he
 have HTo : Hid (CurvesTo cs 8) := hto
 have H8 : Hid (cs.length = 8) := h8
 obtain ⟨b, off, rfl, -, hcc⟩ := hl.place (by omega)
 have HCc : Hid (∀ (i : Nat) ls, cs[i]? = some ls → ∃ a' cap, w.cell? ⟨b, off + i, none⟩ = some (.slice a' ls.length cap) ∧ Lies w a' ls ∧ ls.length ≤ cap ∧ cap ≤ maxLen ∧ (a' = none → ls = [] ∧ cap = 0)) := hcc
 have HEnd : Hid (∀ (qa : Option Addr) (qcap : Nat) (W : World), Below w.heap.size w W → qcap ≤ maxLen → (qa = none → qcap = 0) → ShapeAllEnd cs [] ad w (.returned (.tuple #[.slice qa 0 qcap, .nilIface])) W) := fun qa qcap W hb h1 h2 => by
  have hn : ∀ i, ¬ NeverAt (curveFl cs) [] i := fun i h => by obtain ⟨p, s, h1, -⟩ := h; simp at h1
  obtain ⟨at_, hs⟩ := shaped_is (cs := curveFl cs) okPks_none hn
  exact ⟨hb, .inr ⟨qa, qcap, at_, [], hn, hs, IsOrder.start at_, rfl, .inl rfl, Nat.zero_le _, h1, fun h => ⟨rfl, h2 h⟩⟩⟩
 rw [h8]
 clear he hto hl hp hcc h8
 go_enter Tryz.func46, Tryz.ntmps46
 go_wp2_with fail
 refine HC.out.mono ?_
 rintro e w1 ⟨v, rfl, hown, hb1⟩
 obtain ⟨qa, qcap, rfl, -, hqm, -, -, hqn⟩ := hown.open
 have HQ : Hid (qcap ≤ maxLen ∧ (qa = none → qcap = 0)) := ⟨hqm, fun h => (hqn h).2⟩
 have HB1 : Hid (Below w.heap.size w w1) := hb1
 simp only [List.length_nil] at *
 clear hown hqm hqn hb1 HC
 go_wp2_with fail
 go_loopg [7, 16] 8 (fun gk sv iv wr => ∃ k : Nat, sv = .int .i64 0 ∧ iv = .int .i64 (k : Int) ∧ k ≤ 8 ∧ 8 - k ≤ gk ∧ Hid (Below w.heap.size w wr))
 case atStart => exact ⟨0, rfl, rfl, Nat.zero_le _, Nat.le_refl _, HB1⟩
 case round =>
  clear HB1
  obtain ⟨k, rfl, rfl, hk8', hgk, HB⟩ := hrel
  by_cases hk8 : k < 8
  ·
   have hkz : (k : Int) < 8 := by omega
   obtain ⟨ls, hls, -⟩ := get_some cs k (by rw [H8.out]; exact hk8)
   obtain ⟨a', cap, cj0, hlies, hlc, hlm, -⟩ := HCc.out k ls hls
   have cj := cell_later HB.out cj0
   have HG : Hid (cs[k]? = some ls ∧ Lies w a' ls) := ⟨hls, hlies⟩
   obtain ⟨n, hn⟩ : ∃ n, ls.length = n := ⟨_, rfl⟩
   have HN : Hid (ls.length = n) := hn
   rw [hn] at cj
   clear hls cj0 hlies hlc hlm hn
   by_cases hn0 : n = 0
   ·
    have HEm : Hid (Calls Tryz.prog 62 #[.slice a' n cap] wr fun e w' => e = .returned (.bool true) ∧ w' = wr) := isEmpty_any a' n cap wr true (by simp; exact hn0)
    clear hn0
    go_wp2_with fail
    refine HEm.out.mono ?_
    rintro e w2 ⟨rfl, rfl⟩
    go_wp2_with fail
    go_roundg (8 - (k + 1))
    case measure => omega
    case rel => exact ⟨k + 1, rfl, by go_num, by omega, Nat.le_refl _, HB⟩
   ·
    have HEm : Hid (Calls Tryz.prog 62 #[.slice a' n cap] wr fun e w' => e = .returned (.bool false) ∧ w' = wr) := isEmpty_any a' n cap wr false (by simp; omega)
    have hok : okCurve ls := by
     rcases HTo.out k ls hk8 HG.out.1 with h | h
     · exact absurd (by rw [← HN.out, h]; rfl) hn0
     · exact h
    have HFl : Hid (Calls Tryz.prog 75 #[.slice a' n cap, .slice qa 0 qcap, .int .i64 (k : Int)] wr fun e w' => e = .returned (.int .i64 0) ∧ Below wr.heap.size wr w') := by
     have := shapeFlow_none a' cap ls qa qcap (k : Int) wr ad (HE.out.below HB.out) (HG.out.2.below HB.out) hok
     rwa [HN.out] at this
    clear hok hn0
    go_wp2_with fail
    refine HEm.out.mono ?_
    rintro e w2 ⟨rfl, rfl⟩
    go_wp2_with fail
    refine HFl.out.mono ?_
    rintro e w3 ⟨rfl, hb3⟩
    have HB3 : Hid (Below w.heap.size w w3) := HB.out.trans (hb3.mono HB.out.size)
    clear hb3
    go_wp2_with fail
    go_roundg (8 - (k + 1))
    case measure => omega
    case rel => exact ⟨k + 1, rfl, by go_num, by omega, Nat.le_refl _, HB3⟩
  ·
   have hkz : ¬ (k : Int) < 8 := by omega
   have HSo : Hid (Calls Tryz.prog 76 #[.slice qa 0 qcap, .func (.func 77) #[] #[]] wr fun e w' => e = .returned (.tuple #[]) ∧ w' = wr) := sortStable_none qa qcap _ wr
   go_wp2_with fail
   refine HSo.out.mono ?_
   rintro e w2 ⟨rfl, rfl⟩
   go_wp2_with fail
   go_ret2
   exact HEnd.out qa qcap _ HB.out HQ.out.1 HQ.out.2
set_option maxRecDepth 100000 in
set_option maxHeartbeats 4000000 in
theorem shapeAll_some (ca : Option Addr) (ccap : Nat) (cs : List (List (Int × Int))) (pa : Option Addr) (pcap : Nat) (ps : List Pk) (w : World) (ad : Nat → Addr) (he : Errs9 w ad) (hl : LiesC w ca cs) (h8 : cs.length = 8) (hto : CurvesTo cs 8) (hp : PksLie w pa pcap ps) (ho : OkPks ps) (hpos : 0 < ps.length) :
  Calls Tryz.prog 46 #[.slice ca cs.length ccap, .slice pa ps.length pcap] w fun e w' => ShapeAllEnd cs ps ad w e w' := by
 have hn3 := ho.few
 have HC := (show Hid (Calls Tryz.prog 74 #[.slice pa ps.length pcap] w fun e w' => ∃ v, e = .returned v ∧ OwnP w' w.heap.size v ps ∧ Below w.heap.size w w') from clonePkts_any pa pcap ps w hp.pks (by omega) hp.none_)
 have HE : Hid (Errs9 w ad) := he
 have HTo : Hid (CurvesTo cs 8) := hto
 have H8 : Hid (cs.length = 8) := h8
 have HO : Hid (OkPks ps) := ho
 obtain ⟨b, off, rfl, -, hcc⟩ := hl.place (by omega)
 have HCc : Hid (∀ (i : Nat) ls, cs[i]? = some ls → ∃ a' cap, w.cell? ⟨b, off + i, none⟩ = some (.slice a' ls.length cap) ∧ Lies w a' ls ∧ ls.length ≤ cap ∧ cap ≤ maxLen ∧ (a' = none → ls = [] ∧ cap = 0)) := hcc
 obtain ⟨N, hN⟩ : ∃ N, ps.length = N := ⟨_, rfl⟩
 have HNN : Hid (ps.length = N) := hN
 rw [h8]
 rw [hN] at HC hpos hn3 ⊢
 clear he hto hl hp ho hcc h8 hN
 go_enter Tryz.func46, Tryz.ntmps46
 go_wp2_with fail
 refine HC.out.mono ?_
 rintro e w1 ⟨v, rfl, hown, hb1⟩
 obtain ⟨g, qcap, rfl, hgB, hg⟩ : ∃ g cap1, v = .slice (some ⟨g, 0, none⟩) ps.length cap1 ∧ w.heap.size ≤ g ∧ g < w1.heap.size := by
  obtain ⟨g, cap1, hv, hb1, hb2⟩ := World.ownsRow.form hown (by rw [HNN.out]; exact hpos)
  exact ⟨g, cap1, hv, hb1, hb2⟩
 have hrow := row_of_own hown hg
 obtain ⟨qa', qcap', hqe, hqc, hqm, -, -, -⟩ := hown.open
 injection hqe with hqe1 hqe2 hqe3
 subst hqe3
 rw [HNN.out] at hrow hqc ⊢
 have HQ : Hid (N ≤ qcap ∧ qcap ≤ maxLen) := ⟨hqc, hqm⟩
 have HB1 : Hid (Below w.heap.size w w1 ∧ w.heap.size ≤ g) := ⟨hb1, hgB⟩
 have HRow : Hid (RowP w1 g 0 N (fun i => ps.getD i ⟨0, 0, 0⟩) (fun i => i)) := hrow
 clear hown hqm hqc hb1 HC hrow hqe1 hgB hg
 go_wp2_with fail
 go_loopg [7, 16] 8 (fun gk sv iv wr => ∃ (k : Nat) (z : Int) (xs : Nat → Pk), sv = .int .i64 (stuckAt N z) ∧ iv = .int .i64 (k : Int) ∧ k ≤ 8 ∧ 8 - k ≤ gk ∧ Hid (FlowsAt ps k xs ∧ FlowsDone (curveFl cs) ps k z (tickAt N xs)) ∧ Hid (RowP wr g 0 N xs (fun i => i) ∧ But (fun q => q = g) w1 wr))
 case atStart =>
  refine ⟨0, -1, fun i => ps.getD i ⟨0, 0, 0⟩, rfl, rfl, Nat.zero_le _, Nat.le_refl _, ⟨⟨fun i p hi => ?_, fun i p hi _ => ?_⟩, flowsDone_none _⟩, HRow.out, But.refl _ _⟩
  · simp [List.getD, hi]
  · simp [List.getD, hi]
 case round =>
  clear HRow
  obtain ⟨k, z, xs, rfl, rfl, hk8', hgk, HD, H⟩ := hrel
  have HB : Hid (Below w.heap.size w wr) := HB1.out.1.trans (H.out.2.below HB1.out.1.size fun q hq => by rw [hq]; exact HB1.out.2)
  have hzr : 0 ≤ stuckAt N z ∧ stuckAt N z ≤ N := by
   unfold stuckAt
   rcases HD.out.2.range with h | ⟨i, h1, h2⟩
   · rw [if_pos (by omega)]; omega
   · rw [if_neg (by omega)]; rw [HNN.out] at h2; omega
  by_cases hk8 : k < 8
  ·
   have hkz : (k : Int) < 8 := by omega
   obtain ⟨ls, hls, -⟩ := get_some cs k (by rw [H8.out]; exact hk8)
   obtain ⟨a', cap, cj0, hlies, hlc, hlm, -⟩ := HCc.out k ls hls
   have cj := cell_later HB.out cj0
   have HG : Hid (cs[k]? = some ls ∧ Lies w a' ls ∧ curveFl cs k = ls) := ⟨hls, hlies, curveFl_get hls⟩
   obtain ⟨n, hn⟩ : ∃ n, ls.length = n := ⟨_, rfl⟩
   have HN : Hid (ls.length = n) := hn
   rw [hn] at cj
   obtain ⟨S, hS⟩ : ∃ S, stuckAt N z = S := ⟨_, rfl⟩
   have HS : Hid (stuckAt N z = S) := hS
   rw [hS] at hzr ⊢
   clear hls cj0 hlies hlc hlm hn hS
   by_cases hn0 : n = 0
   ·
    have HEm : Hid (Calls Tryz.prog 62 #[.slice a' n cap] wr fun e w' => e = .returned (.bool true) ∧ w' = wr) := isEmpty_any a' n cap wr true (by simp; exact hn0)
    have HD' : Hid (FlowsAt ps (k + 1) xs ∧ FlowsDone (curveFl cs) ps (k + 1) z (tickAt N xs)) := by
     have h0 : curveFl cs k = [] := by rw [HG.out.2.2]; exact List.length_eq_zero_iff.1 (HN.out.trans hn0)
     have := HD.out
     rw [← HNN.out] at this ⊢
     exact flows_skip HO.out h0 this.1 this.2
    clear hn0
    go_wp2_with fail
    refine HEm.out.mono ?_
    rintro e w2 ⟨rfl, rfl⟩
    go_wp2_with fail
    go_roundg (8 - (k + 1))
    case measure => omega
    case rel => exact ⟨k + 1, z, xs, by rw [HS.out], by go_num, by omega, Nat.le_refl _, HD', H⟩
   ·
    have HEm : Hid (Calls Tryz.prog 62 #[.slice a' n cap] wr fun e w' => e = .returned (.bool false) ∧ w' = wr) := isEmpty_any a' n cap wr false (by simp; omega)
    have hne : curveFl cs k ≠ [] := fun h => hn0 (by rw [← HN.out, ← HG.out.2.2, h]; rfl)
    have hok : okCurve ls := by
     rcases HTo.out k ls hk8 HG.out.1 with h | h
     · exact absurd (by rw [← HN.out, h]; rfl) hn0
     · exact h
    have HFl : Hid (Calls Tryz.prog 75 #[.slice a' n cap, .slice (some ⟨g, 0, none⟩) N qcap, .int .i64 (k : Int)] wr fun e w' => FlowEnd g 0 N xs ps k ls wr e w') := by
     have h1 := HD.out.1.nums HO.out
     have h2 := HD.out.1.own HO.out
     rw [HNN.out] at h1 h2
     have := shapeFlow_any a' cap ls g 0 N qcap xs ps k wr ad (HE.out.below HB.out) (HG.out.2.1.below HB.out) hok H.out.1 HNN.out HO.out h1 h2
     rwa [HN.out] at this
    have HOk : Hid (okCurve ls ∧ curveFl cs k ≠ []) := ⟨hok, hne⟩
    clear hok hn0 hne
    go_wp2_with fail
    refine HEm.out.mono ?_
    rintro e w2 ⟨rfl, rfl⟩
    go_wp2_with fail
    refine HFl.out.mono ?_
    rintro e w3 ⟨hbt, ⟨s, ys, hs, rfl, hry, hy1, hy2⟩ | ⟨r, i, p, s, hr, hw, hs, hst, rfl, hry⟩⟩
    ·
     have HD' : Hid (FlowsAt ps (k + 1) ys ∧ FlowsDone (curveFl cs) ps (k + 1) z (tickAt N ys)) := by
      have h1 := HD.out
      have h2 := HOk.out
      have h3 := HG.out.2.2
      rw [← HNN.out] at h1 hs hy1 hy2 ⊢
      rw [← h3] at h2 hs
      exact flows_shape HO.out h2.1 h2.2 h1.1 h1.2 hs hy1 hy2
     have H' : Hid (RowP w3 g 0 N ys (fun i => i) ∧ But (fun q => q = g) w1 w3) := ⟨hry, H.out.2.trans hbt⟩
     clear hbt hs hry hy1 hy2 HFl
     go_wp2_with fail
     go_roundg (8 - (k + 1))
     case measure => omega
     case rel => exact ⟨k + 1, z, ys, by rw [HS.out, show min S (N : Int) = S by omega], by go_num, by omega, Nat.le_refl _, HD', H'⟩
    ·
     have hiN : i < N := by
      have := (num_mem.1 (List.mem_of_getElem? hr)).1
      exact this
     have HD' : Hid (FlowsAt ps (k + 1) xs ∧ FlowsDone (curveFl cs) ps (k + 1) (if z < 0 ∨ (i : Int) < z then (i : Int) else z) (tickAt N xs)) := by
      have h1 := HD.out
      have h2 := HOk.out
      have h3 := HG.out.2.2
      rw [← HNN.out] at h1 hr hw hs ⊢
      rw [← h3] at hs
      exact flows_stuck HO.out h2.2 h1.1 h1.2 hr hw hs hst
     have H' : Hid (RowP w3 g 0 N xs (fun i => i) ∧ But (fun q => q = g) w1 w3) := ⟨hry, H.out.2.trans hbt⟩
     have HMi : Hid (stuckAt N (if z < 0 ∨ (i : Int) < z then (i : Int) else z) = min S (i : Int)) := by
      show _ = _
      rw [← HS.out]
      unfold stuckAt
      by_cases h1 : z < 0
      ·
       have e : (if z < 0 ∨ (i : Int) < z then (i : Int) else z) = (i : Int) := if_pos (.inl h1)
       rw [e, if_neg (by omega), if_pos h1]; omega
      ·
       by_cases h2 : (i : Int) < z
       ·
        have e : (if z < 0 ∨ (i : Int) < z then (i : Int) else z) = (i : Int) := if_pos (.inr h2)
        rw [e, if_neg (by omega), if_neg h1]; omega
       ·
        have e : (if z < 0 ∨ (i : Int) < z then (i : Int) else z) = z := if_neg (by omega)
        rw [e, if_neg h1]; omega
     clear hbt hs hry hr hw hst HFl
     go_wp2_with fail
     go_roundg (8 - (k + 1))
     case measure => omega
     case rel => exact ⟨k + 1, _, xs, by rw [HMi.out], by go_num, by omega, Nat.le_refl _, HD', H'⟩
  ·
   have hkz : ¬ (k : Int) < 8 := by omega
   obtain rfl : k = 8 := by omega
   by_cases hz0 : z < 0
   ·
    have hsN : stuckAt N z = N := by unfold stuckAt; rw [if_pos hz0]
    rw [hsN]
    have hlt : ¬ (N : Int) < (N : Int) := by omega
    have hfd : ∀ f, f < 8 → ∃ out, shapedFl (curveFl cs) ps f = some out ∧ ∀ (r i : Nat), (numTo ps f ps.length)[r]? = some i → tickAt N xs i = tickOf out r := by
     rcases HD.out.2 with ⟨-, h⟩ | ⟨i, h, -⟩
     · exact h
     · omega
    have hnev : ∀ i, ¬ NeverAt (curveFl cs) ps i := fun i hi => by
     have hil : i < ps.length := by obtain ⟨p, s, h1, -⟩ := hi; exact lt_of_get h1
     obtain ⟨out, h1, -⟩ := hfd _ (flow_range HO.out hil)
     exact never_not HO.out h1 rfl hi
    have HNev : Hid ((∀ i, ¬ NeverAt (curveFl cs) ps i) ∧ Shaped (curveFl cs) ps (tickAt N xs)) := ⟨hnev, hfd⟩
    have HSta : Hid (StaAt wr g 0 N (gatePk ps (tickAt N xs)) (fun i => i) wr) := by
     have e : ∀ i, i < N → gatePk ps (tickAt N xs) i = xs i := fun i hi => by
      have := gatePk_at HD.out.1.flow (i := i) (by rw [HNN.out]; exact hi)
      rwa [HNN.out] at this
     refine ⟨⟨H.out.1.lt, fun i hi => ?_, fun i hi => ?_, fun i hi => ?_, H.out.1.fz⟩, But.refl _ _⟩
     · rw [e i hi]; exact H.out.1.c0 i hi
     · rw [e i hi]; exact H.out.1.c1 i hi
     · rw [e i hi]; exact H.out.1.c2 i hi
    have HSo : Hid (Calls Tryz.prog 76 #[.slice (some ⟨g, 0, none⟩) N qcap, .func (.func 77) #[] #[]] wr fun e w' => e = .returned (.tuple #[]) ∧ ∃ h, IsOrder (tickBy (gatePk ps (tickAt N xs))) N ((List.range N).map h) ∧ StaAt wr g 0 N (gatePk ps (tickAt N xs)) h w') := sortStable_ok wr g 0 N qcap _ wr HSta.out (by omega)
    clear hsN hfd hnev hz0 hzr
    go_wp2_with fail
    refine HSo.out.mono ?_
    rintro e w2 ⟨rfl, h, hord, hsta⟩
    have HEnd : Hid (ShapeAllEnd cs ps ad w (.returned (.tuple #[.slice (some ⟨g, 0, none⟩) N qcap, .nilIface])) w2) := by
     have hord2 : IsOrder (tickAt N xs) N ((List.range N).map h) := hord.turn fun i hi => by
      show (gatePk ps (tickAt N xs) i).tick = _
      have e : ps[i]? = some (ps[i]'(by rw [HNN.out]; exact hi)) := List.getElem?_eq_getElem _
      rw [gatePk_get e]
     have hlie := liesP_row hsta.row
     have hlen : (gatePks ps (tickAt N xs) ((List.range N).map h)).length = N := by simp [gatePks]
     refine ⟨HB.out.trans (hsta.but.below HB.out.size fun q hq => by rw [hq]; exact HB1.out.2), .inr ⟨some ⟨g, 0, none⟩, qcap, tickAt N xs, (List.range N).map h, HNev.out.1, HNev.out.2, by rw [HNN.out]; exact hord2, by rw [hlen], ⟨hlie, by rw [hlen]; exact HQ.out.1, HQ.out.2, fun h => by cases h⟩⟩⟩
    clear hord hsta HSo HSta
    go_wp2_with fail
    go_ret2
    exact HEnd.out
   ·
    obtain ⟨i, hzi, hni, -, hall⟩ : ∃ i : Nat, z = i ∧ NeverAt (curveFl cs) ps i ∧ flowOf ps i < 8 ∧ ∀ j, NeverAt (curveFl cs) ps j → flowOf ps j < 8 → i ≤ j := by
     rcases HD.out.2 with ⟨h, -⟩ | h
     · omega
     · exact h
    have hsi : stuckAt N z = (i : Int) := by unfold stuckAt; rw [if_neg hz0]; exact hzi
    have hiN : i < N := by obtain ⟨p, s, h1, -⟩ := hni; have := lt_of_get h1; rw [HNN.out] at this; exact this
    have hilt : (i : Int) < (N : Int) := by omega
    have HNev : Hid (NeverAt (curveFl cs) ps i ∧ ∀ j, j < i → ¬ NeverAt (curveFl cs) ps j) := ⟨hni, fun j hj hnj => by
     have hjl : j < ps.length := by obtain ⟨p, s, h1, -⟩ := hnj; exact lt_of_get h1
     have := hall j hnj (flow_range HO.out hjl)
     omega⟩
    have c3 := (HE.out.below HB.out).c3
    rw [hsi]
    clear hzi hni hall hsi hz0 hzr
    go_wp2_with fail
    go_region
    have HEnd : Hid (ShapeAllEnd cs ps ad w (.returned (.tuple #[.slice none 0 0, .iface 103 (.pointer (some ⟨wr.heap.size, 0, none⟩))])) (wr.alloc (.cells #[.int .i64 (i : Int), .iface 261 (.pointer (some (ad 3)))] 105)).drew) := ⟨below_drewN (HB.out.alloc HB.out.size _) 1, .inl ⟨i, wr.heap.size, HNev.out.1, HNev.out.2, rfl, by simp, by simp⟩⟩
    go_wp2_with fail
    go_ret2
    exact HEnd.out
theorem shapeAll_any (ca : Option Addr) (ccap : Nat) (cs : List (List (Int × Int))) (pa : Option Addr) (pcap : Nat) (ps : List Pk) (w : World) (ad : Nat → Addr) (he : Errs9 w ad) (hl : LiesC w ca cs) (h8 : cs.length = 8) (hto : CurvesTo cs 8) (hp : PksLie w pa pcap ps) (ho : OkPks ps) :
  Calls Tryz.prog 46 #[.slice ca cs.length ccap, .slice pa ps.length pcap] w fun e w' => ShapeAllEnd cs ps ad w e w' := by
 rcases Nat.eq_zero_or_pos ps.length with h0 | h0
 ·
  obtain rfl : ps = [] := List.length_eq_zero_iff.1 h0
  exact shapeAll_none ca ccap cs pa pcap w ad he hl h8 hto hp
 · exact shapeAll_some ca ccap cs pa pcap ps w ad he hl h8 hto hp ho h0
end Go.Proofs.YtnomdlclkpnjpaaGreatDoor
