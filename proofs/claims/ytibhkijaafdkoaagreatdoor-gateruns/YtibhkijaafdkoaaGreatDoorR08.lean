/- Own facts, put together: no statement of its own. -/
import Derived.Test.YtibhkijaafdkoaaGreatDoorR04
import Derived.Test.YtibhkijaafdkoaaGreatDoorR06
import Derived.Test.YtibhkijaafdkoaaGreatDoorR03
import Derived.Test.YtibhkijaafdkoaaGreatDoorR07
import Derived.Test.YtibhkijaafdkoaaGreatDoorR02
import Derived.Laws.OwnMore
import Derived.Sort.Row
import Derived.Test.YtibhkijaafdkoaaGreatDoorR01
import Derived.Deep.LoopGhost
import Derived.Maps.OwnOps
import Derived.Maps.Views
import Derived.Laws.EntriesVeiled
import Derived.Laws.StructEq
namespace Go.Proofs.YtibhkijaafdkoaaGreatDoor
theorem FaultIs.unique {ls : List (Int × Int)} {c a c' a' : Int} (h : FaultIs ls c a) (h' : FaultIs ls c' a') : c = c' := by
 have no : ∀ j : Nat, j < ls.length → (∀ x y, ls[j]? = some (x, y) → okLine x y = false) → okAll ls → False := fun j hj hb ho => by
  have e : ls[j]? = some (ls[j].1, ls[j].2) := List.getElem?_eq_getElem hj
  have h1 := ho ls[j] (List.getElem_mem hj)
  rw [hb _ _ e] at h1
  cases h1
 rcases h with ⟨h1, rfl, -⟩ | ⟨h1, h6, j, hj, h2, h3, rfl, -⟩ | ⟨h, rfl, -⟩
 ·
  rcases h' with ⟨g1, rfl, -⟩ | ⟨g1, g6, j', hj', g2, g3, rfl, -⟩ | ⟨g, rfl, -⟩
  · rfl
  · omega
  · have := g.1; have := g.2.1; omega
 ·
  rcases h' with ⟨g1, rfl, -⟩ | ⟨g1, g6, j', hj', g2, g3, rfl, -⟩ | ⟨g, rfl, -⟩
  · omega
  · rfl
  · exact (no j hj h3 g.2.2).elim
 ·
  rcases h' with ⟨g1, rfl, -⟩ | ⟨g1, g6, j', hj', g2, g3, rfl, -⟩ | ⟨g, rfl, -⟩
  · have := h.1; have := h.2.1; omega
  · exact (no j' hj' g3 h.2.2).elim
  · rfl
def kindOf (bs : List UInt8) : Nat := if bs = [102, 105, 102, 111] then 1 else if bs = [114, 97, 110, 107] then 2 else if bs = [100, 117, 101] then 3 else if bs = [114, 111, 117, 110, 100] then 4 else if bs = [102, 97, 105, 114] then 5 else 0
theorem kindOf_le (bs : List UInt8) : kindOf bs ≤ 5 := by
 unfold kindOf
 repeat' split
 all_goals omega
def KindFault (k : Nat) (ns : List Int) (c : Nat) : Prop :=
 (k = 1 ∧ ((c = 3 ∧ ns ≠ []) ∨ (c = 0 ∧ ns = []))) ∨ (k = 2 ∧ NumsFault 0 100 ns c) ∨ (k = 3 ∧ NumsFault 0 1099511627776 ns c) ∨ (k = 4 ∧ NumsFault 1 3000 ns c) ∨ (k = 5 ∧ WtsFault ns c)
theorem kindFault_is {k : Nat} (h1 : 1 ≤ k) (h5 : k ≤ 5) (ns : List Int) : ∃ c, KindFault k ns c := by
 rcases (show k = 1 ∨ k = 2 ∨ k = 3 ∨ k = 4 ∨ k = 5 by omega) with rfl | rfl | rfl | rfl | rfl
 ·
  by_cases h : ns = []
  · exact ⟨0, .inl ⟨rfl, .inr ⟨rfl, h⟩⟩⟩
  · exact ⟨3, .inl ⟨rfl, .inl ⟨rfl, h⟩⟩⟩
 ·
  obtain ⟨c, h⟩ := numsFault_is 0 100 ns
  exact ⟨c, .inr (.inl ⟨rfl, h⟩)⟩
 ·
  obtain ⟨c, h⟩ := numsFault_is 0 1099511627776 ns
  exact ⟨c, .inr (.inr (.inl ⟨rfl, h⟩))⟩
 ·
  obtain ⟨c, h⟩ := numsFault_is 1 3000 ns
  exact ⟨c, .inr (.inr (.inr (.inl ⟨rfl, h⟩)))⟩
 ·
  obtain ⟨c, h⟩ := wtsFault_is ns
  exact ⟨c, .inr (.inr (.inr (.inr ⟨rfl, h⟩)))⟩
theorem KindFault.few {k : Nat} {ns : List Int} {c : Nat} (h : KindFault k ns c) : c = 0 ∨ c = 2 ∨ c = 3 := by
 rcases h with ⟨-, ⟨h, -⟩ | ⟨h, -⟩⟩ | ⟨-, ⟨h, -⟩ | ⟨h, -⟩ | ⟨h, -⟩⟩ | ⟨-, ⟨h, -⟩ | ⟨h, -⟩ | ⟨h, -⟩⟩ | ⟨-, ⟨h, -⟩ | ⟨h, -⟩ | ⟨h, -⟩⟩ | ⟨-, ⟨h, -⟩ | ⟨h, -⟩ | ⟨h, -⟩⟩ <;> omega
def curveFl (cs : List (List (Int × Int))) (f : Nat) : List (Int × Int) := cs.getD f []
theorem curveFl_get {cs : List (List (Int × Int))} {f : Nat} {ls : List (Int × Int)} (h : cs[f]? = some ls) : curveFl cs f = ls := by simp [curveFl, List.getD, h]
def CurvesTo (cs : List (List (Int × Int))) (k : Nat) : Prop := ∀ (i : Nat) ls, i < k → cs[i]? = some ls → ls = [] ∨ okCurve ls
def CurveBad (cs : List (List (Int × Int))) (i : Nat) (c : Int) : Prop := ∃ ls p, cs[i]? = some ls ∧ ls ≠ [] ∧ FaultIs ls c p ∧ 0 < c
theorem curves_split (cs : List (List (Int × Int))) : ∀ k, k ≤ cs.length → CurvesTo cs k ∨ ∃ i c, i < k ∧ CurveBad cs i c ∧ CurvesTo cs i
 | 0, _ => .inl fun i ls h => absurd h (Nat.not_lt_zero _)
 | k + 1, hk => by
  rcases curves_split cs k (by omega) with h | ⟨i, c, h1, h2, h3⟩
  ·
   have e : cs[k]? = some cs[k] := List.getElem?_eq_getElem (by omega)
   by_cases h0 : cs[k] = []
   ·
    refine .inl fun i ls hi hl => ?_
    rcases Nat.lt_or_ge i k with h' | h'
    · exact h i ls h' hl
    ·
     obtain rfl : i = k := by omega
     rw [e] at hl
     obtain rfl := Option.some.inj hl
     exact .inl h0
   ·
    obtain ⟨c, p, hf⟩ := fault_is cs[k]
    by_cases hc : c = 0
    ·
     subst hc
     refine .inl fun i ls hi hl => ?_
     rcases Nat.lt_or_ge i k with h' | h'
     · exact h i ls h' hl
     ·
      obtain rfl : i = k := by omega
      rw [e] at hl
      obtain rfl := Option.some.inj hl
      exact .inr hf.ok.1
    ·
     have := hf.num
     exact .inr ⟨k, c, by omega, ⟨_, p, e, h0, hf, by omega⟩, h⟩
  · exact .inr ⟨i, c, by omega, h2, h3⟩
theorem CurvesTo.ok {cs : List (List (Int × Int))} (h : CurvesTo cs 8) : CurvesOk (curveFl cs) := fun f hf => by
 cases e : cs[f]? with
 | none => exact .inl (by simp [curveFl, List.getD, e])
 | some ls => rw [curveFl_get e]; exact h f ls hf e
def GateIs (cs : List (List (Int × Int))) (k : Nat) (per : Int) (ns : List Int) (c p : Int) : Prop :=
 (cs.length ≠ 8 ∧ c = 3 ∧ p = -1) ∨ (cs.length = 8 ∧ ∃ i : Nat, CurveBad cs i c ∧ p = i ∧ CurvesTo cs i) ∨
  (cs.length = 8 ∧ CurvesTo cs 8 ∧ p = -1 ∧ ((k = 0 ∧ c = 9) ∨ (1 ≤ k ∧ k ≤ 5 ∧ ((¬ (1 ≤ per ∧ per ≤ 1000) ∧ c = 2) ∨ (1 ≤ per ∧ per ≤ 1000 ∧ ∃ d : Nat, KindFault k ns d ∧ c = d)))))
structure GateOk (cs : List (List (Int × Int))) (k : Nat) (per : Int) (ns : List Int) : Prop where
 len : cs.length = 8
 curves : CurvesTo cs 8
 kind : 1 ≤ k ∧ k ≤ 5
 per : 1 ≤ per ∧ per ≤ 1000
 nums : KindFault k ns 0
theorem gateIs_is (cs : List (List (Int × Int))) {k : Nat} (hk : k ≤ 5) (per : Int) (ns : List Int) : ∃ c p, GateIs cs k per ns c p := by
 by_cases hl : cs.length = 8
 ·
  rcases curves_split cs 8 (by omega) with h | ⟨i, c, h1, h2, h3⟩
  ·
   by_cases h0 : k = 0
   · exact ⟨9, -1, .inr (.inr ⟨hl, h, rfl, .inl ⟨h0, rfl⟩⟩)⟩
   ·
    by_cases hp : 1 ≤ per ∧ per ≤ 1000
    ·
     obtain ⟨d, hd⟩ := kindFault_is (k := k) (by omega) hk ns
     exact ⟨d, -1, .inr (.inr ⟨hl, h, rfl, .inr ⟨by omega, hk, .inr ⟨hp.1, hp.2, d, hd, rfl⟩⟩⟩)⟩
    · exact ⟨2, -1, .inr (.inr ⟨hl, h, rfl, .inr ⟨by omega, hk, .inl ⟨hp, rfl⟩⟩⟩)⟩
  · exact ⟨c, i, .inr (.inl ⟨hl, i, h2, rfl, h3⟩)⟩
 · exact ⟨3, -1, .inl ⟨hl, rfl, rfl⟩⟩
theorem GateIs.num {cs : List (List (Int × Int))} {k : Nat} {per : Int} {ns : List Int} {c p : Int} (h : GateIs cs k per ns c p) : (c = 0 ∧ p = -1 ∧ GateOk cs k per ns) ∨ (0 < c ∧ c ≤ 9) := by
 rcases h with ⟨-, h, -⟩ | ⟨-, i, ⟨ls, q, -, -, hf, h⟩, -⟩ | ⟨h1, h2, hp, ⟨-, h⟩ | ⟨k1, k5, ⟨-, h⟩ | ⟨p1, p2, d, hd, h⟩⟩⟩
 · exact .inr (by omega)
 ·
  have := hf.num
  exact .inr (by omega)
 · exact .inr (by omega)
 · exact .inr (by omega)
 ·
  rcases hd.few with rfl | rfl | rfl
  · exact .inl ⟨by omega, hp, h1, h2, ⟨k1, k5⟩, ⟨p1, p2⟩, hd⟩
  · exact .inr (by omega)
  · exact .inr (by omega)
def LinkSends (k : Nat) (per : Int) (ps : List Pk) (ns : List Int) (l : List Sn) : Prop :=
 (k = 1 ∧ l = lindAll per ps ps.length) ∨ (k = 2 ∧ Sched per ps (rankKeys ps ns) l ∧ l.length = ps.length) ∨ (k = 3 ∧ Sched per ps (dueKeys ps ns) l ∧ l.length = ps.length) ∨ (k = 4 ∧ RoundSent per ps ns l) ∨ (k = 5 ∧ ∃ ts, FairSent per ps ns l ts)
theorem LinkSends.same {k : Nat} {per : Int} {ps : List Pk} {ns : List Int} {l m : List Sn} (h : LinkSends k per ps ns l) (h' : LinkSends k per ps ns m) : l = m := by
 rcases h with ⟨rfl, h⟩ | ⟨rfl, h1, h2⟩ | ⟨rfl, h1, h2⟩ | ⟨rfl, h⟩ | ⟨rfl, ts, h⟩
 ·
  rcases h' with ⟨-, h'⟩ | ⟨e, -⟩ | ⟨e, -⟩ | ⟨e, -⟩ | ⟨e, -⟩
  · rw [h, h']
  all_goals omega
 ·
  rcases h' with ⟨e, -⟩ | ⟨-, g1, g2⟩ | ⟨e, -⟩ | ⟨e, -⟩ | ⟨e, -⟩
  case inr.inl => exact h1.same g1 (by omega)
  all_goals omega
 ·
  rcases h' with ⟨e, -⟩ | ⟨e, -⟩ | ⟨-, g1, g2⟩ | ⟨e, -⟩ | ⟨e, -⟩
  case inr.inr.inl => exact h1.same g1 (by omega)
  all_goals omega
 ·
  rcases h' with ⟨e, -⟩ | ⟨e, -⟩ | ⟨e, -⟩ | ⟨-, g⟩ | ⟨e, -⟩
  case inr.inr.inr.inl => exact h.same g
  all_goals omega
 ·
  rcases h' with ⟨e, -⟩ | ⟨e, -⟩ | ⟨e, -⟩ | ⟨e, -⟩ | ⟨-, us, g⟩
  case inr.inr.inr.inr => exact (h.same g).1
  all_goals omega
theorem wtsOk_all {ns : List Int} (h : WtsAll ns) : WtsOk ns := fun f => by
 cases hx : ns[f]? with
 | none => simp [quOf, List.getD, hx]
 | some x =>
  rw [quOf_get hx]
  have := h.each f x hx
  exact ⟨this.1, Int.ediv_mul_cancel (Int.dvd_of_emod_eq_zero this.2)⟩
theorem NumsFault.ok {lo hi : Int} {ns : List Int} (h : NumsFault lo hi ns 0) : NumsOk lo hi ns := by
 rcases h with ⟨h, -⟩ | ⟨h, -⟩ | ⟨-, h⟩
 · omega
 · omega
 · exact h
theorem WtsFault.ok {ns : List Int} (h : WtsFault ns 0) : WtsAll ns := by
 rcases h with ⟨h, -⟩ | ⟨h, -⟩ | ⟨-, h⟩
 · omega
 · omega
 · exact h
theorem LinkSends.may {k : Nat} {per : Int} {ps : List Pk} {ns : List Int} {l : List Sn} (h : LinkSends k per ps ns l) (hn : KindFault k ns 0) (ho : OkPks ps) (hper : 1 ≤ per) : Conv per ps l ∧ Turns ps l ∧ l.length = ps.length := by
 rcases h with ⟨rfl, rfl⟩ | ⟨rfl, h1, h2⟩ | ⟨rfl, h1, h2⟩ | ⟨rfl, h⟩ | ⟨rfl, ts, h⟩
 · exact ⟨(lind_may ho).1, (lind_may ho).2, by simp [lindAll]⟩
 · exact ⟨h1.conv, rank_turns ho h1, h2⟩
 · exact ⟨h1.conv, due_turns ho h1, h2⟩
 ·
  rcases hn with ⟨e, -⟩ | ⟨e, -⟩ | ⟨e, -⟩ | ⟨-, hn⟩ | ⟨e, -⟩
  case inr.inr.inr.inl => exact h.may ho (fun f => (quOf_in (fun i x hx => hn.ok.each i x hx) (by decide) f).1) hper
  all_goals omega
 ·
  rcases hn with ⟨e, -⟩ | ⟨e, -⟩ | ⟨e, -⟩ | ⟨e, -⟩ | ⟨-, hn⟩
  case inr.inr.inr.inr => exact h.may (wtsOk_all hn.ok) ho hper
  all_goals omega
def NeverAt (cs : Nat → List (Int × Int)) (ps : List Pk) (i : Nat) : Prop := ∃ p s, ps[i]? = some p ∧ cs (flowOf ps i) ≠ [] ∧ shape (cs (flowOf ps i)) ((ownTo ps (flowOf ps i) ps.length).take (rankIn ps i)) = some s ∧ shStep s p = none
theorem shape_first (ls : List (Int × Int)) : ∀ own : List Pk, shape ls own = none → ∃ (j : Nat) (p : Pk) (s : Sh), own[j]? = some p ∧ shape ls (own.take j) = some s ∧ shStep s p = none := by
 refine snoc_ind (fun h => by cases h) (fun own p ih h => ?_)
 rw [shape_snoc] at h
 cases hs : shape ls own with
 | none =>
  obtain ⟨j, q, s, h1, h2, h3⟩ := ih hs
  have hj : j < own.length := lt_of_get h1
  exact ⟨j, q, s, by rw [List.getElem?_append_left hj]; exact h1, by rw [List.take_append_of_le_length (by omega)]; exact h2, h3⟩
 | some s =>
  rw [hs] at h
  exact ⟨own.length, p, s, by simp, by simpa using hs, h⟩
section
variable {cs : Nat → List (Int × Int)} {ps : List Pk}
theorem shaped_all (ho : OkPks ps) (hn : ∀ i, ¬ NeverAt cs ps i) (f : Nat) : ∃ out, shapedFl cs ps f = some out := by
 unfold shapedFl
 by_cases he : cs f = []
 · exact ⟨_, if_pos he⟩
 ·
  rw [if_neg he]
  cases hs : shape (cs f) (ownTo ps f ps.length) with
  | some s => exact ⟨_, rfl⟩
  | none =>
   obtain ⟨j, p, s, h1, h2, h3⟩ := shape_first _ _ hs
   have hown := own_num ho f ps.length (Nat.le_refl _)
   have hj : j < (numTo ps f ps.length).length := by rw [← hown.1]; exact lt_of_get h1
   have e : (numTo ps f ps.length)[j]? = some (numTo ps f ps.length)[j] := List.getElem?_eq_getElem hj
   obtain ⟨g1, g2, g3, g4⟩ := hown.2 j _ e
   refine absurd ⟨p, s, by rw [← g4]; exact h1, by rw [g2]; exact he, by rw [g2, g3]; exact h2, h3⟩ (hn (numTo ps f ps.length)[j])
def GateRun (cs : Nat → List (Int × Int)) (k : Nat) (per : Int) (ns : List Int) (ps qs : List Pk) (l : List Sn) : Prop := ∃ at_ L, Shaped cs ps at_ ∧ IsOrder at_ ps.length L ∧ qs = gatePks ps at_ L ∧ LinkSends k per qs ns l
theorem shaped_is (ho : OkPks ps) (hn : ∀ i, ¬ NeverAt cs ps i) : ∃ at_, Shaped cs ps at_ := by
 obtain ⟨out, hout⟩ := Classical.axiomOfChoice fun f => shaped_all (cs := cs) ho hn f
 refine ⟨fun i => tickOf (out (flowOf ps i)) (rankIn ps i), fun f hf => ⟨out f, hout f, fun r i hi => ?_⟩⟩
 obtain ⟨-, g2, g3, -⟩ := (own_num ho f ps.length (Nat.le_refl _)).2 r i hi
 show tickOf (out (flowOf ps i)) (rankIn ps i) = _
 rw [g2, g3]
theorem Shaped.same (ho : OkPks ps) {at1 at2 : Nat → Int} (h1 : Shaped cs ps at1) (h2 : Shaped cs ps at2) {i : Nat} (hi : i < ps.length) : at1 i = at2 i := by
 have hf := flow_range ho hi
 obtain ⟨out, e1, g1⟩ := h1 _ hf
 obtain ⟨out', e2, g2⟩ := h2 _ hf
 obtain rfl : out = out' := Option.some.inj (e1.symm.trans e2)
 have hat := num_at ho hi (Nat.le_refl _)
 rw [g1 _ _ hat, g2 _ _ hat]
theorem IsOrder.turn {at1 at2 : Nat → Int} {n : Nat} {L : List Nat} (h : IsOrder at1 n L) (he : ∀ i, i < n → at1 i = at2 i) : IsOrder at2 n L := by
 refine ⟨?_, h.mem⟩
 refine List.Pairwise.imp_of_mem (fun {a b} ha hb hab => ?_) h.sorted
 have e1 := he a ((h.mem a).1 ha)
 have e2 := he b ((h.mem b).1 hb)
 unfold Ahead at hab ⊢
 omega
theorem gate_one (ho : OkPks ps) {at1 at2 : Nat → Int} {L M : List Nat} (h1 : Shaped cs ps at1) (h2 : Shaped cs ps at2) (k1 : IsOrder at1 ps.length L) (k2 : IsOrder at2 ps.length M) : gatePks ps at1 L = gatePks ps at2 M := by
 obtain rfl : L = M := (k1.turn fun i hi => h1.same ho h2 hi).same k2
 refine List.map_congr_left fun i hi => ?_
 have hi' := (k1.mem i).1 hi
 have e : ps[i]? = some ps[i] := List.getElem?_eq_getElem hi'
 rw [gatePk_get e, gatePk_get e, h1.same ho h2 hi']
theorem GateRun.same {k : Nat} {per : Int} {ns : List Int} {qs qs' : List Pk} {l l' : List Sn} (ho : OkPks ps) (h : GateRun cs k per ns ps qs l) (h' : GateRun cs k per ns ps qs' l') : qs = qs' ∧ l = l' := by
 obtain ⟨at1, L, a1, a2, rfl, a3⟩ := h
 obtain ⟨at2, M, b1, b2, rfl, b3⟩ := h'
 have e := gate_one ho a1 b1 a2 b2
 rw [← e] at b3
 exact ⟨e, a3.same b3⟩
theorem GateRun.ok {k : Nat} {per : Int} {ns : List Int} {qs : List Pk} {l : List Sn} (ho : OkPks ps) (hc : CurvesOk cs) (h : GateRun cs k per ns ps qs l) : OkPks qs ∧ qs.length = ps.length ∧ LinkSends k per qs ns l := by
 obtain ⟨at1, L, a1, a2, rfl, a3⟩ := h
 exact ⟨a1.ok ho hc a2, by rw [gatePks, List.length_map]; exact a2.length, a3⟩
end
theorem least_of {P : Nat → Prop} (h : ∃ i, P i) : ∃ i, P i ∧ ∀ j, j < i → ¬ P j := by
 obtain ⟨n, hn⟩ := h
 induction n using Nat.strongRecOn with
 | _ n ih =>
  by_cases hl : ∃ m, m < n ∧ P m
  ·
   obtain ⟨m, h1, h2⟩ := hl
   exact ih m h1 h2
  · exact ⟨n, hn, fun j hj h' => hl ⟨j, hj, h'⟩⟩
def RunIs (cs : List (List (Int × Int))) (k : Nat) (per : Int) (ns : List Int) (ps : List Pk) (c p : Int) : Prop :=
 (GateIs cs k per ns c p ∧ 0 < c) ∨ (GateOk cs k per ns ∧ PksFault ps c p ∧ 0 < c) ∨ (GateOk cs k per ns ∧ OkPks ps ∧ ∃ i : Nat, NeverAt (curveFl cs) ps i ∧ (∀ j, j < i → ¬ NeverAt (curveFl cs) ps j) ∧ c = 4 ∧ p = i) ∨ (GateOk cs k per ns ∧ OkPks ps ∧ (∀ i, ¬ NeverAt (curveFl cs) ps i) ∧ c = 0 ∧ p = -1)
theorem runIs_is (cs : List (List (Int × Int))) {k : Nat} (hk : k ≤ 5) (per : Int) (ns : List Int) (ps : List Pk) : ∃ c p, RunIs cs k per ns ps c p := by
 obtain ⟨c, p, hg⟩ := gateIs_is cs hk per ns
 rcases hg.num with ⟨rfl, rfl, hok⟩ | hc
 ·
  obtain ⟨c, p, hp⟩ := pksFault_is ps
  rcases hp.num with ⟨rfl, rfl, ho⟩ | hc
  ·
   by_cases hn : ∃ i, NeverAt (curveFl cs) ps i
   ·
    obtain ⟨i, h1, h2⟩ := least_of hn
    exact ⟨4, i, .inr (.inr (.inl ⟨hok, ho, i, h1, h2, rfl, rfl⟩))⟩
   · exact ⟨0, -1, .inr (.inr (.inr ⟨hok, ho, fun i h => hn ⟨i, h⟩, rfl, rfl⟩))⟩
  · exact ⟨c, p, .inr (.inl ⟨hok, hp, hc⟩)⟩
 · exact ⟨c, p, .inl ⟨hg, hc.1⟩⟩
end Go.Proofs.YtibhkijaafdkoaaGreatDoor

namespace Go.Proofs.YtibhkijaafdkoaaGreatDoor
open Go.RowKit Go.Sort
def ints (xs : List Int) : List Value := xs.map (Value.int .i64)
theorem ints_length (xs : List Int) : (ints xs).length = xs.length := by simp [ints]
theorem ints_append (a b : List Int) : ints (a ++ b) = ints a ++ ints b := by simp [ints]
theorem ints_get {xs : List Int} {j : Nat} {x : Int} (h : xs[j]? = some x) : (ints xs)[j]? = some (.int .i64 x) := by simp [ints, h]
theorem ints_one (xs : List Int) : ∀ u ∈ ints xs, u.oneCell' = true := by
 intro u hu
 obtain ⟨x, -, rfl⟩ := List.mem_map.1 hu
 rfl
theorem holds_of_own {w : World} {B : Nat} {e : TypeId} {g cap : Nat} {zs : List Int} (h : w.ownsRow B e 1 (.slice (some ⟨g, 0, none⟩) zs.length cap) zs.length (ints zs)) : Holds (Value.int .i64) w g 0 zs.toArray := by
 intro j hj
 have hj' : j < zs.length := by simpa using hj
 refine ⟨?_, h.frozenAt _⟩
 rw [Nat.zero_add, h.cellAt j (by omega), ints_get (List.getElem?_eq_getElem hj')]
 congr 2
 rw [getElem!_pos _ j hj]
 simp
theorem own_deleted {w : World} {B : Nat} {e : TypeId} {g cap : Nat} {zs : List Int} (h : w.ownsRow B e 1 (.slice (some ⟨g, 0, none⟩) zs.length cap) zs.length (ints zs)) (i q : Nat) (hi : i < zs.length) :
  (putRow (Value.int .i64) (Sort.ahead w q) g 0 (zs.take i ++ zs.drop (i + 1) ++ List.replicate (i + 1 - i) 0).toArray).ownsRow B e 1 (.slice (some ⟨g, 0, none⟩) (zs.length - 1) cap) (zs.length - 1) (ints (zs.eraseIdx i)) ∧
   But (fun k => k = g) w (putRow (Value.int .i64) (Sort.ahead w q) g 0 (zs.take i ++ zs.drop (i + 1) ++ List.replicate (i + 1 - i) 0).toArray) := by
 have hel : (zs.eraseIdx i).length = zs.length - 1 := by rw [List.length_eraseIdx, if_pos hi]
 rcases h.2 with ⟨h', _⟩ | ⟨g', cap', cur, h', hB, hg, hn, hm, hcs, ht⟩
 · simp at h'
 ·
  simp only [Value.slice.injEq, Option.some.injEq, Addr.mk.injEq, and_true, true_and] at h'
  obtain ⟨rfl, rfl⟩ := h'
  refine ⟨⟨by rw [ints_length, hel, Nat.mul_one], .inr ⟨g, cap, putCells (Value.int .i64) 0 (zs.take i ++ zs.drop (i + 1) ++ List.replicate (i + 1 - i) 0).toArray cur, rfl, hB, ?_, by omega, hm, by simp [putCells, hcs], ?_⟩⟩, ⟨rfl, rfl, rfl, by simp, fun k hk hs => ?_⟩⟩
  ·
   simp only [putRow, mapBlock, Array.getElem?_modify, heap_ahead, hg]
   rfl
  ·
   apply List.ext_getElem?
   intro k
   rw [List.getElem?_take, Nat.mul_one]
   by_cases hk : k < zs.length - 1
   ·
    rw [if_pos hk]
    have hz : (zs.eraseIdx i)[k]? = some ((zs.eraseIdx i)[k]'(by omega)) := List.getElem?_eq_getElem (by omega)
    rw [ints_get hz]
    have hcur : cur[k]? = some cur[k] := Array.getElem?_eq_getElem (by omega)
    have hsz : (zs.take i ++ zs.drop (i + 1) ++ List.replicate (i + 1 - i) (0 : Int)).length = zs.length := by
     simp only [List.length_append, List.length_take, List.length_drop, List.length_replicate]
     omega
    simp only [putCells, Array.getElem?_toList, Array.getElem?_mapIdx, hcur, Option.map_some]
    rw [if_pos ⟨Nat.zero_le _, by rw [List.size_toArray, hsz]; omega⟩]
    congr 2
    rw [Nat.sub_zero, getElem!_pos _ k (by rw [List.size_toArray, hsz]; omega)]
    have e1 : zs.take i ++ zs.drop (i + 1) = zs.eraseIdx i := (List.eraseIdx_eq_take_drop_succ ..).symm
    simp only [e1, List.getElem_toArray]
    rw [List.getElem_append_left (by omega)]
   · rw [if_neg hk, List.getElem?_eq_none (by rw [ints_length]; omega)]
  ·
   simp only [putRow, mapBlock, Array.getElem?_modify, heap_ahead]
   rw [if_neg (fun h => hs h.symm)]
end Go.Proofs.YtibhkijaafdkoaaGreatDoor

namespace Go.Proofs.YtibhkijaafdkoaaGreatDoor
open Go.RowKit
theorem own_lies {w : World} {B e : Nat} {v : Value} {zs : List Int} (h : w.ownsRow B e 1 v zs.length (ints zs)) : ∃ a cap, v = .slice a zs.length cap ∧ zs.length ≤ cap ∧ cap ≤ maxLen ∧ LiesN w a zs := by
 have hh := h
 obtain ⟨h1, ⟨rfl, h0⟩ | ⟨g, cap, cur, rfl, hB, hg, hn, hm, hc, ht⟩⟩ := h
 · exact ⟨none, 0, by rw [h0], by omega, by simp [maxLen], .inl (List.length_eq_zero_iff.1 h0)⟩
 ·
  refine ⟨_, cap, rfl, hn, hm, .inr ⟨g, 0, rfl, lt_of_block hg, fun i x hx => ?_⟩⟩
  rw [Nat.zero_add, hh.cellAt i (by have := (List.getElem?_eq_some_iff.1 hx).1; omega)]
  exact ints_get hx
end Go.Proofs.YtibhkijaafdkoaaGreatDoor

namespace Go.Proofs.YtibhkijaafdkoaaGreatDoor
open Go.RowKit
def LiesC (w : World) (a : Option Addr) (cs : List (List (Int × Int))) : Prop :=
 cs = [] ∨ ∃ b off, a = some ⟨b, off, none⟩ ∧ b < w.heap.size ∧ ∀ (i : Nat) ls, cs[i]? = some ls → ∃ a' cap, w.cell? ⟨b, off + i, none⟩ = some (.slice a' ls.length cap) ∧ Lies w a' ls ∧ ls.length ≤ cap ∧ cap ≤ maxLen ∧ (a' = none → ls = [] ∧ cap = 0)
theorem LiesC.place {w : World} {a : Option Addr} {cs : List (List (Int × Int))} (h : LiesC w a cs) (h1 : 1 ≤ cs.length) :
  ∃ b off, a = some ⟨b, off, none⟩ ∧ b < w.heap.size ∧ ∀ (i : Nat) ls, cs[i]? = some ls → ∃ a' cap, w.cell? ⟨b, off + i, none⟩ = some (.slice a' ls.length cap) ∧ Lies w a' ls ∧ ls.length ≤ cap ∧ cap ≤ maxLen ∧ (a' = none → ls = [] ∧ cap = 0) := by
 rcases h with rfl | h
 · simp at h1
 · exact h
theorem LiesC.below {w w' : World} {a : Option Addr} {cs : List (List (Int × Int))} (h : LiesC w a cs) (hb : Below w.heap.size w w') : LiesC w' a cs := by
 rcases h with rfl | ⟨b, off, rfl, hlt, hc⟩
 · exact .inl rfl
 ·
  refine .inr ⟨b, off, rfl, Nat.lt_of_lt_of_le hlt hb.size, fun i ls hi => ?_⟩
  obtain ⟨a', cap, h1, h2, h3⟩ := hc i ls hi
  exact ⟨a', cap, cell_later hb h1, h2.below hb, h3⟩
structure GateAt (w : World) (B : Nat) (ca : Value) (kb : ByteArray) (per : Int) (na : Value) : Prop where
 c0 : w.cell? ⟨B, 0, none⟩ = some ca
 c1 : w.cell? ⟨B, 1, none⟩ = some (.string kb)
 c2 : w.cell? ⟨B, 2, none⟩ = some (.int .i64 per)
 c3 : w.cell? ⟨B, 3, none⟩ = some na
theorem gateAt_new (w : World) (ca : Value) (kb : ByteArray) (per : Int) (na : Value) (t : TypeId) : GateAt (w.alloc (.cells #[ca, .string kb, .int .i64 per, na] t)) w.heap.size ca kb per na := ⟨by simp, by simp, by simp, by simp⟩
theorem GateAt.later {w w' : World} {B : Nat} {ca : Value} {kb : ByteArray} {per : Int} {na : Value} (h : GateAt w B ca kb per na) (hb : Below w.heap.size w w') : GateAt w' B ca kb per na := ⟨cell_later hb h.c0, cell_later hb h.c1, cell_later hb h.c2, cell_later hb h.c3⟩
theorem bytes_fifo : ByteArray.toList ⟨#[102, 105, 102, 111]⟩ = [102, 105, 102, 111] := by kernel_rfl
theorem bytes_rank : ByteArray.toList ⟨#[114, 97, 110, 107]⟩ = [114, 97, 110, 107] := by kernel_rfl
theorem bytes_due : ByteArray.toList ⟨#[100, 117, 101]⟩ = [100, 117, 101] := by kernel_rfl
theorem bytes_round : ByteArray.toList ⟨#[114, 111, 117, 110, 100]⟩ = [114, 111, 117, 110, 100] := by kernel_rfl
theorem bytes_fair : ByteArray.toList ⟨#[102, 97, 105, 114]⟩ = [102, 97, 105, 114] := by kernel_rfl
structure KindTests (s : ByteArray) (b1 b2 b3 b4 b5 : Bool) : Prop where
 t1 : (s.toList == [102, 105, 102, 111]) = b1
 t2 : (s.toList == [114, 97, 110, 107]) = b2
 t3 : (s.toList == [100, 117, 101]) = b3
 t4 : (s.toList == [114, 111, 117, 110, 100]) = b4
 t5 : (s.toList == [102, 97, 105, 114]) = b5
 u1 : (s.toList == ByteArray.toList ⟨#[102, 105, 102, 111]⟩) = b1
 u2 : (s.toList == ByteArray.toList ⟨#[114, 97, 110, 107]⟩) = b2
 u3 : (s.toList == ByteArray.toList ⟨#[100, 117, 101]⟩) = b3
 u4 : (s.toList == ByteArray.toList ⟨#[114, 111, 117, 110, 100]⟩) = b4
 u5 : (s.toList == ByteArray.toList ⟨#[102, 97, 105, 114]⟩) = b5
theorem kindTests (s : ByteArray) : KindTests s (decide (kindOf s.toList = 1)) (decide (kindOf s.toList = 2)) (decide (kindOf s.toList = 3)) (decide (kindOf s.toList = 4)) (decide (kindOf s.toList = 5)) := by
 have key : ∀ bs : List UInt8, (bs == [102, 105, 102, 111]) = decide (kindOf bs = 1) ∧ (bs == [114, 97, 110, 107]) = decide (kindOf bs = 2) ∧ (bs == [100, 117, 101]) = decide (kindOf bs = 3) ∧ (bs == [114, 111, 117, 110, 100]) = decide (kindOf bs = 4) ∧ (bs == [102, 97, 105, 114]) = decide (kindOf bs = 5) := by
  intro bs
  by_cases h1 : bs = [102, 105, 102, 111]
  · subst h1; decide
  ·
   by_cases h2 : bs = [114, 97, 110, 107]
   · subst h2; decide
   ·
    by_cases h3 : bs = [100, 117, 101]
    · subst h3; decide
    ·
     by_cases h4 : bs = [114, 111, 117, 110, 100]
     · subst h4; decide
     ·
      by_cases h5 : bs = [102, 97, 105, 114]
      · subst h5; decide
      ·
       have h0 : kindOf bs = 0 := by simp [kindOf, h1, h2, h3, h4, h5]
       rw [h0]
       refine ⟨?_, ?_, ?_, ?_, ?_⟩
       · simpa using h1
       · simpa using h2
       · simpa using h3
       · simpa using h4
       · simpa using h5
 obtain ⟨k1, k2, k3, k4, k5⟩ := key s.toList
 exact ⟨k1, k2, k3, k4, k5, by rw [bytes_fifo]; exact k1, by rw [bytes_rank]; exact k2, by rw [bytes_due]; exact k3, by rw [bytes_round]; exact k4, by rw [bytes_fair]; exact k5⟩
end Go.Proofs.YtibhkijaafdkoaaGreatDoor

namespace Go.Proofs.YtibhkijaafdkoaaGreatDoor
open Go.RowKit
def AtEnd (p : Int) (v : Value) (w : World) (e : Ending) (w' : World) : Prop := ∃ B, e = .returned (.iface 110 (.pointer (some ⟨B, 0, none⟩))) ∧ w'.cell? ⟨B, 0, none⟩ = some (.int .i64 p) ∧ w'.cell? ⟨B, 1, none⟩ = some v ∧ w.heap.size ≤ B ∧ Below w.heap.size w w'
theorem atEnd_made {p : Int} {v : Value} {w W : World} {t : TypeId} (h : Below w.heap.size w W) : AtEnd p v w (.returned (.iface 110 (.pointer (some ⟨W.heap.size, 0, none⟩)))) (W.alloc (.cells #[.int .i64 p, v] t)) :=
 ⟨W.heap.size, rfl, by simp, by simp, h.size, h.alloc h.size _⟩
set_option maxHeartbeats 1000000 in
theorem faultAt_fault (p : Int) (pb : Nat) (ty : TypeId) (x : Value) (w : World) (ad : Nat → Addr) (he : Errs9 w ad) (hp1 : w.cell? ⟨pb, 1, none⟩ = some (.iface ty x)) :
  Calls Tryz.prog 103 #[.int .i64 p, .iface 110 (.pointer (some ⟨pb, 0, none⟩))] w (AtEnd p (.iface ty x) w) := by
 have HB0 : Hid (Below w.heap.size w (w.alloc (.cells #[.pointer none] 110))) := (Below.refl _ _).alloc (Nat.le_refl _) _
 have HE : Hid (Errs9 w ad) := he
 have HP1 : Hid (w.cell? ⟨pb, 1, none⟩ = some (.iface ty x)) := hp1
 clear he hp1
 go_enter Tryz.func103, Tryz.ntmps103
 go_wp2_with fail
 refine (as_hit ⟨pb, 0, none⟩ ⟨w.heap.size, 0, none⟩ (.pointer none) _ (HE.out.below HB0.out).typ (by simp) (by simp)).mono ?_
 rintro e w1 ⟨rfl, hw1⟩
 have hb1 : Below w.heap.size w w1 := by
  rw [hw1]
  exact ((((HB0.out.alloc (by simp) _).alloc (by simp; omega) _).alloc (by simp; omega) _).alloc (by simp; omega) _).setCell (Nat.le_refl _) _
 have ht1 : w1.cell? ⟨w.heap.size, 0, none⟩ = some (.pointer (some ⟨pb, 0, none⟩)) := by
  rw [hw1]
  exact set_at w _ _ _ _ _
 have HB1 : Hid (Below w.heap.size w w1) := hb1
 have hq1 : w1.cell? ⟨pb, 1, none⟩ = some (.iface ty x) := cell_later hb1 HP1.out
 clear hw1 hb1
 go_wp2_with fail
 go_ret
 exact atEnd_made HB1.out
set_option maxHeartbeats 1000000 in
theorem faultAt_sent (p : Int) (e : Addr) (w : World) (ad : Nat → Addr) (he : Errs9 w ad) :
  Calls Tryz.prog 103 #[.int .i64 p, .iface 271 (.pointer (some e))] w (AtEnd p (.iface 271 (.pointer (some e))) w) := by
 have HB0 : Hid (Below w.heap.size w (w.alloc (.cells #[.pointer none] 110))) := (Below.refl _ _).alloc (Nat.le_refl _) _
 have HE : Hid (Errs9 w ad) := he
 clear he
 go_enter Tryz.func103, Tryz.ntmps103
 go_wp2_with fail
 refine (as_miss e ⟨w.heap.size, 0, none⟩ _ (HE.out.below HB0.out).typ).mono ?_
 rintro e w1 ⟨rfl, hw1⟩
 have HB1 : Hid (Below w.heap.size w w1) := by
  show Below _ _ _
  rw [hw1]
  exact ((HB0.out.alloc (by simp) _).alloc (by simp; omega) _).alloc (by simp; omega) _
 clear hw1
 go_wp2_with fail
 go_ret
 exact atEnd_made HB1.out
end Go.Proofs.YtibhkijaafdkoaaGreatDoor

namespace Go.Proofs.YtibhkijaafdkoaaGreatDoor
open Go.RowKit
theorem isEmpty_any (a : Option Addr) (n cap : Nat) (w : World) (b : Bool) (hb : ((n : Int) == 0) = b) :
  Calls Tryz.prog 67 #[.slice a n cap] w fun e w' => e = .returned (.bool b) ∧ w' = w := by
 go_enter Tryz.func67, Tryz.ntmps67
 go_wp2_with fail
 go_ret
 exact ⟨rfl, rfl⟩
def BareOf (ad : Nat → Addr) (c : Int) (w : World) (e : Ending) (w' : World) : Prop := ∃ ty v, e = .returned (.iface ty v) ∧ Below w.heap.size w w' ∧ ∃ k : Nat, k < 9 ∧ c = ((k + 1 : Nat) : Int) ∧ ∀ W (p : Int), Below w'.heap.size w' W → Calls Tryz.prog 103 #[.int .i64 p, .iface ty v] W (AtEnd p (.iface 271 (.pointer (some (ad k)))) W)
theorem check_bare (a : Option Addr) (cap : Nat) (ls : List (Int × Int)) (w : World) (ad : Nat → Addr) (he : Errs9 w ad) (hl : Lies w a ls) (hcap : ls.length ≤ cap) (hm : cap ≤ maxLen) (c p : Int) (h : FaultIs ls c p) (hc : 0 < c) :
  Calls Tryz.prog 73 #[.slice a ls.length cap] w fun e w' => BareOf ad c w e w' := by
 rcases h with ⟨h1, rfl, rfl⟩ | ⟨h1, h6, j, hj, hg, hb, rfl, rfl⟩ | ⟨h, rfl, rfl⟩
 ·
  refine (check_shape a ls.length cap w _ he.c2 (by omega) h1).mono ?_
  rintro e w' ⟨rfl, rfl⟩
  exact ⟨_, _, rfl, Below.refl _ _, 2, by omega, rfl, fun W p hW => faultAt_sent p (ad 2) W ad (he.below hW)⟩
 ·
  refine (check_bad a cap ls w (ad 1) he.c1 hl h1 h6 j hj hg hb).mono ?_
  rintro e w' ⟨hbel, B, rfl, h7, h8, h9, h10⟩
  exact ⟨_, _, rfl, hbel, 1, by omega, rfl, fun W p hW => faultAt_fault p B _ _ W ad ((he.below hbel).below hW) (cell_later hW h10)⟩
 · exact absurd hc (by omega)
set_option maxRecDepth 100000 in
set_option maxHeartbeats 2000000 in
theorem curvesCheck_short (ca : Option Addr) (m ccap : Nat) (w : World) (ad : Nat → Addr) (he : Errs9 w ad) (h : m ≠ 8) :
  Calls Tryz.prog 61 #[.slice ca m ccap] w fun e w' => ∃ E, e = .returned E ∧ ErrIs w' E 3 (-1) ∧ Below w.heap.size w w' := by
 have c2 := he.c2
 have HE : Hid (Errs9 w ad) := he
 have hz : ((m : Int) == 8) = false := by simp; omega
 have hz2 : ¬ (m : Int) = 8 := by omega
 clear he
 go_enter Tryz.func61, Tryz.ntmps61
 go_wp2_with fail
 go_ret
 exact ⟨_, rfl, errIs_sent HE.out 2 (by omega), Below.refl _ _⟩
def CurvesEnd (c p : Int) (w : World) (e : Ending) (w' : World) : Prop := ∃ E, e = .returned E ∧ ErrIs w' E c p ∧ Below w.heap.size w w'
set_option maxRecDepth 100000 in
set_option maxHeartbeats 2000000 in
theorem curvesCheck_to (ca : Option Addr) (ccap : Nat) (cs : List (List (Int × Int))) (w : World) (ad : Nat → Addr) (he : Errs9 w ad) (hl : LiesC w ca cs) (h8 : cs.length = 8) (i : Nat) (hi : i ≤ 8) (hto : CurvesTo cs i) (c p : Int) (hbad : (i = 8 ∧ c = 0 ∧ p = -1) ∨ (CurveBad cs i c ∧ p = i)) :
  Calls Tryz.prog 61 #[.slice ca cs.length ccap] w fun e w' => CurvesEnd c p w e w' := by
 have HE : Hid (Errs9 w ad) := he
 have HTo : Hid (CurvesTo cs i) := hto
 have HBad : Hid ((i = 8 ∧ c = 0 ∧ p = -1) ∨ (CurveBad cs i c ∧ p = i)) := hbad
 obtain ⟨b, off, rfl, -, hcc⟩ := hl.place (by omega)
 have HC : Hid (∀ (i : Nat) ls, cs[i]? = some ls → ∃ a' cap, w.cell? ⟨b, off + i, none⟩ = some (.slice a' ls.length cap) ∧ Lies w a' ls ∧ ls.length ≤ cap ∧ cap ≤ maxLen ∧ (a' = none → ls = [] ∧ cap = 0)) := hcc
 have H8 : Hid (cs.length = 8) := h8
 rw [h8]
 clear he hto hbad hl hcc h8
 go_enter Tryz.func61, Tryz.ntmps61
 go_wp2_with fail
 go_loopg [12] 8 (fun gk iv wr => ∃ k : Nat, iv = .int .i64 (k : Int) ∧ k ≤ i ∧ 8 - k ≤ gk ∧ Hid (Below w.heap.size w wr))
 case atStart => exact ⟨0, rfl, Nat.zero_le _, by omega, Below.refl _ _⟩
 case round =>
  obtain ⟨k, rfl, hki, hgk, HB⟩ := hrel
  by_cases hk8 : k < 8
  ·
   have hkz : (k : Int) < 8 := by omega
   obtain ⟨ls, hls, -⟩ := get_some cs k (by rw [H8.out]; exact hk8)
   obtain ⟨a', cap, cj0, hlies, hlc, hlm, -⟩ := HC.out k ls hls
   have cj := cell_later HB.out cj0
   have HG : Hid (cs[k]? = some ls) := hls
   obtain ⟨n, hn⟩ : ∃ n, ls.length = n := ⟨_, rfl⟩
   have HN : Hid (ls.length = n) := hn
   have HL : Hid (Lies w a' ls ∧ ls.length ≤ cap ∧ cap ≤ maxLen) := ⟨hlies, hlc, hlm⟩
   rw [hn] at cj
   clear hls cj0 hlies hlc hlm hn
   by_cases hn0 : n = 0
   ·
    have HEm : Hid (Calls Tryz.prog 67 #[.slice a' n cap] wr fun e w' => e = .returned (.bool true) ∧ w' = wr) := isEmpty_any a' n cap wr true (by simp; exact hn0)
    have HNe : Hid (k < i) := by
     show k < i
     rcases Nat.lt_or_ge k i with h | h
     · exact h
     ·
      obtain rfl : k = i := by omega
      rcases HBad.out with ⟨h1, -⟩ | ⟨⟨ls', p', h1, h2, -⟩, -⟩
      · omega
      ·
       rw [HG.out] at h1
       obtain rfl := Option.some.inj h1
       exact absurd (List.length_eq_zero_iff.1 (HN.out.trans hn0)) h2
    clear hn0
    go_wp2_with fail
    refine HEm.out.mono ?_
    rintro e w1 ⟨rfl, rfl⟩
    go_wp2_with fail
    go_roundg (8 - (k + 1))
    case measure => omega
    case rel => exact ⟨k + 1, by go_num, HNe.out, Nat.le_refl _, HB⟩
   ·
    have HEm : Hid (Calls Tryz.prog 67 #[.slice a' n cap] wr fun e w' => e = .returned (.bool false) ∧ w' = wr) := isEmpty_any a' n cap wr false (by simp; omega)
    by_cases hk : k < i
    ·
     have hok : okCurve ls := by
      rcases HTo.out k ls hk HG.out with h | h
      · exact absurd (by rw [← HN.out, h]; rfl) hn0
      · exact h
     have HCh : Hid (Calls Tryz.prog 73 #[.slice a' n cap] wr fun e w' => e = .returned .nilIface ∧ Below wr.heap.size wr w') := by
      have := check_ok a' cap ls wr (HL.out.1.below HB.out) hok
      rwa [HN.out] at this
     clear hok hn0
     go_wp2_with fail
     refine HEm.out.mono ?_
     rintro e w1 ⟨rfl, rfl⟩
     go_wp2_with fail
     refine HCh.out.mono ?_
     rintro e w2 ⟨rfl, hb2⟩
     have HB2 : Hid (Below w.heap.size w w2) := HB.out.trans (hb2.mono HB.out.size)
     clear hb2
     go_wp2_with fail
     go_roundg (8 - (k + 1))
     case measure => omega
     case rel => exact ⟨k + 1, by go_num, hk, Nat.le_refl _, HB2⟩
    ·
     obtain rfl : k = i := by omega
     obtain ⟨hbc, hpi⟩ : CurveBad cs k c ∧ p = k := by
      rcases HBad.out with ⟨h1, -⟩ | h1
      · omega
      · exact h1
     obtain ⟨ls', p', h1, -, h3, h4⟩ := hbc
     rw [HG.out] at h1
     obtain rfl := Option.some.inj h1
     have HCh : Hid (Calls Tryz.prog 73 #[.slice a' n cap] wr fun e w' => BareOf ad c wr e w') := by
      have := check_bare a' cap ls wr ad (HE.out.below HB.out) (HL.out.1.below HB.out) HL.out.2.1 HL.out.2.2 c p' h3 h4
      rwa [HN.out] at this
     have HP : Hid (p = (k : Int)) := hpi
     clear hpi h3 h4 h1 hn0
     go_wp2_with fail
     refine HEm.out.mono ?_
     rintro e w1 ⟨rfl, rfl⟩
     go_wp2_with fail
     refine HCh.out.mono ?_
     rintro e w2 ⟨ty, v, rfl, hb2, q, hq9, hcq, hbare⟩
     have HBa := (show Hid (Calls Tryz.prog 103 #[.int .i64 (k : Int), .iface ty v] w2 (AtEnd (k : Int) (.iface 271 (.pointer (some (ad q)))) w2)) from hbare w2 (k : Int) (Below.refl _ _))
     have HB2 : Hid (Below w.heap.size w w2) := HB.out.trans (hb2.mono HB.out.size)
     have HQ : Hid (c = ((q + 1 : Nat) : Int)) := hcq
     clear hb2 hbare hcq
     go_wp2_with fail
     refine HBa.out.mono ?_
     rintro e w3 ⟨B, rfl, h30, h31, -, hb3⟩
     have HB3 : Hid (Below w.heap.size w w3) := HB2.out.trans (hb3.mono HB2.out.size)
     have H3 : Hid (w3.cell? ⟨B, 0, none⟩ = some (.int .i64 (k : Int)) ∧ w3.cell? ⟨B, 1, none⟩ = some (.iface 271 (.pointer (some (ad q))))) := ⟨h30, h31⟩
     clear hb3 h30 h31
     go_wp2_with fail
     go_ret
     refine ⟨_, rfl, ?_, HB3.out⟩
     rw [HQ.out, HP.out]
     refine ⟨?_, fun h => by omega, fun _ => ⟨_, _, rfl⟩⟩
     have := codeIs_fault (HE.out.below HB3.out) q hq9 (k : Int) B H3.out.1 H3.out.2
     simpa using this
  ·
   have hkz : ¬ (k : Int) < 8 := by omega
   obtain rfl : i = 8 := by omega
   have HR : Hid (c = 0 ∧ p = -1) := by
    rcases HBad.out with ⟨-, h⟩ | ⟨⟨ls', p', h1, -⟩, -⟩
    · exact h
    ·
     rw [List.getElem?_eq_none (by rw [H8.out]; omega)] at h1
     cases h1
   obtain rfl : k = 8 := by omega
   go_wp2_with fail
   go_ret
   refine ⟨_, rfl, ?_, HB.out⟩
   rw [HR.out.1, HR.out.2]
   exact errIs_nil wr
end Go.Proofs.YtibhkijaafdkoaaGreatDoor

namespace Go.Proofs.YtibhkijaafdkoaaGreatDoor
open Go.RowKit
theorem checkS {P : Program} {k : TypeId} (hk : P.underlying k = some .string) (w : World) (b : Bool) (s : ByteArray) : (Instr.checkKey b 10000 k (.string s)).run P w = .ok () w := by
 show (Instr.checkKey b (9999 + 1) k (.string s)).run P w = _
 unfold Instr.checkKey
 simp [run_underlying hk, Result.andThen]
theorem putS {P : Program} {t k e : TypeId} (ht : P.underlying t = some (.map k e)) (hk : P.underlying k = some .string) {w : World} {b : Nat} {es : Array MapEntry} {clock : Nat} (hb : w.heap[b]? = some (.map es clock)) (s : ByteArray) (v : Value) (hn : Instr.findNow .string (.string s) es.toList 0 = some none) :
  ∃ w', (Instr.mapUpdate t (.map (some b)) (.string s) v).run P w = .ok () w' ∧ w'.heap[b]? = some (.map (es.push { key := .string s, val := v, born := clock }) (clock + 1)) ∧ But (fun k => k = b) w w' := by
 refine ⟨ChangeMaps.setBlock w b (.map (es.push { key := .string s, val := v, born := clock }) (clock + 1)), ?_, ChangeMaps.heap_setBlock_same hb _, ⟨rfl, rfl, rfl, by simp [ChangeMaps.setBlock], fun i _ hi => ChangeMaps.heap_setBlock_other hb _ (fun e => hi e)⟩⟩
 simp [Instr.mapUpdate, run_underlying ht, MapKept.run_getObj_map hb, checkS hk, run_underlying hk, Instr.findKey, hn, MapKept.run_setObj_map _ hb, Result.andThen, ChangeMaps.setBlock]
theorem lookS {P : Program} {t k e : TypeId} (ht : P.underlying t = some (.map k e)) (hk : P.underlying k = some .string) {w : World} {b : Nat} {es : Array MapEntry} {clock : Nat} (hb : w.heap[b]? = some (.map es clock)) (s : ByteArray) (i : Nat) (v : Value) (hn : Instr.findNow .string (.string s) es.toList 0 = some (some (i, v))) (c : Bool) :
  (Instr.lookup t (.map (some b)) (.string s) c).run P w = .ok (if c then .tuple #[v, .bool true] else v) w := by
 cases c <;> simp [Instr.lookup, run_underlying ht, MapKept.run_getObj_map hb, checkS hk, run_underlying hk, Instr.findKey, hn, Result.andThen]
theorem lookS_none {P : Program} {t k e : TypeId} (ht : P.underlying t = some (.map k e)) (hk : P.underlying k = some .string) {w : World} {b : Nat} {es : Array MapEntry} {clock : Nat} (hb : w.heap[b]? = some (.map es clock)) (s : ByteArray) (z : Value) (hz : (zeroValue e).run P w = .ok z w) (hn : Instr.findNow .string (.string s) es.toList 0 = some none) (c : Bool) :
  (Instr.lookup t (.map (some b)) (.string s) c).run P w = .ok (if c then .tuple #[z, .bool false] else z) w := by
 cases c <;> simp [Instr.lookup, run_underlying ht, MapKept.run_getObj_map hb, checkS hk, run_underlying hk, Instr.findKey, hn, hz, Result.andThen]
def sendVal (X : Nat) : Nat → Value
 | 1 => .func (.func 129) #[] #[.pointer (some ⟨X, 0, none⟩)]
 | 2 => .func (.func 86) #[] #[]
 | 3 => .func (.func 87) #[] #[]
 | 4 => .func (.func 26) #[] #[]
 | 5 => .func (.func 88) #[] #[]
 | _ => .nilFunc
def sendObj (X : Nat) : Obj := .map #[{ key := .string ⟨#[102, 105, 102, 111]⟩, val := sendVal X 1, born := 0 }, { key := .string ⟨#[114, 97, 110, 107]⟩, val := sendVal X 2, born := 1 }, { key := .string ⟨#[100, 117, 101]⟩, val := sendVal X 3, born := 2 }, { key := .string ⟨#[114, 111, 117, 110, 100]⟩, val := sendVal X 4, born := 3 }, { key := .string ⟨#[102, 97, 105, 114]⟩, val := sendVal X 5, born := 4 }] 5
structure SendMap (w : World) (M X : Nat) : Prop where
 obj : w.heap[M]? = some (sendObj X)
 box : w.cell? ⟨X, 0, none⟩ = some (.func (.func 85) #[] #[])
theorem find_kind (kb : ByteArray) (X k : Nat) (hk : kindOf kb.toList = k) : Instr.findNow .string (.string kb) [{ key := .string ⟨#[102, 105, 102, 111]⟩, val := sendVal X 1, born := 0 }, { key := .string ⟨#[114, 97, 110, 107]⟩, val := sendVal X 2, born := 1 }, { key := .string ⟨#[100, 117, 101]⟩, val := sendVal X 3, born := 2 }, { key := .string ⟨#[114, 111, 117, 110, 100]⟩, val := sendVal X 4, born := 3 }, { key := .string ⟨#[102, 97, 105, 114]⟩, val := sendVal X 5, born := 4 }] 0 = some (if k = 0 then none else some (k - 1, sendVal X k)) := by
 have t := kindTests kb
 rw [hk] at t
 have h5 : k ≤ 5 := by rw [← hk]; exact kindOf_le _
 have e1 := beq_toListBytes kb ⟨#[102, 105, 102, 111]⟩
 have e2 := beq_toListBytes kb ⟨#[114, 97, 110, 107]⟩
 have e3 := beq_toListBytes kb ⟨#[100, 117, 101]⟩
 have e4 := beq_toListBytes kb ⟨#[114, 111, 117, 110, 100]⟩
 have e5 := beq_toListBytes kb ⟨#[102, 97, 105, 114]⟩
 rw [t.u1] at e1
 rw [t.u2] at e2
 rw [t.u3] at e3
 rw [t.u4] at e4
 rw [t.u5] at e5
 rcases (show k = 0 ∨ k = 1 ∨ k = 2 ∨ k = 3 ∨ k = 4 ∨ k = 5 by omega) with rfl | rfl | rfl | rfl | rfl | rfl <;> simp only [Instr.findNow, Instr.sameNow, e1, e2, e3, e4, e5] <;> rfl
theorem Tryz.sendersU : Tryz.prog.underlying 100 = some (.map 9 99) := by kernel_rfl
theorem Tryz.strU : Tryz.prog.underlying 9 = some .string := by kernel_rfl
theorem Tryz.senderZero (w : World) : (zeroValue 99).run Tryz.prog w = .ok .nilFunc w := by kernel_rfl
theorem SendMap.look {w : World} {M X : Nat} (h : SendMap w M X) (kb : ByteArray) {k : Nat} (hk : kindOf kb.toList = k) (c : Bool) : (Instr.lookup 100 (.map (some M)) (.string kb) c).run Tryz.prog w = .ok (if c then .tuple #[sendVal X k, .bool (decide (k ≠ 0))] else sendVal X k) w := by
 have hf := find_kind kb X k hk
 by_cases h0 : k = 0
 ·
  subst h0
  rw [if_pos rfl] at hf
  exact lookS_none Tryz.sendersU Tryz.strU h.obj kb .nilFunc (Tryz.senderZero w) hf c
 ·
  rw [if_neg h0] at hf
  have := lookS (P := Tryz.prog) Tryz.sendersU Tryz.strU h.obj kb _ _ hf c
  rw [this]
  simp [h0]
theorem withoutNumbers_any (v : Value) (w : World) (f : Nat) (hv : v = .func (.func f) #[] #[]) :
  Calls Tryz.prog 84 #[v] w fun e w' => e = .returned (.func (.func 129) #[] #[.pointer (some ⟨w.heap.size, 0, none⟩)]) ∧ w' = w.alloc (.cells #[v] 148) := by
 subst hv
 go_enter Tryz.func84, Tryz.ntmps84
 go_wp2_with fail
 go_ret
 exact ⟨rfl, rfl⟩
set_option maxRecDepth 100000 in
set_option maxHeartbeats 2000000 in
theorem senders_ok (w : World) : Calls Tryz.prog 51 #[] w fun e w' => ∃ M X, e = .returned (.map (some M)) ∧ SendMap w' M X ∧ Below w.heap.size w w' := by
 have HW : Hid (∀ W, Calls Tryz.prog 84 #[.func (.func 85) #[] #[]] W fun e w' => e = .returned (.func (.func 129) #[] #[.pointer (some ⟨W.heap.size, 0, none⟩)]) ∧ w' = W.alloc (.cells #[.func (.func 85) #[] #[]] 148)) := fun W => withoutNumbers_any _ W _ rfl
 have hb1 : Below w.heap.size w (w.alloc (.map #[] 0)) := (Below.refl _ _).alloc (Nat.le_refl _) _
 have hb2 : Below w.heap.size w ((w.alloc (.map #[] 0)).alloc (.cells #[.func (.func 85) #[] #[]] 148)) := hb1.alloc hb1.size _
 have o0 : ((w.alloc (.map #[] 0)).alloc (.cells #[.func (.func 85) #[] #[]] 148)).heap[w.heap.size]? = some (.map #[] 0) := (((Below.refl (w.alloc (.map #[] 0)).heap.size (w.alloc (.map #[] 0))).alloc (Nat.le_refl _) (.cells #[.func (.func 85) #[] #[]] 148)).block w.heap.size (by simp)).trans (by show (w.heap.push (Obj.map #[] 0))[w.heap.size]? = some (Obj.map #[] 0); simp)
 have x0 : ((w.alloc (.map #[] 0)).alloc (.cells #[.func (.func 85) #[] #[]] 148)).cell? ⟨w.heap.size + 1, 0, none⟩ = some (.func (.func 85) #[] #[]) := by simp
 have hs : (w.alloc (.map #[] 0)).heap.size = w.heap.size + 1 := by simp
 obtain ⟨W0, hW0⟩ : ∃ W, (w.alloc (.map #[] 0)).alloc (.cells #[.func (.func 85) #[] #[]] 148) = W := ⟨_, rfl⟩
 rw [hW0] at hb2 o0 x0
 obtain ⟨W1, r1, o1, b1⟩ := putS Tryz.sendersU Tryz.strU o0 ⟨#[102, 105, 102, 111]⟩ (.func (.func 129) #[] #[.pointer (some ⟨w.heap.size + 1, 0, none⟩)]) (by kernel_rfl)
 obtain ⟨W2, r2, o2, b2⟩ := putS Tryz.sendersU Tryz.strU o1 ⟨#[114, 97, 110, 107]⟩ (.func (.func 86) #[] #[]) (by kernel_rfl)
 obtain ⟨W3, r3, o3, b3⟩ := putS Tryz.sendersU Tryz.strU o2 ⟨#[100, 117, 101]⟩ (.func (.func 87) #[] #[]) (by kernel_rfl)
 obtain ⟨W4, r4, o4, b4⟩ := putS Tryz.sendersU Tryz.strU o3 ⟨#[114, 111, 117, 110, 100]⟩ (.func (.func 26) #[] #[]) (by kernel_rfl)
 obtain ⟨W5, r5, o5, b5⟩ := putS Tryz.sendersU Tryz.strU o4 ⟨#[102, 97, 105, 114]⟩ (.func (.func 88) #[] #[]) (by kernel_rfl)
 have hbt := (((b1.trans b2).trans b3).trans b4).trans b5
 have HE : Hid (SendMap W5 w.heap.size (w.heap.size + 1) ∧ Below w.heap.size w W5) := by
  refine ⟨⟨o5, ?_⟩, hb2.trans (hbt.below hb2.size fun k hk => by rw [hk]; exact Nat.le_refl _)⟩
  rw [hbt.cell (p := ⟨w.heap.size + 1, 0, none⟩) (cell_lt x0) (by show ¬ w.heap.size + 1 = w.heap.size; omega)]
  exact x0
 have hmm := @run_makeMap Tryz.prog
 have HW0 : Hid ((w.alloc (.map #[] 0)).alloc (.cells #[.func (.func 85) #[] #[]] 148) = W0) := hW0
 clear hb1 hb2 o0 x0 o1 o2 o3 o4 o5 b1 b2 b3 b4 b5 hbt hW0
 go_enter Tryz.func51, Tryz.ntmps51
 go_wp2_with fail
 refine (HW.out _).mono ?_
 rintro e w1 ⟨rfl, rfl⟩
 rw [hs, HW0.out]
 go_wp2_with fail
 go_ret
 exact ⟨_, _, rfl, HE.out.1, HE.out.2⟩
end Go.Proofs.YtibhkijaafdkoaaGreatDoor

namespace Go.Proofs.YtibhkijaafdkoaaGreatDoor
open Go.RowKit
theorem linkCheck_ok (a : Option Addr) (cap : Nat) (ps : List Pk) (per : Int) (w : World) (hl : LiesP w a ps) (ho : OkPks ps) (h1 : 1 ≤ per) (h2 : per ≤ 1000) :
  Calls Tryz.prog 52 #[.slice a ps.length cap, .int .i64 per] w fun e w' => e = .returned .nilIface ∧ Below w.heap.size w w' := by
 have HC : Hid (Calls Tryz.prog 49 #[.slice a ps.length cap] w fun e w' => e = .returned .nilIface ∧ Below w.heap.size w w') := pcheck_ok a cap ps w hl ho
 clear hl ho
 go_enter Tryz.func52, Tryz.ntmps52
 go_wp2_with fail
 refine HC.out.mono ?_
 rintro e w1 ⟨rfl, hb⟩
 have HB : Hid (Below w.heap.size w w1) := hb
 clear hb
 go_wp2_with fail
 go_ret
 exact ⟨rfl, HB.out⟩
theorem linkCheck_err {R : TypeId → Value → World → Prop} (a : Option Addr) (n cap : Nat) (per : Int) (w : World) (h : Calls Tryz.prog 49 #[.slice a n cap] w fun e w' => ∃ ty v, e = .returned (.iface ty v) ∧ R ty v w') :
  Calls Tryz.prog 52 #[.slice a n cap, .int .i64 per] w fun e w' => ∃ ty v, e = .returned (.iface ty v) ∧ R ty v w' := by
 have HC : Hid (Calls Tryz.prog 49 #[.slice a n cap] w fun e w' => ∃ ty v, e = .returned (.iface ty v) ∧ R ty v w') := h
 clear h
 go_enter Tryz.func52, Tryz.ntmps52
 go_wp2_with fail
 refine HC.out.mono ?_
 rintro e w1 ⟨ty, v, rfl, hR⟩
 have HR : Hid (R ty v w1) := hR
 clear hR
 go_wp2_with fail
 go_ret
 exact ⟨ty, v, rfl, HR.out⟩
theorem linkCheck_per (a : Option Addr) (cap : Nat) (ps : List Pk) (per : Int) (w : World) (ad : Nat → Addr) (he : ErrsBO w ad) (hl : LiesP w a ps) (ho : OkPks ps) (h : per < 1 ∨ 1000 < per) :
  Calls Tryz.prog 52 #[.slice a ps.length cap, .int .i64 per] w fun e w' => e = .returned (.iface 271 (.pointer (some (ad 1)))) ∧ Below w.heap.size w w' := by
 have HC : Hid (Calls Tryz.prog 49 #[.slice a ps.length cap] w fun e w' => e = .returned .nilIface ∧ Below w.heap.size w w') := pcheck_ok a cap ps w hl ho
 have HE : Hid (ErrsBO w ad) := he
 clear hl ho he
 by_cases h1 : per < 1
 ·
  clear h
  go_enter Tryz.func52, Tryz.ntmps52
  go_wp2_with fail
  refine HC.out.mono ?_
  rintro e w1 ⟨rfl, hb⟩
  have c1 := cell_later hb HE.out.c1
  have HB : Hid (Below w.heap.size w w1) := hb
  clear hb
  go_wp2_with fail
  go_ret
  exact ⟨rfl, HB.out⟩
 ·
  have h2 : 1000 < per := by omega
  clear h
  go_enter Tryz.func52, Tryz.ntmps52
  go_wp2_with fail
  refine HC.out.mono ?_
  rintro e w1 ⟨rfl, hb⟩
  have c1 := cell_later hb HE.out.c1
  have HB : Hid (Below w.heap.size w w1) := hb
  clear hb
  go_wp2_with fail
  go_ret
  exact ⟨rfl, HB.out⟩
set_option maxHeartbeats 1000000 in
theorem sendOne_ok (a : Option Addr) (cap : Nat) (ps : List Pk) (per now : Int) (k : Nat) (p : Pk) (w : World) (hl : LiesP w a ps) (hn : ps.length ≤ 300) (hk : ps[k]? = some p) (hp : okPk p = true) (h1 : 1 ≤ per) (h2 : per ≤ 1000) (n0 : 0 ≤ now) (n1 : now ≤ 1100000000000000) :
  Calls Tryz.prog 99 #[.slice a ps.length cap, .int .i64 per, .int .i64 k, .int .i64 now] w fun e w' => e = .returned (.agg #[.int .i64 k, .int .i64 now, .int .i64 (now + per * p.size)]) ∧ Below w.heap.size w w' := by
 have hkl := lt_of_get hk
 obtain ⟨b, off, rfl, hlt, hc⟩ := hl.place (by omega)
 have c1 := (hc k p hk).2.1
 obtain ⟨-, -, s1, s2, -, -⟩ := okPk_true hp
 have a1 : 0 ≤ per * p.size := Int.mul_nonneg (by omega) (by omega)
 have a2 : per * p.size ≤ 1000 * 1500 := Int.mul_le_mul (by omega) s2 (by omega) (by omega)
 have c1' : (w.alloc (.cells #[.int .i64 0, .int .i64 0, .int .i64 0] 78)).cell? ⟨b, off + k * 3 + 1, none⟩ = some (.int .i64 p.size) := cell_later ((Below.refl _ _).alloc (Nat.le_refl _) _) c1
 generalize p.size = y at *
 generalize hm : per * y = m at *
 have HM : Hid (per * y = m) := hm
 have hw : IntKind.i64.wrap (per * y) = m := by rw [hm]; exact IntWalk.i64_in (by omega) (by omega)
 clear hl hc hp hk hm
 go_enter Tryz.func99, Tryz.ntmps99
 go_wp2_with fail
 exact bodyPost_ret (v := .agg #[.int .i64 k, .int .i64 now, .int .i64 (now + m)]) (by simp [results, Tryz.results99, go_sem]) rfl ⟨rfl, (Below.refl _ _).alloc (Nat.le_refl _) _⟩
end Go.Proofs.YtibhkijaafdkoaaGreatDoor
