/- Own facts, put together: no statement of its own. -/
import Derived.Test.YtibhkijaafdkoaaGreatDoorQ07
import Derived.Test.YtibhkijaafdkoaaGreatDoorQ12
import Derived.Test.YtibhkijaafdkoaaGreatDoorQ13
import Derived.Test.YtibhkijaafdkoaaGreatDoorQ02
import Derived.Test.YtibhkijaafdkoaaGreatDoorQ14
import Derived.Laws.OwnMore
import Derived.Sort.Row
import Derived.Test.YtibhkijaafdkoaaGreatDoorQ01
namespace Go.Proofs.YtibhkijaafdkoaaGreatDoor
def kindOf (bs : List UInt8) : Nat := if bs = [102, 105, 102, 111] then 1 else if bs = [114, 97, 110, 107] then 2 else if bs = [100, 117, 101] then 3 else if bs = [114, 111, 117, 110, 100] then 4 else if bs = [102, 97, 105, 114] then 5 else 0
theorem kindOf_le (bs : List UInt8) : kindOf bs ≤ 5 := by
 unfold kindOf
 repeat' split
 all_goals omega
def KindFault (k : Nat) (ns : List Int) (c : Nat) : Prop :=
 (k = 1 ∧ ((c = 3 ∧ ns ≠ []) ∨ (c = 0 ∧ ns = []))) ∨ (k = 2 ∧ NumsFault 0 100 ns c) ∨ (k = 3 ∧ NumsFault 0 1099511627776 ns c) ∨ (k = 4 ∧ NumsFault 1 3000 ns c) ∨ (k = 5 ∧ WtsFault ns c)
theorem kindFault_is {k : Nat} (h1 : 1 ≤ k) (h5 : k ≤ 5) (ns : List Int) : ∃ c, KindFault k ns c := by
 rcases (show k = 1 ∨ k = 2 ∨ k = 3 ∨ k = 4 ∨ k = 5 by omega) with rfl | rfl | rfl | rfl | rfl
 ·
  by_cases h : ns = []
  · exact ⟨0, .inl ⟨rfl, .inr ⟨rfl, h⟩⟩⟩
  · exact ⟨3, .inl ⟨rfl, .inl ⟨rfl, h⟩⟩⟩
 ·
  obtain ⟨c, h⟩ := numsFault_is 0 100 ns
  exact ⟨c, .inr (.inl ⟨rfl, h⟩)⟩
 ·
  obtain ⟨c, h⟩ := numsFault_is 0 1099511627776 ns
  exact ⟨c, .inr (.inr (.inl ⟨rfl, h⟩))⟩
 ·
  obtain ⟨c, h⟩ := numsFault_is 1 3000 ns
  exact ⟨c, .inr (.inr (.inr (.inl ⟨rfl, h⟩)))⟩
 ·
  obtain ⟨c, h⟩ := wtsFault_is ns
  exact ⟨c, .inr (.inr (.inr (.inr ⟨rfl, h⟩)))⟩
theorem KindFault.few {k : Nat} {ns : List Int} {c : Nat} (h : KindFault k ns c) : c = 0 ∨ c = 2 ∨ c = 3 := by
 rcases h with ⟨-, ⟨h, -⟩ | ⟨h, -⟩⟩ | ⟨-, ⟨h, -⟩ | ⟨h, -⟩ | ⟨h, -⟩⟩ | ⟨-, ⟨h, -⟩ | ⟨h, -⟩ | ⟨h, -⟩⟩ | ⟨-, ⟨h, -⟩ | ⟨h, -⟩ | ⟨h, -⟩⟩ | ⟨-, ⟨h, -⟩ | ⟨h, -⟩ | ⟨h, -⟩⟩ <;> omega
def curveFl (cs : List (List (Int × Int))) (f : Nat) : List (Int × Int) := cs.getD f []
theorem curveFl_get {cs : List (List (Int × Int))} {f : Nat} {ls : List (Int × Int)} (h : cs[f]? = some ls) : curveFl cs f = ls := by simp [curveFl, List.getD, h]
def CurvesTo (cs : List (List (Int × Int))) (k : Nat) : Prop := ∀ (i : Nat) ls, i < k → cs[i]? = some ls → ls = [] ∨ okCurve ls
def CurveBad (cs : List (List (Int × Int))) (i : Nat) (c : Int) : Prop := ∃ ls p, cs[i]? = some ls ∧ ls ≠ [] ∧ FaultIs ls c p ∧ 0 < c
theorem curves_split (cs : List (List (Int × Int))) : ∀ k, k ≤ cs.length → CurvesTo cs k ∨ ∃ i c, i < k ∧ CurveBad cs i c ∧ CurvesTo cs i
 | 0, _ => .inl fun i ls h => absurd h (Nat.not_lt_zero _)
 | k + 1, hk => by
  rcases curves_split cs k (by omega) with h | ⟨i, c, h1, h2, h3⟩
  ·
   have e : cs[k]? = some cs[k] := List.getElem?_eq_getElem (by omega)
   by_cases h0 : cs[k] = []
   ·
    refine .inl fun i ls hi hl => ?_
    rcases Nat.lt_or_ge i k with h' | h'
    · exact h i ls h' hl
    ·
     obtain rfl : i = k := by omega
     rw [e] at hl
     obtain rfl := Option.some.inj hl
     exact .inl h0
   ·
    obtain ⟨c, p, hf⟩ := fault_is cs[k]
    by_cases hc : c = 0
    ·
     subst hc
     refine .inl fun i ls hi hl => ?_
     rcases Nat.lt_or_ge i k with h' | h'
     · exact h i ls h' hl
     ·
      obtain rfl : i = k := by omega
      rw [e] at hl
      obtain rfl := Option.some.inj hl
      exact .inr hf.ok.1
    ·
     have := hf.num
     exact .inr ⟨k, c, by omega, ⟨_, p, e, h0, hf, by omega⟩, h⟩
  · exact .inr ⟨i, c, by omega, h2, h3⟩
theorem CurvesTo.ok {cs : List (List (Int × Int))} (h : CurvesTo cs 8) : CurvesOk (curveFl cs) := fun f hf => by
 cases e : cs[f]? with
 | none => exact .inl (by simp [curveFl, List.getD, e])
 | some ls => rw [curveFl_get e]; exact h f ls hf e
def GateIs (cs : List (List (Int × Int))) (k : Nat) (per : Int) (ns : List Int) (c p : Int) : Prop :=
 (cs.length ≠ 8 ∧ c = 3 ∧ p = -1) ∨ (cs.length = 8 ∧ ∃ i : Nat, CurveBad cs i c ∧ p = i ∧ CurvesTo cs i) ∨
  (cs.length = 8 ∧ CurvesTo cs 8 ∧ p = -1 ∧ ((k = 0 ∧ c = 9) ∨ (1 ≤ k ∧ k ≤ 5 ∧ ((¬ (1 ≤ per ∧ per ≤ 1000) ∧ c = 2) ∨ (1 ≤ per ∧ per ≤ 1000 ∧ ∃ d : Nat, KindFault k ns d ∧ c = d)))))
structure GateOk (cs : List (List (Int × Int))) (k : Nat) (per : Int) (ns : List Int) : Prop where
 len : cs.length = 8
 curves : CurvesTo cs 8
 kind : 1 ≤ k ∧ k ≤ 5
 per : 1 ≤ per ∧ per ≤ 1000
 nums : KindFault k ns 0
theorem gateIs_is (cs : List (List (Int × Int))) {k : Nat} (hk : k ≤ 5) (per : Int) (ns : List Int) : ∃ c p, GateIs cs k per ns c p := by
 by_cases hl : cs.length = 8
 ·
  rcases curves_split cs 8 (by omega) with h | ⟨i, c, h1, h2, h3⟩
  ·
   by_cases h0 : k = 0
   · exact ⟨9, -1, .inr (.inr ⟨hl, h, rfl, .inl ⟨h0, rfl⟩⟩)⟩
   ·
    by_cases hp : 1 ≤ per ∧ per ≤ 1000
    ·
     obtain ⟨d, hd⟩ := kindFault_is (k := k) (by omega) hk ns
     exact ⟨d, -1, .inr (.inr ⟨hl, h, rfl, .inr ⟨by omega, hk, .inr ⟨hp.1, hp.2, d, hd, rfl⟩⟩⟩)⟩
    · exact ⟨2, -1, .inr (.inr ⟨hl, h, rfl, .inr ⟨by omega, hk, .inl ⟨hp, rfl⟩⟩⟩)⟩
  · exact ⟨c, i, .inr (.inl ⟨hl, i, h2, rfl, h3⟩)⟩
 · exact ⟨3, -1, .inl ⟨hl, rfl, rfl⟩⟩
theorem GateIs.num {cs : List (List (Int × Int))} {k : Nat} {per : Int} {ns : List Int} {c p : Int} (h : GateIs cs k per ns c p) : (c = 0 ∧ p = -1 ∧ GateOk cs k per ns) ∨ (0 < c ∧ c ≤ 9) := by
 rcases h with ⟨-, h, -⟩ | ⟨-, i, ⟨ls, q, -, -, hf, h⟩, -⟩ | ⟨h1, h2, hp, ⟨-, h⟩ | ⟨k1, k5, ⟨-, h⟩ | ⟨p1, p2, d, hd, h⟩⟩⟩
 · exact .inr (by omega)
 ·
  have := hf.num
  exact .inr (by omega)
 · exact .inr (by omega)
 · exact .inr (by omega)
 ·
  rcases hd.few with rfl | rfl | rfl
  · exact .inl ⟨by omega, hp, h1, h2, ⟨k1, k5⟩, ⟨p1, p2⟩, hd⟩
  · exact .inr (by omega)
  · exact .inr (by omega)
def LinkSends (k : Nat) (per : Int) (ps : List Pk) (ns : List Int) (l : List Sn) : Prop :=
 (k = 1 ∧ l = lindAll per ps ps.length) ∨ (k = 2 ∧ Sched per ps (rankKeys ps ns) l ∧ l.length = ps.length) ∨ (k = 3 ∧ Sched per ps (dueKeys ps ns) l ∧ l.length = ps.length) ∨ (k = 4 ∧ RoundSent per ps ns l) ∨ (k = 5 ∧ ∃ ts, FairSent per ps ns l ts)
theorem wtsOk_all {ns : List Int} (h : WtsAll ns) : WtsOk ns := fun f => by
 cases hx : ns[f]? with
 | none => simp [quOf, List.getD, hx]
 | some x =>
  rw [quOf_get hx]
  have := h.each f x hx
  exact ⟨this.1, Int.ediv_mul_cancel (Int.dvd_of_emod_eq_zero this.2)⟩
theorem NumsFault.ok {lo hi : Int} {ns : List Int} (h : NumsFault lo hi ns 0) : NumsOk lo hi ns := by
 rcases h with ⟨h, -⟩ | ⟨h, -⟩ | ⟨-, h⟩
 · omega
 · omega
 · exact h
theorem WtsFault.ok {ns : List Int} (h : WtsFault ns 0) : WtsAll ns := by
 rcases h with ⟨h, -⟩ | ⟨h, -⟩ | ⟨-, h⟩
 · omega
 · omega
 · exact h
theorem LinkSends.may {k : Nat} {per : Int} {ps : List Pk} {ns : List Int} {l : List Sn} (h : LinkSends k per ps ns l) (hn : KindFault k ns 0) (ho : OkPks ps) (hper : 1 ≤ per) : Conv per ps l ∧ Turns ps l ∧ l.length = ps.length := by
 rcases h with ⟨rfl, rfl⟩ | ⟨rfl, h1, h2⟩ | ⟨rfl, h1, h2⟩ | ⟨rfl, h⟩ | ⟨rfl, ts, h⟩
 · exact ⟨(lind_may ho).1, (lind_may ho).2, by simp [lindAll]⟩
 · exact ⟨h1.conv, rank_turns ho h1, h2⟩
 · exact ⟨h1.conv, due_turns ho h1, h2⟩
 ·
  rcases hn with ⟨e, -⟩ | ⟨e, -⟩ | ⟨e, -⟩ | ⟨-, hn⟩ | ⟨e, -⟩
  case inr.inr.inr.inl => exact h.may ho (fun f => (quOf_in (fun i x hx => hn.ok.each i x hx) (by decide) f).1) hper
  all_goals omega
 ·
  rcases hn with ⟨e, -⟩ | ⟨e, -⟩ | ⟨e, -⟩ | ⟨e, -⟩ | ⟨-, hn⟩
  case inr.inr.inr.inr => exact h.may (wtsOk_all hn.ok) ho hper
  all_goals omega
def NeverAt (cs : Nat → List (Int × Int)) (ps : List Pk) (i : Nat) : Prop := ∃ p s, ps[i]? = some p ∧ cs (flowOf ps i) ≠ [] ∧ shape (cs (flowOf ps i)) ((ownTo ps (flowOf ps i) ps.length).take (rankIn ps i)) = some s ∧ shStep s p = none
theorem shape_first (ls : List (Int × Int)) : ∀ own : List Pk, shape ls own = none → ∃ (j : Nat) (p : Pk) (s : Sh), own[j]? = some p ∧ shape ls (own.take j) = some s ∧ shStep s p = none := by
 refine snoc_ind (fun h => by cases h) (fun own p ih h => ?_)
 rw [shape_snoc] at h
 cases hs : shape ls own with
 | none =>
  obtain ⟨j, q, s, h1, h2, h3⟩ := ih hs
  have hj : j < own.length := lt_of_get h1
  exact ⟨j, q, s, by rw [List.getElem?_append_left hj]; exact h1, by rw [List.take_append_of_le_length (by omega)]; exact h2, h3⟩
 | some s =>
  rw [hs] at h
  exact ⟨own.length, p, s, by simp, by simpa using hs, h⟩
section
variable {cs : Nat → List (Int × Int)} {ps : List Pk}
theorem shaped_all (ho : OkPks ps) (hn : ∀ i, ¬ NeverAt cs ps i) (f : Nat) : ∃ out, shapedFl cs ps f = some out := by
 unfold shapedFl
 by_cases he : cs f = []
 · exact ⟨_, if_pos he⟩
 ·
  rw [if_neg he]
  cases hs : shape (cs f) (ownTo ps f ps.length) with
  | some s => exact ⟨_, rfl⟩
  | none =>
   obtain ⟨j, p, s, h1, h2, h3⟩ := shape_first _ _ hs
   have hown := own_num ho f ps.length (Nat.le_refl _)
   have hj : j < (numTo ps f ps.length).length := by rw [← hown.1]; exact lt_of_get h1
   have e : (numTo ps f ps.length)[j]? = some (numTo ps f ps.length)[j] := List.getElem?_eq_getElem hj
   obtain ⟨g1, g2, g3, g4⟩ := hown.2 j _ e
   refine absurd ⟨p, s, by rw [← g4]; exact h1, by rw [g2]; exact he, by rw [g2, g3]; exact h2, h3⟩ (hn (numTo ps f ps.length)[j])
def GateRun (cs : Nat → List (Int × Int)) (k : Nat) (per : Int) (ns : List Int) (ps qs : List Pk) (l : List Sn) : Prop := ∃ at_ L, Shaped cs ps at_ ∧ IsOrder at_ ps.length L ∧ qs = gatePks ps at_ L ∧ LinkSends k per qs ns l
theorem shaped_is (ho : OkPks ps) (hn : ∀ i, ¬ NeverAt cs ps i) : ∃ at_, Shaped cs ps at_ := by
 obtain ⟨out, hout⟩ := Classical.axiomOfChoice fun f => shaped_all (cs := cs) ho hn f
 refine ⟨fun i => tickOf (out (flowOf ps i)) (rankIn ps i), fun f hf => ⟨out f, hout f, fun r i hi => ?_⟩⟩
 obtain ⟨-, g2, g3, -⟩ := (own_num ho f ps.length (Nat.le_refl _)).2 r i hi
 show tickOf (out (flowOf ps i)) (rankIn ps i) = _
 rw [g2, g3]
theorem Shaped.same (ho : OkPks ps) {at1 at2 : Nat → Int} (h1 : Shaped cs ps at1) (h2 : Shaped cs ps at2) {i : Nat} (hi : i < ps.length) : at1 i = at2 i := by
 have hf := flow_range ho hi
 obtain ⟨out, e1, g1⟩ := h1 _ hf
 obtain ⟨out', e2, g2⟩ := h2 _ hf
 obtain rfl : out = out' := Option.some.inj (e1.symm.trans e2)
 have hat := num_at ho hi (Nat.le_refl _)
 rw [g1 _ _ hat, g2 _ _ hat]
theorem IsOrder.turn {at1 at2 : Nat → Int} {n : Nat} {L : List Nat} (h : IsOrder at1 n L) (he : ∀ i, i < n → at1 i = at2 i) : IsOrder at2 n L := by
 refine ⟨?_, h.mem⟩
 refine List.Pairwise.imp_of_mem (fun {a b} ha hb hab => ?_) h.sorted
 have e1 := he a ((h.mem a).1 ha)
 have e2 := he b ((h.mem b).1 hb)
 unfold Ahead at hab ⊢
 omega
theorem gate_one (ho : OkPks ps) {at1 at2 : Nat → Int} {L M : List Nat} (h1 : Shaped cs ps at1) (h2 : Shaped cs ps at2) (k1 : IsOrder at1 ps.length L) (k2 : IsOrder at2 ps.length M) : gatePks ps at1 L = gatePks ps at2 M := by
 obtain rfl : L = M := (k1.turn fun i hi => h1.same ho h2 hi).same k2
 refine List.map_congr_left fun i hi => ?_
 have hi' := (k1.mem i).1 hi
 have e : ps[i]? = some ps[i] := List.getElem?_eq_getElem hi'
 rw [gatePk_get e, gatePk_get e, h1.same ho h2 hi']
theorem GateRun.same_in {k k' : Nat} {per per' : Int} {ns ns' : List Int} {qs qs' : List Pk} {l l' : List Sn} (ho : OkPks ps) (h : GateRun cs k per ns ps qs l) (h' : GateRun cs k' per' ns' ps qs' l') : qs = qs' := by
 obtain ⟨at1, L, a1, a2, rfl, a3⟩ := h
 obtain ⟨at2, M, b1, b2, rfl, b3⟩ := h'
 exact gate_one ho a1 b1 a2 b2
theorem GateRun.ok {k : Nat} {per : Int} {ns : List Int} {qs : List Pk} {l : List Sn} (ho : OkPks ps) (hc : CurvesOk cs) (h : GateRun cs k per ns ps qs l) : OkPks qs ∧ qs.length = ps.length ∧ LinkSends k per qs ns l := by
 obtain ⟨at1, L, a1, a2, rfl, a3⟩ := h
 exact ⟨a1.ok ho hc a2, by rw [gatePks, List.length_map]; exact a2.length, a3⟩
end
theorem least_of {P : Nat → Prop} (h : ∃ i, P i) : ∃ i, P i ∧ ∀ j, j < i → ¬ P j := by
 obtain ⟨n, hn⟩ := h
 induction n using Nat.strongRecOn with
 | _ n ih =>
  by_cases hl : ∃ m, m < n ∧ P m
  ·
   obtain ⟨m, h1, h2⟩ := hl
   exact ih m h1 h2
  · exact ⟨n, hn, fun j hj h' => hl ⟨j, hj, h'⟩⟩
def RunIs (cs : List (List (Int × Int))) (k : Nat) (per : Int) (ns : List Int) (ps : List Pk) (c p : Int) : Prop :=
 (GateIs cs k per ns c p ∧ 0 < c) ∨ (GateOk cs k per ns ∧ PksFault ps c p ∧ 0 < c) ∨ (GateOk cs k per ns ∧ OkPks ps ∧ ∃ i : Nat, NeverAt (curveFl cs) ps i ∧ (∀ j, j < i → ¬ NeverAt (curveFl cs) ps j) ∧ c = 4 ∧ p = i) ∨ (GateOk cs k per ns ∧ OkPks ps ∧ (∀ i, ¬ NeverAt (curveFl cs) ps i) ∧ c = 0 ∧ p = -1)
theorem runIs_is (cs : List (List (Int × Int))) {k : Nat} (hk : k ≤ 5) (per : Int) (ns : List Int) (ps : List Pk) : ∃ c p, RunIs cs k per ns ps c p := by
 obtain ⟨c, p, hg⟩ := gateIs_is cs hk per ns
 rcases hg.num with ⟨rfl, rfl, hok⟩ | hc
 ·
  obtain ⟨c, p, hp⟩ := pksFault_is ps
  rcases hp.num with ⟨rfl, rfl, ho⟩ | hc
  ·
   by_cases hn : ∃ i, NeverAt (curveFl cs) ps i
   ·
    obtain ⟨i, h1, h2⟩ := least_of hn
    exact ⟨4, i, .inr (.inr (.inl ⟨hok, ho, i, h1, h2, rfl, rfl⟩))⟩
   · exact ⟨0, -1, .inr (.inr (.inr ⟨hok, ho, fun i h => hn ⟨i, h⟩, rfl, rfl⟩))⟩
  · exact ⟨c, p, .inr (.inl ⟨hok, hp, hc⟩)⟩
 · exact ⟨c, p, .inl ⟨hg, hc.1⟩⟩
end Go.Proofs.YtibhkijaafdkoaaGreatDoor

namespace Go.Proofs.YtibhkijaafdkoaaGreatDoor
open Go.RowKit Go.Sort
def ints (xs : List Int) : List Value := xs.map (Value.int .i64)
theorem ints_length (xs : List Int) : (ints xs).length = xs.length := by simp [ints]
theorem ints_get {xs : List Int} {j : Nat} {x : Int} (h : xs[j]? = some x) : (ints xs)[j]? = some (.int .i64 x) := by simp [ints, h]
theorem ints_one (xs : List Int) : ∀ u ∈ ints xs, u.oneCell' = true := by
 intro u hu
 obtain ⟨x, -, rfl⟩ := List.mem_map.1 hu
 rfl
theorem holds_of_own {w : World} {B : Nat} {e : TypeId} {g cap : Nat} {zs : List Int} (h : w.ownsRow B e 1 (.slice (some ⟨g, 0, none⟩) zs.length cap) zs.length (ints zs)) : Holds (Value.int .i64) w g 0 zs.toArray := by
 intro j hj
 have hj' : j < zs.length := by simpa using hj
 refine ⟨?_, h.frozenAt _⟩
 rw [Nat.zero_add, h.cellAt j (by omega), ints_get (List.getElem?_eq_getElem hj')]
 congr 2
 rw [getElem!_pos _ j hj]
 simp
theorem own_deleted {w : World} {B : Nat} {e : TypeId} {g cap : Nat} {zs : List Int} (h : w.ownsRow B e 1 (.slice (some ⟨g, 0, none⟩) zs.length cap) zs.length (ints zs)) (i q : Nat) (hi : i < zs.length) :
  (putRow (Value.int .i64) (Sort.ahead w q) g 0 (zs.take i ++ zs.drop (i + 1) ++ List.replicate (i + 1 - i) 0).toArray).ownsRow B e 1 (.slice (some ⟨g, 0, none⟩) (zs.length - 1) cap) (zs.length - 1) (ints (zs.eraseIdx i)) ∧
   But (fun k => k = g) w (putRow (Value.int .i64) (Sort.ahead w q) g 0 (zs.take i ++ zs.drop (i + 1) ++ List.replicate (i + 1 - i) 0).toArray) := by
 have hel : (zs.eraseIdx i).length = zs.length - 1 := by rw [List.length_eraseIdx, if_pos hi]
 rcases h.2 with ⟨h', _⟩ | ⟨g', cap', cur, h', hB, hg, hn, hm, hcs, ht⟩
 · simp at h'
 ·
  simp only [Value.slice.injEq, Option.some.injEq, Addr.mk.injEq, and_true, true_and] at h'
  obtain ⟨rfl, rfl⟩ := h'
  refine ⟨⟨by rw [ints_length, hel, Nat.mul_one], .inr ⟨g, cap, putCells (Value.int .i64) 0 (zs.take i ++ zs.drop (i + 1) ++ List.replicate (i + 1 - i) 0).toArray cur, rfl, hB, ?_, by omega, hm, by simp [putCells, hcs], ?_⟩⟩, ⟨rfl, rfl, rfl, by simp, fun k hk hs => ?_⟩⟩
  ·
   simp only [putRow, mapBlock, Array.getElem?_modify, heap_ahead, hg]
   rfl
  ·
   apply List.ext_getElem?
   intro k
   rw [List.getElem?_take, Nat.mul_one]
   by_cases hk : k < zs.length - 1
   ·
    rw [if_pos hk]
    have hz : (zs.eraseIdx i)[k]? = some ((zs.eraseIdx i)[k]'(by omega)) := List.getElem?_eq_getElem (by omega)
    rw [ints_get hz]
    have hcur : cur[k]? = some cur[k] := Array.getElem?_eq_getElem (by omega)
    have hsz : (zs.take i ++ zs.drop (i + 1) ++ List.replicate (i + 1 - i) (0 : Int)).length = zs.length := by
     simp only [List.length_append, List.length_take, List.length_drop, List.length_replicate]
     omega
    simp only [putCells, Array.getElem?_toList, Array.getElem?_mapIdx, hcur, Option.map_some]
    rw [if_pos ⟨Nat.zero_le _, by rw [List.size_toArray, hsz]; omega⟩]
    congr 2
    rw [Nat.sub_zero, getElem!_pos _ k (by rw [List.size_toArray, hsz]; omega)]
    have e1 : zs.take i ++ zs.drop (i + 1) = zs.eraseIdx i := (List.eraseIdx_eq_take_drop_succ ..).symm
    simp only [e1, List.getElem_toArray]
    rw [List.getElem_append_left (by omega)]
   · rw [if_neg hk, List.getElem?_eq_none (by rw [ints_length]; omega)]
  ·
   simp only [putRow, mapBlock, Array.getElem?_modify, heap_ahead]
   rw [if_neg (fun h => hs h.symm)]
end Go.Proofs.YtibhkijaafdkoaaGreatDoor

namespace Go.Proofs.YtibhkijaafdkoaaGreatDoor
open Go.RowKit
theorem own_lies {w : World} {B e : Nat} {v : Value} {zs : List Int} (h : w.ownsRow B e 1 v zs.length (ints zs)) : ∃ a cap, v = .slice a zs.length cap ∧ zs.length ≤ cap ∧ cap ≤ maxLen ∧ LiesN w a zs := by
 have hh := h
 obtain ⟨h1, ⟨rfl, h0⟩ | ⟨g, cap, cur, rfl, hB, hg, hn, hm, hc, ht⟩⟩ := h
 · exact ⟨none, 0, by rw [h0], by omega, by simp [maxLen], .inl (List.length_eq_zero_iff.1 h0)⟩
 ·
  refine ⟨_, cap, rfl, hn, hm, .inr ⟨g, 0, rfl, lt_of_block hg, fun i x hx => ?_⟩⟩
  rw [Nat.zero_add, hh.cellAt i (by have := (List.getElem?_eq_some_iff.1 hx).1; omega)]
  exact ints_get hx
end Go.Proofs.YtibhkijaafdkoaaGreatDoor

namespace Go.Proofs.YtibhkijaafdkoaaGreatDoor
open Go.RowKit
def LiesC (w : World) (a : Option Addr) (cs : List (List (Int × Int))) : Prop :=
 cs = [] ∨ ∃ b off, a = some ⟨b, off, none⟩ ∧ b < w.heap.size ∧ ∀ (i : Nat) ls, cs[i]? = some ls → ∃ a' cap, w.cell? ⟨b, off + i, none⟩ = some (.slice a' ls.length cap) ∧ Lies w a' ls ∧ ls.length ≤ cap ∧ cap ≤ maxLen ∧ (a' = none → ls = [] ∧ cap = 0)
theorem LiesC.place {w : World} {a : Option Addr} {cs : List (List (Int × Int))} (h : LiesC w a cs) (h1 : 1 ≤ cs.length) :
  ∃ b off, a = some ⟨b, off, none⟩ ∧ b < w.heap.size ∧ ∀ (i : Nat) ls, cs[i]? = some ls → ∃ a' cap, w.cell? ⟨b, off + i, none⟩ = some (.slice a' ls.length cap) ∧ Lies w a' ls ∧ ls.length ≤ cap ∧ cap ≤ maxLen ∧ (a' = none → ls = [] ∧ cap = 0) := by
 rcases h with rfl | h
 · simp at h1
 · exact h
theorem LiesC.below {w w' : World} {a : Option Addr} {cs : List (List (Int × Int))} (h : LiesC w a cs) (hb : Below w.heap.size w w') : LiesC w' a cs := by
 rcases h with rfl | ⟨b, off, rfl, hlt, hc⟩
 · exact .inl rfl
 ·
  refine .inr ⟨b, off, rfl, Nat.lt_of_lt_of_le hlt hb.size, fun i ls hi => ?_⟩
  obtain ⟨a', cap, h1, h2, h3⟩ := hc i ls hi
  exact ⟨a', cap, cell_later hb h1, h2.below hb, h3⟩
structure GateAt (w : World) (B : Nat) (ca : Value) (kb : ByteArray) (per : Int) (na : Value) : Prop where
 c0 : w.cell? ⟨B, 0, none⟩ = some ca
 c1 : w.cell? ⟨B, 1, none⟩ = some (.string kb)
 c2 : w.cell? ⟨B, 2, none⟩ = some (.int .i64 per)
 c3 : w.cell? ⟨B, 3, none⟩ = some na
theorem gateAt_new (w : World) (ca : Value) (kb : ByteArray) (per : Int) (na : Value) (t : TypeId) : GateAt (w.alloc (.cells #[ca, .string kb, .int .i64 per, na] t)) w.heap.size ca kb per na := ⟨by simp, by simp, by simp, by simp⟩
theorem GateAt.later {w w' : World} {B : Nat} {ca : Value} {kb : ByteArray} {per : Int} {na : Value} (h : GateAt w B ca kb per na) (hb : Below w.heap.size w w') : GateAt w' B ca kb per na := ⟨cell_later hb h.c0, cell_later hb h.c1, cell_later hb h.c2, cell_later hb h.c3⟩
theorem bytes_fifo : ByteArray.toList ⟨#[102, 105, 102, 111]⟩ = [102, 105, 102, 111] := by kernel_rfl
theorem bytes_rank : ByteArray.toList ⟨#[114, 97, 110, 107]⟩ = [114, 97, 110, 107] := by kernel_rfl
theorem bytes_due : ByteArray.toList ⟨#[100, 117, 101]⟩ = [100, 117, 101] := by kernel_rfl
theorem bytes_round : ByteArray.toList ⟨#[114, 111, 117, 110, 100]⟩ = [114, 111, 117, 110, 100] := by kernel_rfl
theorem bytes_fair : ByteArray.toList ⟨#[102, 97, 105, 114]⟩ = [102, 97, 105, 114] := by kernel_rfl
structure KindTests (s : ByteArray) (b1 b2 b3 b4 b5 : Bool) : Prop where
 t1 : (s.toList == [102, 105, 102, 111]) = b1
 t2 : (s.toList == [114, 97, 110, 107]) = b2
 t3 : (s.toList == [100, 117, 101]) = b3
 t4 : (s.toList == [114, 111, 117, 110, 100]) = b4
 t5 : (s.toList == [102, 97, 105, 114]) = b5
 u1 : (s.toList == ByteArray.toList ⟨#[102, 105, 102, 111]⟩) = b1
 u2 : (s.toList == ByteArray.toList ⟨#[114, 97, 110, 107]⟩) = b2
 u3 : (s.toList == ByteArray.toList ⟨#[100, 117, 101]⟩) = b3
 u4 : (s.toList == ByteArray.toList ⟨#[114, 111, 117, 110, 100]⟩) = b4
 u5 : (s.toList == ByteArray.toList ⟨#[102, 97, 105, 114]⟩) = b5
theorem kindTests (s : ByteArray) : KindTests s (decide (kindOf s.toList = 1)) (decide (kindOf s.toList = 2)) (decide (kindOf s.toList = 3)) (decide (kindOf s.toList = 4)) (decide (kindOf s.toList = 5)) := by
 have key : ∀ bs : List UInt8, (bs == [102, 105, 102, 111]) = decide (kindOf bs = 1) ∧ (bs == [114, 97, 110, 107]) = decide (kindOf bs = 2) ∧ (bs == [100, 117, 101]) = decide (kindOf bs = 3) ∧ (bs == [114, 111, 117, 110, 100]) = decide (kindOf bs = 4) ∧ (bs == [102, 97, 105, 114]) = decide (kindOf bs = 5) := by
  intro bs
  by_cases h1 : bs = [102, 105, 102, 111]
  · subst h1; decide
  ·
   by_cases h2 : bs = [114, 97, 110, 107]
   · subst h2; decide
   ·
    by_cases h3 : bs = [100, 117, 101]
    · subst h3; decide
    ·
     by_cases h4 : bs = [114, 111, 117, 110, 100]
     · subst h4; decide
     ·
      by_cases h5 : bs = [102, 97, 105, 114]
      · subst h5; decide
      ·
       have h0 : kindOf bs = 0 := by simp [kindOf, h1, h2, h3, h4, h5]
       rw [h0]
       refine ⟨?_, ?_, ?_, ?_, ?_⟩
       · simpa using h1
       · simpa using h2
       · simpa using h3
       · simpa using h4
       · simpa using h5
 obtain ⟨k1, k2, k3, k4, k5⟩ := key s.toList
 exact ⟨k1, k2, k3, k4, k5, by rw [bytes_fifo]; exact k1, by rw [bytes_rank]; exact k2, by rw [bytes_due]; exact k3, by rw [bytes_round]; exact k4, by rw [bytes_fair]; exact k5⟩
end Go.Proofs.YtibhkijaafdkoaaGreatDoor
