/- Own facts, put together: no statement of its own. -/
import Derived.Test.YtibhkijaafdkoaaGreatDoorA16
import Derived.Test.YtibhkijaafdkoaaGreatDoorA08
import Derived.Test.YtibhkijaafdkoaaGreatDoorA07
import Derived.Test.YtibhkijaafdkoaaGreatDoorA01
import Derived.Test.YtibhkijaafdkoaaGreatDoorA06
import Derived.Test.YtibhkijaafdkoaaGreatDoorA09
namespace Go.Proofs.YtibhkijaafdkoaaGreatDoor
open Go.RowKit
def cellsL (ls : List (Int × Int)) : List Value := ls.flatMap fun p => [.int .i64 p.1, .int .i64 p.2]
theorem cellsL_cons (p : Int × Int) (r : List (Int × Int)) : cellsL (p :: r) = .int .i64 p.1 :: .int .i64 p.2 :: cellsL r := rfl
theorem cellsL_length (ls : List (Int × Int)) : (cellsL ls).length = ls.length * 2 := by
 induction ls with
 | nil => rfl
 | cons p r ih => rw [cellsL_cons]; simp [ih]; omega
theorem cellsL_get (ls : List (Int × Int)) : ∀ i x y, ls[i]? = some (x, y) → (cellsL ls)[i * 2]? = some (.int .i64 x) ∧ (cellsL ls)[i * 2 + 1]? = some (.int .i64 y) := by
 induction ls with
 | nil => intro i x y h; simp at h
 | cons p r ih =>
  intro i x y h
  rw [cellsL_cons]
  cases i with
  | zero => simp at h; subst h; exact ⟨rfl, rfl⟩
  | succ i =>
   have := ih i x y (by simpa using h)
   rw [show (i + 1) * 2 = i * 2 + 1 + 1 by omega]
   exact ⟨by simpa using this.1, by simpa using this.2⟩
theorem cellsL_at (ls : List (Int × Int)) : ∀ j u, (cellsL ls)[j]? = some u → ∃ i x y, ls[i]? = some (x, y) ∧ ((j = i * 2 ∧ u = .int .i64 x) ∨ (j = i * 2 + 1 ∧ u = .int .i64 y)) := by
 induction ls with
 | nil => intro j u h; simp [cellsL] at h
 | cons p r ih =>
  intro j u h
  rw [cellsL_cons] at h
  match j, h with
  | 0, h => exact ⟨0, p.1, p.2, rfl, .inl ⟨rfl, by simpa using h.symm⟩⟩
  | 1, h => exact ⟨0, p.1, p.2, rfl, .inr ⟨rfl, by simpa using h.symm⟩⟩
  | j + 2, h =>
   obtain ⟨i, x, y, hi, hj⟩ := ih j u (by simpa using h)
   exact ⟨i + 1, x, y, by simpa using hi, by rcases hj with ⟨e, f⟩ | ⟨e, f⟩; exact .inl ⟨by omega, f⟩; exact .inr ⟨by omega, f⟩⟩
theorem cellsL_one (ls : List (Int × Int)) : ∀ u ∈ cellsL ls, u.oneCell' = true := by
 intro u hu
 obtain ⟨j, hj⟩ := List.mem_iff_getElem?.1 hu
 obtain ⟨i, x, y, -, h⟩ := cellsL_at ls j u hj
 rcases h with ⟨-, rfl⟩ | ⟨-, rfl⟩ <;> rfl
def OwnL (w : World) (B : Nat) (v : Value) (ls : List (Int × Int)) : Prop := w.ownsRow B 133 2 v ls.length (cellsL ls)
theorem OwnL.open {w : World} {B : Nat} {v : Value} {ls : List (Int × Int)} (h : OwnL w B v ls) :
  ∃ a cap, v = .slice a ls.length cap ∧ ls.length ≤ cap ∧ cap ≤ maxLen ∧ Lies w a ls := by
 obtain ⟨hlen, ⟨rfl, h0⟩ | ⟨g, cap, cur, rfl, hB, hg, hn, hm, hc, ht⟩⟩ := h
 · refine ⟨none, 0, by rw [h0], by omega, by simp [maxLen], .inl (List.length_eq_zero_iff.1 h0)⟩
 ·
  refine ⟨_, cap, rfl, hn, hm, .inr ⟨g, 0, rfl, ?_, fun i x y hi => ?_⟩⟩
  ·
   rcases Nat.lt_or_ge g w.heap.size with h | h
   · exact h
   · simp [Array.getElem?_eq_none h] at hg
  ·
   have hh : w.ownsRow B 133 2 (.slice (some ⟨g, 0, none⟩) ls.length cap) ls.length (cellsL ls) := ⟨hlen, .inr ⟨g, cap, cur, rfl, hB, hg, hn, hm, hc, ht⟩⟩
   have hil : i < ls.length := by
    rcases Nat.lt_or_ge i ls.length with h | h
    · exact h
    · simp [List.getElem?_eq_none h] at hi
   have := cellsL_get ls i x y hi
   rw [hh.cellAt _ (by omega), hh.cellAt _ (by omega), Nat.zero_add]
   exact this
theorem lies_news {w : World} {ad : Addr} {ls : List (Int × Int)} (h : Lies w (some ad) ls) : ∀ j u, (cellsL ls)[j]? = some u → w.cell? (ad.add j) = some u := by
 intro j u hj
 obtain ⟨i, x, y, hi, hc⟩ := cellsL_at ls j u hj
 rcases h with rfl | ⟨b, off, e, -, h⟩
 · simp at hi
 ·
  cases e
  have := h i x y hi
  rw [Addr.add_lit]
  rcases hc with ⟨rfl, rfl⟩ | ⟨rfl, rfl⟩
  · exact this.1
  · exact this.2
theorem Tryz.infoLine : (Tryz.prog.info? 133).map (fun i => (i.zero, i.size, i.bytes)) = some (some (.agg #[.int .i64 0, .int .i64 0]), 2, 16) := by kernel_rfl
set_option maxHeartbeats 400000 in
theorem ownLines_any (a : Option Addr) (cap : Nat) (ls : List (Int × Int)) (w : World) (hl : Lies w a ls) (hn : ls.length ≤ 1000) (ha : a = none → ls = [] ∧ cap = 0) :
  Calls Tryz.prog 35 #[.slice a ls.length cap] w fun e w' => ∃ v, e = .returned v ∧ OwnL w' w.heap.size v ls ∧ Below w.heap.size w w' := by
 obtain ⟨i0, hi, hz0, hz1, hz2⟩ := info_parts Tryz.infoLine
 cases a with
 | none =>
  obtain ⟨rfl, rfl⟩ := ha rfl
  show Calls Tryz.prog 35 #[.slice none 0 0] w _
  go_enter Tryz.func35, Tryz.ntmps35
  go_wp2
  go_ret
  exact ⟨_, rfl, World.ownsRow_nil _ _ _ _, Below.refl _ _⟩
 | some ad =>
  have hnews := lies_news hl
  have hlen := cellsL_length ls
  have hone := cellsL_one ls
  have H1 : Hid (∀ j u, (cellsL ls)[j]? = some u → w.cell? (ad.add j) = some u) := hnews
  have H2 : Hid ((cellsL ls).length = ls.length * 2) := hlen
  have H3 : Hid (∀ u ∈ cellsL ls, u.oneCell' = true) := hone
  have HL : Hid (Lies w (some ad) ls) := hl
  clear hnews hlen hone hl ha
  go_enter Tryz.func35, Tryz.ntmps35
  go_wp2_with (at_builtin; refine wpList_append_own _ rfl _ _ 38 rfl w.heap.size 133 i0 (.agg #[.int .i64 0, .int .i64 0]) 2 16 Tryz.underlying38 hi hz0 hz1 hz2 rfl (by decide) (.slice none 0 0) 0 [] rfl (World.ownsRow_nil _ _ _ _) ad ls.length cap (cellsL ls) rfl H2.out H1.out H3.out (by unfold maxLen; omega) (by omega) (Nat.le_refl _) ?_; intro v' w3 hown' hgrow3 hnil3)
  go_ret
  refine ⟨_, rfl, by simpa [OwnL] using hown', ?_⟩
  exact (Below.refl _ _).grown hgrow3 (Nat.le_refl _) (fun k hk => by cases hk)
end Go.Proofs.YtibhkijaafdkoaaGreatDoor

namespace Go.Proofs.YtibhkijaafdkoaaGreatDoor
open Go.RowKit
theorem firstBad (ls : List (Int × Int)) : okAll ls ∨ ∃ j, j < ls.length ∧ (∀ i x y, i < j → ls[i]? = some (x, y) → okLine x y = true) ∧ ∀ x y, ls[j]? = some (x, y) → okLine x y = false := by
 induction ls with
 | nil => exact .inl fun p hp => by cases hp
 | cons q r ih =>
  cases hq : okLine q.1 q.2 with
  | false => exact .inr ⟨0, by simp, fun i x y hi => by omega, fun x y h => by simp at h; subst h; exact hq⟩
  | true =>
   rcases ih with h | ⟨j, hj, h1, h2⟩
   ·
    refine .inl fun p hp => ?_
    rcases List.mem_cons.1 hp with rfl | hp
    · exact hq
    · exact h p hp
   ·
    refine .inr ⟨j + 1, by simpa using hj, fun i x y hi he => ?_, fun x y he => h2 x y (by simpa using he)⟩
    cases i with
    | zero => simp at he; subst he; exact hq
    | succ i => exact h1 i x y (by omega) (by simpa using he)
structure Errs2 (w : World) (aB aS : Addr) : Prop where
 bound : w.cell? ⟨3, 0, none⟩ = some (.iface 271 (.pointer (some aB)))
 shape : w.cell? ⟨4, 0, none⟩ = some (.iface 271 (.pointer (some aS)))
theorem Errs2.below {w w' : World} {aB aS : Addr} (h : Errs2 w aB aS) (hb : Below w.heap.size w w') : Errs2 w' aB aS :=
 ⟨cell_later hb h.bound, cell_later hb h.shape⟩
end Go.Proofs.YtibhkijaafdkoaaGreatDoor

namespace Go.Proofs.YtibhkijaafdkoaaGreatDoor
open Go.RowKit
def FaultIs (ls : List (Int × Int)) (c a : Int) : Prop :=
 ((ls.length < 1 ∨ 6 < ls.length) ∧ c = 3 ∧ a = -1) ∨
 (1 ≤ ls.length ∧ ls.length ≤ 6 ∧ ∃ j : Nat, j < ls.length ∧ (∀ i x y, i < j → ls[i]? = some (x, y) → okLine x y = true) ∧ (∀ x y, ls[j]? = some (x, y) → okLine x y = false) ∧ c = 2 ∧ a = j) ∨
 (okCurve ls ∧ c = 0 ∧ a = -1)
theorem fault_is (ls : List (Int × Int)) : ∃ c a, FaultIs ls c a := by
 by_cases hs : ls.length < 1 ∨ 6 < ls.length
 · exact ⟨3, -1, .inl ⟨hs, rfl, rfl⟩⟩
 ·
  rcases firstBad ls with h | ⟨j, hj, h1, h2⟩
  · exact ⟨0, -1, .inr (.inr ⟨⟨by omega, by omega, h⟩, rfl, rfl⟩)⟩
  · exact ⟨2, j, .inr (.inl ⟨by omega, by omega, j, hj, h1, h2, rfl, rfl⟩)⟩
theorem FaultIs.ok {ls : List (Int × Int)} {a : Int} (h : FaultIs ls 0 a) : okCurve ls ∧ a = -1 := by
 rcases h with ⟨_, h, _⟩ | ⟨_, _, _, _, _, _, h, _⟩ | ⟨h, _, h'⟩
 · omega
 · omega
 · exact ⟨h, h'⟩
theorem FaultIs.num {ls : List (Int × Int)} {c a : Int} (h : FaultIs ls c a) : c = 0 ∨ c = 2 ∨ c = 3 := by
 rcases h with ⟨_, h, _⟩ | ⟨_, _, _, _, _, _, h, _⟩ | ⟨_, h, _⟩ <;> omega
end Go.Proofs.YtibhkijaafdkoaaGreatDoor

namespace Go.Proofs.YtibhkijaafdkoaaGreatDoor
def kindOf (bs : List UInt8) : Nat := if bs = [102, 105, 102, 111] then 1 else if bs = [114, 97, 110, 107] then 2 else if bs = [100, 117, 101] then 3 else if bs = [114, 111, 117, 110, 100] then 4 else if bs = [102, 97, 105, 114] then 5 else 0
theorem kindOf_le (bs : List UInt8) : kindOf bs ≤ 5 := by
 unfold kindOf
 repeat' split
 all_goals omega
def KindFault (k : Nat) (ns : List Int) (c : Nat) : Prop :=
 (k = 1 ∧ ((c = 3 ∧ ns ≠ []) ∨ (c = 0 ∧ ns = []))) ∨ (k = 2 ∧ NumsFault 0 100 ns c) ∨ (k = 3 ∧ NumsFault 0 1099511627776 ns c) ∨ (k = 4 ∧ NumsFault 1 3000 ns c) ∨ (k = 5 ∧ WtsFault ns c)
theorem kindFault_is {k : Nat} (h1 : 1 ≤ k) (h5 : k ≤ 5) (ns : List Int) : ∃ c, KindFault k ns c := by
 rcases (show k = 1 ∨ k = 2 ∨ k = 3 ∨ k = 4 ∨ k = 5 by omega) with rfl | rfl | rfl | rfl | rfl
 ·
  by_cases h : ns = []
  · exact ⟨0, .inl ⟨rfl, .inr ⟨rfl, h⟩⟩⟩
  · exact ⟨3, .inl ⟨rfl, .inl ⟨rfl, h⟩⟩⟩
 ·
  obtain ⟨c, h⟩ := numsFault_is 0 100 ns
  exact ⟨c, .inr (.inl ⟨rfl, h⟩)⟩
 ·
  obtain ⟨c, h⟩ := numsFault_is 0 1099511627776 ns
  exact ⟨c, .inr (.inr (.inl ⟨rfl, h⟩))⟩
 ·
  obtain ⟨c, h⟩ := numsFault_is 1 3000 ns
  exact ⟨c, .inr (.inr (.inr (.inl ⟨rfl, h⟩)))⟩
 ·
  obtain ⟨c, h⟩ := wtsFault_is ns
  exact ⟨c, .inr (.inr (.inr (.inr ⟨rfl, h⟩)))⟩
theorem KindFault.few {k : Nat} {ns : List Int} {c : Nat} (h : KindFault k ns c) : c = 0 ∨ c = 2 ∨ c = 3 := by
 rcases h with ⟨-, ⟨h, -⟩ | ⟨h, -⟩⟩ | ⟨-, ⟨h, -⟩ | ⟨h, -⟩ | ⟨h, -⟩⟩ | ⟨-, ⟨h, -⟩ | ⟨h, -⟩ | ⟨h, -⟩⟩ | ⟨-, ⟨h, -⟩ | ⟨h, -⟩ | ⟨h, -⟩⟩ | ⟨-, ⟨h, -⟩ | ⟨h, -⟩ | ⟨h, -⟩⟩ <;> omega
def curveFl (cs : List (List (Int × Int))) (f : Nat) : List (Int × Int) := cs.getD f []
theorem curveFl_get {cs : List (List (Int × Int))} {f : Nat} {ls : List (Int × Int)} (h : cs[f]? = some ls) : curveFl cs f = ls := by simp [curveFl, List.getD, h]
def CurvesTo (cs : List (List (Int × Int))) (k : Nat) : Prop := ∀ (i : Nat) ls, i < k → cs[i]? = some ls → ls = [] ∨ okCurve ls
def CurveBad (cs : List (List (Int × Int))) (i : Nat) (c : Int) : Prop := ∃ ls p, cs[i]? = some ls ∧ ls ≠ [] ∧ FaultIs ls c p ∧ 0 < c
theorem curves_split (cs : List (List (Int × Int))) : ∀ k, k ≤ cs.length → CurvesTo cs k ∨ ∃ i c, i < k ∧ CurveBad cs i c ∧ CurvesTo cs i
 | 0, _ => .inl fun i ls h => absurd h (Nat.not_lt_zero _)
 | k + 1, hk => by
  rcases curves_split cs k (by omega) with h | ⟨i, c, h1, h2, h3⟩
  ·
   have e : cs[k]? = some cs[k] := List.getElem?_eq_getElem (by omega)
   by_cases h0 : cs[k] = []
   ·
    refine .inl fun i ls hi hl => ?_
    rcases Nat.lt_or_ge i k with h' | h'
    · exact h i ls h' hl
    ·
     obtain rfl : i = k := by omega
     rw [e] at hl
     obtain rfl := Option.some.inj hl
     exact .inl h0
   ·
    obtain ⟨c, p, hf⟩ := fault_is cs[k]
    by_cases hc : c = 0
    ·
     subst hc
     refine .inl fun i ls hi hl => ?_
     rcases Nat.lt_or_ge i k with h' | h'
     · exact h i ls h' hl
     ·
      obtain rfl : i = k := by omega
      rw [e] at hl
      obtain rfl := Option.some.inj hl
      exact .inr hf.ok.1
    ·
     have := hf.num
     exact .inr ⟨k, c, by omega, ⟨_, p, e, h0, hf, by omega⟩, h⟩
  · exact .inr ⟨i, c, by omega, h2, h3⟩
def GateIs (cs : List (List (Int × Int))) (k : Nat) (per : Int) (ns : List Int) (c p : Int) : Prop :=
 (cs.length ≠ 8 ∧ c = 3 ∧ p = -1) ∨ (cs.length = 8 ∧ ∃ i : Nat, CurveBad cs i c ∧ p = i ∧ CurvesTo cs i) ∨
  (cs.length = 8 ∧ CurvesTo cs 8 ∧ p = -1 ∧ ((k = 0 ∧ c = 9) ∨ (1 ≤ k ∧ k ≤ 5 ∧ ((¬ (1 ≤ per ∧ per ≤ 1000) ∧ c = 2) ∨ (1 ≤ per ∧ per ≤ 1000 ∧ ∃ d : Nat, KindFault k ns d ∧ c = d)))))
structure GateOk (cs : List (List (Int × Int))) (k : Nat) (per : Int) (ns : List Int) : Prop where
 len : cs.length = 8
 curves : CurvesTo cs 8
 kind : 1 ≤ k ∧ k ≤ 5
 per : 1 ≤ per ∧ per ≤ 1000
 nums : KindFault k ns 0
theorem gateIs_is (cs : List (List (Int × Int))) {k : Nat} (hk : k ≤ 5) (per : Int) (ns : List Int) : ∃ c p, GateIs cs k per ns c p := by
 by_cases hl : cs.length = 8
 ·
  rcases curves_split cs 8 (by omega) with h | ⟨i, c, h1, h2, h3⟩
  ·
   by_cases h0 : k = 0
   · exact ⟨9, -1, .inr (.inr ⟨hl, h, rfl, .inl ⟨h0, rfl⟩⟩)⟩
   ·
    by_cases hp : 1 ≤ per ∧ per ≤ 1000
    ·
     obtain ⟨d, hd⟩ := kindFault_is (k := k) (by omega) hk ns
     exact ⟨d, -1, .inr (.inr ⟨hl, h, rfl, .inr ⟨by omega, hk, .inr ⟨hp.1, hp.2, d, hd, rfl⟩⟩⟩)⟩
    · exact ⟨2, -1, .inr (.inr ⟨hl, h, rfl, .inr ⟨by omega, hk, .inl ⟨hp, rfl⟩⟩⟩)⟩
  · exact ⟨c, i, .inr (.inl ⟨hl, i, h2, rfl, h3⟩)⟩
 · exact ⟨3, -1, .inl ⟨hl, rfl, rfl⟩⟩
theorem GateIs.num {cs : List (List (Int × Int))} {k : Nat} {per : Int} {ns : List Int} {c p : Int} (h : GateIs cs k per ns c p) : (c = 0 ∧ p = -1 ∧ GateOk cs k per ns) ∨ (0 < c ∧ c ≤ 9) := by
 rcases h with ⟨-, h, -⟩ | ⟨-, i, ⟨ls, q, -, -, hf, h⟩, -⟩ | ⟨h1, h2, hp, ⟨-, h⟩ | ⟨k1, k5, ⟨-, h⟩ | ⟨p1, p2, d, hd, h⟩⟩⟩
 · exact .inr (by omega)
 ·
  have := hf.num
  exact .inr (by omega)
 · exact .inr (by omega)
 · exact .inr (by omega)
 ·
  rcases hd.few with rfl | rfl | rfl
  · exact .inl ⟨by omega, hp, h1, h2, ⟨k1, k5⟩, ⟨p1, p2⟩, hd⟩
  · exact .inr (by omega)
  · exact .inr (by omega)
def LinkSends (k : Nat) (per : Int) (ps : List Pk) (ns : List Int) (l : List Sn) : Prop :=
 (k = 1 ∧ l = lindAll per ps ps.length) ∨ (k = 2 ∧ Sched per ps (rankKeys ps ns) l ∧ l.length = ps.length) ∨ (k = 3 ∧ Sched per ps (dueKeys ps ns) l ∧ l.length = ps.length) ∨ (k = 4 ∧ RoundSent per ps ns l) ∨ (k = 5 ∧ ∃ ts, FairSent per ps ns l ts)
theorem wtsOk_all {ns : List Int} (h : WtsAll ns) : WtsOk ns := fun f => by
 cases hx : ns[f]? with
 | none => simp [quOf, List.getD, hx]
 | some x =>
  rw [quOf_get hx]
  have := h.each f x hx
  exact ⟨this.1, Int.ediv_mul_cancel (Int.dvd_of_emod_eq_zero this.2)⟩
theorem NumsFault.ok {lo hi : Int} {ns : List Int} (h : NumsFault lo hi ns 0) : NumsOk lo hi ns := by
 rcases h with ⟨h, -⟩ | ⟨h, -⟩ | ⟨-, h⟩
 · omega
 · omega
 · exact h
theorem WtsFault.ok {ns : List Int} (h : WtsFault ns 0) : WtsAll ns := by
 rcases h with ⟨h, -⟩ | ⟨h, -⟩ | ⟨-, h⟩
 · omega
 · omega
 · exact h
theorem LinkSends.may {k : Nat} {per : Int} {ps : List Pk} {ns : List Int} {l : List Sn} (h : LinkSends k per ps ns l) (hn : KindFault k ns 0) (ho : OkPks ps) (hper : 1 ≤ per) : Conv per ps l ∧ Turns ps l ∧ l.length = ps.length := by
 rcases h with ⟨rfl, rfl⟩ | ⟨rfl, h1, h2⟩ | ⟨rfl, h1, h2⟩ | ⟨rfl, h⟩ | ⟨rfl, ts, h⟩
 · exact ⟨(lind_may ho).1, (lind_may ho).2, by simp [lindAll]⟩
 · exact ⟨h1.conv, rank_turns ho h1, h2⟩
 · exact ⟨h1.conv, due_turns ho h1, h2⟩
 ·
  rcases hn with ⟨e, -⟩ | ⟨e, -⟩ | ⟨e, -⟩ | ⟨-, hn⟩ | ⟨e, -⟩
  case inr.inr.inr.inl => exact h.may ho (fun f => (quOf_in (fun i x hx => hn.ok.each i x hx) (by decide) f).1) hper
  all_goals omega
 ·
  rcases hn with ⟨e, -⟩ | ⟨e, -⟩ | ⟨e, -⟩ | ⟨e, -⟩ | ⟨-, hn⟩
  case inr.inr.inr.inr => exact h.may (wtsOk_all hn.ok) ho hper
  all_goals omega
def NeverAt (cs : Nat → List (Int × Int)) (ps : List Pk) (i : Nat) : Prop := ∃ p s, ps[i]? = some p ∧ cs (flowOf ps i) ≠ [] ∧ shape (cs (flowOf ps i)) ((ownTo ps (flowOf ps i) ps.length).take (rankIn ps i)) = some s ∧ shStep s p = none
theorem shape_first (ls : List (Int × Int)) : ∀ own : List Pk, shape ls own = none → ∃ (j : Nat) (p : Pk) (s : Sh), own[j]? = some p ∧ shape ls (own.take j) = some s ∧ shStep s p = none := by
 refine snoc_ind (fun h => by cases h) (fun own p ih h => ?_)
 rw [shape_snoc] at h
 cases hs : shape ls own with
 | none =>
  obtain ⟨j, q, s, h1, h2, h3⟩ := ih hs
  have hj : j < own.length := lt_of_get h1
  exact ⟨j, q, s, by rw [List.getElem?_append_left hj]; exact h1, by rw [List.take_append_of_le_length (by omega)]; exact h2, h3⟩
 | some s =>
  rw [hs] at h
  exact ⟨own.length, p, s, by simp, by simpa using hs, h⟩
section
variable {cs : Nat → List (Int × Int)} {ps : List Pk}
theorem shaped_all (ho : OkPks ps) (hn : ∀ i, ¬ NeverAt cs ps i) (f : Nat) : ∃ out, shapedFl cs ps f = some out := by
 unfold shapedFl
 by_cases he : cs f = []
 · exact ⟨_, if_pos he⟩
 ·
  rw [if_neg he]
  cases hs : shape (cs f) (ownTo ps f ps.length) with
  | some s => exact ⟨_, rfl⟩
  | none =>
   obtain ⟨j, p, s, h1, h2, h3⟩ := shape_first _ _ hs
   have hown := own_num ho f ps.length (Nat.le_refl _)
   have hj : j < (numTo ps f ps.length).length := by rw [← hown.1]; exact lt_of_get h1
   have e : (numTo ps f ps.length)[j]? = some (numTo ps f ps.length)[j] := List.getElem?_eq_getElem hj
   obtain ⟨g1, g2, g3, g4⟩ := hown.2 j _ e
   refine absurd ⟨p, s, by rw [← g4]; exact h1, by rw [g2]; exact he, by rw [g2, g3]; exact h2, h3⟩ (hn (numTo ps f ps.length)[j])
def GateRun (cs : Nat → List (Int × Int)) (k : Nat) (per : Int) (ns : List Int) (ps qs : List Pk) (l : List Sn) : Prop := ∃ at_ L, Shaped cs ps at_ ∧ IsOrder at_ ps.length L ∧ qs = gatePks ps at_ L ∧ LinkSends k per qs ns l
theorem shaped_is (ho : OkPks ps) (hn : ∀ i, ¬ NeverAt cs ps i) : ∃ at_, Shaped cs ps at_ := by
 obtain ⟨out, hout⟩ := Classical.axiomOfChoice fun f => shaped_all (cs := cs) ho hn f
 refine ⟨fun i => tickOf (out (flowOf ps i)) (rankIn ps i), fun f hf => ⟨out f, hout f, fun r i hi => ?_⟩⟩
 obtain ⟨-, g2, g3, -⟩ := (own_num ho f ps.length (Nat.le_refl _)).2 r i hi
 show tickOf (out (flowOf ps i)) (rankIn ps i) = _
 rw [g2, g3]
theorem IsOrder.turn {at1 at2 : Nat → Int} {n : Nat} {L : List Nat} (h : IsOrder at1 n L) (he : ∀ i, i < n → at1 i = at2 i) : IsOrder at2 n L := by
 refine ⟨?_, h.mem⟩
 refine List.Pairwise.imp_of_mem (fun {a b} ha hb hab => ?_) h.sorted
 have e1 := he a ((h.mem a).1 ha)
 have e2 := he b ((h.mem b).1 hb)
 unfold Ahead at hab ⊢
 omega
theorem GateRun.ok {k : Nat} {per : Int} {ns : List Int} {qs : List Pk} {l : List Sn} (ho : OkPks ps) (hc : CurvesOk cs) (h : GateRun cs k per ns ps qs l) : OkPks qs ∧ qs.length = ps.length ∧ LinkSends k per qs ns l := by
 obtain ⟨at1, L, a1, a2, rfl, a3⟩ := h
 exact ⟨a1.ok ho hc a2, by rw [gatePks, List.length_map]; exact a2.length, a3⟩
end
theorem least_of {P : Nat → Prop} (h : ∃ i, P i) : ∃ i, P i ∧ ∀ j, j < i → ¬ P j := by
 obtain ⟨n, hn⟩ := h
 induction n using Nat.strongRecOn with
 | _ n ih =>
  by_cases hl : ∃ m, m < n ∧ P m
  ·
   obtain ⟨m, h1, h2⟩ := hl
   exact ih m h1 h2
  · exact ⟨n, hn, fun j hj h' => hl ⟨j, hj, h'⟩⟩
def RunIs (cs : List (List (Int × Int))) (k : Nat) (per : Int) (ns : List Int) (ps : List Pk) (c p : Int) : Prop :=
 (GateIs cs k per ns c p ∧ 0 < c) ∨ (GateOk cs k per ns ∧ PksFault ps c p ∧ 0 < c) ∨ (GateOk cs k per ns ∧ OkPks ps ∧ ∃ i : Nat, NeverAt (curveFl cs) ps i ∧ (∀ j, j < i → ¬ NeverAt (curveFl cs) ps j) ∧ c = 4 ∧ p = i) ∨ (GateOk cs k per ns ∧ OkPks ps ∧ (∀ i, ¬ NeverAt (curveFl cs) ps i) ∧ c = 0 ∧ p = -1)
theorem runIs_is (cs : List (List (Int × Int))) {k : Nat} (hk : k ≤ 5) (per : Int) (ns : List Int) (ps : List Pk) : ∃ c p, RunIs cs k per ns ps c p := by
 obtain ⟨c, p, hg⟩ := gateIs_is cs hk per ns
 rcases hg.num with ⟨rfl, rfl, hok⟩ | hc
 ·
  obtain ⟨c, p, hp⟩ := pksFault_is ps
  rcases hp.num with ⟨rfl, rfl, ho⟩ | hc
  ·
   by_cases hn : ∃ i, NeverAt (curveFl cs) ps i
   ·
    obtain ⟨i, h1, h2⟩ := least_of hn
    exact ⟨4, i, .inr (.inr (.inl ⟨hok, ho, i, h1, h2, rfl, rfl⟩))⟩
   · exact ⟨0, -1, .inr (.inr (.inr ⟨hok, ho, fun i h => hn ⟨i, h⟩, rfl, rfl⟩))⟩
  · exact ⟨c, p, .inr (.inl ⟨hok, hp, hc⟩)⟩
 · exact ⟨c, p, .inl ⟨hg, hc.1⟩⟩
end Go.Proofs.YtibhkijaafdkoaaGreatDoor
