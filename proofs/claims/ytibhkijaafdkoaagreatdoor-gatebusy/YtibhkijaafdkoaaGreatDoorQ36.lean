/- Own facts, put together: no statement of its own. -/
import Derived.Deep.AppendLies
import Derived.Test.YtibhkijaafdkoaaGreatDoorQ15
import Derived.Test.YtibhkijaafdkoaaGreatDoorQ35
namespace Go.Proofs.YtibhkijaafdkoaaGreatDoor
open Go.RowKit
structure Slim (cs : List (List (Int × Int))) (ns : List Int) : Prop where
 curves : cs.length ≤ 20
 nums : ns.length ≤ 30
 each : ∀ (i : Nat) ls, cs[i]? = some ls → ls.length ≤ 20
def WideEnd (cs : List (List (Int × Int))) (ns : List Int) (w : World) (e : Ending) (w' : World) : Prop := (e = .returned (.bool true) ∨ (e = .returned (.bool false) ∧ Slim cs ns)) ∧ Below w.heap.size w w'
set_option maxRecDepth 100000 in
set_option maxHeartbeats 4000000 in
theorem wide_any (ca : Option Addr) (ccap : Nat) (cs : List (List (Int × Int))) (kb : ByteArray) (per : Int) (na : Option Addr) (ncap : Nat) (ns : List Int) (w : World) (hc : LiesC w ca cs) (hcc : cs.length ≤ ccap) (hcm : ccap ≤ maxLen) (hnc : ns.length ≤ ncap) (hnm : ncap ≤ maxLen) :
  Calls Tryz.prog 10 #[.agg #[.slice ca cs.length ccap, .string kb, .int .i64 per, .slice na ns.length ncap]] w fun e w' => WideEnd cs ns w e w' := by
 have HC : Hid (LiesC w ca cs) := hc
 have hm1 : cs.length ≤ 9223372036854775807 := Nat.le_trans hcc (Nat.le_trans hcm (by unfold maxLen; omega))
 have hr1 : ns.length ≤ 9223372036854775807 := Nat.le_trans hnc (Nat.le_trans hnm (by unfold maxLen; omega))
 obtain ⟨m, hm⟩ : ∃ m, cs.length = m := ⟨_, rfl⟩
 obtain ⟨r, hr⟩ : ∃ r, ns.length = r := ⟨_, rfl⟩
 have HM : Hid (cs.length = m ∧ ns.length = r) := ⟨hm, hr⟩
 rw [hm] at hm1 ⊢
 rw [hr] at hr1 ⊢
 have hb1 : Below w.heap.size w (w.alloc (.cells #[.slice ca m ccap, .string kb, .int .i64 per, .slice na r ncap] 25)) := (Below.refl _ _).alloc (Nat.le_refl _) _
 have hga := gateAt_new w (.slice ca m ccap) kb per (.slice na r ncap) 25
 obtain ⟨V, hV⟩ : ∃ V, w.alloc (.cells #[.slice ca m ccap, .string kb, .int .i64 per, .slice na r ncap] 25) = V := ⟨_, rfl⟩
 rw [hV] at hb1 hga
 have HV : Hid (Below w.heap.size w V ∧ GateAt V w.heap.size (.slice ca m ccap) kb per (.slice na r ncap)) := ⟨hb1, hga⟩
 obtain ⟨x0, x1, x2, x3⟩ := hga
 clear hc hcc hcm hnc hnm hm hr hb1
 by_cases h1 : 20 < m
 ·
  go_enter Tryz.func10, Tryz.ntmps10
  go_wp2_with fail
  go_ret
  exact ⟨.inl rfl, HV.out.1⟩
 ·
  by_cases h2 : 30 < r
  ·
   go_enter Tryz.func10, Tryz.ntmps10
   go_wp2_with fail
   go_ret
   exact ⟨.inl rfl, HV.out.1⟩
  ·
   by_cases h3 : 60 < kb.size
   ·
    go_enter Tryz.func10, Tryz.ntmps10
    go_wp2_with fail
    go_ret
    exact ⟨.inl rfl, HV.out.1⟩
   ·
    go_enter Tryz.func10, Tryz.ntmps10
    go_wp2_with fail
    go_loopg [3] m (fun gk iv wr => ∃ i : Nat, gk + i = m ∧ iv = .int .i64 i ∧ (∀ (j : Nat) ls, j < i → cs[j]? = some ls → ls.length ≤ 20) ∧ Below V.heap.size V wr)
    case atStart => exact ⟨0, by omega, rfl, fun j ls h => by omega, Below.refl _ _⟩
    case round =>
     obtain ⟨i, hi, rfl, hall, hb⟩ := hrel
     have HR : Hid ((∀ (j : Nat) ls, j < i → cs[j]? = some ls → ls.length ≤ 20) ∧ Below V.heap.size V wr ∧ Below w.heap.size w wr) := ⟨hall, hb, HV.out.1.trans (hb.mono HV.out.1.size)⟩
     have y0 := cell_later hb x0
     clear hall hb
     by_cases him : i < m
     ·
      obtain ⟨ls, hls, -⟩ := get_some cs i (by rw [HM.out.1]; exact him)
      obtain ⟨cb, co, rfl, -, hcc⟩ := HC.out.place (by rw [HM.out.1]; omega)
      obtain ⟨a', cap, cj, -, hlc, hlm, -⟩ := hcc i ls hls
      have cj' := cell_later HR.out.2.2 cj
      have hll : ls.length ≤ 9223372036854775807 := Nat.le_trans hlc (Nat.le_trans hlm (by unfold maxLen; omega))
      have HLs : Hid (cs[i]? = some ls) := hls
      obtain ⟨q, hq⟩ : ∃ q, ls.length = q := ⟨_, rfl⟩
      have HQ : Hid (ls.length = q) := hq
      rw [hq] at cj' hll
      clear hcc cj hlc hlm hls hq
      by_cases hq20 : 20 < q
      ·
       go_wp2_with fail
       go_ret
       exact ⟨.inl rfl, HR.out.2.2⟩
      ·
       go_wp2_with fail
       go_roundg (gk - 1)
       case measure => omega
       case rel =>
        refine ⟨i + 1, by omega, by go_num, fun j l hj hl => ?_, HR.out.2.1⟩
        rcases Nat.lt_or_ge j i with h | h
        · exact HR.out.1 j l h hl
        ·
         obtain rfl : j = i := by omega
         obtain rfl := Option.some.inj (HLs.out.symm.trans hl)
         rw [HQ.out]
         omega
     ·
      go_wp2_with fail
      go_ret
      exact ⟨.inr ⟨rfl, by have := HM.out.1; omega, by have := HM.out.2; omega, fun j l hl => HR.out.1 j l (by have := lt_of_get hl; have := HM.out.1; omega) hl⟩, HR.out.2.2⟩
theorem lies_but {S : Nat → Prop} {w w' : World} {a : Option Addr} {ls : List (Int × Int)} (h : Lies w a ls) (hb : But S w w') (hs : ∀ ad, a = some ad → ¬ S ad.block) : Lies w' a ls := by
 rcases h with rfl | ⟨b, off, rfl, hlt, hc⟩
 · exact .inl rfl
 ·
  have hn : ¬ S b := hs _ rfl
  refine .inr ⟨b, off, rfl, Nat.lt_of_lt_of_le hlt hb.size, fun i x y hi => ?_⟩
  have := hc i x y hi
  exact ⟨by rw [hb.cell (p := ⟨b, off + i * 2, none⟩) hlt hn]; exact this.1, by rw [hb.cell (p := ⟨b, off + i * 2 + 1, none⟩) hlt hn]; exact this.2⟩
structure OwnC (w : World) (B : Nat) (v : Value) (cs : List (List (Int × Int))) (xs : List Value) : Prop where
 row : w.ownsRow B 38 1 v cs.length xs
 each : ∀ (i : Nat) ls, cs[i]? = some ls → ∃ a cap, xs[i]? = some (.slice a ls.length cap) ∧ Lies w a ls ∧ ls.length ≤ cap ∧ cap ≤ maxLen ∧ (a = none → ls = [] ∧ cap = 0) ∧ ∀ ad, a = some ad → B ≤ ad.block ∧ ad.block < w.heap.size ∧ v.ownBlock ≠ some ad.block
theorem ownC_nil (w : World) (B : Nat) : OwnC w B (.slice none 0 0) [] [] := ⟨World.ownsRow_nil _ _ _ _, fun i ls h => by simp at h⟩
theorem OwnC.open {w : World} {B : Nat} {v : Value} {cs : List (List (Int × Int))} {xs : List Value} (h : OwnC w B v cs xs) : ∃ a cap, v = .slice a cs.length cap ∧ cs.length ≤ cap ∧ cap ≤ maxLen ∧ LiesC w a cs ∧ (a = none → cs = [] ∧ cap = 0) := by
 have hh := h.row
 obtain ⟨h1, ⟨rfl, h0⟩ | ⟨g, cap, cur, rfl, hB, hg, hn, hm, hc, ht⟩⟩ := h.row
 · exact ⟨none, 0, by rw [h0], by omega, by simp [maxLen], .inl (List.length_eq_zero_iff.1 h0), fun _ => ⟨List.length_eq_zero_iff.1 h0, rfl⟩⟩
 ·
  refine ⟨_, cap, rfl, hn, hm, .inr ⟨g, 0, rfl, lt_of_block hg, fun i ls hi => ?_⟩, fun e => by cases e⟩
  obtain ⟨a', cap', e1, e2, e3, e4, e5, -⟩ := h.each i ls hi
  refine ⟨a', cap', ?_, e2, e3, e4, e5⟩
  rw [Nat.zero_add, hh.cellAt i (by have := lt_of_get hi; omega)]
  exact e1
theorem OwnC.but {S : Nat → Prop} {w w' : World} {B : Nat} {v : Value} {cs : List (List (Int × Int))} {xs : List Value} (h : OwnC w B v cs xs) (hb : But S w w') (hs : ∀ k, S k → k < B) : OwnC w' B v cs xs := by
 refine ⟨ownsRow_of_block h.row fun g hg hlt => hb.block g hlt fun hS => ?_, fun i ls hi => ?_⟩
 ·
  have := hs g hS
  have := (ownsRow_lt h.row hg).1
  omega
 ·
  obtain ⟨a', cap', e1, e2, e3, e4, e5, e6⟩ := h.each i ls hi
  refine ⟨a', cap', e1, lies_but e2 hb fun ad had hS => ?_, e3, e4, e5, fun ad had => ⟨(e6 ad had).1, Nat.lt_of_lt_of_le (e6 ad had).2.1 hb.size, (e6 ad had).2.2⟩⟩
  have := hs _ hS
  have := (e6 ad had).1
  omega
theorem OwnC.grown {w w' : World} {B : Nat} {v : Value} {cs : List (List (Int × Int))} {xs : List Value} (h : OwnC w B v cs xs) {ls : List (Int × Int)} {a : Option Addr} {cap : Nat} (hl : Lies w a ls) (h1 : ls.length ≤ cap) (h2 : cap ≤ maxLen) (h3 : a = none → ls = [] ∧ cap = 0) (h4 : ∀ ad, a = some ad → B ≤ ad.block ∧ ad.block < w.heap.size ∧ v.ownBlock ≠ some ad.block) {g cap' : Nat}
  (ho : w'.ownsRow B 38 1 (.slice (some ⟨g, 0, none⟩) (cs.length + 1) cap') (cs.length + 1) (xs ++ [.slice a ls.length cap])) (hg : w.grownBy w' v.ownBlock) (hat : v.ownBlock = some g ∨ g = w.heap.size) : OwnC w' B (.slice (some ⟨g, 0, none⟩) (cs.length + 1) cap') (cs ++ [ls]) (xs ++ [.slice a ls.length cap]) := by
 have hbut : But (fun k => v.ownBlock = some k) w w' := ⟨hg.os, hg.tape, hg.output, hg.size, fun k hk hn => hg.block k hk (fun e => hn e.symm)⟩
 have hxl : xs.length = cs.length := by have := h.row.1; simpa using this
 have ap : ∀ ad : Addr, ad.block < w.heap.size → v.ownBlock ≠ some ad.block → (Value.slice (some ⟨g, 0, none⟩) (cs.length + 1) cap').ownBlock ≠ some ad.block := fun ad hlt hne e => by
  obtain rfl : g = ad.block := Option.some.inj e
  rcases hat with hat | hat
  · exact hne hat
  · omega
 refine ⟨by rw [List.length_append]; exact ho, fun i l hi => ?_⟩
 rcases Nat.lt_or_ge i cs.length with hlt | hge
 ·
  rw [List.getElem?_append_left hlt] at hi
  obtain ⟨a', cap2, e1, e2, e3, e4, e5, e6⟩ := h.each i l hi
  exact ⟨a', cap2, by rw [List.getElem?_append_left (by omega)]; exact e1, lies_but e2 hbut fun ad had => (e6 ad had).2.2, e3, e4, e5, fun ad had => ⟨(e6 ad had).1, Nat.lt_of_lt_of_le (e6 ad had).2.1 hg.size, ap ad (e6 ad had).2.1 (e6 ad had).2.2⟩⟩
 ·
  have hi' : i = cs.length := by
   have := lt_of_get hi
   simp at this
   omega
  subst hi'
  obtain rfl : ls = l := by simpa using hi
  exact ⟨a, cap, by rw [← hxl]; simp, lies_but hl hbut fun ad had => (h4 ad had).2.2, h1, h2, h3, fun ad had => ⟨(h4 ad had).1, Nat.lt_of_lt_of_le (h4 ad had).2.1 hg.size, ap ad (h4 ad had).2.1 (h4 ad had).2.2⟩⟩
theorem Tryz.infoLines : (Tryz.prog.info? 38).map (fun i => (i.zero, i.size, i.bytes)) = some (some (.slice none 0 0), 1, 24) := by kernel_rfl
theorem run_append_nums {P : Program} (w : World) (t ty e : TypeId) (i : TypeInfo) (z : Value) (ht : P.underlying t = some (.slice e)) (hi : P.info? e = some i) (hz : i.zero = some z) (hsize : i.size = 1) (hby : i.bytes = 8) (hzs : z.cells.size = 1)
  (na : Option Addr) (ncap : Nat) (ns : List Int) (hl : LiesN w na ns) (hna : na = none → ns = [] ∧ ncap = 0) (hn : ns.length ≤ 1000) :
  ∃ a cap w', (Builtin.append_ #[t, t] ty #[.slice none 0 0, .slice na ns.length ncap]).run P w = .ok (.slice a ns.length cap) w' ∧ LiesN w' a ns ∧ ns.length ≤ cap ∧ cap ≤ maxLen ∧ Below w.heap.size w w' ∧ (a = none → ns = [] ∧ cap = 0) ∧ ∀ ad, a = some ad → w.heap.size ≤ ad.block := by
 cases na with
 | none =>
  obtain ⟨rfl, rfl⟩ := hna rfl
  exact ⟨none, 0, w, run_append_owned_none (P := P) w w.heap.size t ty e i 1 ht hi (.slice none 0 0) 0 [] (World.ownsRow_nil _ _ _ _), .inl rfl, Nat.le_refl _, by simp [maxLen], Below.refl _ _, fun _ => ⟨rfl, rfl⟩, fun ad h => by cases h⟩
 | some ad =>
  have hnews : ∀ j u, (ints ns)[j]? = some u → w.cell? (ad.add j) = some u := by
   intro j u hu
   rcases hl with rfl | ⟨b, off, e', -, hc⟩
   · simp [ints] at hu
   ·
    cases e'
    rw [Addr.add_lit]
    simp only [ints, List.getElem?_map] at hu
    cases hx : ns[j]? with
    | none => rw [hx] at hu; cases hu
    | some x =>
     rw [hx] at hu
     rw [hc j x hx]
     simpa using hu
  obtain ⟨v', w', hrun, h1, h2, h3⟩ := run_append_own (P := P) w w.heap.size t ty e i z 1 8 ht hi hz hsize hby hzs (by decide) (.slice none 0 0) 0 [] (World.ownsRow_nil _ _ _ _) ad ns.length ncap (ints ns) (by rw [ints_length, Nat.mul_one]) hnews (ints_one _) (by unfold maxLen; omega) (by omega) (Nat.le_refl _)
  rw [Nat.zero_add, List.nil_append] at h1
  have hlt := fun g (hg : v'.ownBlock = some g) => (ownsRow_lt h1 hg).1
  have hno : v' = .slice none 0 0 → ns = [] := fun e => List.length_eq_zero_iff.1 (h3.1 e).2
  obtain ⟨a, cap, rfl, g1, g2, g3⟩ := own_lies h1
  refine ⟨a, cap, w', hrun, g3, g1, g2, (Below.refl _ _).grown h2 (Nat.le_refl _) (fun k hk => by cases hk), fun e => ?_, fun ad h => ?_⟩
  ·
   subst e
   obtain ⟨-, ⟨e, h0⟩ | ⟨g, c', cur, e, -⟩⟩ := h1
   ·
    injection e with e1 e2 e3
    exact ⟨List.length_eq_zero_iff.1 h0, e3⟩
   · cases e
  ·
   subst h
   exact hlt ad.block rfl
theorem wpList_append_nums {P : Program} (w : World) {ops : Array Oper} {rest : List Oper} {o : Oper} {a : Act} {Q : Exit → Act → World → Prop} (hgd : o.guard = none) (s x : Operand) (t : TypeId)
  (ho : o.op = .call { callee := .builtin .append, args := #[s, x], argTypes := #[t, t] })
  (e : TypeId) (i : TypeInfo) (z : Value) (ht : P.underlying t = some (.slice e)) (hi : P.info? e = some i) (hz : i.zero = some z) (hsize : i.size = 1) (hby : i.bytes = 8) (hzs : z.cells.size = 1)
  (na : Option Addr) (ncap n : Nat) (ns : List Int) (hnn : ns.length = n) (hs : a.eval s = .slice none 0 0) (hx : a.eval x = .slice na n ncap) (hl : LiesN w na ns) (hna : na = none → ns = [] ∧ ncap = 0) (hn : n ≤ 1000)
  (hK : ∀ a' cap' w', LiesN w' a' ns ∧ n ≤ cap' ∧ cap' ≤ maxLen ∧ Below w.heap.size w w' ∧ (a' = none → ns = [] ∧ cap' = 0) ∧ (∀ ad, a' = some ad → w.heap.size ≤ ad.block) → wpList P ops Q rest (a.put o.dst (.slice a' n cap')) w') : wpList P ops Q (o :: rest) a w := by
 subst hnn
 refine wpList_plain hgd fun K hK' => ?_
 obtain ⟨ao, cap, w', hrun, g⟩ := run_append_nums (P := P) w t o.type e i z ht hi hz hsize hby hzs na ncap ns hl hna hn
 unfold Oper.wp
 simp [execOp, ho, resolve, invoke, builtin, hs, hx, hrun, Result.andThen]
 exact hK' _ _ (hK ao cap w' g)
theorem liesN_but {S : Nat → Prop} {w w' : World} {a : Option Addr} {ns : List Int} (h : LiesN w a ns) (hb : But S w w') (hs : ∀ ad, a = some ad → ¬ S ad.block) : LiesN w' a ns := by
 rcases h with rfl | ⟨b, off, rfl, hlt, hc⟩
 · exact .inl rfl
 ·
  have hn : ¬ S b := hs _ rfl
  exact .inr ⟨b, off, rfl, Nat.lt_of_lt_of_le hlt hb.size, fun i x hi => by rw [hb.cell (p := ⟨b, off + i, none⟩) hlt hn]; exact hc i x hi⟩
end Go.Proofs.YtibhkijaafdkoaaGreatDoor
