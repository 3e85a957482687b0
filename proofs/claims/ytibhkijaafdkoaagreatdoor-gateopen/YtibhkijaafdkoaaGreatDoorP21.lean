/- Own facts, put together: no statement of its own. -/
import Derived.Deep.Onto
import Derived.Laws.Rows
import Derived.Test.YtibhkijaafdkoaaGreatDoorP01
namespace Go.Proofs.YtibhkijaafdkoaaGreatDoor
open Go.RowKit
def nums (xs : List Nat) : List Value := xs.map fun (k : Nat) => .int .i64 (k : Int)
theorem nums_length (xs : List Nat) : (nums xs).length = xs.length := by simp [nums]
theorem nums_append (a b : List Nat) : nums (a ++ b) = nums a ++ nums b := by simp [nums]
structure Slides (w : World) (B : Nat) (v : Value) (F : Nat → Prop) (xs : List Nat) : Prop where
 made : ∃ ao b off cap, v = .slice ao xs.length cap ∧ Came w 1 ao b off xs.length cap (nums xs) ∧ cap ≤ maxLen ∧ (0 < cap → F b)
 foot : ∀ k, F k → B ≤ k ∧ k < w.heap.size
theorem Slides.nil (w : World) (B : Nat) : Slides w B (.slice none 0 0) (fun _ => False) [] :=
 ⟨⟨none, 0, 0, 0, rfl, ⟨Nat.le_refl _, fun h => absurd h (Nat.lt_irrefl _), fun h => absurd h (Nat.lt_irrefl _), rfl, fun j u h => by simp [nums] at h, fun j h => by simp at h⟩, Nat.zero_le _, fun h => absurd h (Nat.lt_irrefl _)⟩, fun _ h => h.elim⟩
theorem Slides.but {S : Nat → Prop} {w w' : World} {B : Nat} {v : Value} {F : Nat → Prop} {xs : List Nat} (h : Slides w B v F xs) (hb : But S w w') (hs : ∀ k, F k → ¬ S k) : Slides w' B v F xs := by
 obtain ⟨ao, b, off, cap, rfl, ⟨h1, h2, h3, h4, h5, h6⟩, hm, hB⟩ := h.made
 refine ⟨⟨ao, b, off, cap, rfl, ⟨h1, h2, fun h => Nat.lt_of_lt_of_le (h3 h) hb.size, h4, fun j u hu => ?_, fun j hj => ?_⟩, hm, hB⟩, fun k hk => ⟨(h.foot k hk).1, Nat.lt_of_lt_of_le (h.foot k hk).2 hb.size⟩⟩
 ·
  have hc : 0 < cap := by
   have := (List.getElem?_eq_some_iff.1 hu).1
   rw [nums_length] at this
   omega
  rw [hb.cell (p := ⟨b, off + j, none⟩) (h3 hc) (hs b (hB hc))]
  exact h5 j u hu
 ·
  have hc : 0 < cap := by omega
  rw [hb.cell (p := ⟨b, off + xs.length * 1 + j, none⟩) (h3 hc) (hs b (hB hc)), hb.frozen (p := ⟨b, off + xs.length * 1 + j, none⟩) (h3 hc) (hs b (hB hc))]
  exact h6 j hj
theorem Slides.form {w : World} {B : Nat} {v : Value} {F : Nat → Prop} {xs : List Nat} (h : Slides w B v F xs) : ∃ ao cap, v = .slice ao xs.length cap ∧ xs.length ≤ cap ∧ cap ≤ maxLen := by
 obtain ⟨ao, b, off, cap, rfl, hc, hm, -⟩ := h.made
 exact ⟨ao, cap, rfl, hc.le, hm⟩
theorem Slides.first {w : World} {B : Nat} {v : Value} {F : Nat → Prop} {k : Nat} {xs : List Nat} (h : Slides w B v F (k :: xs)) :
  ∃ b off cap, v = .slice (some ⟨b, off, none⟩) (xs.length + 1) cap ∧ xs.length + 1 ≤ cap ∧ cap ≤ maxLen ∧ w.cell? ⟨b, off, none⟩ = some (.int .i64 (k : Int)) ∧ F b ∧
   (1 < cap → Slides w B (.slice (some ⟨b, off + 1, none⟩) xs.length (cap - 1)) F xs) ∧ (cap = 1 → xs = [] ∧ Slides w B (.slice (some ⟨b, off, none⟩) 0 0) F []) := by
 obtain ⟨ao, b, off, cap, rfl, ⟨h1, h2, h3, h4, h5, h6⟩, hm, hB⟩ := h.made
 simp only [List.length_cons] at h1 h6
 have hc : 0 < cap := by omega
 obtain rfl := h2 hc
 refine ⟨b, off, cap, rfl, h1, hm, by have := h5 0 _ rfl; simpa using this, hB hc, fun h' => ⟨⟨_, b, off + 1, _, rfl, ⟨by omega, fun _ => rfl, fun _ => h3 hc, by simp [nums], fun j u hu => ?_, fun j hj => ?_⟩, by omega, fun _ => hB hc⟩, h.foot⟩, fun h' => ?_⟩
 ·
  have := h5 (j + 1) u (by simpa [nums] using hu)
  rwa [show off + (j + 1) = off + 1 + j by omega] at this
 ·
  have := h6 j (by omega)
  rwa [show off + (xs.length + 1) * 1 + j = off + 1 + xs.length * 1 + j by omega] at this
 ·
  subst h'
  have hx : xs = [] := List.length_eq_zero_iff.1 (by omega)
  exact ⟨hx, ⟨some ⟨b, off, none⟩, b, off, 0, rfl, ⟨Nat.le_refl _, fun h => absurd h (Nat.lt_irrefl _), fun h => absurd h (Nat.lt_irrefl _), rfl, fun j u h => by simp [nums] at h, fun j h => by simp at h⟩, Nat.zero_le _, fun h => absurd h (Nat.lt_irrefl _)⟩, h.foot⟩
theorem Slides.room {w : World} {B : Nat} {F : Nat → Prop} {ao : Option Addr} {b off cap : Nat} {xs : List Nat} {k : Nat} (hc : Came w 1 ao b off xs.length cap (nums xs)) (hm : cap ≤ maxLen) (hB : 0 < cap → F b) (hF : ∀ k, F k → B ≤ k ∧ k < w.heap.size) (hr : xs.length + 1 ≤ cap) :
  Slides (w.setCells b (off + xs.length * 1) (nums [k])) B (.slice ao (xs.length + 1) cap) F (xs ++ [k]) ∧ But F w (w.setCells b (off + xs.length * 1) (nums [k])) := by
 have hc0 : 0 < cap := by omega
 have hbut : But F w (w.setCells b (off + xs.length * 1) (nums [k])) := But.setCell (S := F) (But.refl _ w) (p := ⟨b, off + xs.length * 1, none⟩) (hB hc0) (.int .i64 (k : Int))
 refine ⟨⟨⟨ao, b, off, cap, by simp, ⟨by simpa using hr, hc.addr, fun h => Nat.lt_of_lt_of_le (hc.lt h) hbut.size, by simp [nums], fun j u hu => ?_, fun j hj => ?_⟩, hm, hB⟩, fun k hk => ⟨(hF k hk).1, Nat.lt_of_lt_of_le (hF k hk).2 hbut.size⟩⟩, hbut⟩
 ·
  rw [nums_append] at hu
  by_cases hj : j < xs.length
  ·
   rw [List.getElem?_append_left (by rw [nums_length]; exact hj)] at hu
   rw [World.cell?_setCells_out b _ _ _ _ (fun _ _ => Or.inl (by show off + j < off + xs.length * 1; omega))]
   exact hc.olds j u hu
  ·
   rw [List.getElem?_append_right (by rw [nums_length]; omega), nums_length] at hu
   have hl := (List.getElem?_eq_some_iff.1 hu).1
   have : (nums [k]).length = 1 := rfl
   have hj0 : j - xs.length = 0 := by omega
   rw [hj0] at hu
   have hs := (hc.spare 0 (by omega)).1
   rw [show off + j = off + xs.length * 1 + 0 by omega]
   have h2 : (w.setCells b (off + xs.length * 1) (nums [k])).cell? ⟨b, off + xs.length * 1 + 0, none⟩ = some (.int .i64 (k : Int)) := World.cell?_setCell_same' w ⟨b, off + xs.length * 1, none⟩ _ hs
   rw [h2]
   exact hu
 ·
  simp only [List.length_append, List.length_cons, List.length_nil] at hj ⊢
  have hsp := hc.spare (j + 1) (by omega)
  rw [show off + (xs.length + (0 + 1)) * 1 + j = off + xs.length * 1 + (j + 1) by omega]
  refine ⟨?_, ?_⟩
  ·
   rw [World.cell?_setCells_out b _ _ _ _ (fun _ _ => Or.inr (by show off + xs.length * 1 + (nums [k]).length ≤ off + xs.length * 1 + (j + 1); have : (nums [k]).length = 1 := rfl; omega))]
   exact hsp.1
  · rw [World.frozen?_setCells]; exact hsp.2
def SlidesOn (w w' : World) (B : Nat) (F : Nat → Prop) (ao : Option Addr) (n cap : Nat) (xs : List Nat) : Prop :=
 ∃ F', Slides w' B (.slice ao n cap) F' xs ∧ (∀ k, F' k → F k ∨ w.heap.size ≤ k) ∧ But F w w'
theorem Slides.grown {w w' : World} {B e : Nat} {v' : Value} {F : Nat → Prop} {k : Nat} {xs : List Nat} (hBw : B ≤ w.heap.size) (hown : w'.ownsRow w.heap.size e 1 v' (xs.length + 1) (nums xs ++ nums [k])) (hg : w.grownBy w' none) :
  ∃ ao cap, v' = .slice ao (xs.length + 1) cap ∧ SlidesOn w w' B F ao (xs.length + 1) cap (xs ++ [k]) := by
 have hbut : But F w w' := ⟨hg.os, hg.tape, hg.output, hg.size, fun i hi _ => hg.block i hi (by simp)⟩
 obtain ⟨hlen, ⟨_, h0⟩ | ⟨g, cap', cur, rfl, hBg, hgc, hn, hmx, hcz, ht⟩⟩ := hown
 · omega
 ·
  have hh : w'.ownsRow w.heap.size e 1 (.slice (some ⟨g, 0, none⟩) (xs.length + 1) cap') (xs.length + 1) (nums xs ++ nums [k]) := ⟨hlen, .inr ⟨g, cap', cur, rfl, hBg, hgc, hn, hmx, hcz, ht⟩⟩
  have hglt : g < w'.heap.size := by
   rcases Nat.lt_or_ge g w'.heap.size with h | h
   · exact h
   · simp [Array.getElem?_eq_none h] at hgc
  refine ⟨_, _, rfl, fun i => i = g, ⟨⟨_, g, 0, cap', by simp, ⟨by simpa using hn, fun _ => rfl, fun _ => hglt, by simp [nums], fun j u hu => ?_, fun j hj => ?_⟩, hmx, fun _ => rfl⟩, fun i hi => by subst hi; exact ⟨by omega, hglt⟩⟩, fun i hi => by subst hi; exact .inr hBg, hbut⟩
  ·
   rw [nums_append] at hu
   have hl := (List.getElem?_eq_some_iff.1 hu).1
   rw [List.length_append, nums_length] at hl
   have : (nums [k]).length = 1 := rfl
   rw [Nat.zero_add, hh.cellAt _ (by omega)]
   exact hu
  ·
   simp only [List.length_append, List.length_cons, List.length_nil] at hj ⊢
   have hjc : xs.length + 1 + j < cur.size := by omega
   rw [show 0 + (xs.length + (0 + 1)) * 1 + j = xs.length + 1 + j by omega]
   refine ⟨?_, ?_⟩
   · rw [cell_of_row w' g _ cur e (0, 0) hgc, Array.getElem?_eq_getElem hjc]; rfl
   · exact frozen_of_row w' g _ cur e hgc
theorem run_append_slide {P : Program} (w : World) (t ty e : TypeId) (i : TypeInfo) (z : Value) (bytes : Nat) (ht : P.underlying t = some (.slice e)) (hi : P.info? e = some i) (hz : i.zero = some z) (hsize : i.size = 1) (hby : i.bytes = bytes) (hzs : z.cells.size = 1)
  (B : Nat) (v : Value) (F : Nat → Prop) (k : Nat) (xs : List Nat) (h : Slides w B v F xs) (hBw : B ≤ w.heap.size) (ad : Addr) (c : Nat) (hk : w.cell? ad = some (.int .i64 (k : Int))) (h63 : xs.length + 1 ≤ maxLen) (hbytes : (xs.length + 1) * bytes ≤ 140737488355328) :
  ∃ ao cap w', (Builtin.append_ #[t, t] ty #[v, .slice (some ad) 1 c]).run P w = .ok (.slice ao (xs.length + 1) cap) w' ∧ SlidesOn w w' B F ao (xs.length + 1) cap (xs ++ [k]) := by
 have hF := h.foot
 obtain ⟨ao, b, off, cap, rfl, hc, hm, hB⟩ := h.made
 have hnews : ∀ j u, (nums [k])[j]? = some u → w.cell? (ad.add j) = some u := by
  intro j u hu
  have hl := (List.getElem?_eq_some_iff.1 hu).1
  have : (nums [k]).length = 1 := rfl
  obtain rfl : j = 0 := by omega
  have e0 : ad.add 0 = ad := by cases ad; simp [Addr.add]
  rw [e0, hk]
  exact hu
 have h1 : ∀ u ∈ nums [k], u.oneCell' = true := by
  intro u hu
  simp [nums] at hu
  subst hu
  rfl
 have hlo : (nums xs).length = xs.length * 1 := by rw [nums_length, Nat.mul_one]
 by_cases hr : xs.length + 1 ≤ cap
 ·
  obtain rfl := hc.addr (by omega)
  have hrun := run_append_room_cells (P := P) w t ty e i ht hi b off xs.length cap ad 1 c (nums [k]) (by rw [hsize]; rfl) hnews h1 hr
   (fun j hj => by rw [hsize]; exact (hc.spare j (by have : (nums [k]).length = 1 := rfl; omega)).1) (fun j hj => by rw [hsize]; exact (hc.spare j (by have : (nums [k]).length = 1 := rfl; omega)).2)
  rw [hsize] at hrun
  obtain ⟨h2, h3⟩ := Slides.room (k := k) hc hm hB hF hr
  exact ⟨_, _, _, hrun, F, h2, fun _ h => .inl h, h3⟩
 ·
  cases ao with
  | some a0 =>
   obtain ⟨v', w', hrun, r1, r2⟩ := run_append_arg_grows (P := P) w t ty e i z 1 bytes ht hi hz hsize hby hzs (by decide) a0 xs.length cap (nums xs) hlo (fun j u hu => by
    have hl := (List.getElem?_eq_some_iff.1 hu).1
    have hle := hc.le
    have ha := hc.addr (by omega)
    cases ha
    rw [Addr.add_lit]
    exact hc.olds j u hu) ad 1 c (nums [k]) rfl hnews (by omega) h63 hbytes
   obtain ⟨ao', cap', rfl, g1⟩ := Slides.grown (F := F) hBw r1 r2
   exact ⟨_, _, w', hrun, g1⟩
  | none =>
   have hcap : cap = 0 := by
    rcases Nat.eq_zero_or_pos cap with h0 | h0
    · exact h0
    · cases hc.addr h0
   have hle := hc.le
   have hx : xs = [] := List.length_eq_zero_iff.1 (by omega)
   subst hx hcap
   obtain ⟨v', w', hrun, r1, r2, _⟩ := run_append_own (P := P) w w.heap.size t ty e i z 1 bytes ht hi hz hsize hby hzs (by decide) (.slice none 0 0) 0 [] (World.ownsRow_nil w _ e 1) ad 1 c (nums [k]) rfl hnews h1 h63 hbytes (Nat.le_refl _)
   obtain ⟨ao', cap', rfl, g1⟩ := Slides.grown (xs := []) (F := F) hBw r1 r2
   exact ⟨_, _, w', hrun, g1⟩
theorem wpList_append_slide {P : Program} (w : World) {ops : Array Oper} {rest : List Oper} {o : Oper} {a : Act} {Q : Exit → Act → World → Prop} (hgd : o.guard = none) (s x : Operand) (t : TypeId)
  (ho : o.op = .call { callee := .builtin .append, args := #[s, x], argTypes := #[t, t] })
  (e : TypeId) (i : TypeInfo) (z : Value) (bytes : Nat) (ht : P.underlying t = some (.slice e)) (hi : P.info? e = some i) (hz : i.zero = some z) (hsize : i.size = 1) (hby : i.bytes = bytes) (hzs : z.cells.size = 1)
  (B : Nat) (v : Value) (F : Nat → Prop) (k : Nat) (xs : List Nat) (hs : a.eval s = v) (h : Slides w B v F xs) (hBw : B ≤ w.heap.size) (ad : Addr) (c : Nat) (hx : a.eval x = .slice (some ad) 1 c) (hk : w.cell? ad = some (.int .i64 (k : Int))) (h63 : xs.length + 1 ≤ maxLen) (hbytes : (xs.length + 1) * bytes ≤ 140737488355328)
  (hK : ∀ ao cap w', SlidesOn w w' B F ao (xs.length + 1) cap (xs ++ [k]) → wpList P ops Q rest (a.put o.dst (.slice ao (xs.length + 1) cap)) w') : wpList P ops Q (o :: rest) a w := by
 refine wpList_plain hgd fun K hK' => ?_
 obtain ⟨ao, cap, w', hrun, g1⟩ := run_append_slide (P := P) w t o.type e i z bytes ht hi hz hsize hby hzs B v F k xs h hBw ad c hk h63 hbytes
 unfold Oper.wp
 simp [execOp, ho, resolve, invoke, builtin, hs, hx, hrun, Result.andThen]
 exact hK' _ _ (hK ao cap w' g1)
end Go.Proofs.YtibhkijaafdkoaaGreatDoor
