/- Own facts, put together: no statement of its own. -/
import Derived.Test.YtibhkijaafdkoaaGreatDoorQ01
import Derived.Test.YtibhkijaafdkoaaGreatDoorQ21
import Derived.Test.YtibhkijaafdkoaaGreatDoorQ13
import Derived.Test.YtibhkijaafdkoaaGreatDoorQ04
import Derived.Test.YtibhkijaafdkoaaGreatDoorQ18
namespace Go.Proofs.YtibhkijaafdkoaaGreatDoor
open Go.RowKit
def HeldF (B g : Nat) (w : World) (D : Nat → Prop) (q : List Nat) : Prop :=
 ∃ v F, w.heap[g]? = some (.cells #[v] 23 (0, 0)) ∧ Slides w B v F q ∧ ¬ F g ∧ B ≤ g ∧ (∀ k, D k ↔ k = g ∨ F k)
theorem HeldF.foot {B g : Nat} {w : World} {D : Nat → Prop} {q : List Nat} (h : HeldF B g w D q) : ∀ k, D k → B ≤ k ∧ k < w.heap.size := by
 obtain ⟨v, F, h1, h2, h3, h4, h5⟩ := h
 intro k hk
 rcases (h5 k).1 hk with rfl | hk
 · exact ⟨h4, lt_of_block h1⟩
 · exact h2.foot k hk
theorem HeldF.but {B g : Nat} {S : Nat → Prop} {w w' : World} {D : Nat → Prop} {q : List Nat} (h : HeldF B g w D q) (hb : But S w w') (hs : ∀ k, D k → ¬ S k) : HeldF B g w' D q := by
 obtain ⟨v, F, h1, h2, h3, h4, h5⟩ := h
 exact ⟨v, F, (hb.block g (lt_of_block h1) (hs g ((h5 g).2 (.inl rfl)))).trans h1, h2.but hb (fun k hk => hs k ((h5 k).2 (.inr hk))), h3, h4, h5⟩
def QueOn (B g : Nat) (w w' : World) (D : Nat → Prop) (q : List Nat) : Prop := ∃ D', HeldF B g w' D' q ∧ But D w w' ∧ ∀ k, D' k → D k ∨ w.heap.size ≤ k
theorem fifo_stored {B g : Nat} {D F F' : Nat → Prop} {w w1 w2 : World} {v v' : Value} {q : List Nat} (h3 : ¬ F g) (h4 : B ≤ g) (h5 : ∀ k, D k ↔ k = g ∨ F k) (hg : g < w.heap.size) (hb : Below w.heap.size w w1) (hs : w.heap.size ≤ w1.heap.size) (hbut : But F w1 w2)
  (hv : w2.heap[g]? = some (.cells #[v] 23 (0, 0))) (hsl : Slides w2 B v' F' q) (hF : ∀ k, F' k → F k ∨ w1.heap.size ≤ k) : QueOn B g w (w2.setCell ⟨g, 0, none⟩ v') D q := by
 have hFg : ¬ F' g := fun h => by
  rcases hF g h with h | h
  · exact h3 h
  · omega
 have b2 : But (fun k => k = g) w2 (w2.setCell ⟨g, 0, none⟩ v') := But.setCell (S := fun k => k = g) (But.refl _ w2) (p := ⟨g, 0, none⟩) rfl v'
 refine ⟨fun k => k = g ∨ F' k, ⟨v', F', one_setCell hv, hsl.but b2 (fun k hk e => hFg (e ▸ hk)), hFg, h4, fun k => Iff.rfl⟩, ?_, fun k hk => ?_⟩
 · refine ((But.ofBelow hb).trans (hbut.mono fun k hk => (h5 k).2 (.inr hk))).trans (b2.mono fun k hk => (h5 k).2 (.inl hk))
 ·
  rcases hk with rfl | hk
  · exact .inl ((h5 _).2 (.inl rfl))
  ·
   rcases hF k hk with h | h
   · exact .inl ((h5 k).2 (.inr h))
   · exact .inr (by omega)
set_option maxRecDepth 100000 in
set_option maxHeartbeats 1000000 in
theorem fifoCome (B g : Nat) (D : Nat → Prop) (q : List Nat) (k : Nat) (w : World) (h : HeldF B g w D q) (hn : q.length ≤ 1000) :
  Calls Tryz.prog 153 #[.int .i64 (k : Int), .pointer (some ⟨g, 0, none⟩)] w fun e w' => e = .returned (.tuple #[]) ∧ QueOn B g w w' D (q ++ [k]) := by
 obtain ⟨i0, hi, hz0, hz1, hz2⟩ := info_parts Tryz.infoInt
 obtain ⟨v, F, h1, h2, h3, h4, h5⟩ := h
 obtain ⟨ao, cap, rfl, hlc, hcm⟩ := h2.form
 have c0 := cell_of_one h1
 have hgl := lt_of_block h1
 have H1 : Hid (w.heap[g]? = some (.cells #[.slice ao q.length cap] 23 (0, 0))) := h1
 have H2 : Hid (Slides (w.alloc (.cells #[.int .i64 (k : Int)] 3)) B (.slice ao q.length cap) F q) := h2.but (S := fun _ => False) (.ofBelow ((Below.refl _ _).alloc (Nat.le_refl _) _)) (fun _ _ h => h)
 have H3 : Hid (¬ F g ∧ B ≤ g ∧ (∀ k, D k ↔ k = g ∨ F k)) := ⟨h3, h4, h5⟩
 have HA : Hid ((w.alloc (.cells #[.int .i64 (k : Int)] 3)).heap[g]? = some (.cells #[.slice ao q.length cap] 23 (0, 0))) := (Below.heap_alloc w _ g hgl).trans h1
 clear h1 h2 h3 h5
 go_enter Tryz.func153, Tryz.ntmps153
 go_wp2_with (at_builtin; go_must (refine wpList_append_slide _ rfl _ _ 23 rfl 3 i0 (.int .i64 0) 8 Tryz.underlying23 hi hz0 hz1 hz2 rfl B (.slice ao q.length cap) F k q rfl H2.out (by simp; omega) ⟨w.heap.size, 0, none⟩ 1 rfl (by simp) (by unfold maxLen; omega) (by omega) ?_; intro ao' cap' w2 hon; obtain ⟨F', g1, g2, g3⟩ := hon; have hgb : w2.heap[g]? = some (.cells #[.slice ao q.length cap] 23 (0, 0)) := (g3.block g (by simp; omega) H3.out.1).trans HA.out; have c2 := cell_of_one hgb; have f2 := free_of_one hgb; have HOn : Hid (Slides w2 B (.slice ao' (q.length + 1) cap') F' (q ++ [k]) ∧ (∀ k, F' k → F k ∨ w.heap.size + 1 ≤ k) ∧ But F (w.alloc (.cells #[.int .i64 (k : Int)] 3)) w2 ∧ w2.heap[g]? = some (.cells #[.slice ao q.length cap] 23 (0, 0))) := ⟨g1, by simpa using g2, g3, hgb⟩; clear g1 g2 g3 hgb))
 go_end0
 exact ⟨rfl, fifo_stored H3.out.1 H3.out.2.1 H3.out.2.2 hgl ((Below.refl _ _).alloc (Nat.le_refl _) _) (by simp) HOn.out.2.2.1 HOn.out.2.2.2 HOn.out.1 (by simpa using HOn.out.2.1)⟩
set_option maxRecDepth 100000 in
set_option maxHeartbeats 1000000 in
theorem fifoPick (B g : Nat) (D : Nat → Prop) (q : List Nat) (k : Nat) (w : World) (h : HeldF B g w D (k :: q)) (hn : q.length ≤ 1000) :
  Calls Tryz.prog 154 #[.pointer (some ⟨g, 0, none⟩)] w fun e w' => e = .returned (.int .i64 (k : Int)) ∧ QueOn B g w w' D q := by
 obtain ⟨v, F, h1, h2, h3, h4, h5⟩ := h
 obtain ⟨b, off, cap, rfl, hlc, hcm, c1, hFb, s1, s2⟩ := h2.first
 have c0 := cell_of_one h1
 have f0 := free_of_one h1
 have hgl := lt_of_block h1
 unfold maxLen at hcm
 by_cases hc1 : 1 < cap
 ·
  have HS : Hid (Slides w B (.slice (some ⟨b, off + 1, none⟩) q.length (cap - 1)) F q) := s1 hc1
  have H1 : Hid (w.heap[g]? = some (.cells #[.slice (some ⟨b, off, none⟩) (q.length + 1) cap] 23 (0, 0))) := h1
  have H3 : Hid (¬ F g ∧ B ≤ g ∧ (∀ k, D k ↔ k = g ∨ F k)) := ⟨h3, h4, h5⟩
  clear h1 h2 h3 h5 s1 s2
  go_enter Tryz.func154, Tryz.ntmps154
  go_wp2
  go_ret
  exact ⟨rfl, fifo_stored H3.out.1 H3.out.2.1 H3.out.2.2 hgl (Below.refl _ _) (Nat.le_refl _) (But.refl _ _) H1.out HS.out (fun _ h => .inl h)⟩
 ·
  obtain rfl : cap = 1 := by omega
  obtain ⟨rfl, s3⟩ := s2 rfl
  have HS : Hid (Slides w B (.slice (some ⟨b, off, none⟩) 0 0) F []) := s3
  have H1 : Hid (w.heap[g]? = some (.cells #[.slice (some ⟨b, off, none⟩) 1 1] 23 (0, 0))) := h1
  have H3 : Hid (¬ F g ∧ B ≤ g ∧ (∀ k, D k ↔ k = g ∨ F k)) := ⟨h3, h4, h5⟩
  clear h1 h2 h3 h5 s1 s2 s3
  simp only [List.length_nil, Nat.zero_add] at c0
  go_enter Tryz.func154, Tryz.ntmps154
  go_wp2
  go_ret
  exact ⟨rfl, fifo_stored H3.out.1 H3.out.2.1 H3.out.2.2 hgl (Below.refl _ _) (Nat.le_refl _) (But.refl _ _) H1.out HS.out (fun _ h => .inl h)⟩
set_option maxHeartbeats 1000000 in
theorem fifoRest (B g : Nat) (D : Nat → Prop) (q : List Nat) (w : World) (h : HeldF B g w D q) :
  Calls Tryz.prog 155 #[.pointer (some ⟨g, 0, none⟩)] w fun e w' => e = .returned (.int .i64 (q.length : Int)) ∧ w' = w := by
 obtain ⟨v, F, h1, h2, h3, h4, h5⟩ := h
 obtain ⟨ao, cap, rfl, hlc, hcm⟩ := h2.form
 have c0 := cell_of_one h1
 unfold maxLen at hcm
 clear h1 h2 h3 h5
 go_enter Tryz.func155, Tryz.ntmps155
 go_wp2
 go_ret
 exact ⟨rfl, rfl⟩
def ruleF (g : Nat) : Value := .agg #[.func (.func 153) #[] #[.pointer (some ⟨g, 0, none⟩)], .func (.func 154) #[] #[.pointer (some ⟨g, 0, none⟩)], .func (.func 155) #[] #[.pointer (some ⟨g, 0, none⟩)]]
theorem QueOn.after {B g : Nat} {w w1 w' : World} {D : Nat → Prop} {q : List Nat} (hb : Below w.heap.size w w1) (h : QueOn B g w1 w' D q) : QueOn B g w w' D q := by
 obtain ⟨D', h1, h2, h3⟩ := h
 refine ⟨D', h1, (But.ofBelow hb).trans h2, fun k hk => ?_⟩
 rcases h3 k hk with h | h
 · exact .inl h
 · exact .inr (Nat.le_trans hb.size h)
theorem HeldF.alloc {B g : Nat} {w : World} {D : Nat → Prop} {q : List Nat} (h : HeldF B g w D q) (o : Obj) : HeldF B g (w.alloc o) D q :=
 h.but (S := fun _ => False) (.ofBelow ((Below.refl _ _).alloc (Nat.le_refl _) _)) (fun _ _ h => h)
set_option maxHeartbeats 1000000 in
theorem fifoRuleRest (B g : Nat) (D : Nat → Prop) (q : List Nat) (w : World) (h : HeldF B g w D q) :
  Calls Tryz.prog 220 #[ruleF g] w fun e w' => e = .returned (.int .i64 (q.length : Int)) ∧ QueOn B g w w' D q := by
 have HH : Hid (HeldF B g w D q) := h
 clear h
 unfold ruleF
 go_enter Tryz.func220, Tryz.ntmps220
 go_wp2_with fail
 refine (fifoRest B g D q _ (HH.out.alloc _)).mono ?_
 rintro e w1 ⟨rfl, rfl⟩
 go_wp2_with fail
 go_ret
 exact ⟨rfl, D, HH.out.alloc _, .ofBelow ((Below.refl _ _).alloc (Nat.le_refl _) _), fun k hk => .inl hk⟩
set_option maxHeartbeats 1000000 in
theorem fifoRulePick (B g : Nat) (D : Nat → Prop) (q : List Nat) (k : Nat) (w : World) (h : HeldF B g w D (k :: q)) (hn : q.length ≤ 1000) :
  Calls Tryz.prog 219 #[ruleF g] w fun e w' => e = .returned (.int .i64 (k : Int)) ∧ QueOn B g w w' D q := by
 have HH : Hid (HeldF B g w D (k :: q)) := h
 clear h
 unfold ruleF
 go_enter Tryz.func219, Tryz.ntmps219
 go_wp2_with fail
 refine (fifoPick B g D q k _ (HH.out.alloc _) hn).mono ?_
 rintro e w1 ⟨rfl, ho⟩
 have HO : Hid (QueOn B g w w1 D q) := ho.after ((Below.refl _ _).alloc (Nat.le_refl _) _)
 clear ho
 go_wp2_with fail
 go_ret
 exact ⟨rfl, HO.out⟩
set_option maxHeartbeats 1000000 in
theorem fifoRuleCome (B g : Nat) (D : Nat → Prop) (q : List Nat) (k : Nat) (w : World) (h : HeldF B g w D q) (hn : q.length ≤ 1000) :
  Calls Tryz.prog 218 #[ruleF g, .int .i64 (k : Int)] w fun e w' => e = .returned (.tuple #[]) ∧ QueOn B g w w' D (q ++ [k]) := by
 have HH : Hid (HeldF B g w D q) := h
 clear h
 unfold ruleF
 go_enter Tryz.func218, Tryz.ntmps218
 go_wp2_with fail
 refine (fifoCome B g D q k _ (HH.out.alloc _) hn).mono ?_
 rintro e w1 ⟨rfl, ho⟩
 have HO : Hid (QueOn B g w w1 D (q ++ [k])) := ho.after ((Below.refl _ _).alloc (Nat.le_refl _) _)
 clear ho
 go_wp2_with fail
 go_end0
 exact ⟨rfl, HO.out⟩
set_option maxHeartbeats 1000000 in
theorem inOrder_any (w : World) :
  Calls Tryz.prog 130 #[] w fun e w' => e = .returned (.iface 164 (ruleF w.heap.size)) ∧ HeldF w.heap.size w.heap.size w' (fun k => k = w.heap.size) [] ∧ Below w.heap.size w w' := by
 unfold ruleF
 go_enter Tryz.func130, Tryz.ntmps130
 go_wp2_with fail
 go_ret
 refine ⟨rfl, ⟨.slice none 0 0, fun _ => False, ?_, Slides.nil _ _, id, Nat.le_refl _, fun k => by simp⟩, (Below.refl _ _).alloc (Nat.le_refl _) _⟩
 exact heap_alloc_new w _
end Go.Proofs.YtibhkijaafdkoaaGreatDoor

namespace Go.Proofs.YtibhkijaafdkoaaGreatDoor
open Go.RowKit
theorem LiesP.at_lt {w : World} {a : Option Addr} {ps : List Pk} (h : LiesP w a ps) : ∀ ad, a = some ad → 0 < ps.length → ad.block < w.heap.size := by
 intro ad e h0
 obtain ⟨b, off, rfl, hlt, -⟩ := h.place h0
 cases e
 exact hlt
theorem fifoMem (B g : Nat) : QueMem (HeldF B g) B := ⟨fun _ _ _ h => h.foot, fun _ _ _ _ _ h hb hs _ => h.but hb hs⟩
theorem fifoSend_ok (a : Option Addr) (cap : Nat) (ps : List Pk) (per : Int) (g : Nat) (w : World) (hl : LiesP w a ps) (ho : OkPks ps) (h1 : 1 ≤ per) (h2 : per ≤ 1000) (ha : ∀ ad, a = some ad → 0 < ps.length → ad.block < g) (h0 : HeldF g g w (fun k => k = g) []) :
  Calls Tryz.prog 59 #[.slice a ps.length cap, .int .i64 per, .iface 164 (ruleF g)] w fun e w' => ∃ v, e = .returned v ∧ OwnS w' w.heap.size v (lindAll per ps ps.length) ∧ Below g w w' := by
 have hlaw := fifo_law (per := per) (by omega) ho
 have hgw : g ≤ w.heap.size := Nat.le_of_lt (h0.foot g rfl).2
 refine (send_any fifoQ (HeldF g g) per ps [] g _ _ _ (fifoMem g g) hlaw ho h1 h2 ?_ ?_ ?_ a cap w hl hgw ha _ h0).mono ?_
 ·
  intro w D s p hr hp hh
  have hc := hr.count hlaw
  have hn := hr.next_le
  have := ho.few
  exact fifoRuleCome g g D s.q s.next w hh (by have : fifoQ.rest s.q = s.q.length := rfl; omega)
 ·
  intro w D s hr h0 hh
  have hc := hr.count hlaw
  have hn := hr.next_le
  have := ho.few
  have hlen : s.q.length ≤ 1000 := by have : fifoQ.rest s.q = s.q.length := rfl; omega
  have h0' : 0 < s.q.length := h0
  obtain ⟨k, q, hq⟩ : ∃ k q, s.q = k :: q := by
   cases h : s.q with
   | nil => rw [h] at h0'; simp at h0'
   | cons k q => exact ⟨k, q, rfl⟩
  rw [hq] at hh hlen ⊢
  exact fifoRulePick g g D q k w hh (by simp at hlen; omega)
 ·
  intro w D s hr hh
  rw [asked_same _ (fun _ => rfl)]
  exact fifoRuleRest g g D s.q w hh
 ·
  rintro e w' ⟨s, v, rfl, hr, hn, hrest, hown, hb⟩
  exact ⟨v, rfl, by rw [← fifo_end (by omega) ho hr hn hrest]; exact hown, hb⟩
set_option maxHeartbeats 1000000 in
theorem fifoRun_ok (a : Option Addr) (cap : Nat) (ps : List Pk) (per : Int) (w : World) (hl : LiesP w a ps) (ho : OkPks ps) (h1 : 1 ≤ per) (h2 : per ≤ 1000) :
  Calls Tryz.prog 85 #[.slice a ps.length cap, .int .i64 per] w fun e w' => ∃ v, e = .returned (.tuple #[v, .nilIface]) ∧ OwnS w' w.heap.size v (lindAll per ps ps.length) ∧ Below w.heap.size w w' := by
 have HL : Hid (LiesP w a ps ∧ OkPks ps) := ⟨hl, ho⟩
 have HC : Hid (Calls Tryz.prog 52 #[.slice a ps.length cap, .int .i64 per] w fun e w' => e = .returned .nilIface ∧ Below w.heap.size w w') := linkCheck_ok a cap ps per w hl ho h1 h2
 clear hl ho
 go_enter Tryz.func85, Tryz.ntmps85
 go_wp2_with fail
 refine HC.out.mono ?_
 rintro e w1 ⟨rfl, hb⟩
 have HB1 : Hid (Below w.heap.size w w1) := hb
 clear hb
 go_wp2_with fail
 refine (inOrder_any w1).mono ?_
 rintro e w2 ⟨rfl, hh, hb⟩
 have HB2 : Hid (Below w1.heap.size w1 w2) := hb
 have HH : Hid (HeldF w1.heap.size w1.heap.size w2 (fun k => k = w1.heap.size) []) := hh
 have HLP : Hid (LiesP w2 a ps) := (HL.out.1.below HB1.out).below hb
 have HAt : Hid (∀ ad, a = some ad → 0 < ps.length → ad.block < w1.heap.size) := (HL.out.1.below HB1.out).at_lt
 clear hb hh
 go_wp2_with fail
 refine (fifoSend_ok a cap ps per w1.heap.size w2 HLP.out HL.out.2 h1 h2 HAt.out HH.out).mono ?_
 rintro e w3 ⟨v, rfl, hown, hb⟩
 have HO : Hid (OwnS w3 w.heap.size v (lindAll per ps ps.length) ∧ Below w.heap.size w w3) := ⟨ownsRow_mono hown (Nat.le_trans HB1.out.size HB2.out.size), HB1.out.trans ((HB2.out.mono HB1.out.size).trans (hb.mono HB1.out.size))⟩
 clear hown hb
 go_wp2_with fail
 go_ret2
 exact ⟨v, rfl, HO.out⟩
set_option maxHeartbeats 1000000 in
theorem fifoRun_err {R : TypeId → Value → World → Prop} (a : Option Addr) (n cap : Nat) (per : Int) (w : World) (h : Calls Tryz.prog 52 #[.slice a n cap, .int .i64 per] w fun e w' => ∃ ty v, e = .returned (.iface ty v) ∧ R ty v w') :
  Calls Tryz.prog 85 #[.slice a n cap, .int .i64 per] w fun e w' => ∃ ty v, e = .returned (.tuple #[.slice none 0 0, .iface ty v]) ∧ R ty v w' := by
 have HC : Hid (Calls Tryz.prog 52 #[.slice a n cap, .int .i64 per] w fun e w' => ∃ ty v, e = .returned (.iface ty v) ∧ R ty v w') := h
 clear h
 go_enter Tryz.func85, Tryz.ntmps85
 go_wp2_with fail
 refine HC.out.mono ?_
 rintro e w1 ⟨ty, v, rfl, hR⟩
 have HR : Hid (R ty v w1) := hR
 clear hR
 go_wp2_with fail
 go_ret2
 exact ⟨ty, v, rfl, HR.out⟩
end Go.Proofs.YtibhkijaafdkoaaGreatDoor
