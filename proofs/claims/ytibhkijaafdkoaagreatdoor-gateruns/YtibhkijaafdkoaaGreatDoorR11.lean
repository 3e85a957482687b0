/- Own facts, put together: no statement of its own. -/
import Derived.Test.YtibhkijaafdkoaaGreatDoorR01
import Derived.Test.YtibhkijaafdkoaaGreatDoorR10
import Derived.Test.YtibhkijaafdkoaaGreatDoorR06
import Derived.Test.YtibhkijaafdkoaaGreatDoorR03
import Derived.Test.YtibhkijaafdkoaaGreatDoorR09
namespace Go.Proofs.YtibhkijaafdkoaaGreatDoor
open Go.RowKit
def HeldF (B g : Nat) (w : World) (D : Nat → Prop) (q : List Nat) : Prop :=
 ∃ v F, w.heap[g]? = some (.cells #[v] 23 (0, 0)) ∧ Slides w B v F q ∧ ¬ F g ∧ B ≤ g ∧ (∀ k, D k ↔ k = g ∨ F k)
theorem HeldF.foot {B g : Nat} {w : World} {D : Nat → Prop} {q : List Nat} (h : HeldF B g w D q) : ∀ k, D k → B ≤ k ∧ k < w.heap.size := by
 obtain ⟨v, F, h1, h2, h3, h4, h5⟩ := h
 intro k hk
 rcases (h5 k).1 hk with rfl | hk
 · exact ⟨h4, lt_of_block h1⟩
 · exact h2.foot k hk
theorem HeldF.but {B g : Nat} {S : Nat → Prop} {w w' : World} {D : Nat → Prop} {q : List Nat} (h : HeldF B g w D q) (hb : But S w w') (hs : ∀ k, D k → ¬ S k) : HeldF B g w' D q := by
 obtain ⟨v, F, h1, h2, h3, h4, h5⟩ := h
 exact ⟨v, F, (hb.block g (lt_of_block h1) (hs g ((h5 g).2 (.inl rfl)))).trans h1, h2.but hb (fun k hk => hs k ((h5 k).2 (.inr hk))), h3, h4, h5⟩
def QueOn (B g : Nat) (w w' : World) (D : Nat → Prop) (q : List Nat) : Prop := ∃ D', HeldF B g w' D' q ∧ But D w w' ∧ ∀ k, D' k → D k ∨ w.heap.size ≤ k
theorem fifo_stored {B g : Nat} {D F F' : Nat → Prop} {w w1 w2 : World} {v v' : Value} {q : List Nat} (h3 : ¬ F g) (h4 : B ≤ g) (h5 : ∀ k, D k ↔ k = g ∨ F k) (hg : g < w.heap.size) (hb : Below w.heap.size w w1) (hs : w.heap.size ≤ w1.heap.size) (hbut : But F w1 w2)
  (hv : w2.heap[g]? = some (.cells #[v] 23 (0, 0))) (hsl : Slides w2 B v' F' q) (hF : ∀ k, F' k → F k ∨ w1.heap.size ≤ k) : QueOn B g w (w2.setCell ⟨g, 0, none⟩ v') D q := by
 have hFg : ¬ F' g := fun h => by
  rcases hF g h with h | h
  · exact h3 h
  · omega
 have b2 : But (fun k => k = g) w2 (w2.setCell ⟨g, 0, none⟩ v') := But.setCell (S := fun k => k = g) (But.refl _ w2) (p := ⟨g, 0, none⟩) rfl v'
 refine ⟨fun k => k = g ∨ F' k, ⟨v', F', one_setCell hv, hsl.but b2 (fun k hk e => hFg (e ▸ hk)), hFg, h4, fun k => Iff.rfl⟩, ?_, fun k hk => ?_⟩
 · refine ((But.ofBelow hb).trans (hbut.mono fun k hk => (h5 k).2 (.inr hk))).trans (b2.mono fun k hk => (h5 k).2 (.inl hk))
 ·
  rcases hk with rfl | hk
  · exact .inl ((h5 _).2 (.inl rfl))
  ·
   rcases hF k hk with h | h
   · exact .inl ((h5 k).2 (.inr h))
   · exact .inr (by omega)
set_option maxRecDepth 100000 in
set_option maxHeartbeats 1000000 in
theorem fifoCome (B g : Nat) (D : Nat → Prop) (q : List Nat) (k : Nat) (w : World) (h : HeldF B g w D q) (hn : q.length ≤ 1000) :
  Calls Tryz.prog 153 #[.int .i64 (k : Int), .pointer (some ⟨g, 0, none⟩)] w fun e w' => e = .returned (.tuple #[]) ∧ QueOn B g w w' D (q ++ [k]) := by
 obtain ⟨i0, hi, hz0, hz1, hz2⟩ := info_parts Tryz.infoInt
 obtain ⟨v, F, h1, h2, h3, h4, h5⟩ := h
 obtain ⟨ao, cap, rfl, hlc, hcm⟩ := h2.form
 have c0 := cell_of_one h1
 have hgl := lt_of_block h1
 have H1 : Hid (w.heap[g]? = some (.cells #[.slice ao q.length cap] 23 (0, 0))) := h1
 have H2 : Hid (Slides (w.alloc (.cells #[.int .i64 (k : Int)] 3)) B (.slice ao q.length cap) F q) := h2.but (S := fun _ => False) (.ofBelow ((Below.refl _ _).alloc (Nat.le_refl _) _)) (fun _ _ h => h)
 have H3 : Hid (¬ F g ∧ B ≤ g ∧ (∀ k, D k ↔ k = g ∨ F k)) := ⟨h3, h4, h5⟩
 have HA : Hid ((w.alloc (.cells #[.int .i64 (k : Int)] 3)).heap[g]? = some (.cells #[.slice ao q.length cap] 23 (0, 0))) := (Below.heap_alloc w _ g hgl).trans h1
 clear h1 h2 h3 h5
 go_enter Tryz.func153, Tryz.ntmps153
 go_wp2_with (at_builtin; go_must (refine wpList_append_slide _ rfl _ _ 23 rfl 3 i0 (.int .i64 0) 8 Tryz.underlying23 hi hz0 hz1 hz2 rfl B (.slice ao q.length cap) F k q rfl H2.out (by simp; omega) ⟨w.heap.size, 0, none⟩ 1 rfl (by simp) (by unfold maxLen; omega) (by omega) ?_; intro ao' cap' w2 hon; obtain ⟨F', g1, g2, g3⟩ := hon; have hgb : w2.heap[g]? = some (.cells #[.slice ao q.length cap] 23 (0, 0)) := (g3.block g (by simp; omega) H3.out.1).trans HA.out; have c2 := cell_of_one hgb; have f2 := free_of_one hgb; have HOn : Hid (Slides w2 B (.slice ao' (q.length + 1) cap') F' (q ++ [k]) ∧ (∀ k, F' k → F k ∨ w.heap.size + 1 ≤ k) ∧ But F (w.alloc (.cells #[.int .i64 (k : Int)] 3)) w2 ∧ w2.heap[g]? = some (.cells #[.slice ao q.length cap] 23 (0, 0))) := ⟨g1, by simpa using g2, g3, hgb⟩; clear g1 g2 g3 hgb))
 go_end0
 exact ⟨rfl, fifo_stored H3.out.1 H3.out.2.1 H3.out.2.2 hgl ((Below.refl _ _).alloc (Nat.le_refl _) _) (by simp) HOn.out.2.2.1 HOn.out.2.2.2 HOn.out.1 (by simpa using HOn.out.2.1)⟩
set_option maxRecDepth 100000 in
set_option maxHeartbeats 1000000 in
theorem fifoPick (B g : Nat) (D : Nat → Prop) (q : List Nat) (k : Nat) (w : World) (h : HeldF B g w D (k :: q)) (hn : q.length ≤ 1000) :
  Calls Tryz.prog 154 #[.pointer (some ⟨g, 0, none⟩)] w fun e w' => e = .returned (.int .i64 (k : Int)) ∧ QueOn B g w w' D q := by
 obtain ⟨v, F, h1, h2, h3, h4, h5⟩ := h
 obtain ⟨b, off, cap, rfl, hlc, hcm, c1, hFb, s1, s2⟩ := h2.first
 have c0 := cell_of_one h1
 have f0 := free_of_one h1
 have hgl := lt_of_block h1
 unfold maxLen at hcm
 by_cases hc1 : 1 < cap
 ·
  have HS : Hid (Slides w B (.slice (some ⟨b, off + 1, none⟩) q.length (cap - 1)) F q) := s1 hc1
  have H1 : Hid (w.heap[g]? = some (.cells #[.slice (some ⟨b, off, none⟩) (q.length + 1) cap] 23 (0, 0))) := h1
  have H3 : Hid (¬ F g ∧ B ≤ g ∧ (∀ k, D k ↔ k = g ∨ F k)) := ⟨h3, h4, h5⟩
  clear h1 h2 h3 h5 s1 s2
  go_enter Tryz.func154, Tryz.ntmps154
  go_wp2
  go_ret
  exact ⟨rfl, fifo_stored H3.out.1 H3.out.2.1 H3.out.2.2 hgl (Below.refl _ _) (Nat.le_refl _) (But.refl _ _) H1.out HS.out (fun _ h => .inl h)⟩
 ·
  obtain rfl : cap = 1 := by omega
  obtain ⟨rfl, s3⟩ := s2 rfl
  have HS : Hid (Slides w B (.slice (some ⟨b, off, none⟩) 0 0) F []) := s3
  have H1 : Hid (w.heap[g]? = some (.cells #[.slice (some ⟨b, off, none⟩) 1 1] 23 (0, 0))) := h1
  have H3 : Hid (¬ F g ∧ B ≤ g ∧ (∀ k, D k ↔ k = g ∨ F k)) := ⟨h3, h4, h5⟩
  clear h1 h2 h3 h5 s1 s2 s3
  simp only [List.length_nil, Nat.zero_add] at c0
  go_enter Tryz.func154, Tryz.ntmps154
  go_wp2
  go_ret
  exact ⟨rfl, fifo_stored H3.out.1 H3.out.2.1 H3.out.2.2 hgl (Below.refl _ _) (Nat.le_refl _) (But.refl _ _) H1.out HS.out (fun _ h => .inl h)⟩
set_option maxHeartbeats 1000000 in
theorem fifoRest (B g : Nat) (D : Nat → Prop) (q : List Nat) (w : World) (h : HeldF B g w D q) :
  Calls Tryz.prog 155 #[.pointer (some ⟨g, 0, none⟩)] w fun e w' => e = .returned (.int .i64 (q.length : Int)) ∧ w' = w := by
 obtain ⟨v, F, h1, h2, h3, h4, h5⟩ := h
 obtain ⟨ao, cap, rfl, hlc, hcm⟩ := h2.form
 have c0 := cell_of_one h1
 unfold maxLen at hcm
 clear h1 h2 h3 h5
 go_enter Tryz.func155, Tryz.ntmps155
 go_wp2
 go_ret
 exact ⟨rfl, rfl⟩
def ruleF (g : Nat) : Value := .agg #[.func (.func 153) #[] #[.pointer (some ⟨g, 0, none⟩)], .func (.func 154) #[] #[.pointer (some ⟨g, 0, none⟩)], .func (.func 155) #[] #[.pointer (some ⟨g, 0, none⟩)]]
theorem QueOn.after {B g : Nat} {w w1 w' : World} {D : Nat → Prop} {q : List Nat} (hb : Below w.heap.size w w1) (h : QueOn B g w1 w' D q) : QueOn B g w w' D q := by
 obtain ⟨D', h1, h2, h3⟩ := h
 refine ⟨D', h1, (But.ofBelow hb).trans h2, fun k hk => ?_⟩
 rcases h3 k hk with h | h
 · exact .inl h
 · exact .inr (Nat.le_trans hb.size h)
theorem HeldF.alloc {B g : Nat} {w : World} {D : Nat → Prop} {q : List Nat} (h : HeldF B g w D q) (o : Obj) : HeldF B g (w.alloc o) D q :=
 h.but (S := fun _ => False) (.ofBelow ((Below.refl _ _).alloc (Nat.le_refl _) _)) (fun _ _ h => h)
set_option maxHeartbeats 1000000 in
theorem fifoRuleRest (B g : Nat) (D : Nat → Prop) (q : List Nat) (w : World) (h : HeldF B g w D q) :
  Calls Tryz.prog 220 #[ruleF g] w fun e w' => e = .returned (.int .i64 (q.length : Int)) ∧ QueOn B g w w' D q := by
 have HH : Hid (HeldF B g w D q) := h
 clear h
 unfold ruleF
 go_enter Tryz.func220, Tryz.ntmps220
 go_wp2_with fail
 refine (fifoRest B g D q _ (HH.out.alloc _)).mono ?_
 rintro e w1 ⟨rfl, rfl⟩
 go_wp2_with fail
 go_ret
 exact ⟨rfl, D, HH.out.alloc _, .ofBelow ((Below.refl _ _).alloc (Nat.le_refl _) _), fun k hk => .inl hk⟩
set_option maxHeartbeats 1000000 in
theorem fifoRulePick (B g : Nat) (D : Nat → Prop) (q : List Nat) (k : Nat) (w : World) (h : HeldF B g w D (k :: q)) (hn : q.length ≤ 1000) :
  Calls Tryz.prog 219 #[ruleF g] w fun e w' => e = .returned (.int .i64 (k : Int)) ∧ QueOn B g w w' D q := by
 have HH : Hid (HeldF B g w D (k :: q)) := h
 clear h
 unfold ruleF
 go_enter Tryz.func219, Tryz.ntmps219
 go_wp2_with fail
 refine (fifoPick B g D q k _ (HH.out.alloc _) hn).mono ?_
 rintro e w1 ⟨rfl, ho⟩
 have HO : Hid (QueOn B g w w1 D q) := ho.after ((Below.refl _ _).alloc (Nat.le_refl _) _)
 clear ho
 go_wp2_with fail
 go_ret
 exact ⟨rfl, HO.out⟩
set_option maxHeartbeats 1000000 in
theorem fifoRuleCome (B g : Nat) (D : Nat → Prop) (q : List Nat) (k : Nat) (w : World) (h : HeldF B g w D q) (hn : q.length ≤ 1000) :
  Calls Tryz.prog 218 #[ruleF g, .int .i64 (k : Int)] w fun e w' => e = .returned (.tuple #[]) ∧ QueOn B g w w' D (q ++ [k]) := by
 have HH : Hid (HeldF B g w D q) := h
 clear h
 unfold ruleF
 go_enter Tryz.func218, Tryz.ntmps218
 go_wp2_with fail
 refine (fifoCome B g D q k _ (HH.out.alloc _) hn).mono ?_
 rintro e w1 ⟨rfl, ho⟩
 have HO : Hid (QueOn B g w w1 D (q ++ [k])) := ho.after ((Below.refl _ _).alloc (Nat.le_refl _) _)
 clear ho
 go_wp2_with fail
 go_end0
 exact ⟨rfl, HO.out⟩
set_option maxHeartbeats 1000000 in
theorem inOrder_any (w : World) :
  Calls Tryz.prog 130 #[] w fun e w' => e = .returned (.iface 164 (ruleF w.heap.size)) ∧ HeldF w.heap.size w.heap.size w' (fun k => k = w.heap.size) [] ∧ Below w.heap.size w w' := by
 unfold ruleF
 go_enter Tryz.func130, Tryz.ntmps130
 go_wp2_with fail
 go_ret
 refine ⟨rfl, ⟨.slice none 0 0, fun _ => False, ?_, Slides.nil _ _, id, Nat.le_refl _, fun k => by simp⟩, (Below.refl _ _).alloc (Nat.le_refl _) _⟩
 exact heap_alloc_new w _
end Go.Proofs.YtibhkijaafdkoaaGreatDoor

namespace Go.Proofs.YtibhkijaafdkoaaGreatDoor
open Go.RowKit
theorem LiesP.at_lt {w : World} {a : Option Addr} {ps : List Pk} (h : LiesP w a ps) : ∀ ad, a = some ad → 0 < ps.length → ad.block < w.heap.size := by
 intro ad e h0
 obtain ⟨b, off, rfl, hlt, -⟩ := h.place h0
 cases e
 exact hlt
theorem fifoMem (B g : Nat) : QueMem (HeldF B g) B := ⟨fun _ _ _ h => h.foot, fun _ _ _ _ _ h hb hs _ => h.but hb hs⟩
theorem fifoSend_ok (a : Option Addr) (cap : Nat) (ps : List Pk) (per : Int) (g : Nat) (w : World) (hl : LiesP w a ps) (ho : OkPks ps) (h1 : 1 ≤ per) (h2 : per ≤ 1000) (ha : ∀ ad, a = some ad → 0 < ps.length → ad.block < g) (h0 : HeldF g g w (fun k => k = g) []) :
  Calls Tryz.prog 59 #[.slice a ps.length cap, .int .i64 per, .iface 164 (ruleF g)] w fun e w' => ∃ v, e = .returned v ∧ OwnS w' w.heap.size v (lindAll per ps ps.length) ∧ Below g w w' := by
 have hlaw := fifo_law (per := per) (by omega) ho
 have hgw : g ≤ w.heap.size := Nat.le_of_lt (h0.foot g rfl).2
 refine (send_any fifoQ (HeldF g g) per ps [] g _ _ _ (fifoMem g g) hlaw ho h1 h2 ?_ ?_ ?_ a cap w hl hgw ha _ h0).mono ?_
 ·
  intro w D s p hr hp hh
  have hc := hr.count hlaw
  have hn := hr.next_le
  have := ho.few
  exact fifoRuleCome g g D s.q s.next w hh (by have : fifoQ.rest s.q = s.q.length := rfl; omega)
 ·
  intro w D s hr h0 hh
  have hc := hr.count hlaw
  have hn := hr.next_le
  have := ho.few
  have hlen : s.q.length ≤ 1000 := by have : fifoQ.rest s.q = s.q.length := rfl; omega
  have h0' : 0 < s.q.length := h0
  obtain ⟨k, q, hq⟩ : ∃ k q, s.q = k :: q := by
   cases h : s.q with
   | nil => rw [h] at h0'; simp at h0'
   | cons k q => exact ⟨k, q, rfl⟩
  rw [hq] at hh hlen ⊢
  exact fifoRulePick g g D q k w hh (by simp at hlen; omega)
 ·
  intro w D s hr hh
  rw [asked_same _ (fun _ => rfl)]
  exact fifoRuleRest g g D s.q w hh
 ·
  rintro e w' ⟨s, v, rfl, hr, hn, hrest, hown, hb⟩
  exact ⟨v, rfl, by rw [← fifo_end (by omega) ho hr hn hrest]; exact hown, hb⟩
set_option maxHeartbeats 1000000 in
theorem fifoRun_ok (a : Option Addr) (cap : Nat) (ps : List Pk) (per : Int) (w : World) (hl : LiesP w a ps) (ho : OkPks ps) (h1 : 1 ≤ per) (h2 : per ≤ 1000) :
  Calls Tryz.prog 85 #[.slice a ps.length cap, .int .i64 per] w fun e w' => ∃ v, e = .returned (.tuple #[v, .nilIface]) ∧ OwnS w' w.heap.size v (lindAll per ps ps.length) ∧ Below w.heap.size w w' := by
 have HL : Hid (LiesP w a ps ∧ OkPks ps) := ⟨hl, ho⟩
 have HC : Hid (Calls Tryz.prog 52 #[.slice a ps.length cap, .int .i64 per] w fun e w' => e = .returned .nilIface ∧ Below w.heap.size w w') := linkCheck_ok a cap ps per w hl ho h1 h2
 clear hl ho
 go_enter Tryz.func85, Tryz.ntmps85
 go_wp2_with fail
 refine HC.out.mono ?_
 rintro e w1 ⟨rfl, hb⟩
 have HB1 : Hid (Below w.heap.size w w1) := hb
 clear hb
 go_wp2_with fail
 refine (inOrder_any w1).mono ?_
 rintro e w2 ⟨rfl, hh, hb⟩
 have HB2 : Hid (Below w1.heap.size w1 w2) := hb
 have HH : Hid (HeldF w1.heap.size w1.heap.size w2 (fun k => k = w1.heap.size) []) := hh
 have HLP : Hid (LiesP w2 a ps) := (HL.out.1.below HB1.out).below hb
 have HAt : Hid (∀ ad, a = some ad → 0 < ps.length → ad.block < w1.heap.size) := (HL.out.1.below HB1.out).at_lt
 clear hb hh
 go_wp2_with fail
 refine (fifoSend_ok a cap ps per w1.heap.size w2 HLP.out HL.out.2 h1 h2 HAt.out HH.out).mono ?_
 rintro e w3 ⟨v, rfl, hown, hb⟩
 have HO : Hid (OwnS w3 w.heap.size v (lindAll per ps ps.length) ∧ Below w.heap.size w w3) := ⟨ownsRow_mono hown (Nat.le_trans HB1.out.size HB2.out.size), HB1.out.trans ((HB2.out.mono HB1.out.size).trans (hb.mono HB1.out.size))⟩
 clear hown hb
 go_wp2_with fail
 go_ret2
 exact ⟨v, rfl, HO.out⟩
set_option maxHeartbeats 1000000 in
theorem fifoRun_err {R : TypeId → Value → World → Prop} (a : Option Addr) (n cap : Nat) (per : Int) (w : World) (h : Calls Tryz.prog 52 #[.slice a n cap, .int .i64 per] w fun e w' => ∃ ty v, e = .returned (.iface ty v) ∧ R ty v w') :
  Calls Tryz.prog 85 #[.slice a n cap, .int .i64 per] w fun e w' => ∃ ty v, e = .returned (.tuple #[.slice none 0 0, .iface ty v]) ∧ R ty v w' := by
 have HC : Hid (Calls Tryz.prog 52 #[.slice a n cap, .int .i64 per] w fun e w' => ∃ ty v, e = .returned (.iface ty v) ∧ R ty v w') := h
 clear h
 go_enter Tryz.func85, Tryz.ntmps85
 go_wp2_with fail
 refine HC.out.mono ?_
 rintro e w1 ⟨ty, v, rfl, hR⟩
 have HR : Hid (R ty v w1) := hR
 clear hR
 go_wp2_with fail
 go_ret2
 exact ⟨ty, v, rfl, HR.out⟩
end Go.Proofs.YtibhkijaafdkoaaGreatDoor

namespace Go.Proofs.YtibhkijaafdkoaaGreatDoor
open Go.RowKit
def SentBy (per : Int) (ps : List Pk) (keys : List Int) (B : Nat) (w : World) (v : Value) (w' : World) : Prop := ∃ l, OwnS w' w.heap.size v l ∧ Sched per ps keys l ∧ l.length = ps.length ∧ Below B w w'
theorem rankSend_ok (a : Option Addr) (cap : Nat) (ps : List Pk) (per : Int) (keys : List Int) (B : Nat) (W0 : World) (g gm f : Nat) (x1 x2 : Value) (D0 : Nat → Prop) (w : World) (hl : LiesP w a ps) (ho : OkPks ps) (h1 : 1 ≤ per) (h2 : per ≤ 1000) (ha : ∀ ad, a = some ad → 0 < ps.length → ad.block < B) (h0 : HeldR B W0 g gm (.func (.func f) #[] #[x1, x2]) w D0 [])
  (hf : ∀ args W, Sem.run Tryz.prog (callFunc f args) W = .ok (.enter f args) W)
  (hM : ∀ W k, Below B W0 W → k < ps.length → Calls Tryz.prog f #[.int .i64 ((k : Nat) : Int), x1, x2] W fun e w' => e = .returned (.int .i64 (keys.getD k 0)) ∧ ∃ m, w' = W.drewN m) :
  Calls Tryz.prog 59 #[.slice a ps.length cap, .int .i64 per, .iface 164 (ruleR g gm)] w fun e w' => ∃ v, e = .returned v ∧ SentBy per ps keys B w v w' := by
 have hP := waits_law keys
 have hlaw := ranked_law (per := per) (ps := ps) hP (by omega) ho
 have hBw : B ≤ w.heap.size := by
  obtain ⟨v, h, -⟩ := h0.row
  exact Nat.le_trans h0.apart.2.1 (Nat.le_of_lt (lt_of_block h))
 have hlen : ∀ s, Reaches (waits fun i => keys.getD i 0) per ps [] s → s.q.length ≤ 1000 := fun s hr => by
  have hc := hr.count hlaw
  have hn := hr.next_le
  have := ho.few
  have : (waits fun i => keys.getD i 0).rest s.q = s.q.length := rfl
  omega
 refine (send_any (waits fun i => keys.getD i 0) (HeldR B W0 g gm (.func (.func f) #[] #[x1, x2])) per ps [] B _ _ _ (rankMem B W0 g gm _) hlaw ho h1 h2 ?_ ?_ ?_ a cap w hl hBw ha D0 h0).mono ?_
 ·
  intro w D s p hr hp hh
  exact rankRuleCome B W0 g gm _ D s.q s.next w hh (hlen s hr)
 ·
  intro w D s hr h0' hh
  have hr' := ranked hP (by omega) ho hr
  exact rankRulePick B W0 g gm f x1 x2 (fun i => keys.getD i 0) ps.length D s.q w hh (hlen s hr) h0' (fun k hk => by have := ((hr'.wait k).1 hk).1; have := hr'.le; omega) hf hM
 ·
  intro w D s hr hh
  rw [asked_same _ (fun _ => rfl)]
  exact rankRuleRest B W0 g gm _ D s.q w hh
 ·
  rintro e w' ⟨s, v, rfl, hr, hn, hrest, hown, hb⟩
  obtain ⟨e1, e2⟩ := ranked_end hP (by omega) ho hr hn hrest
  exact ⟨v, rfl, s.out, hown, e1, e2, hb⟩
structure Boxed (w W : World) (p q : Value) : Prop where
 below : Below w.heap.size w W
 c1 : W.cell? ⟨w.heap.size, 0, none⟩ = some p
 c2 : W.cell? ⟨w.heap.size + 1, 0, none⟩ = some q
 lt : w.heap.size + 2 ≤ W.heap.size
theorem boxed_new (w : World) (p q : Value) (t u : TypeId) : Boxed w ((w.alloc (.cells #[p] t)).alloc (.cells #[q] u)) p q := by
 have hs : (w.alloc (.cells #[p] t)).heap.size = w.heap.size + 1 := by simp
 refine ⟨((Below.refl _ _).alloc (Nat.le_refl _) _).alloc (by rw [hs]; omega) _, cell_later ((Below.refl _ _).alloc (Nat.le_refl _) _) (by simp), ?_, by simp⟩
 rw [World.cell?_alloc_at _ _ _ _ hs.symm]
 rfl
theorem Boxed.later {w W W' : World} {p q : Value} (h : Boxed w W p q) (hb : Below W.heap.size W W') : Boxed w W' p q :=
 ⟨h.below.trans (hb.mono h.below.size), cell_later hb h.c1, cell_later hb h.c2, Nat.le_trans h.lt hb.size⟩
theorem SentBy.from {per : Int} {ps : List Pk} {keys : List Int} {B : Nat} {w w1 w' : World} {v : Value} (h : SentBy per ps keys B w1 v w') (hb : Below w.heap.size w w1) (hB : w.heap.size ≤ B) : SentBy per ps keys w.heap.size w v w' := by
 obtain ⟨l, h1, h2, h3, h4⟩ := h
 exact ⟨l, ownsRow_mono h1 hb.size, h2, h3, hb.trans (h4.mono hB)⟩
theorem callRun1 (args : Array Value) (W : World) : Sem.run Tryz.prog (callFunc 132 args) W = .ok (.enter 132 args) W := by kernel_rfl
theorem callDeadlines1 (args : Array Value) (W : World) : Sem.run Tryz.prog (callFunc 134 args) W = .ok (.enter 134 args) W := by kernel_rfl
theorem rankSend_run (a : Option Addr) (cap : Nat) (ps : List Pk) (per : Int) (na : Option Addr) (ncap : Nat) (ns : List Int) (w W W3 : World) (D0 : Nat → Prop) (hl : LiesP w a ps) (hn : LiesN w na ns) (ho : OkPks ps) (h1 : 1 ≤ per) (h2 : per ≤ 1000) (h8 : ns.length = 8) (hB : Boxed w W (.slice a ps.length cap) (.slice na ns.length ncap))
  (h0 : HeldR W.heap.size W (W.heap.size + 1) W.heap.size (.func (.func 132) #[] #[.pointer (some ⟨w.heap.size + 1, 0, none⟩), .pointer (some ⟨w.heap.size, 0, none⟩)]) W3 D0 []) (hb3 : Below W.heap.size W W3) :
  Calls Tryz.prog 59 #[.slice a ps.length cap, .int .i64 per, .iface 164 (ruleR (W.heap.size + 1) W.heap.size)] W3 fun e w' => ∃ v, e = .returned v ∧ SentBy per ps (rankKeys ps ns) w.heap.size w v w' := by
 have hlW := hl.below hB.below
 refine (rankSend_ok a cap ps per (rankKeys ps ns) W.heap.size W _ _ 132 _ _ D0 W3 (hlW.below hb3) ho h1 h2 hlW.at_lt h0 callRun1 (fun W' k hb hk => ?_)).mono ?_
 ·
  rw [rankKeys_get hk]
  exact rankKey ps ns w.heap.size (w.heap.size + 1) a cap na ncap W' k ((hB.later hb).c1) ((hB.later hb).c2) (hlW.below hb) ((hn.below hB.below).below hb) ho h8 hk
 ·
  rintro e w' ⟨v, rfl, h⟩
  exact ⟨v, rfl, h.from (hB.below.trans (hb3.mono hB.below.size)) hB.below.size⟩
theorem rankSend_due (a : Option Addr) (cap : Nat) (ps : List Pk) (per : Int) (na : Option Addr) (ncap : Nat) (ns : List Int) (w W W3 : World) (D0 : Nat → Prop) (hl : LiesP w a ps) (hn : LiesN w na ns) (ho : OkPks ps) (h1 : 1 ≤ per) (h2 : per ≤ 1000) (h8 : NumsOk 0 1099511627776 ns) (hB : Boxed w W (.slice a ps.length cap) (.slice na ns.length ncap))
  (h0 : HeldR W.heap.size W (W.heap.size + 1) W.heap.size (.func (.func 134) #[] #[.pointer (some ⟨w.heap.size, 0, none⟩), .pointer (some ⟨w.heap.size + 1, 0, none⟩)]) W3 D0 []) (hb3 : Below W.heap.size W W3) :
  Calls Tryz.prog 59 #[.slice a ps.length cap, .int .i64 per, .iface 164 (ruleR (W.heap.size + 1) W.heap.size)] W3 fun e w' => ∃ v, e = .returned v ∧ SentBy per ps (dueKeys ps ns) w.heap.size w v w' := by
 have hlW := hl.below hB.below
 refine (rankSend_ok a cap ps per (dueKeys ps ns) W.heap.size W _ _ 134 _ _ D0 W3 (hlW.below hb3) ho h1 h2 hlW.at_lt h0 callDeadlines1 (fun W' k hb hk => ?_)).mono ?_
 ·
  rw [dueKeys_get hk]
  exact dueKey ps ns w.heap.size (w.heap.size + 1) a cap na ncap W' k ((hB.later hb).c1) ((hB.later hb).c2) (hlW.below hb) ((hn.below hB.below).below hb) ho h8 hk
 ·
  rintro e w' ⟨v, rfl, h⟩
  exact ⟨v, rfl, h.from (hB.below.trans (hb3.mono hB.below.size)) hB.below.size⟩
set_option maxRecDepth 100000 in
set_option maxHeartbeats 2000000 in
theorem rankRun_ok (a : Option Addr) (cap : Nat) (ps : List Pk) (per : Int) (na : Option Addr) (ncap : Nat) (ns : List Int) (w : World) (hl : LiesP w a ps) (hn : LiesN w na ns) (ho : OkPks ps) (h1 : 1 ≤ per) (h2 : per ≤ 1000) (hk : NumsOk 0 100 ns) :
  Calls Tryz.prog 86 #[.slice a ps.length cap, .int .i64 per, .slice na ns.length ncap] w fun e w' => ∃ v, e = .returned (.tuple #[v, .nilIface]) ∧ SentBy per ps (rankKeys ps ns) w.heap.size w v w' := by
 have HX0 := boxed_new w (.slice a ps.length cap) (.slice na ns.length ncap) 43 23
 have HX : Hid (Boxed w ((w.alloc (.cells #[.slice a ps.length cap] 43)).alloc (.cells #[.slice na ns.length ncap] 23)) (.slice a ps.length cap) (.slice na ns.length ncap)) := HX0
 obtain ⟨-, k1, k2, -⟩ := HX0
 have HCheck : Hid (∀ W, Below w.heap.size w W → Calls Tryz.prog 52 #[.slice a ps.length cap, .int .i64 per] W fun e w' => e = .returned .nilIface ∧ Below W.heap.size W w') := fun W hb => linkCheck_ok a cap ps per W (hl.below hb) ho h1 h2
 have HUp : Hid (∀ W, Below w.heap.size w W → Calls Tryz.prog 131 #[.slice na ns.length ncap, .int .i64 100] W fun e w' => e = .returned .nilIface ∧ Below W.heap.size W w') := fun W hb => checkUpTo_ok na ncap ns 100 W (hn.below hb) hk
 have HSend : Hid (∀ W W3 D0, Boxed w W (.slice a ps.length cap) (.slice na ns.length ncap) → HeldR W.heap.size W (W.heap.size + 1) W.heap.size (.func (.func 132) #[] #[.pointer (some ⟨w.heap.size + 1, 0, none⟩), .pointer (some ⟨w.heap.size, 0, none⟩)]) W3 D0 [] → Below W.heap.size W W3 →
   Calls Tryz.prog 59 #[.slice a ps.length cap, .int .i64 per, .iface 164 (ruleR (W.heap.size + 1) W.heap.size)] W3 fun e w' => ∃ v, e = .returned v ∧ SentBy per ps (rankKeys ps ns) w.heap.size w v w') := fun W W3 D0 hB h0 hb3 => rankSend_run a cap ps per na ncap ns w W W3 D0 hl hn ho h1 h2 hk.len hB h0 hb3
 clear hl hn ho hk
 generalize hpl : ps.length = n at *
 generalize hnl : ns.length = m at *
 clear hpl hnl
 go_enter Tryz.func86, Tryz.ntmps86
 go_wp2_with fail
 refine (HCheck.out _ HX.out.below).mono ?_
 rintro e w1 ⟨rfl, hb⟩
 have HX1 : Hid (Boxed w w1 (.slice a n cap) (.slice na m ncap)) := HX.out.later hb
 have c11 := HX1.out.c1
 have c12 := HX1.out.c2
 clear hb k1 k2
 go_wp2_with fail
 refine (HUp.out _ HX1.out.below).mono ?_
 rintro e w2 ⟨rfl, hb⟩
 have HX2 : Hid (Boxed w w2 (.slice a n cap) (.slice na m ncap)) := HX1.out.later hb
 have c21 := HX2.out.c1
 have c22 := HX2.out.c2
 clear hb c11 c12
 have HLeast : Hid (Calls Tryz.prog 133 #[.func (.func 132) #[] #[.pointer (some ⟨w.heap.size + 1, 0, none⟩), .pointer (some ⟨w.heap.size, 0, none⟩)]] w2.drew fun e w' => e = .returned (.iface 164 (ruleR (w2.heap.size + 1) w2.heap.size)) ∧ HeldR w2.heap.size w2.drew (w2.heap.size + 1) w2.heap.size (.func (.func 132) #[] #[.pointer (some ⟨w.heap.size + 1, 0, none⟩), .pointer (some ⟨w.heap.size, 0, none⟩)]) w' (fun k => k = w2.heap.size + 1 ∨ k = w2.heap.size) [] ∧ Below w2.heap.size w2.drew w') := leastFirst_any _ 132 _ _ rfl w2.drew
 have HXd : Hid (Boxed w w2.drew (.slice a n cap) (.slice na m ncap)) := HX2.out.later (below_drewN (Below.refl _ _) 1)
 have HS2 : Hid (∀ W3 D0, HeldR w2.heap.size w2.drew (w2.heap.size + 1) w2.heap.size (.func (.func 132) #[] #[.pointer (some ⟨w.heap.size + 1, 0, none⟩), .pointer (some ⟨w.heap.size, 0, none⟩)]) W3 D0 [] → Below w2.heap.size w2.drew W3 →
   Calls Tryz.prog 59 #[.slice a n cap, .int .i64 per, .iface 164 (ruleR (w2.heap.size + 1) w2.heap.size)] W3 fun e w' => ∃ v, e = .returned v ∧ SentBy per ps (rankKeys ps ns) w.heap.size w v w') := fun W3 D0 h0 hb3 => HSend.out w2.drew W3 D0 HXd.out h0 hb3
 go_wp2_with fail
 go_region_with (first
  | (go_simp; go_at_call 133; go_must (refine HLeast.out.mono ?_; rintro e w3 ⟨rfl, hh, hb⟩; have c31 : w3.cell? ⟨w.heap.size, 0, none⟩ = some (.slice a n cap) := (HXd.out.later hb).c1; have HC2 : Hid (Calls Tryz.prog 59 #[.slice a n cap, .int .i64 per, .iface 164 (ruleR (w2.heap.size + 1) w2.heap.size)] w3 fun e w' => ∃ v, e = .returned v ∧ SentBy per ps (rankKeys ps ns) w.heap.size w v w') := HS2.out w3 _ hh hb; clear hh hb))
  | (go_simp; go_at_call 59; go_must (refine HC2.out.mono ?_; rintro e w4 ⟨v, rfl, hs⟩; have HE : Hid (SentBy per ps (rankKeys ps ns) w.heap.size w v w4) := hs; clear hs))
  | fail)
 all_goals (go_wp2_with fail)
 all_goals (go_ret2; exact ⟨v, rfl, HE.out⟩)
set_option maxRecDepth 100000 in
set_option maxHeartbeats 2000000 in
theorem rankDue_ok (a : Option Addr) (cap : Nat) (ps : List Pk) (per : Int) (na : Option Addr) (ncap : Nat) (ns : List Int) (w : World) (hl : LiesP w a ps) (hn : LiesN w na ns) (ho : OkPks ps) (h1 : 1 ≤ per) (h2 : per ≤ 1000) (hk : NumsOk 0 1099511627776 ns) :
  Calls Tryz.prog 87 #[.slice a ps.length cap, .int .i64 per, .slice na ns.length ncap] w fun e w' => ∃ v, e = .returned (.tuple #[v, .nilIface]) ∧ SentBy per ps (dueKeys ps ns) w.heap.size w v w' := by
 have HX0 := boxed_new w (.slice a ps.length cap) (.slice na ns.length ncap) 43 23
 have HX : Hid (Boxed w ((w.alloc (.cells #[.slice a ps.length cap] 43)).alloc (.cells #[.slice na ns.length ncap] 23)) (.slice a ps.length cap) (.slice na ns.length ncap)) := HX0
 obtain ⟨-, k1, k2, -⟩ := HX0
 have HCheck : Hid (∀ W, Below w.heap.size w W → Calls Tryz.prog 52 #[.slice a ps.length cap, .int .i64 per] W fun e w' => e = .returned .nilIface ∧ Below W.heap.size W w') := fun W hb => linkCheck_ok a cap ps per W (hl.below hb) ho h1 h2
 have HUp : Hid (∀ W, Below w.heap.size w W → Calls Tryz.prog 131 #[.slice na ns.length ncap, .int .i64 1099511627776] W fun e w' => e = .returned .nilIface ∧ Below W.heap.size W w') := fun W hb => checkUpTo_ok na ncap ns 1099511627776 W (hn.below hb) hk
 have HSend : Hid (∀ W W3 D0, Boxed w W (.slice a ps.length cap) (.slice na ns.length ncap) → HeldR W.heap.size W (W.heap.size + 1) W.heap.size (.func (.func 134) #[] #[.pointer (some ⟨w.heap.size, 0, none⟩), .pointer (some ⟨w.heap.size + 1, 0, none⟩)]) W3 D0 [] → Below W.heap.size W W3 →
   Calls Tryz.prog 59 #[.slice a ps.length cap, .int .i64 per, .iface 164 (ruleR (W.heap.size + 1) W.heap.size)] W3 fun e w' => ∃ v, e = .returned v ∧ SentBy per ps (dueKeys ps ns) w.heap.size w v w') := fun W W3 D0 hB h0 hb3 => rankSend_due a cap ps per na ncap ns w W W3 D0 hl hn ho h1 h2 hk hB h0 hb3
 clear hl hn ho hk
 generalize hpl : ps.length = n at *
 generalize hnl : ns.length = m at *
 clear hpl hnl
 go_enter Tryz.func87, Tryz.ntmps87
 go_wp2_with fail
 refine (HCheck.out _ HX.out.below).mono ?_
 rintro e w1 ⟨rfl, hb⟩
 have HX1 : Hid (Boxed w w1 (.slice a n cap) (.slice na m ncap)) := HX.out.later hb
 have c11 := HX1.out.c1
 have c12 := HX1.out.c2
 clear hb k1 k2
 go_wp2_with fail
 refine (HUp.out _ HX1.out.below).mono ?_
 rintro e w2 ⟨rfl, hb⟩
 have HX2 : Hid (Boxed w w2 (.slice a n cap) (.slice na m ncap)) := HX1.out.later hb
 have c21 := HX2.out.c1
 have c22 := HX2.out.c2
 clear hb c11 c12
 have HLeast : Hid (Calls Tryz.prog 133 #[.func (.func 134) #[] #[.pointer (some ⟨w.heap.size, 0, none⟩), .pointer (some ⟨w.heap.size + 1, 0, none⟩)]] w2.drew fun e w' => e = .returned (.iface 164 (ruleR (w2.heap.size + 1) w2.heap.size)) ∧ HeldR w2.heap.size w2.drew (w2.heap.size + 1) w2.heap.size (.func (.func 134) #[] #[.pointer (some ⟨w.heap.size, 0, none⟩), .pointer (some ⟨w.heap.size + 1, 0, none⟩)]) w' (fun k => k = w2.heap.size + 1 ∨ k = w2.heap.size) [] ∧ Below w2.heap.size w2.drew w') := leastFirst_any _ 134 _ _ rfl w2.drew
 have HXd : Hid (Boxed w w2.drew (.slice a n cap) (.slice na m ncap)) := HX2.out.later (below_drewN (Below.refl _ _) 1)
 have HS2 : Hid (∀ W3 D0, HeldR w2.heap.size w2.drew (w2.heap.size + 1) w2.heap.size (.func (.func 134) #[] #[.pointer (some ⟨w.heap.size, 0, none⟩), .pointer (some ⟨w.heap.size + 1, 0, none⟩)]) W3 D0 [] → Below w2.heap.size w2.drew W3 →
   Calls Tryz.prog 59 #[.slice a n cap, .int .i64 per, .iface 164 (ruleR (w2.heap.size + 1) w2.heap.size)] W3 fun e w' => ∃ v, e = .returned v ∧ SentBy per ps (dueKeys ps ns) w.heap.size w v w') := fun W3 D0 h0 hb3 => HSend.out w2.drew W3 D0 HXd.out h0 hb3
 go_wp2_with fail
 go_region_with (first
  | (go_simp; go_at_call 133; go_must (refine HLeast.out.mono ?_; rintro e w3 ⟨rfl, hh, hb⟩; have c31 : w3.cell? ⟨w.heap.size, 0, none⟩ = some (.slice a n cap) := (HXd.out.later hb).c1; have HC2 : Hid (Calls Tryz.prog 59 #[.slice a n cap, .int .i64 per, .iface 164 (ruleR (w2.heap.size + 1) w2.heap.size)] w3 fun e w' => ∃ v, e = .returned v ∧ SentBy per ps (dueKeys ps ns) w.heap.size w v w') := HS2.out w3 _ hh hb; clear hh hb))
  | (go_simp; go_at_call 59; go_must (refine HC2.out.mono ?_; rintro e w4 ⟨v, rfl, hs⟩; have HE : Hid (SentBy per ps (dueKeys ps ns) w.heap.size w v w4) := hs; clear hs))
  | fail)
 all_goals (go_wp2_with fail)
 all_goals (go_ret2; exact ⟨v, rfl, HE.out⟩)
set_option maxRecDepth 100000 in
set_option maxHeartbeats 1000000 in
theorem rankRun_err1 {R : TypeId → Value → World → Prop} (a : Option Addr) (n cap : Nat) (per : Int) (na : Option Addr) (m ncap : Nat) (w : World) (h : ∀ W, Boxed w W (.slice a n cap) (.slice na m ncap) → Calls Tryz.prog 52 #[.slice a n cap, .int .i64 per] W fun e w' => ∃ ty v, e = .returned (.iface ty v) ∧ R ty v w') :
  Calls Tryz.prog 86 #[.slice a n cap, .int .i64 per, .slice na m ncap] w fun e w' => ∃ ty v, e = .returned (.tuple #[.slice none 0 0, .iface ty v]) ∧ R ty v w' := by
 have HX0 := boxed_new w (.slice a n cap) (.slice na m ncap) 43 23
 have HX : Hid (Boxed w ((w.alloc (.cells #[.slice a n cap] 43)).alloc (.cells #[.slice na m ncap] 23)) (.slice a n cap) (.slice na m ncap)) := HX0
 obtain ⟨-, k1, k2, -⟩ := HX0
 have HC : Hid (∀ W, Boxed w W (.slice a n cap) (.slice na m ncap) → Calls Tryz.prog 52 #[.slice a n cap, .int .i64 per] W fun e w' => ∃ ty v, e = .returned (.iface ty v) ∧ R ty v w') := h
 clear h
 go_enter Tryz.func86, Tryz.ntmps86
 go_wp2_with fail
 refine (HC.out _ HX.out).mono ?_
 rintro e w1 ⟨ty, v, rfl, hR⟩
 have HR : Hid (R ty v w1) := hR
 clear hR
 go_wp2_with fail
 go_ret2
 exact ⟨ty, v, rfl, HR.out⟩
set_option maxRecDepth 100000 in
set_option maxHeartbeats 1000000 in
theorem rankRun_err2 {R : TypeId → Value → World → Prop} (a : Option Addr) (n cap : Nat) (per : Int) (na : Option Addr) (m ncap : Nat) (w : World) (h : ∀ W, Boxed w W (.slice a n cap) (.slice na m ncap) → Calls Tryz.prog 52 #[.slice a n cap, .int .i64 per] W fun e w' => e = .returned .nilIface ∧ Below W.heap.size W w')
  (h2 : ∀ W, Boxed w W (.slice a n cap) (.slice na m ncap) → Calls Tryz.prog 131 #[.slice na m ncap, .int .i64 100] W fun e w' => ∃ ty v, e = .returned (.iface ty v) ∧ R ty v w') :
  Calls Tryz.prog 86 #[.slice a n cap, .int .i64 per, .slice na m ncap] w fun e w' => ∃ ty v, e = .returned (.tuple #[.slice none 0 0, .iface ty v]) ∧ R ty v w' := by
 have HX0 := boxed_new w (.slice a n cap) (.slice na m ncap) 43 23
 have HX : Hid (Boxed w ((w.alloc (.cells #[.slice a n cap] 43)).alloc (.cells #[.slice na m ncap] 23)) (.slice a n cap) (.slice na m ncap)) := HX0
 obtain ⟨-, k1, k2, -⟩ := HX0
 have HC : Hid (∀ W, Boxed w W (.slice a n cap) (.slice na m ncap) → Calls Tryz.prog 52 #[.slice a n cap, .int .i64 per] W fun e w' => e = .returned .nilIface ∧ Below W.heap.size W w') := h
 have HU : Hid (∀ W, Boxed w W (.slice a n cap) (.slice na m ncap) → Calls Tryz.prog 131 #[.slice na m ncap, .int .i64 100] W fun e w' => ∃ ty v, e = .returned (.iface ty v) ∧ R ty v w') := h2
 clear h h2
 go_enter Tryz.func86, Tryz.ntmps86
 go_wp2_with fail
 refine (HC.out _ HX.out).mono ?_
 rintro e w1 ⟨rfl, hb⟩
 have HX1 : Hid (Boxed w w1 (.slice a n cap) (.slice na m ncap)) := HX.out.later hb
 have c12 := HX1.out.c2
 clear hb k1 k2
 go_wp2_with fail
 refine (HU.out _ HX1.out).mono ?_
 rintro e w2 ⟨ty, v, rfl, hR⟩
 have HR : Hid (R ty v w2) := hR
 clear hR
 go_wp2_with fail
 go_ret2
 exact ⟨ty, v, rfl, HR.out⟩
set_option maxRecDepth 100000 in
set_option maxHeartbeats 1000000 in
theorem rankDue_err1 {R : TypeId → Value → World → Prop} (a : Option Addr) (n cap : Nat) (per : Int) (na : Option Addr) (m ncap : Nat) (w : World) (h : ∀ W, Boxed w W (.slice a n cap) (.slice na m ncap) → Calls Tryz.prog 52 #[.slice a n cap, .int .i64 per] W fun e w' => ∃ ty v, e = .returned (.iface ty v) ∧ R ty v w') :
  Calls Tryz.prog 87 #[.slice a n cap, .int .i64 per, .slice na m ncap] w fun e w' => ∃ ty v, e = .returned (.tuple #[.slice none 0 0, .iface ty v]) ∧ R ty v w' := by
 have HX0 := boxed_new w (.slice a n cap) (.slice na m ncap) 43 23
 have HX : Hid (Boxed w ((w.alloc (.cells #[.slice a n cap] 43)).alloc (.cells #[.slice na m ncap] 23)) (.slice a n cap) (.slice na m ncap)) := HX0
 obtain ⟨-, k1, k2, -⟩ := HX0
 have HC : Hid (∀ W, Boxed w W (.slice a n cap) (.slice na m ncap) → Calls Tryz.prog 52 #[.slice a n cap, .int .i64 per] W fun e w' => ∃ ty v, e = .returned (.iface ty v) ∧ R ty v w') := h
 clear h
 go_enter Tryz.func87, Tryz.ntmps87
 go_wp2_with fail
 refine (HC.out _ HX.out).mono ?_
 rintro e w1 ⟨ty, v, rfl, hR⟩
 have HR : Hid (R ty v w1) := hR
 clear hR
 go_wp2_with fail
 go_ret2
 exact ⟨ty, v, rfl, HR.out⟩
set_option maxRecDepth 100000 in
set_option maxHeartbeats 1000000 in
theorem rankDue_err2 {R : TypeId → Value → World → Prop} (a : Option Addr) (n cap : Nat) (per : Int) (na : Option Addr) (m ncap : Nat) (w : World) (h : ∀ W, Boxed w W (.slice a n cap) (.slice na m ncap) → Calls Tryz.prog 52 #[.slice a n cap, .int .i64 per] W fun e w' => e = .returned .nilIface ∧ Below W.heap.size W w')
  (h2 : ∀ W, Boxed w W (.slice a n cap) (.slice na m ncap) → Calls Tryz.prog 131 #[.slice na m ncap, .int .i64 1099511627776] W fun e w' => ∃ ty v, e = .returned (.iface ty v) ∧ R ty v w') :
  Calls Tryz.prog 87 #[.slice a n cap, .int .i64 per, .slice na m ncap] w fun e w' => ∃ ty v, e = .returned (.tuple #[.slice none 0 0, .iface ty v]) ∧ R ty v w' := by
 have HX0 := boxed_new w (.slice a n cap) (.slice na m ncap) 43 23
 have HX : Hid (Boxed w ((w.alloc (.cells #[.slice a n cap] 43)).alloc (.cells #[.slice na m ncap] 23)) (.slice a n cap) (.slice na m ncap)) := HX0
 obtain ⟨-, k1, k2, -⟩ := HX0
 have HC : Hid (∀ W, Boxed w W (.slice a n cap) (.slice na m ncap) → Calls Tryz.prog 52 #[.slice a n cap, .int .i64 per] W fun e w' => e = .returned .nilIface ∧ Below W.heap.size W w') := h
 have HU : Hid (∀ W, Boxed w W (.slice a n cap) (.slice na m ncap) → Calls Tryz.prog 131 #[.slice na m ncap, .int .i64 1099511627776] W fun e w' => ∃ ty v, e = .returned (.iface ty v) ∧ R ty v w') := h2
 clear h h2
 go_enter Tryz.func87, Tryz.ntmps87
 go_wp2_with fail
 refine (HC.out _ HX.out).mono ?_
 rintro e w1 ⟨rfl, hb⟩
 have HX1 : Hid (Boxed w w1 (.slice a n cap) (.slice na m ncap)) := HX.out.later hb
 have c12 := HX1.out.c2
 clear hb k1 k2
 go_wp2_with fail
 refine (HU.out _ HX1.out).mono ?_
 rintro e w2 ⟨ty, v, rfl, hR⟩
 have HR : Hid (R ty v w2) := hR
 clear hR
 go_wp2_with fail
 go_ret2
 exact ⟨ty, v, rfl, HR.out⟩
end Go.Proofs.YtibhkijaafdkoaaGreatDoor
