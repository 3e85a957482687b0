/- What is wrong with packets and a link: the document's answer's LinkFault; Run's error with its number. -/
import Derived.Test.YtepnfioldbhffabDoorCPkts5
import Derived.Test.YtepnfioldbhffabDoorCFifo1
namespace Go.Proofs.YtepnfioldbhffabDoor
open Go.RowKit

/-- What is wrong, by the document: a number and a place. -/
def LinkFaultIs (ps : List Pk) (per c p : Int) : Prop :=
  (PksFault ps c p ∧ 0 < c) ∨ (OkPks ps ∧ (per < 1 ∨ 1000 < per) ∧ c = 2 ∧ p = -1) ∨ (OkPks ps ∧ 1 ≤ per ∧ per ≤ 1000 ∧ c = 0 ∧ p = -1)
theorem linkFault_is (ps : List Pk) (per : Int) : ∃ c p, LinkFaultIs ps per c p := by
  obtain ⟨c, p, h⟩ := pksFault_is ps
  rcases h.num with ⟨rfl, rfl, ho⟩ | h0
  · by_cases hp : per < 1 ∨ 1000 < per
    · exact ⟨2, -1, .inr (.inl ⟨ho, hp, rfl, rfl⟩)⟩
    · exact ⟨0, -1, .inr (.inr ⟨ho, by omega, by omega, rfl, rfl⟩)⟩
  · exact ⟨c, p, .inl ⟨h, h0⟩⟩
theorem LinkFaultIs.num {ps : List Pk} {per c p : Int} (h : LinkFaultIs ps per c p) : (c = 0 ∧ p = -1 ∧ OkPks ps ∧ 1 ≤ per ∧ per ≤ 1000) ∨ 0 < c := by
  rcases h with ⟨-, h⟩ | ⟨-, -, rfl, -⟩ | ⟨h1, h2, h3, h4, h5⟩
  · exact .inr h
  · exact .inr (by decide)
  · exact .inl ⟨h4, h5, h1, h2, h3⟩

set_option maxHeartbeats 1000000 in
theorem refLinkFault_core (a : Option Addr) (n cap : Nat) (per c p c' p' : Int) (w : World) (hf : ∀ w', Below w.heap.size w w' → Calls Tryd.prog 30 #[.slice a n cap] w' fun e w'' => e = .returned (.agg #[.int .i64 c, .int .i64 p]) ∧ Below w'.heap.size w' w'')
    (h : (c ≠ 0 ∧ c' = c ∧ p' = p) ∨ (c = 0 ∧ (per < 1 ∨ 1000 < per) ∧ c' = 2 ∧ p' = -1) ∨ (c = 0 ∧ 1 ≤ per ∧ per ≤ 1000 ∧ c' = c ∧ p' = p)) :
    Calls Tryd.prog 26 #[.slice a n cap, .int .i64 per] w fun e w' => e = .returned (.agg #[.int .i64 c', .int .i64 p']) ∧ Below w.heap.size w w' := by
  have HF : Hid (∀ w', Below w.heap.size w w' → Calls Tryd.prog 30 #[.slice a n cap] w' fun e w'' => e = .returned (.agg #[.int .i64 c, .int .i64 p]) ∧ Below w'.heap.size w' w'') := hf
  clear hf
  have hb0 : Below w.heap.size w (w.alloc (.cells #[.int .i64 0, .int .i64 0] 39)) := (Below.refl _ _).alloc (Nat.le_refl _) _
  have HB0 : Hid (Below w.heap.size w (w.alloc (.cells #[.int .i64 0, .int .i64 0] 39))) := hb0
  clear hb0
  rcases h with ⟨h0, rfl, rfl⟩ | ⟨rfl, h0, rfl, rfl⟩ | ⟨rfl, h1, h2, rfl, rfl⟩
  · have h0' : (c' == 0) = false := by simpa using h0
    go_enter Tryd.func26, Tryd.ntmps26
    go_wp2_with fail
    refine (HF.out _ HB0.out).mono ?_
    rintro e w1 ⟨rfl, hb⟩
    have hb2 : Below (w.alloc (.cells #[.int .i64 0, .int .i64 0] 39)).heap.size (w.alloc (.cells #[.int .i64 0, .int .i64 0] 39)) (w1.alloc (.cells #[.int .i64 c', .int .i64 p'] 39)) := hb.alloc hb.size _
    obtain ⟨k0, k1, f0, f1⟩ := (two_new w _ _ _).later hb2
    have HB1 : Hid (Below w.heap.size w (w1.alloc (.cells #[.int .i64 c', .int .i64 p'] 39))) := HB0.out.trans (hb2.mono (by simp))
    clear hb hb2
    go_wp2_with fail
    exact bodyPost_ret (v := .agg #[.int .i64 c', .int .i64 p']) (by simp [results, Tryd.results26, go_sem, k0, k1]) rfl ⟨rfl, (HB1.out.setCell (Nat.le_refl _) _).setCell (Nat.le_refl _) _⟩
  · rcases h0 with h0 | h0
    · go_enter Tryd.func26, Tryd.ntmps26
      go_wp2_with fail
      refine (HF.out _ HB0.out).mono ?_
      rintro e w1 ⟨rfl, hb⟩
      have hb2 : Below (w.alloc (.cells #[.int .i64 0, .int .i64 0] 39)).heap.size (w.alloc (.cells #[.int .i64 0, .int .i64 0] 39)) (w1.alloc (.cells #[.int .i64 0, .int .i64 p] 39)) := hb.alloc hb.size _
      have HT : Hid (Two w (w1.alloc (.cells #[.int .i64 0, .int .i64 p] 39)) (.int .i64 0) (.int .i64 0)) := (two_new w _ _ _).later hb2
      have HB1 : Hid (Below w.heap.size w (w1.alloc (.cells #[.int .i64 0, .int .i64 p] 39))) := HB0.out.trans (hb2.mono (by simp))
      clear hb hb2
      go_wp2_with fail
      refine (bare_any 2 _).mono ?_
      rintro e w3 ⟨rfl, hb3⟩
      obtain ⟨k0, k1, f0, f1⟩ := HT.out.later hb3
      have HB3 : Hid (Below w.heap.size w w3) := HB1.out.trans (hb3.mono HB1.out.size)
      clear hb3
      go_wp2_with fail
      exact bodyPost_ret (v := .agg #[.int .i64 2, .int .i64 (-1)]) (by simp [results, Tryd.results26, go_sem, k0, k1]) rfl ⟨rfl, (HB3.out.setCell (Nat.le_refl _) _).setCell (Nat.le_refl _) _⟩
    · have h0' : ¬ per < 1 := by omega
      go_enter Tryd.func26, Tryd.ntmps26
      go_wp2_with fail
      refine (HF.out _ HB0.out).mono ?_
      rintro e w1 ⟨rfl, hb⟩
      have hb2 : Below (w.alloc (.cells #[.int .i64 0, .int .i64 0] 39)).heap.size (w.alloc (.cells #[.int .i64 0, .int .i64 0] 39)) (w1.alloc (.cells #[.int .i64 0, .int .i64 p] 39)) := hb.alloc hb.size _
      have HT : Hid (Two w (w1.alloc (.cells #[.int .i64 0, .int .i64 p] 39)) (.int .i64 0) (.int .i64 0)) := (two_new w _ _ _).later hb2
      have HB1 : Hid (Below w.heap.size w (w1.alloc (.cells #[.int .i64 0, .int .i64 p] 39))) := HB0.out.trans (hb2.mono (by simp))
      clear hb hb2
      go_wp2_with fail
      refine (bare_any 2 _).mono ?_
      rintro e w3 ⟨rfl, hb3⟩
      obtain ⟨k0, k1, f0, f1⟩ := HT.out.later hb3
      have HB3 : Hid (Below w.heap.size w w3) := HB1.out.trans (hb3.mono HB1.out.size)
      clear hb3
      go_wp2_with fail
      exact bodyPost_ret (v := .agg #[.int .i64 2, .int .i64 (-1)]) (by simp [results, Tryd.results26, go_sem, k0, k1]) rfl ⟨rfl, (HB3.out.setCell (Nat.le_refl _) _).setCell (Nat.le_refl _) _⟩
  · have h3 : ¬ per < 1 := by omega
    have h4 : ¬ 1000 < per := by omega
    go_enter Tryd.func26, Tryd.ntmps26
    go_wp2_with fail
    refine (HF.out _ HB0.out).mono ?_
    rintro e w1 ⟨rfl, hb⟩
    have hb2 : Below (w.alloc (.cells #[.int .i64 0, .int .i64 0] 39)).heap.size (w.alloc (.cells #[.int .i64 0, .int .i64 0] 39)) (w1.alloc (.cells #[.int .i64 0, .int .i64 p'] 39)) := hb.alloc hb.size _
    obtain ⟨k0, k1, f0, f1⟩ := (two_new w _ _ _).later hb2
    have HB1 : Hid (Below w.heap.size w (w1.alloc (.cells #[.int .i64 0, .int .i64 p'] 39))) := HB0.out.trans (hb2.mono (by simp))
    clear hb hb2
    go_wp2_with fail
    exact bodyPost_ret (v := .agg #[.int .i64 0, .int .i64 p']) (by simp [results, Tryd.results26, go_sem, k0, k1]) rfl ⟨rfl, (HB1.out.setCell (Nat.le_refl _) _).setCell (Nat.le_refl _) _⟩

theorem refLinkFault_is (a : Option Addr) (cap : Nat) (ps : List Pk) (per c p : Int) (w : World) (hl : LiesP w a ps) (hcap : ps.length ≤ cap) (hm : cap ≤ maxLen) (h : LinkFaultIs ps per c p) :
    Calls Tryd.prog 26 #[.slice a ps.length cap, .int .i64 per] w fun e w' => e = .returned (.agg #[.int .i64 c, .int .i64 p]) ∧ Below w.heap.size w w' := by
  rcases h with ⟨h, h0⟩ | ⟨ho, hp, rfl, rfl⟩ | ⟨ho, h1, h2, rfl, rfl⟩
  · exact refLinkFault_core a ps.length cap per c p c p w (fun w' hb => pfault_is a cap ps w' (hl.below hb) hcap hm c p h) (.inl ⟨by omega, rfl, rfl⟩)
  · exact refLinkFault_core a ps.length cap per 0 (-1) 2 (-1) w (fun w' hb => pfault_is a cap ps w' (hl.below hb) hcap hm 0 (-1) (.inr (.inr ⟨ho, rfl, rfl⟩))) (.inr (.inl ⟨rfl, hp, rfl, rfl⟩))
  · exact refLinkFault_core a ps.length cap per 0 (-1) 0 (-1) w (fun w' hb => pfault_is a cap ps w' (hl.below hb) hcap hm 0 (-1) (.inr (.inr ⟨ho, rfl, rfl⟩))) (.inr (.inr ⟨rfl, h1, h2, rfl, rfl⟩))

/-- Check's error, by its number and place. -/
theorem linkCheck_is (a : Option Addr) (cap : Nat) (ps : List Pk) (per c p : Int) (w : World) (ad : Nat → Addr) (he : Errs9 w ad) (hl : LiesP w a ps) (hcap : ps.length ≤ cap) (hm : cap ≤ maxLen) (h : LinkFaultIs ps per c p) (hc : 0 < c) :
    Calls Tryd.prog 52 #[.slice a ps.length cap, .int .i64 per] w fun e w' => ∃ ty v, e = .returned (.iface ty v) ∧ (ErrIs w' (.iface ty v) c p ∧ Below w.heap.size w w') := by
  rcases h with ⟨h, h0⟩ | ⟨ho, hp, rfl, rfl⟩ | ⟨ho, h1, h2, rfl, rfl⟩
  · refine linkCheck_err (R := fun ty v w' => ErrIs w' (.iface ty v) c p ∧ Below w.heap.size w w') a ps.length cap per w ((pcheck_is a cap ps w ad he hl hcap hm c p h).mono ?_)
    rintro e w' ⟨E, rfl, hE, hb⟩
    obtain ⟨ty, v, rfl⟩ := hE.some_ (by omega)
    exact ⟨ty, v, rfl, hE, hb⟩
  · refine (linkCheck_per a cap ps per w ad he.bo hl ho hp).mono ?_
    rintro e w' ⟨rfl, hb⟩
    exact ⟨_, _, rfl, errIs_sent (he.below hb) 1 (by decide), hb⟩
  · omega
theorem fifoRun_is (a : Option Addr) (cap : Nat) (ps : List Pk) (per c p : Int) (w : World) (ad : Nat → Addr) (he : Errs9 w ad) (hl : LiesP w a ps) (hcap : ps.length ≤ cap) (hm : cap ≤ maxLen) (h : LinkFaultIs ps per c p) (hc : 0 < c) :
    Calls Tryd.prog 25 #[.slice a ps.length cap, .int .i64 per] w fun e w' => ∃ ty v, e = .returned (.tuple #[.slice none 0 0, .iface ty v]) ∧ (ErrIs w' (.iface ty v) c p ∧ Below w.heap.size w w') :=
  fifoRun_err (R := fun ty v w' => ErrIs w' (.iface ty v) c p ∧ Below w.heap.size w w') a ps.length cap per w (linkCheck_is a cap ps per c p w ad he hl hcap hm h hc)
end Go.Proofs.YtepnfioldbhffabDoor
