/- Walks: the closed fact of the laws on audits, by what Check tells; so Check and Bytes alone are to be shown. -/
import Derived.Test.YtolbmkniafkeaaaDoorCAuLaw
namespace Go.Proofs.YtolbmkniafkeaaaDoor
open Go.RowKit

def au1 : Pk := ⟨0, 3, 5⟩
theorem okPks_au1 : OkPks [au1] := ⟨by decide, fun i p h => by
  match i, h with
  | 0, h => cases h; exact ⟨rfl, by decide⟩
  | i + 1, h => simp at h⟩
theorem tame_au (x : Sn) (h : tame x = true) : tameAll [x] := fun i y hy => by
  match i, hy with
  | 0, hy => cases hy; exact h
  | i + 1, hy => simp at hy
theorem audit_well : AuditAll 2 [au1] [⟨0, 5, 11⟩] 0 (-1) := .inr ⟨okPks_au1, by decide, by decide, .inr ⟨fun j y hy => by
  match j, hy with
  | 0, hy =>
    cases hy
    refine SentIs.may (.inr ⟨0, rfl, by decide, .inr ⟨rfl, .inr ⟨by decide, by decide, .inr ⟨by decide, .inr ⟨fun h => ?_, .inr ⟨rfl, fun h => ?_⟩⟩⟩⟩⟩⟩)
    · obtain ⟨-, i, hi, -, ht⟩ := h
      obtain rfl : i = 0 := by simpa using hi
      exact absurd ht (by decide)
    · obtain ⟨i, hi, -⟩ := h
      omega
  | j + 1, hy => simp at hy, rfl, .inr ⟨rfl, fun i hi => by
    obtain rfl : i = 0 := by simpa using hi
    rfl⟩⟩⟩
theorem audit_idle : AuditAll 2 [au1] [⟨0, 6, 12⟩] 7 0 := .inr ⟨okPks_au1, by decide, by decide, .inl ⟨0, ⟨0, 6, 12⟩, rfl, .inr ⟨0, rfl, by decide, .inr ⟨rfl, .inr ⟨by decide, by decide, .inr ⟨by decide, .inl ⟨rfl, by decide, 0, by decide, rfl, by decide⟩⟩⟩⟩⟩, by decide, rfl, fun j y hj => by omega⟩⟩
theorem lies_au1 (w : World) (t : TypeId) : LiesP (w.alloc (.cells #[.int .i64 0, .int .i64 3, .int .i64 5] t)) (some ⟨w.heap.size, 0, none⟩) [au1] :=
  .inr ⟨w.heap.size, 0, rfl, by simp, fun i p h => by
    match i, h with
    | 0, h => cases h; exact ⟨by simp [au1], by simp [au1], by simp [au1]⟩
    | i + 1, h => simp at h⟩
theorem lies_sn1 (w : World) (t : TypeId) (x : Sn) : LiesS (w.alloc (.cells #[.int .i64 x.num, .int .i64 x.beg, .int .i64 x.fin] t)) (some ⟨w.heap.size, 0, none⟩) [x] :=
  .inr ⟨w.heap.size, 0, rfl, by simp, fun i p h => by
    match i, h with
    | 0, h => cases h; exact ⟨by simp, by simp, by simp⟩
    | i + 1, h => simp at h⟩

set_option maxRecDepth 100000 in
set_option maxHeartbeats 2000000 in
theorem audited_by (check : ∀ (a : Option Addr) (cap : Nat) (ps : List Pk) (per : Int) (b : Option Addr) (bcap : Nat) (l : List Sn) (w : World) (ad : Nat → Addr) (c p : Int), Errs9 w ad → LiesP w a ps → ps.length ≤ cap → cap ≤ maxLen → LiesS w b l → l.length ≤ 300 → tameAll l → AuditAll per ps l c p →
    Calls Tryd.prog 9 #[.slice a ps.length cap, .int .i64 per, .slice b l.length bcap] w fun e w' => ∃ E, e = .returned E ∧ ErrIs w' E c p ∧ Below w.heap.size w w') (w : World) (ad : Nat → Addr) (he : Errs9 w ad) :
    Calls Tryd.prog 5 #[] w fun e w' => e = .returned (.bool true) ∧ Below w.heap.size w w' := by
  have H1 : Hid (∀ W pb sb, Below w.heap.size w W → LiesP W (some ⟨pb, 0, none⟩) [au1] → LiesS W (some ⟨sb, 0, none⟩) [⟨0, 5, 11⟩] → Calls Tryd.prog 9 #[.slice (some ⟨pb, 0, none⟩) 1 1, .int .i64 2, .slice (some ⟨sb, 0, none⟩) 1 1] W fun e w' => e = .returned .nilIface ∧ Below W.heap.size W w') := fun W pb sb hb g1 g2 => by
    refine (check (some ⟨pb, 0, none⟩) 1 [au1] 2 (some ⟨sb, 0, none⟩) 1 [⟨0, 5, 11⟩] W ad 0 (-1) (he.below hb) g1 (by decide) (by decide) g2 (by decide) (tame_au _ (by decide)) audit_well).mono ?_
    rintro e w' ⟨E, rfl, hE, hb'⟩
    exact ⟨by rw [hE.none_ rfl], hb'⟩
  have H2 : Hid (∀ W pb sb, Below w.heap.size w W → LiesP W (some ⟨pb, 0, none⟩) [au1] → LiesS W (some ⟨sb, 0, none⟩) [⟨0, 6, 12⟩] → Calls Tryd.prog 9 #[.slice (some ⟨pb, 0, none⟩) 1 1, .int .i64 2, .slice (some ⟨sb, 0, none⟩) 1 1] W fun e w' => ∃ E, e = .returned E ∧ CodeIs w' E 7 0 ∧ Below W.heap.size W w') := fun W pb sb hb g1 g2 => by
    refine (check (some ⟨pb, 0, none⟩) 1 [au1] 2 (some ⟨sb, 0, none⟩) 1 [⟨0, 6, 12⟩] W ad 7 0 (he.below hb) g1 (by decide) (by decide) g2 (by decide) (tame_au _ (by decide)) audit_idle).mono ?_
    rintro e w' ⟨E, rfl, hE, hb'⟩
    exact ⟨E, rfl, hE.code, hb'⟩
  clear he check
  go_enter Tryd.func5, Tryd.ntmps5
  go_wp2_with fail
  have hb1 : Below w.heap.size w (w.alloc (.cells #[.int .i64 0, .int .i64 3, .int .i64 5] 42)) := (Below.refl _ _).alloc (Nat.le_refl _) _
  have hp1 := lies_au1 w 42
  have hs : (w.alloc (.cells #[.int .i64 0, .int .i64 3, .int .i64 5] 42)).heap.size = w.heap.size + 1 := by simp
  obtain ⟨W1, hW1⟩ : ∃ W1, w.alloc (.cells #[.int .i64 0, .int .i64 3, .int .i64 5] 42) = W1 := ⟨_, rfl⟩
  rw [hW1] at hb1 hp1 hs ⊢
  have hb2 : Below W1.heap.size W1 (W1.alloc (.cells #[.int .i64 0, .int .i64 5, .int .i64 11] 44)) := (Below.refl _ _).alloc (Nat.le_refl _) _
  have hs1 : LiesS (W1.alloc (.cells #[.int .i64 0, .int .i64 5, .int .i64 11] 44)) (some ⟨W1.heap.size, 0, none⟩) [⟨0, 5, 11⟩] := lies_sn1 W1 44 ⟨0, 5, 11⟩
  rw [hs] at hs1
  have hbb := hb1.trans (hb2.mono hb1.size)
  refine (H1.out _ _ _ hbb (hp1.below hb2) hs1).mono ?_
  rintro e w2 ⟨rfl, hb3⟩
  have HB2 : Hid (Below w.heap.size w w2 ∧ LiesP w2 (some ⟨w.heap.size, 0, none⟩) [au1]) := ⟨hbb.trans (hb3.mono hbb.size), (hp1.below hb2).below hb3⟩
  clear hb1 hp1 hs hW1 hb2 hs1 hbb hb3
  go_wp2_with fail
  have hb4 : Below w2.heap.size w2 (w2.alloc (.cells #[.int .i64 0, .int .i64 6, .int .i64 12] 44)) := (Below.refl _ _).alloc (Nat.le_refl _) _
  have hs4 : LiesS (w2.alloc (.cells #[.int .i64 0, .int .i64 6, .int .i64 12] 44)) (some ⟨w2.heap.size, 0, none⟩) [⟨0, 6, 12⟩] := lies_sn1 w2 44 ⟨0, 6, 12⟩
  have hbc := HB2.out.1.trans (hb4.mono HB2.out.1.size)
  refine (H2.out _ _ _ hbc (HB2.out.2.below hb4) hs4).mono ?_
  rintro e w5 ⟨E, rfl, hE, hb5⟩
  have HB5 : Hid (Below w.heap.size w w5 ∧ CodeIs w5 E 7 0) := ⟨hbc.trans (hb5.mono hbc.size), hE⟩
  clear hb4 hs4 hbc hE hb5
  go_wp2_with fail
  refine (faulted_yes E 7 0 _ HB5.out.2).mono ?_
  rintro e w6 ⟨rfl, hb6⟩
  have HB6 : Hid (Below w.heap.size w w6) := HB5.out.1.trans (hb6.mono HB5.out.1.size)
  clear hb6
  go_wp2_with fail
  go_ret
  exact ⟨rfl, HB6.out⟩
end Go.Proofs.YtolbmkniafkeaaaDoor
