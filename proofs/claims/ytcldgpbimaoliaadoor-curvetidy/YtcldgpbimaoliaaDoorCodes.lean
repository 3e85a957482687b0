/- What plain.Code tells of an error. -/
import Derived.Test.YtcldgpbimaoliaaDoorErrs3
namespace Go.Proofs.YtcldgpbimaoliaaDoor
open Go.RowKit

/-- From world w0 on, Code gives the number c and the place a of the error E. -/
def CodeIs (w0 : World) (E : Value) (c a : Int) : Prop :=
  ∀ w, Below w0.heap.size w0 w → Calls Tryd.prog 16 #[E] w fun e w' => e = .returned (.tuple #[.int .i64 c, .int .i64 a]) ∧ Below w.heap.size w w'
theorem CodeIs.below {w w' : World} {E : Value} {c a : Int} (h : CodeIs w E c a) (hb : Below w.heap.size w w') : CodeIs w' E c a :=
  fun _ hb' => h _ (hb.trans (hb'.mono hb.size))
theorem codeIs_nil (w : World) : CodeIs w .nilIface 0 (-1) := fun w _ => (code_nil w).mono fun _ _ h => ⟨h.1, by rw [h.2]; exact Below.refl _ _⟩
theorem codeIs_sent {w : World} {ad : Nat → Addr} (he : Errs9 w ad) (k : Nat) (hk : k < 9) : CodeIs w (.iface 98 (.pointer (some (ad k)))) (k + 1) (-1) :=
  fun w' hb => code_sent ad k hk w' (he.below hb)
theorem codeIs_fault {w : World} {ad : Nat → Addr} (he : Errs9 w ad) (k : Nat) (hk : k < 9) (n : Int) (pb : Nat) (h0 : w.cell? ⟨pb, 0, none⟩ = some (.int .i64 n)) (h1 : w.cell? ⟨pb, 1, none⟩ = some (.iface 98 (.pointer (some (ad k))))) :
    CodeIs w (.iface 29 (.pointer (some ⟨pb, 0, none⟩))) (k + 1) n :=
  fun w' hb => code_fault ad k hk n pb w' (he.below hb) (cell_later hb h0) (cell_later hb h1)
theorem codeIs_other {w : World} {ad : Nat → Addr} (he : Errs9 w ad) (a : Addr) (hne : ∀ j, j < 9 → a ≠ ad j) (hba : ∃ c t, w.heap[a.block]? = some (.cells c t (0, 0))) : CodeIs w (.iface 98 (.pointer (some a))) (-1) (-1) :=
  fun w' hb => code_other ad a w' (he.below hb) hne (by obtain ⟨c, t, h⟩ := hba; exact ⟨c, t, block_later hb h⟩)

/-- An error as it is handed back: nil, or of a known number and place. -/
structure ErrIs (w : World) (E : Value) (c p : Int) : Prop where
  code : CodeIs w E c p
  none_ : c = 0 → E = .nilIface
  some_ : c ≠ 0 → ∃ ty v, E = .iface ty v
theorem ErrIs.below {w w' : World} {E : Value} {c p : Int} (h : ErrIs w E c p) (hb : Below w.heap.size w w') : ErrIs w' E c p := ⟨h.code.below hb, h.none_, h.some_⟩
theorem errIs_nil (w : World) : ErrIs w .nilIface 0 (-1) := ⟨codeIs_nil w, fun _ => rfl, fun h => absurd rfl h⟩
theorem errIs_sent {w : World} {ad : Nat → Addr} (he : Errs9 w ad) (k : Nat) (hk : k < 9) : ErrIs w (.iface 98 (.pointer (some (ad k)))) (k + 1) (-1) := ⟨codeIs_sent he k hk, fun h => by omega, fun _ => ⟨_, _, rfl⟩⟩
end Go.Proofs.YtcldgpbimaoliaaDoor
