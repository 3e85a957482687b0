/- Walks: the closed fact of the bucket laws. -/
import Derived.Test.YtlknljbceppedaaDoorCBucket5
import Derived.Test.YtlknljbceppedaaDoorCAllPkts
namespace Go.Proofs.YtlknljbceppedaaDoor
open Go.RowKit

def bk1 : Bk := ⟨3000, 500, 0, 0⟩
def bk2 : Bk := ⟨3000, 500, 500, 1⟩
theorem bk_take1 : (bkOf (3, 500)).take 0 3 = bk1 := rfl
theorem bk_take2 : bk1.take 1 1 = bk2 := rfl

set_option maxHeartbeats 1000000 in
theorem filled_any (w : World) (ad : Nat → Addr) (he : Errs4 w ad) :
    Calls Tryd.prog 37 #[] w fun e w' => e = .returned (.bool true) ∧ Below w.heap.size w w' := by
  have HE : Hid (Errs4 w ad) := he
  clear he
  go_enter Tryd.func37, Tryd.ntmps37
  go_wp2_with fail
  refine (new_ok 3 500 _ rfl).mono ?_
  rintro e w1 ⟨g, rfl, hg, hk1, hb1⟩
  have HG : Hid (w.heap.size ≤ g) := hg
  have HK1 : Hid (BkAt w1 g (bkOf (3, 500))) := hk1
  have HB1 : Hid (Below w.heap.size w w1) := hb1
  clear hg hk1 hb1
  go_wp2_with fail
  refine (take_ok g (bkOf (3, 500)) 0 3 _ ad (HE.out.below HB1.out) HK1.out (bkOf_ok rfl) rfl).mono ?_
  rintro e w2 ⟨rfl, hk2, hb2⟩
  rw [bk_take1] at hk2
  have HK2 : Hid (BkAt w2 g bk1) := hk2
  have HB2 : Hid (Below w.heap.size w w2) := HB1.out.trans (hb2.one HB1.out.size HG.out)
  clear hk2 hb2
  rw [show decide ((3 : Int) * 1000 ≤ (bkOf (3, 500)).lev 0) = true by decide]
  go_wp2_with fail
  refine (take_ok g bk1 1 1 _ ad (HE.out.below HB2.out) HK2.out (by constructor <;> decide) rfl).mono ?_
  rintro e w3 ⟨rfl, hk3, hb3⟩
  rw [bk_take2] at hk3
  have HK3 : Hid (BkAt w3 g bk2) := hk3
  have HB3 : Hid (Below w.heap.size w w3) := HB2.out.trans (hb3.one HB2.out.size HG.out)
  clear hk3 hb3
  rw [show decide ((1 : Int) * 1000 ≤ bk1.lev 1) = false by decide]
  go_wp2_with fail
  refine (when_ok g bk2 1 1 _ ad (HE.out.below HB3.out) HK3.out (by constructor <;> decide) rfl).mono ?_
  rintro e w4 ⟨rfl, hb4⟩
  have HB4 : Hid (Below w.heap.size w w4) := HB3.out.trans (hb4.mono HB3.out.size)
  clear hb4
  rw [show whenVal ad (bk2.when 1 1) = .tuple #[.int .i64 2, .nilIface] by rw [show bk2.when 1 1 = some 2 by decide]; rfl]
  go_wp2_with fail
  refine (pcheck_ok none 0 [] _ (.inl rfl) okPks_none).mono ?_
  rintro e w5 ⟨rfl, hb5⟩
  have HB5 : Hid (Below w.heap.size w w5) := HB4.out.trans (hb5.mono HB4.out.size)
  clear hb5
  go_wp2_with fail
  go_ret
  exact ⟨rfl, HB5.out⟩
end Go.Proofs.YtlknljbceppedaaDoor
