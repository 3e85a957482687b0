/- FairShares: its ways. -/
import Derived.Test.YtcmgmcngidndcabDoorCTagged
import Derived.Test.YtcmgmcngidndcabDoorCAllSpreads
import Derived.Test.YtcmgmcngidndcabDoorCRankBad
import Derived.Test.YtcmgmcngidndcabDoorCFitPkts
namespace Go.Proofs.YtcmgmcngidndcabDoor
open Go.RowKit

theorem fairCheck_bad (a : Option Addr) (cap : Nat) (ps : List Pk) (per : Int) (na : Option Addr) (ncap : Nat) (ns : List Int) (w : World) (ad : Nat → Addr) (he : ErrsBO w ad) (he2 : NumErrs w ad) (hl : LiesP w a ps) (hcap : ps.length ≤ cap) (hm : cap ≤ maxLen) (hn : LiesN w na ns) (hno : ¬ (OkPks ps ∧ 1 ≤ per ∧ per ≤ 1000 ∧ WtsAll ns)) :
    Calls Tryd.prog 72 #[.slice a ps.length cap, .int .i64 per, .slice na ns.length ncap] w fun e w' => ∃ ty v, e = .returned (.iface ty v) ∧ Below w.heap.size w w' := by
  by_cases hok : OkPks ps ∧ 1 ≤ per ∧ per ≤ 1000
  · refine fairCheck_err2 (R := fun _ _ w' => Below w.heap.size w w') a _ cap per na _ ncap w (linkCheck_ok a cap ps per w hl hok.1 hok.2.1 hok.2.2) (fun W hb => ?_)
    obtain ⟨c, hc⟩ := wtsFault_is ns
    have h0 : 0 < c := by
      rcases hc with ⟨rfl, -⟩ | ⟨rfl, -⟩ | ⟨-, h⟩
      · decide
      · decide
      · exact absurd ⟨hok.1, hok.2.1, hok.2.2, h⟩ hno
    refine (checkWeights_bad na ncap ns W ad (he2.below hb) (hn.below hb) c hc h0).mono ?_
    rintro e w' ⟨rfl, rfl⟩
    cases c with
    | zero => omega
    | succ c => exact ⟨_, _, rfl, hb⟩
  · exact fairCheck_err1 (R := fun _ _ w' => Below w.heap.size w w') a _ cap per na _ ncap w (linkCheck_bad a cap ps per w ad he hl hcap hm hok)
/-- The greatest size of a flow's packets among the first k. -/
def maxFl (ps : List Pk) (f : Nat) : Nat → Int
  | 0 => 0
  | k + 1 => match ps[k]? with | some p => (if p.flow = (f : Int) then max (maxFl ps f k) p.size else maxFl ps f k) | none => maxFl ps f k
theorem maxFl_succ {ps : List Pk} {f k : Nat} {p : Pk} (h : ps[k]? = some p) : maxFl ps f (k + 1) = if p.flow = (f : Int) then max (maxFl ps f k) p.size else maxFl ps f k := by simp only [maxFl, h]
theorem maxFl_ge {ps : List Pk} {f : Nat} : ∀ (n k : Nat) (p : Pk), k < n → ps[k]? = some p → p.flow = (f : Int) → p.size ≤ maxFl ps f n := by
  intro n
  induction n with
  | zero => intro k p h; omega
  | succ n ih =>
    intro k p hk hp hf
    rcases Nat.lt_or_ge k n with h | h
    · have := ih k p h hp hf
      cases hn : ps[n]? with
      | none => simp only [maxFl, hn]; exact this
      | some q => rw [maxFl_succ hn]; split <;> omega
    · obtain rfl : k = n := by omega
      rw [maxFl_succ hp, if_pos hf]
      omega
theorem maxFl_in {ps : List Pk} {f : Nat} (ho : OkPks ps) : ∀ n, 0 ≤ maxFl ps f n ∧ maxFl ps f n ≤ 1500
  | 0 => by simp [maxFl]
  | n + 1 => by
    have := maxFl_in (f := f) ho n
    cases hn : ps[n]? with
    | none => simp only [maxFl, hn]; exact this
    | some q =>
      rw [maxFl_succ hn]
      have := okPk_true (ho.each _ q hn).1
      split <;> omega
/-- What two flows get, but for a packet of each. -/
theorem fair_bound {per : Int} {ps : List Pk} {ns : List Int} {l : List Sn} {ts : List Int} (ho : OkPks ps) (hk : WtsAll ns) (hper : 1 ≤ per ∧ per ≤ 1000) (h : FairSent per ps ns l ts) {a b : Nat} (ha : a < 8) (hb : b < 8) {m : Int} (hs : SpreadIs ps ns l a b m) :
    m ≤ maxFl ps a ps.length * ns.getD b 0 + maxFl ps b ps.length * ns.getD a 0 := by
  have key : ∀ (f i : Nat) p, ps[i]? = some p → flowOf ps i = f → p.size ≤ maxFl ps f ps.length := fun f i p hp hf => by
    refine maxFl_ge ps.length i p (lt_of_get hp) hp ?_
    have := okPk_true (ho.each _ p hp).1
    rw [← hf, flowOf_get hp]
    omega
  exact h.shares hk.ok hk.len ho hper ha hb (maxFl_in ho _).1 (maxFl_in ho _).1 (key a) (key b) hs
/-- Tags of what is sent one behind the other. -/
theorem fair_busy {per : Int} {ps : List Pk} {ns : List Int} {l : List Sn} {f : Nat → Int} (ho : OkPks ps) (hk : WtsAll ns) (hper : 1 ≤ per ∧ per ≤ 1000) (h : FairSent per ps ns l ((List.range ps.length).map f)) {i : Nat} {x y : Sn} (hx : l[i]? = some x) (hy : l[i + 1]? = some y) :
    ∃ jx jy : Nat, x.num = jx ∧ y.num = jy ∧ jx < ps.length ∧ jy < ps.length ∧ (y.beg = x.fin → f jx ≤ f jy) := by
  obtain ⟨n1, -⟩ := h.nums hk.ok ho hper
  obtain ⟨jx, ex, lx⟩ := n1 i x hx
  obtain ⟨jy, ey, ly⟩ := n1 (i + 1) y hy
  refine ⟨jx, jy, ex, ey, lx, ly, fun e => ?_⟩
  have := h.busy hk.ok ho hper hx hy e
  rw [ex, ey, Int.toNat_natCast, Int.toNat_natCast] at this
  simpa [List.getD, lx, ly] using this

set_option maxRecDepth 100000 in
set_option maxHeartbeats 1000000 in
theorem fsLaw_many (pa : Option Addr) (m pcap : Nat) (per : Int) (na : Option Addr) (nn ncap : Nat) (x y : Int) (w : World) (h1 : ¬ (m : Int) ≤ 120) (h2 : m ≠ 301) :
    Calls Tryd.prog 13 #[.slice pa m pcap, .int .i64 per, .slice na nn ncap, .int .i64 x, .int .i64 y] w fun e w' => e = .returned (.bool true) ∧ Below w.heap.size w w' := by
  have HF : Hid (∀ w', Calls Tryd.prog 24 #[.slice pa m pcap, .int .i64 120] w' fun e w'' => e = .returned (.bool false) ∧ w'' = w') := fun w' => fitPkts_no pa m pcap 120 w' h1 h2
  clear h1 h2
  go_enter Tryd.func13, Tryd.ntmps13
  go_wp2_with fail
  refine (tagged_any _).mono ?_
  rintro e w1 ⟨rfl, hb⟩
  have HB : Hid (Below w.heap.size w w1) := hb
  clear hb
  go_wp2_with fail
  refine (HF.out _).mono ?_
  rintro e w2 ⟨rfl, rfl⟩
  go_wp2_with fail
  go_ret
  exact ⟨rfl, HB.out⟩
set_option maxRecDepth 100000 in
set_option maxHeartbeats 1000000 in
theorem fsLaw_x0 (pa : Option Addr) (m pcap : Nat) (per : Int) (na : Option Addr) (nn ncap : Nat) (x y : Int) (w : World) (hm : m ≤ maxLen) (h1 : (m : Int) ≤ 120 ∨ m = 301) (hx : x < 0) :
    Calls Tryd.prog 13 #[.slice pa m pcap, .int .i64 per, .slice na nn ncap, .int .i64 x, .int .i64 y] w fun e w' => e = .returned (.bool true) ∧ Below w.heap.size w w' := by
  have HF : Hid (∀ w', Calls Tryd.prog 24 #[.slice pa m pcap, .int .i64 120] w' fun e w'' => e = .returned (.bool true) ∧ w'' = w') := fun w' => fitPkts_yes pa m pcap 120 w' hm h1
  clear h1
  go_enter Tryd.func13, Tryd.ntmps13
  go_wp2_with fail
  refine (tagged_any _).mono ?_
  rintro e w1 ⟨rfl, hb⟩
  have HB : Hid (Below w.heap.size w w1) := hb
  clear hb
  go_wp2_with fail
  refine (HF.out _).mono ?_
  rintro e w2 ⟨rfl, rfl⟩
  go_wp2_with fail
  go_ret
  exact ⟨rfl, HB.out⟩
set_option maxRecDepth 100000 in
set_option maxHeartbeats 1000000 in
theorem fsLaw_x8 (pa : Option Addr) (m pcap : Nat) (per : Int) (na : Option Addr) (nn ncap : Nat) (x y : Int) (w : World) (hm : m ≤ maxLen) (h1 : (m : Int) ≤ 120 ∨ m = 301) (hx0 : ¬ x < 0) (hx : 8 ≤ x) :
    Calls Tryd.prog 13 #[.slice pa m pcap, .int .i64 per, .slice na nn ncap, .int .i64 x, .int .i64 y] w fun e w' => e = .returned (.bool true) ∧ Below w.heap.size w w' := by
  have HF : Hid (∀ w', Calls Tryd.prog 24 #[.slice pa m pcap, .int .i64 120] w' fun e w'' => e = .returned (.bool true) ∧ w'' = w') := fun w' => fitPkts_yes pa m pcap 120 w' hm h1
  clear h1
  go_enter Tryd.func13, Tryd.ntmps13
  go_wp2_with fail
  refine (tagged_any _).mono ?_
  rintro e w1 ⟨rfl, hb⟩
  have HB : Hid (Below w.heap.size w w1) := hb
  clear hb
  go_wp2_with fail
  refine (HF.out _).mono ?_
  rintro e w2 ⟨rfl, rfl⟩
  go_wp2_with fail
  go_ret
  exact ⟨rfl, HB.out⟩
set_option maxRecDepth 100000 in
set_option maxHeartbeats 1000000 in
theorem fsLaw_y0 (pa : Option Addr) (m pcap : Nat) (per : Int) (na : Option Addr) (nn ncap : Nat) (x y : Int) (w : World) (hm : m ≤ maxLen) (h1 : (m : Int) ≤ 120 ∨ m = 301) (hx0 : ¬ x < 0) (hx8 : ¬ 8 ≤ x) (hy : y < 0) :
    Calls Tryd.prog 13 #[.slice pa m pcap, .int .i64 per, .slice na nn ncap, .int .i64 x, .int .i64 y] w fun e w' => e = .returned (.bool true) ∧ Below w.heap.size w w' := by
  have HF : Hid (∀ w', Calls Tryd.prog 24 #[.slice pa m pcap, .int .i64 120] w' fun e w'' => e = .returned (.bool true) ∧ w'' = w') := fun w' => fitPkts_yes pa m pcap 120 w' hm h1
  clear h1
  go_enter Tryd.func13, Tryd.ntmps13
  go_wp2_with fail
  refine (tagged_any _).mono ?_
  rintro e w1 ⟨rfl, hb⟩
  have HB : Hid (Below w.heap.size w w1) := hb
  clear hb
  go_wp2_with fail
  refine (HF.out _).mono ?_
  rintro e w2 ⟨rfl, rfl⟩
  go_wp2_with fail
  go_ret
  exact ⟨rfl, HB.out⟩
set_option maxRecDepth 100000 in
set_option maxHeartbeats 1000000 in
theorem fsLaw_y8 (pa : Option Addr) (m pcap : Nat) (per : Int) (na : Option Addr) (nn ncap : Nat) (x y : Int) (w : World) (hm : m ≤ maxLen) (h1 : (m : Int) ≤ 120 ∨ m = 301) (hx0 : ¬ x < 0) (hx8 : ¬ 8 ≤ x) (hy0 : ¬ y < 0) (hy : 8 ≤ y) :
    Calls Tryd.prog 13 #[.slice pa m pcap, .int .i64 per, .slice na nn ncap, .int .i64 x, .int .i64 y] w fun e w' => e = .returned (.bool true) ∧ Below w.heap.size w w' := by
  have HF : Hid (∀ w', Calls Tryd.prog 24 #[.slice pa m pcap, .int .i64 120] w' fun e w'' => e = .returned (.bool true) ∧ w'' = w') := fun w' => fitPkts_yes pa m pcap 120 w' hm h1
  clear h1
  go_enter Tryd.func13, Tryd.ntmps13
  go_wp2_with fail
  refine (tagged_any _).mono ?_
  rintro e w1 ⟨rfl, hb⟩
  have HB : Hid (Below w.heap.size w w1) := hb
  clear hb
  go_wp2_with fail
  refine (HF.out _).mono ?_
  rintro e w2 ⟨rfl, rfl⟩
  go_wp2_with fail
  go_ret
  exact ⟨rfl, HB.out⟩
set_option maxRecDepth 100000 in
set_option maxHeartbeats 8000000 in
theorem fsLaw_bad (pa : Option Addr) (pcap : Nat) (ps : List Pk) (per : Int) (na : Option Addr) (ncap : Nat) (ns : List Int) (x y : Int) (w : World) (ad : Nat → Addr) (he : ErrsBO w ad) (he2 : NumErrs w ad) (hp : LiesP w pa ps) (hpa : pa = none → ps = [] ∧ pcap = 0) (hpc : ps.length ≤ pcap) (hpm : pcap ≤ maxLen) (hn : LiesN w na ns) (hm : ps.length ≤ 120 ∨ ps.length = 301) (hx0 : ¬ x < 0) (hx8 : ¬ 8 ≤ x) (hy0 : ¬ y < 0) (hy8 : ¬ 8 ≤ y) (hno : ¬ (OkPks ps ∧ 1 ≤ per ∧ per ≤ 1000 ∧ WtsAll ns)) :
    Calls Tryd.prog 13 #[.slice pa ps.length pcap, .int .i64 per, .slice na ns.length ncap, .int .i64 x, .int .i64 y] w fun e w' => e = .returned (.bool true) ∧ Below w.heap.size w w' := by
  have HP : Hid (LiesP w pa ps ∧ (pa = none → ps = [] ∧ pcap = 0)) := ⟨hp, hpa⟩
  have HFit : Hid (∀ w', Calls Tryd.prog 24 #[.slice pa ps.length pcap, .int .i64 120] w' fun e w'' => e = .returned (.bool true) ∧ w'' = w') := fun w' => fitPkts_yes pa ps.length pcap 120 w' (Nat.le_trans hpc hpm) (by omega)
  have HRun : Hid (∀ W a3 k3, Below w.heap.size w W → LiesP W a3 ps → ps.length ≤ k3 → k3 ≤ maxLen → Calls Tryd.prog 46 #[.slice a3 ps.length k3, .int .i64 per, .slice na ns.length ncap] W fun e w' => ∃ ty v, e = .returned (.tuple #[.slice none 0 0, .iface ty v]) ∧ Below W.heap.size W w') := fun W a3 k3 hb g1 g3 g4 => fairRun_err (R := fun _ _ w' => Below W.heap.size W w') a3 _ k3 per na _ ncap W (fairCheck_bad a3 k3 ps per na ncap ns W ad (he.below hb) (he2.below hb) g1 g3 g4 (hn.below hb) hno)
  have HTags : Hid (∀ W a3 k3, Below w.heap.size w W → LiesP W a3 ps → ps.length ≤ k3 → k3 ≤ maxLen → Calls Tryd.prog 47 #[.slice a3 ps.length k3, .int .i64 per, .slice na ns.length ncap] W fun e w' => ∃ ty v, e = .returned (.tuple #[.slice none 0 0, .iface ty v]) ∧ Below W.heap.size W w') := fun W a3 k3 hb g1 g3 g4 => fairTags_err (R := fun _ _ w' => Below W.heap.size W w') a3 _ k3 per na _ ncap W (fairCheck_bad a3 k3 ps per na ncap ns W ad (he.below hb) (he2.below hb) g1 g3 g4 (hn.below hb) hno)
  obtain ⟨m, hmm⟩ : ∃ m, ps.length = m := ⟨_, rfl⟩
  have HM : Hid (ps.length = m) := hmm
  have HOwnP : Hid (∀ w', Below w.heap.size w w' → Calls Tryd.prog 21 #[.slice pa m pcap] w' fun e w'' => ∃ a' cap', e = .returned (.slice a' m cap') ∧ LiesP w'' a' ps ∧ m ≤ cap' ∧ cap' ≤ maxLen ∧ Below w'.heap.size w' w'' ∧ Below w.heap.size w w'') := fun w' hb => by
    have := ownPackets_from pa pcap ps w w' hb HP.out.1 (by omega) HP.out.2
    rwa [hmm] at this
  rw [hmm] at hm HFit HRun HTags ⊢
  clear hmm he he2 hp hpa hpc hpm hn hno
  go_enter Tryd.func13, Tryd.ntmps13
  go_wp2_with fail
  refine (tagged_any _).mono ?_
  rintro e w1 ⟨rfl, hb⟩
  have HB1 : Hid (Below w.heap.size w w1) := hb
  clear hb
  go_wp2_with fail
  refine (HFit.out _).mono ?_
  rintro e w1' ⟨rfl, rfl⟩
  go_wp2_with fail
  refine (HOwnP.out _ HB1.out).mono ?_
  rintro e w2 ⟨a2, k2, rfl, l2, g2, m2, b2, B2⟩
  have HB2 : Hid (Below w.heap.size w w2 ∧ LiesP w2 a2 ps ∧ m ≤ k2 ∧ k2 ≤ maxLen) := ⟨B2, l2, g2, m2⟩
  clear l2 g2 m2 b2 B2
  go_wp2_with fail
  refine (HRun.out w2 a2 k2 HB2.out.1 HB2.out.2.1 HB2.out.2.2.1 HB2.out.2.2.2).mono ?_
  rintro e w3 ⟨ty, v, rfl, b3⟩
  have HB3 : Hid (Below w.heap.size w w3) := HB2.out.1.trans (b3.mono HB2.out.1.size)
  clear b3
  go_wp2_with fail
  refine (HOwnP.out _ HB3.out).mono ?_
  rintro e w4 ⟨a4, k4, rfl, l4, g4, m4, b4, B4⟩
  have HB4 : Hid (Below w.heap.size w w4 ∧ LiesP w4 a4 ps ∧ m ≤ k4 ∧ k4 ≤ maxLen ∧ Below w3.heap.size w3 w4) := ⟨B4, l4, g4, m4, b4⟩
  clear l4 g4 m4 b4 B4
  go_wp2_with fail
  refine (HTags.out w4 a4 k4 HB4.out.1 HB4.out.2.1 HB4.out.2.2.1 HB4.out.2.2.2.1).mono ?_
  rintro e w5 ⟨ty5, v5, rfl, b5⟩
  have HB5 : Hid (Below w.heap.size w w5) := HB4.out.1.trans (b5.mono HB4.out.1.size)
  clear b5
  go_wp2_with fail
  go_ret
  exact ⟨rfl, HB5.out⟩

set_option maxRecDepth 100000 in
set_option maxHeartbeats 8000000 in
theorem fsLaw_ok (pa : Option Addr) (pcap : Nat) (ps : List Pk) (per : Int) (na : Option Addr) (ncap : Nat) (ns : List Int) (x y : Int) (w : World) (ad : Nat → Addr) (he3 : w.cell? ⟨0, 0, none⟩ = some (.iface 157 (.pointer (some (ad 3))))) (hp : LiesP w pa ps) (hpa : pa = none → ps = [] ∧ pcap = 0) (hpc : ps.length ≤ pcap) (hpm : pcap ≤ maxLen) (hn : LiesN w na ns) (hm : ps.length ≤ 120 ∨ ps.length = 301) (hx0 : ¬ x < 0) (hx8 : ¬ 8 ≤ x) (hy0 : ¬ y < 0) (hy8 : ¬ 8 ≤ y) (ho : OkPks ps) (h1 : 1 ≤ per) (h2 : per ≤ 1000) (hk : WtsAll ns) :
    Calls Tryd.prog 13 #[.slice pa ps.length pcap, .int .i64 per, .slice na ns.length ncap, .int .i64 x, .int .i64 y] w fun e w' => e = .returned (.bool true) ∧ Below w.heap.size w w' := by
  have HP : Hid (LiesP w pa ps ∧ (pa = none → ps = [] ∧ pcap = 0)) := ⟨hp, hpa⟩
  have HFit : Hid (∀ w', Calls Tryd.prog 24 #[.slice pa ps.length pcap, .int .i64 120] w' fun e w'' => e = .returned (.bool true) ∧ w'' = w') := fun w' => fitPkts_yes pa ps.length pcap 120 w' (Nat.le_trans hpc hpm) (by omega)
  have hm120 : ps.length ≤ 120 := by have := ho.few; omega
  obtain ⟨a, rfl⟩ : ∃ a : Nat, x = a := ⟨x.toNat, by omega⟩
  obtain ⟨b, rfl⟩ : ∃ b : Nat, y = b := ⟨y.toNat, by omega⟩
  have ha : a < 8 := by omega
  have hb : b < 8 := by omega
  have HRun : Hid (∀ W a3 k3, Below w.heap.size w W → LiesP W a3 ps → ps.length ≤ k3 → k3 ≤ maxLen → Calls Tryd.prog 46 #[.slice a3 ps.length k3, .int .i64 per, .slice na ns.length ncap] W fun e w' => ∃ a' k' l ts, e = .returned (.tuple #[.slice a' ps.length k', .nilIface]) ∧ (LiesS w' a' l ∧ FairSent per ps ns l ts ∧ l.length = ps.length ∧ (a' = none → l = [] ∧ k' = 0)) ∧ Below W.heap.size W w') := fun W a3 k3 hb g1 _ _ => by
    refine (fairRun_ok a3 k3 ps per na ncap ns W g1 (hn.below hb) ho h1 h2 hk).mono ?_
    rintro e w' ⟨v, rfl, g, gt, l, f, hown, hs, hb', -, -⟩
    obtain ⟨a', k', rfl, -, -, hl', -, hn'⟩ := hown.open
    have hlen := (hs.length hk.ok ho h1).1
    exact ⟨a', k', l, _, by rw [hlen], ⟨hl', hs, hlen, hn'⟩, hb'⟩
  have HTags : Hid (∀ W a3 k3, Below w.heap.size w W → LiesP W a3 ps → ps.length ≤ k3 → k3 ≤ maxLen → Calls Tryd.prog 47 #[.slice a3 ps.length k3, .int .i64 per, .slice na ns.length ncap] W fun e w' => ∃ gt l f, e = .returned (.tuple #[.slice (some ⟨gt, 0, none⟩) ps.length ps.length, .nilIface]) ∧ FairSent per ps ns l ((List.range ps.length).map f) ∧ NumsAt w' gt ps.length f ∧ Below W.heap.size W w') := fun W a3 k3 hb g1 _ _ => fairTags_ok a3 k3 ps per na ncap ns W g1 (hn.below hb) ho h1 h2 hk
  have HSp : Hid (∀ W a3 k3 a4 k4 l ts, Below w.heap.size w W → LiesP W a3 ps → LiesS W a4 l → FairSent per ps ns l ts → l.length = ps.length → Calls Tryd.prog 39 #[.slice a3 ps.length k3, .slice a4 ps.length k4, .slice na ns.length ncap, .int .i64 (a : Int), .int .i64 (b : Int)] W fun e w' => ∃ N, e = .returned (.tuple #[.int .i64 N, .nilIface]) ∧ N ≤ maxFl ps a ps.length * ns.getD b 0 + maxFl ps b ps.length * ns.getD a 0 ∧ Below W.heap.size W w') := fun W a3 k3 a4 k4 l ts hbW g1 g2 g3 g4 => by
    obtain ⟨n1, n2⟩ := g3.nums hk.ok ho ⟨h1, h2⟩
    have hs := spread_ok a3 k3 ps a4 k4 l na ncap ns a b W ad (cell_later hbW he3) g1 g2 (hn.below hbW) ho hk.wide ha hb (by omega) (fun i x hx => by have := n2 i x hx; exact decide_eq_true (by omega)) (fun i x hx => by
      obtain ⟨k, e1, e2⟩ := n1 i x hx
      exact decide_eq_true (by omega))
    rw [g4] at hs
    refine hs.mono ?_
    rintro e w' ⟨N, rfl, hN, hb'⟩
    exact ⟨N, rfl, fair_bound ho hk ⟨h1, h2⟩ g3 ha hb hN, hb'⟩
  have HBusy : Hid (∀ (l : List Sn) (f : Nat → Int) (i : Nat) x y, FairSent per ps ns l ((List.range ps.length).map f) → l[i]? = some x → l[i + 1]? = some y → ∃ jx jy : Nat, x.num = jx ∧ y.num = jy ∧ jx < ps.length ∧ jy < ps.length ∧ (y.beg = x.fin → f jx ≤ f jy)) := fun l f i x y hs hx hy => fair_busy ho hk ⟨h1, h2⟩ hs hx hy
  have HOk : Hid (OkPks ps) := ho
  obtain ⟨qa, hqa', hqae⟩ := nums_at hk.len ha
  obtain ⟨qb, hqb', hqbe⟩ := nums_at hk.len hb
  have hqa := hk.nums.each a qa hqa'
  have hqb := hk.nums.each b qb hqb'
  obtain ⟨b3', o3, rfl, -, hc3⟩ := hn.place (by rw [hk.len]; omega)
  have HQ : Hid (w.cell? ⟨b3', o3 + a, none⟩ = some (.int .i64 qa) ∧ w.cell? ⟨b3', o3 + b, none⟩ = some (.int .i64 qb)) := ⟨hc3 a qa hqa', hc3 b qb hqb'⟩
  have h8 := hk.len
  rw [hqae, hqbe] at HSp
  obtain ⟨m, hmm⟩ : ∃ m, ps.length = m := ⟨_, rfl⟩
  have HM : Hid (ps.length = m) := hmm
  have HOwnP : Hid (∀ w', Below w.heap.size w w' → Calls Tryd.prog 21 #[.slice pa m pcap] w' fun e w'' => ∃ a' cap', e = .returned (.slice a' m cap') ∧ LiesP w'' a' ps ∧ m ≤ cap' ∧ cap' ≤ maxLen ∧ Below w'.heap.size w' w'' ∧ Below w.heap.size w w'') := fun w' hb => by
    have := ownPackets_from pa pcap ps w w' hb HP.out.1 (by omega) HP.out.2
    rwa [hmm] at this
  rw [hmm] at hm HFit HRun HTags HSp HBusy hm120 ⊢
  rw [h8] at HRun HTags HSp ⊢
  clear hmm he3 hp hpa hpc hpm hn ho hk hqa' hqb' hqae hqbe hc3 h8
  go_enter Tryd.func13, Tryd.ntmps13
  go_wp2_with fail
  refine (tagged_any _).mono ?_
  rintro e w1 ⟨rfl, hb⟩
  have HB1 : Hid (Below w.heap.size w w1) := hb
  clear hb
  go_wp2_with fail
  refine (HFit.out _).mono ?_
  rintro e w1' ⟨rfl, rfl⟩
  go_wp2_with fail
  refine (HOwnP.out _ HB1.out).mono ?_
  rintro e w2 ⟨a2, k2, rfl, l2, g2, m2, b2, B2⟩
  have HB2 : Hid (Below w.heap.size w w2 ∧ LiesP w2 a2 ps ∧ m ≤ k2 ∧ k2 ≤ maxLen) := ⟨B2, l2, g2, m2⟩
  clear l2 g2 m2 b2 B2
  go_wp2_with fail
  refine (HRun.out w2 a2 k2 HB2.out.1 HB2.out.2.1 HB2.out.2.2.1 HB2.out.2.2.2).mono ?_
  rintro e w3 ⟨a3, k3, l, ts, rfl, ⟨hl3, hrs, hlen, hnil⟩, b3⟩
  have HB3 : Hid (Below w.heap.size w w3 ∧ LiesS w3 a3 l ∧ (a3 = none → l = [] ∧ k3 = 0) ∧ FairSent per ps ns l ts ∧ l.length = m) := ⟨HB2.out.1.trans (b3.mono HB2.out.1.size), hl3, hnil, hrs, hlen⟩
  have HOwnS : Hid (∀ w', Below w3.heap.size w3 w' → Calls Tryd.prog 18 #[.slice a3 m k3] w' fun e w'' => ∃ a' cap', e = .returned (.slice a' m cap') ∧ LiesS w'' a' l ∧ Below w'.heap.size w' w'' ∧ Below w3.heap.size w3 w'') := fun w' hb => by
    have := ownSent_from a3 k3 l w3 w' hb hl3 (by omega) hnil
    rwa [hlen] at this
  clear hl3 hrs hlen hnil b3
  go_wp2_with fail
  refine (HOwnP.out _ HB3.out.1).mono ?_
  rintro e w4 ⟨a4, k4, rfl, l4, g4, m4, b4, B4⟩
  have HB4 : Hid (Below w.heap.size w w4 ∧ LiesP w4 a4 ps ∧ m ≤ k4 ∧ k4 ≤ maxLen ∧ Below w3.heap.size w3 w4) := ⟨B4, l4, g4, m4, b4⟩
  clear l4 g4 m4 b4 B4
  go_wp2_with fail
  refine (HTags.out w4 a4 k4 HB4.out.1 HB4.out.2.1 HB4.out.2.2.1 HB4.out.2.2.2.1).mono ?_
  rintro e w5 ⟨gt, l', f, rfl, h5, n5, b5⟩
  have hsm := HB3.out.2.2.2.1.same (ts := ts) (us := (List.range ps.length).map f) (by rw [HM.out]; exact h5)
  have HB5 : Hid (Below w.heap.size w w5 ∧ LiesS w5 a3 l ∧ NumsAt w5 gt m f ∧ FairSent per ps ns l ((List.range m).map f) ∧ Below w3.heap.size w3 w5) := ⟨HB4.out.1.trans (b5.mono HB4.out.1.size), HB3.out.2.1.below (HB4.out.2.2.2.2.trans (b5.mono HB4.out.2.2.2.2.size)), n5, by rw [hsm.1]; exact h5, HB4.out.2.2.2.2.trans (b5.mono HB4.out.2.2.2.2.size)⟩
  clear b5 h5 n5 hsm
  go_wp2_with fail
  go_loopg [16] m (fun gk iv wr => ∃ k : Nat, gk + k = m + 1 ∧ 1 ≤ k ∧ iv = .int .i64 (k : Int) ∧ ∃ q, wr = w5.drewN q)
  case atStart => exact ⟨1, by omega, by omega, rfl, 0, rfl⟩
  case round =>
    obtain ⟨k, hgk, hk1, rfl, q, rfl⟩ := hrel
    by_cases hkm : k < m
    · obtain ⟨sy, hsy, -⟩ := get_some l k (by rw [HB3.out.2.2.2.2]; exact hkm)
      obtain ⟨sx, hsx, -⟩ := get_some l (k - 1) (by rw [HB3.out.2.2.2.2]; omega)
      obtain ⟨jx, jy, ex, ey, hjx, hjy, hle⟩ := HBusy.out l f (k - 1) sx sy HB5.out.2.2.2.1 hsx (by rw [show k - 1 + 1 = k by omega]; exact hsy)
      obtain ⟨lb, lo, rfl, -, hcl⟩ := HB5.out.2.1.place (by rw [HB3.out.2.2.2.2]; omega)
      have y0 := (hcl k sy hsy).1
      have y1 := (hcl k sy hsy).2.1
      have x0 := (hcl (k - 1) sx hsx).1
      have x2 := (hcl (k - 1) sx hsx).2.2
      rw [ey] at y0
      rw [ex] at x0
      have tx := HB5.out.2.2.1.cell jx hjx
      have ty := HB5.out.2.2.1.cell jy hjy
      obtain ⟨yb, hyb⟩ : ∃ yb, sy.beg = yb := ⟨_, rfl⟩
      obtain ⟨xf, hxf⟩ : ∃ xf, sx.fin = xf := ⟨_, rfl⟩
      obtain ⟨fx, hfx⟩ : ∃ fx, f jx = fx := ⟨_, rfl⟩
      obtain ⟨fy, hfy⟩ : ∃ fy, f jy = fy := ⟨_, rfl⟩
      rw [hyb] at y1 hle
      rw [hxf] at x2 hle
      rw [hfx] at tx hle
      rw [hfy] at ty hle
      clear hcl hsy hsx ex ey hyb hxf hfx hfy
      have hk0 : 0 < k := by omega
      by_cases e1 : yb = xf
      · have t1 : (yb == xf) = true := by simpa using e1
        have hle' := hle e1
        clear hle e1
        by_cases e2 : 0 < yb
        · have t2 : decide (0 < yb) = true := decide_eq_true e2
          have t2' : decide (yb > 0) = true := decide_eq_true e2
          have t3 : decide (fy < fx) = false := decide_eq_false (by omega)
          go_wp2_with fail
          go_quiet (fail)
          go_wp2_with fail
          go_roundg (gk - 1)
          case measure => omega
          case rel => exact ⟨k + 1, by omega, by omega, by go_num, _, rfl⟩
        · have t2 : decide (0 < yb) = false := decide_eq_false e2
          have t2' : decide (yb > 0) = false := decide_eq_false e2
          go_wp2_with fail
          go_quiet (fail)
          go_wp2_with fail
          go_roundg (gk - 1)
          case measure => omega
          case rel => exact ⟨k + 1, by omega, by omega, by go_num, _, rfl⟩
      · have t1 : (yb == xf) = false := by simpa using e1
        clear hle e1
        go_wp2_with fail
        go_quiet (fail)
        go_wp2_with fail
        go_roundg (gk - 1)
        case measure => omega
        case rel => exact ⟨k + 1, by omega, by omega, by go_num, _, rfl⟩
    · have HB5q : Hid (Below w.heap.size w (w5.drewN q) ∧ Below w3.heap.size w3 (w5.drewN q)) := ⟨below_drewN HB5.out.1 _, below_drewN HB5.out.2.2.2.2 _⟩
      obtain ⟨W5, hW5⟩ : ∃ W5, w5.drewN q = W5 := ⟨_, rfl⟩
      rw [hW5] at HB5q ⊢
      clear hW5 hgk
      go_wp2_with fail
      refine (HOwnP.out _ HB5q.out.1).mono ?_
      rintro e w6 ⟨a6, k6, rfl, l6, g6, m6, b6, B6⟩
      have HB6 : Hid (Below w.heap.size w w6 ∧ LiesP w6 a6 ps ∧ Below w3.heap.size w3 w6) := ⟨B6, l6, HB5q.out.2.trans (b6.mono HB5q.out.2.size)⟩
      clear l6 g6 m6 b6 B6
      go_wp2_with fail
      refine (HOwnS.out _ HB6.out.2.2).mono ?_
      rintro e w7 ⟨a7, k7, rfl, l7, b7, B7⟩
      have HB7 : Hid (Below w.heap.size w w7 ∧ LiesP w7 a6 ps ∧ LiesS w7 a7 l) := ⟨HB6.out.1.trans (b7.mono HB6.out.1.size), HB6.out.2.1.below b7, l7⟩
      clear l7 b7 B7
      go_wp2_with fail
      refine (HSp.out w7 a6 k6 a7 k7 l ts HB7.out.1 HB7.out.2.1 HB7.out.2.2 HB3.out.2.2.2.1 HB3.out.2.2.2.2).mono ?_
      rintro e w8 ⟨N, rfl, hN, b8⟩
      have HB8 : Hid (Below w.heap.size w w8 ∧ N ≤ maxFl ps a m * qb + maxFl ps b m * qa) := ⟨HB7.out.1.trans (b8.mono HB7.out.1.size), hN⟩
      clear hN b8
      go_wp2_with fail
      go_loopg [19, 20, 21] m (fun gk sv tv iv wr => ∃ k : Nat, gk = m - k ∧ k ≤ m ∧ iv = .int .i64 (k : Int) ∧ sv = .int .i64 (maxFl ps a k) ∧ tv = .int .i64 (maxFl ps b k) ∧ w8 = wr)
      case atStart => exact ⟨0, rfl, Nat.zero_le _, rfl, rfl, rfl, rfl⟩
      case round =>
        obtain ⟨k, rfl, hkm', rfl, rfl, rfl, hw8⟩ := hrel
        subst hw8
        obtain ⟨sa, hsa⟩ : ∃ sa, maxFl ps a k = sa := ⟨_, rfl⟩
        obtain ⟨sb, hsb⟩ : ∃ sb, maxFl ps b k = sb := ⟨_, rfl⟩
        have HSz : Hid (maxFl ps a k = sa ∧ maxFl ps b k = sb) := ⟨hsa, hsb⟩
        have hra := maxFl_in (f := a) HOk.out k
        have hrb := maxFl_in (f := b) HOk.out k
        rw [hsa] at hra
        rw [hsb] at hrb
        rw [hsa, hsb]
        clear hsa hsb
        by_cases hkm : k < m
        · obtain ⟨p, hpk, -⟩ := get_some ps k (by rw [HM.out]; exact hkm)
          obtain ⟨b2, o2, rfl, -, hc2⟩ := HP.out.1.place (by rw [HM.out]; omega)
          obtain ⟨z, hz⟩ : ∃ z, p.size = z := ⟨_, rfl⟩
          obtain ⟨pf, hpf⟩ : ∃ pf, p.flow = pf := ⟨_, rfl⟩
          have c0 : w8.cell? ⟨b2, o2 + k * 3, none⟩ = some (.int .i64 pf) := by rw [← hpf]; exact cell_later HB8.out.1 (hc2 k _ hpk).1
          have c1 : w8.cell? ⟨b2, o2 + k * 3 + 1, none⟩ = some (.int .i64 z) := by rw [← hz]; exact cell_later HB8.out.1 (hc2 k _ hpk).2.1
          have HNa : Hid (maxFl ps a (k + 1) = if pf = (a : Int) then max sa z else sa) := by
            show _ = _
            rw [maxFl_succ hpk, HSz.out.1, hz, hpf]
          have HNb : Hid (maxFl ps b (k + 1) = if pf = (b : Int) then max sb z else sb) := by
            show _ = _
            rw [maxFl_succ hpk, HSz.out.2, hz, hpf]
          clear hpk hc2 hz hpf
          by_cases hfa : pf = (a : Int)
          · by_cases hga : sa < z
            · by_cases hfb : pf = (b : Int)
              · by_cases hgb : sb < z
                · have ua : (pf == (a : Int)) = true := by simpa using hfa
                  have HA2 : Hid (maxFl ps a (k + 1) = z) := (HNa.out.trans (if_pos hfa)).trans (by omega)
                  have ub : (pf == (b : Int)) = true := by simpa using hfb
                  have HB2_ : Hid (maxFl ps b (k + 1) = z) := (HNb.out.trans (if_pos hfb)).trans (by omega)
                  clear hfa hfb
                  go_wp2_with fail
                  go_roundg (m - (k + 1))
                  case measure => omega
                  case rel => exact ⟨k + 1, rfl, by omega, by go_num, by rw [HA2.out], by rw [HB2_.out], rfl⟩
                · have ua : (pf == (a : Int)) = true := by simpa using hfa
                  have HA2 : Hid (maxFl ps a (k + 1) = z) := (HNa.out.trans (if_pos hfa)).trans (by omega)
                  have ub : (pf == (b : Int)) = true := by simpa using hfb
                  have HB2_ : Hid (maxFl ps b (k + 1) = sb) := (HNb.out.trans (if_pos hfb)).trans (by omega)
                  clear hfa hfb
                  go_wp2_with fail
                  go_roundg (m - (k + 1))
                  case measure => omega
                  case rel => exact ⟨k + 1, rfl, by omega, by go_num, by rw [HA2.out], by rw [HB2_.out], rfl⟩
              · have ua : (pf == (a : Int)) = true := by simpa using hfa
                have HA2 : Hid (maxFl ps a (k + 1) = z) := (HNa.out.trans (if_pos hfa)).trans (by omega)
                have ub : (pf == (b : Int)) = false := by simpa using hfb
                have HB2_ : Hid (maxFl ps b (k + 1) = sb) := HNb.out.trans (if_neg hfb)
                clear hfa hfb
                go_wp2_with fail
                go_roundg (m - (k + 1))
                case measure => omega
                case rel => exact ⟨k + 1, rfl, by omega, by go_num, by rw [HA2.out], by rw [HB2_.out], rfl⟩
            · by_cases hfb : pf = (b : Int)
              · by_cases hgb : sb < z
                · have ua : (pf == (a : Int)) = true := by simpa using hfa
                  have HA2 : Hid (maxFl ps a (k + 1) = sa) := (HNa.out.trans (if_pos hfa)).trans (by omega)
                  have ub : (pf == (b : Int)) = true := by simpa using hfb
                  have HB2_ : Hid (maxFl ps b (k + 1) = z) := (HNb.out.trans (if_pos hfb)).trans (by omega)
                  clear hfa hfb
                  go_wp2_with fail
                  go_roundg (m - (k + 1))
                  case measure => omega
                  case rel => exact ⟨k + 1, rfl, by omega, by go_num, by rw [HA2.out], by rw [HB2_.out], rfl⟩
                · have ua : (pf == (a : Int)) = true := by simpa using hfa
                  have HA2 : Hid (maxFl ps a (k + 1) = sa) := (HNa.out.trans (if_pos hfa)).trans (by omega)
                  have ub : (pf == (b : Int)) = true := by simpa using hfb
                  have HB2_ : Hid (maxFl ps b (k + 1) = sb) := (HNb.out.trans (if_pos hfb)).trans (by omega)
                  clear hfa hfb
                  go_wp2_with fail
                  go_roundg (m - (k + 1))
                  case measure => omega
                  case rel => exact ⟨k + 1, rfl, by omega, by go_num, by rw [HA2.out], by rw [HB2_.out], rfl⟩
              · have ua : (pf == (a : Int)) = true := by simpa using hfa
                have HA2 : Hid (maxFl ps a (k + 1) = sa) := (HNa.out.trans (if_pos hfa)).trans (by omega)
                have ub : (pf == (b : Int)) = false := by simpa using hfb
                have HB2_ : Hid (maxFl ps b (k + 1) = sb) := HNb.out.trans (if_neg hfb)
                clear hfa hfb
                go_wp2_with fail
                go_roundg (m - (k + 1))
                case measure => omega
                case rel => exact ⟨k + 1, rfl, by omega, by go_num, by rw [HA2.out], by rw [HB2_.out], rfl⟩
          · by_cases hfb : pf = (b : Int)
            · by_cases hgb : sb < z
              · have ua : (pf == (a : Int)) = false := by simpa using hfa
                have HA2 : Hid (maxFl ps a (k + 1) = sa) := HNa.out.trans (if_neg hfa)
                have ub : (pf == (b : Int)) = true := by simpa using hfb
                have HB2_ : Hid (maxFl ps b (k + 1) = z) := (HNb.out.trans (if_pos hfb)).trans (by omega)
                clear hfa hfb
                go_wp2_with fail
                go_roundg (m - (k + 1))
                case measure => omega
                case rel => exact ⟨k + 1, rfl, by omega, by go_num, by rw [HA2.out], by rw [HB2_.out], rfl⟩
              · have ua : (pf == (a : Int)) = false := by simpa using hfa
                have HA2 : Hid (maxFl ps a (k + 1) = sa) := HNa.out.trans (if_neg hfa)
                have ub : (pf == (b : Int)) = true := by simpa using hfb
                have HB2_ : Hid (maxFl ps b (k + 1) = sb) := (HNb.out.trans (if_pos hfb)).trans (by omega)
                clear hfa hfb
                go_wp2_with fail
                go_roundg (m - (k + 1))
                case measure => omega
                case rel => exact ⟨k + 1, rfl, by omega, by go_num, by rw [HA2.out], by rw [HB2_.out], rfl⟩
            · have ua : (pf == (a : Int)) = false := by simpa using hfa
              have HA2 : Hid (maxFl ps a (k + 1) = sa) := HNa.out.trans (if_neg hfa)
              have ub : (pf == (b : Int)) = false := by simpa using hfb
              have HB2_ : Hid (maxFl ps b (k + 1) = sb) := HNb.out.trans (if_neg hfb)
              clear hfa hfb
              go_wp2_with fail
              go_roundg (m - (k + 1))
              case measure => omega
              case rel => exact ⟨k + 1, rfl, by omega, by go_num, by rw [HA2.out], by rw [HB2_.out], rfl⟩
        · obtain rfl : k = m := by omega
          have hbd := HB8.out.2
          rw [HSz.out.1, HSz.out.2] at hbd
          have c1 := cell_later HB8.out.1 HQ.out.1
          have c2 := cell_later HB8.out.1 HQ.out.2
          have m1 : 0 ≤ sa * qb := Int.mul_nonneg hra.1 (by omega)
          have m2 : sa * qb ≤ 1500 * 12 := Int.mul_le_mul hra.2 hqb.2 (by omega) (by omega)
          have m3 : 0 ≤ sb * qa := Int.mul_nonneg hrb.1 (by omega)
          have m4 : sb * qa ≤ 1500 * 12 := Int.mul_le_mul hrb.2 hqa.2 (by omega) (by omega)
          obtain ⟨X, hX⟩ : ∃ X, sa * qb = X := ⟨_, rfl⟩
          obtain ⟨Y, hY⟩ : ∃ Y, sb * qa = Y := ⟨_, rfl⟩
          rw [hX] at m1 m2 hbd
          rw [hY] at m3 m4 hbd
          have v2 : IntKind.i64.wrap (sa * qb) = X := by rw [hX]; exact IntWalk.i64_in _ (by omega)
          have v4 : IntKind.i64.wrap (sb * qa) = Y := by rw [hY]; exact IntWalk.i64_in _ (by omega)
          have v5 : IntKind.i64.wrap (X + Y) = X + Y := IntWalk.i64_in _ (by omega)
          have v6 : decide (N ≤ X + Y) = true := decide_eq_true hbd
          have hai : (a : Int) < 8 := by omega
          have hbi : (b : Int) < 8 := by omega
          clear hX hY hbd
          go_wp2_with fail
          go_quiet (fail)
          go_wp2_with fail
          go_ret
          exact ⟨rfl, below_drewN HB8.out.1 _⟩

end Go.Proofs.YtcmgmcngidndcabDoor
