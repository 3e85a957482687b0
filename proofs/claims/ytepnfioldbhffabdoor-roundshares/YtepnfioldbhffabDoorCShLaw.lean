/- RoundShares: its ways. -/
import Derived.Test.YtepnfioldbhffabDoorCTurned
import Derived.Test.YtepnfioldbhffabDoorCAllSpreads
import Derived.Test.YtepnfioldbhffabDoorCRoundBad
import Derived.Test.YtepnfioldbhffabDoorCFitPkts
namespace Go.Proofs.YtepnfioldbhffabDoor
open Go.RowKit

/-- The greatest size of the first k. -/
def maxSz (ps : List Pk) : Nat → Int
  | 0 => 0
  | k + 1 => match ps[k]? with | some p => max (maxSz ps k) p.size | none => maxSz ps k
theorem maxSz_succ {ps : List Pk} {k : Nat} {p : Pk} (h : ps[k]? = some p) : maxSz ps (k + 1) = max (maxSz ps k) p.size := by simp only [maxSz, h]
theorem maxSz_ge {ps : List Pk} : ∀ (n k : Nat) (p : Pk), k < n → ps[k]? = some p → p.size ≤ maxSz ps n := by
  intro n
  induction n with
  | zero => intro k p h; omega
  | succ n ih =>
    intro k p hk hp
    rcases Nat.lt_or_ge k n with h | h
    · have := ih k p h hp
      cases hn : ps[n]? with
      | none => simp only [maxSz, hn]; exact this
      | some q => rw [maxSz_succ hn]; omega
    · obtain rfl : k = n := by omega
      rw [maxSz_succ hp]
      omega
theorem maxSz_in {ps : List Pk} (ho : OkPks ps) : ∀ n, 0 ≤ maxSz ps n ∧ maxSz ps n ≤ 1500
  | 0 => by simp [maxSz]
  | n + 1 => by
    have := maxSz_in ho n
    cases hn : ps[n]? with
    | none => simp only [maxSz, hn]; exact this
    | some q =>
      rw [maxSz_succ hn]
      have := okPk_true (ho.each _ q hn).1
      omega
/-- What two flows get, but for so much. -/
theorem shares_bound {per : Int} {ps : List Pk} {ns : List Int} {l : List Sn} (ho : OkPks ps) (hk : NumsOk 1 3000 ns) (hper : 1 ≤ per ∧ per ≤ 1000) (h : RoundSent per ps ns l) {a b : Nat} (ha : a < 8) (hb : b < 8) {m : Int} (hs : SpreadIs ps ns l a b m) :
    m ≤ 3 * ns.getD a 0 * ns.getD b 0 + maxSz ps ps.length * (ns.getD a 0 + ns.getD b 0) := by
  obtain ⟨x, hx, ex⟩ := nums_at hk.len ha
  obtain ⟨y, hy, ey⟩ := nums_at hk.len hb
  have rx := hk.each a x hx
  have ry := hk.each b y hy
  have hmx := maxSz_in ho ps.length
  by_cases h0 : ps.length = 0
  · have hl := h.length ho (fun f => (quOf_in hk.each (by omega) f).1)
    rw [ex, ey]
    have p1 : 0 ≤ 3 * x * y := Int.mul_nonneg (by omega) (by omega)
    have p2 : 0 ≤ maxSz ps ps.length * (x + y) := Int.mul_nonneg hmx.1 (by omega)
    rcases hs.one with e | ⟨i, j, -, i2, -⟩
    · omega
    · omega
  · have hp0 : ps[0]? = some (ps[0]'(by omega)) := List.getElem?_eq_getElem _
    have h1 : 1 ≤ maxSz ps ps.length := by
      have := maxSz_ge ps.length 0 _ (by omega) hp0
      have := okPk_true (ho.each _ _ hp0).1
      omega
    exact h.shares ho (fun i x hx => (hk.each i x hx).1) hk.len hper h1 (fun i p hp => maxSz_ge ps.length i p (lt_of_get hp) hp) ha hb hs

set_option maxRecDepth 100000 in
set_option maxHeartbeats 1000000 in
theorem shLaw_many (pa : Option Addr) (m pcap : Nat) (per : Int) (na : Option Addr) (nn ncap : Nat) (x y : Int) (w : World) (h1 : ¬ (m : Int) ≤ 120) (h2 : m ≠ 301) :
    Calls Tryd.prog 11 #[.slice pa m pcap, .int .i64 per, .slice na nn ncap, .int .i64 x, .int .i64 y] w fun e w' => e = .returned (.bool true) ∧ Below w.heap.size w w' := by
  have HF : Hid (∀ w', Calls Tryd.prog 24 #[.slice pa m pcap, .int .i64 120] w' fun e w'' => e = .returned (.bool false) ∧ w'' = w') := fun w' => fitPkts_no pa m pcap 120 w' h1 h2
  clear h1 h2
  go_enter Tryd.func11, Tryd.ntmps11
  go_wp2_with fail
  refine (turned_any _).mono ?_
  rintro e w1 ⟨rfl, hb⟩
  have HB : Hid (Below w.heap.size w w1) := hb
  clear hb
  go_wp2_with fail
  refine (HF.out _).mono ?_
  rintro e w2 ⟨rfl, rfl⟩
  go_wp2_with fail
  go_ret
  exact ⟨rfl, HB.out⟩
set_option maxRecDepth 100000 in
set_option maxHeartbeats 1000000 in
theorem shLaw_x0 (pa : Option Addr) (m pcap : Nat) (per : Int) (na : Option Addr) (nn ncap : Nat) (x y : Int) (w : World) (hm : m ≤ maxLen) (h1 : (m : Int) ≤ 120 ∨ m = 301) (hx : x < 0) :
    Calls Tryd.prog 11 #[.slice pa m pcap, .int .i64 per, .slice na nn ncap, .int .i64 x, .int .i64 y] w fun e w' => e = .returned (.bool true) ∧ Below w.heap.size w w' := by
  have HF : Hid (∀ w', Calls Tryd.prog 24 #[.slice pa m pcap, .int .i64 120] w' fun e w'' => e = .returned (.bool true) ∧ w'' = w') := fun w' => fitPkts_yes pa m pcap 120 w' hm h1
  clear h1
  go_enter Tryd.func11, Tryd.ntmps11
  go_wp2_with fail
  refine (turned_any _).mono ?_
  rintro e w1 ⟨rfl, hb⟩
  have HB : Hid (Below w.heap.size w w1) := hb
  clear hb
  go_wp2_with fail
  refine (HF.out _).mono ?_
  rintro e w2 ⟨rfl, rfl⟩
  go_wp2_with fail
  go_ret
  exact ⟨rfl, HB.out⟩
set_option maxRecDepth 100000 in
set_option maxHeartbeats 1000000 in
theorem shLaw_x8 (pa : Option Addr) (m pcap : Nat) (per : Int) (na : Option Addr) (nn ncap : Nat) (x y : Int) (w : World) (hm : m ≤ maxLen) (h1 : (m : Int) ≤ 120 ∨ m = 301) (hx0 : ¬ x < 0) (hx : 8 ≤ x) :
    Calls Tryd.prog 11 #[.slice pa m pcap, .int .i64 per, .slice na nn ncap, .int .i64 x, .int .i64 y] w fun e w' => e = .returned (.bool true) ∧ Below w.heap.size w w' := by
  have HF : Hid (∀ w', Calls Tryd.prog 24 #[.slice pa m pcap, .int .i64 120] w' fun e w'' => e = .returned (.bool true) ∧ w'' = w') := fun w' => fitPkts_yes pa m pcap 120 w' hm h1
  clear h1
  go_enter Tryd.func11, Tryd.ntmps11
  go_wp2_with fail
  refine (turned_any _).mono ?_
  rintro e w1 ⟨rfl, hb⟩
  have HB : Hid (Below w.heap.size w w1) := hb
  clear hb
  go_wp2_with fail
  refine (HF.out _).mono ?_
  rintro e w2 ⟨rfl, rfl⟩
  go_wp2_with fail
  go_ret
  exact ⟨rfl, HB.out⟩
set_option maxRecDepth 100000 in
set_option maxHeartbeats 1000000 in
theorem shLaw_y0 (pa : Option Addr) (m pcap : Nat) (per : Int) (na : Option Addr) (nn ncap : Nat) (x y : Int) (w : World) (hm : m ≤ maxLen) (h1 : (m : Int) ≤ 120 ∨ m = 301) (hx0 : ¬ x < 0) (hx8 : ¬ 8 ≤ x) (hy : y < 0) :
    Calls Tryd.prog 11 #[.slice pa m pcap, .int .i64 per, .slice na nn ncap, .int .i64 x, .int .i64 y] w fun e w' => e = .returned (.bool true) ∧ Below w.heap.size w w' := by
  have HF : Hid (∀ w', Calls Tryd.prog 24 #[.slice pa m pcap, .int .i64 120] w' fun e w'' => e = .returned (.bool true) ∧ w'' = w') := fun w' => fitPkts_yes pa m pcap 120 w' hm h1
  clear h1
  go_enter Tryd.func11, Tryd.ntmps11
  go_wp2_with fail
  refine (turned_any _).mono ?_
  rintro e w1 ⟨rfl, hb⟩
  have HB : Hid (Below w.heap.size w w1) := hb
  clear hb
  go_wp2_with fail
  refine (HF.out _).mono ?_
  rintro e w2 ⟨rfl, rfl⟩
  go_wp2_with fail
  go_ret
  exact ⟨rfl, HB.out⟩
set_option maxRecDepth 100000 in
set_option maxHeartbeats 1000000 in
theorem shLaw_y8 (pa : Option Addr) (m pcap : Nat) (per : Int) (na : Option Addr) (nn ncap : Nat) (x y : Int) (w : World) (hm : m ≤ maxLen) (h1 : (m : Int) ≤ 120 ∨ m = 301) (hx0 : ¬ x < 0) (hx8 : ¬ 8 ≤ x) (hy0 : ¬ y < 0) (hy : 8 ≤ y) :
    Calls Tryd.prog 11 #[.slice pa m pcap, .int .i64 per, .slice na nn ncap, .int .i64 x, .int .i64 y] w fun e w' => e = .returned (.bool true) ∧ Below w.heap.size w w' := by
  have HF : Hid (∀ w', Calls Tryd.prog 24 #[.slice pa m pcap, .int .i64 120] w' fun e w'' => e = .returned (.bool true) ∧ w'' = w') := fun w' => fitPkts_yes pa m pcap 120 w' hm h1
  clear h1
  go_enter Tryd.func11, Tryd.ntmps11
  go_wp2_with fail
  refine (turned_any _).mono ?_
  rintro e w1 ⟨rfl, hb⟩
  have HB : Hid (Below w.heap.size w w1) := hb
  clear hb
  go_wp2_with fail
  refine (HF.out _).mono ?_
  rintro e w2 ⟨rfl, rfl⟩
  go_wp2_with fail
  go_ret
  exact ⟨rfl, HB.out⟩
set_option maxRecDepth 100000 in
set_option maxHeartbeats 4000000 in
theorem shLaw_bad (pa : Option Addr) (pcap : Nat) (ps : List Pk) (per : Int) (na : Option Addr) (ncap : Nat) (ns : List Int) (x y : Int) (w : World) (ad : Nat → Addr) (he : ErrsBO w ad) (he2 : NumErrs w ad) (hp : LiesP w pa ps) (hpa : pa = none → ps = [] ∧ pcap = 0) (hpc : ps.length ≤ pcap) (hpm : pcap ≤ maxLen) (hn : LiesN w na ns) (hm : ps.length ≤ 120 ∨ ps.length = 301) (hx0 : ¬ x < 0) (hx8 : ¬ 8 ≤ x) (hy0 : ¬ y < 0) (hy8 : ¬ 8 ≤ y) (hno : ¬ (OkPks ps ∧ 1 ≤ per ∧ per ≤ 1000 ∧ NumsOk 1 3000 ns)) :
    Calls Tryd.prog 11 #[.slice pa ps.length pcap, .int .i64 per, .slice na ns.length ncap, .int .i64 x, .int .i64 y] w fun e w' => e = .returned (.bool true) ∧ Below w.heap.size w w' := by
  have HP : Hid (LiesP w pa ps ∧ (pa = none → ps = [] ∧ pcap = 0)) := ⟨hp, hpa⟩
  have HFit : Hid (∀ w', Calls Tryd.prog 24 #[.slice pa ps.length pcap, .int .i64 120] w' fun e w'' => e = .returned (.bool true) ∧ w'' = w') := fun w' => fitPkts_yes pa ps.length pcap 120 w' (Nat.le_trans hpc hpm) (by omega)
  have HRun : Hid (∀ W a3 k3, Below w.heap.size w W → LiesP W a3 ps → ps.length ≤ k3 → k3 ≤ maxLen → Calls Tryd.prog 42 #[.slice a3 ps.length k3, .int .i64 per, .slice na ns.length ncap] W fun e w' => ∃ ty v, e = .returned (.tuple #[.slice none 0 0, .iface ty v]) ∧ Below W.heap.size W w') := fun W a3 k3 hb g1 g3 g4 => roundRun_bad a3 k3 ps per na ncap ns W ad (he.below hb) (he2.below hb) g1 g3 g4 (hn.below hb) hno
  obtain ⟨m, hmm⟩ : ∃ m, ps.length = m := ⟨_, rfl⟩
  have HM : Hid (ps.length = m) := hmm
  have HOwnP : Hid (∀ w', Below w.heap.size w w' → Calls Tryd.prog 21 #[.slice pa m pcap] w' fun e w'' => ∃ a' cap', e = .returned (.slice a' m cap') ∧ LiesP w'' a' ps ∧ m ≤ cap' ∧ cap' ≤ maxLen ∧ Below w'.heap.size w' w'' ∧ Below w.heap.size w w'') := fun w' hb => by
    have := ownPackets_from pa pcap ps w w' hb HP.out.1 (by omega) HP.out.2
    rwa [hmm] at this
  rw [hmm] at hm HFit HRun ⊢
  clear hmm he he2 hp hpa hpc hpm hn hno
  go_enter Tryd.func11, Tryd.ntmps11
  go_wp2_with fail
  refine (turned_any _).mono ?_
  rintro e w1 ⟨rfl, hb⟩
  have HB1 : Hid (Below w.heap.size w w1) := hb
  clear hb
  go_wp2_with fail
  refine (HFit.out _).mono ?_
  rintro e w1' ⟨rfl, rfl⟩
  go_wp2_with fail
  refine (HOwnP.out _ HB1.out).mono ?_
  rintro e w3 ⟨a3, k3, rfl, l3, g3, m3, b3, B3⟩
  have HB3 : Hid (Below w.heap.size w w3 ∧ LiesP w3 a3 ps ∧ m ≤ k3 ∧ k3 ≤ maxLen) := ⟨B3, l3, g3, m3⟩
  clear l3 g3 m3 b3 B3
  go_wp2_with fail
  refine (HRun.out w3 a3 k3 HB3.out.1 HB3.out.2.1 HB3.out.2.2.1 HB3.out.2.2.2).mono ?_
  rintro e w4 ⟨ty, v, rfl, b4⟩
  have HB4 : Hid (Below w.heap.size w w4) := HB3.out.1.trans (b4.mono HB3.out.1.size)
  clear b4
  go_wp2_with fail
  go_ret
  exact ⟨rfl, HB4.out⟩

set_option maxRecDepth 100000 in
set_option maxHeartbeats 4000000 in
theorem shLaw_ok (pa : Option Addr) (pcap : Nat) (ps : List Pk) (per : Int) (na : Option Addr) (ncap : Nat) (ns : List Int) (x y : Int) (w : World) (ad : Nat → Addr) (he3 : w.cell? ⟨0, 0, none⟩ = some (.iface 157 (.pointer (some (ad 3))))) (hp : LiesP w pa ps) (hpa : pa = none → ps = [] ∧ pcap = 0) (hpc : ps.length ≤ pcap) (hpm : pcap ≤ maxLen) (hn : LiesN w na ns) (hm : ps.length ≤ 120 ∨ ps.length = 301) (hx0 : ¬ x < 0) (hx8 : ¬ 8 ≤ x) (hy0 : ¬ y < 0) (hy8 : ¬ 8 ≤ y) (ho : OkPks ps) (h1 : 1 ≤ per) (h2 : per ≤ 1000) (hk : NumsOk 1 3000 ns) :
    Calls Tryd.prog 11 #[.slice pa ps.length pcap, .int .i64 per, .slice na ns.length ncap, .int .i64 x, .int .i64 y] w fun e w' => e = .returned (.bool true) ∧ Below w.heap.size w w' := by
  have HP : Hid (LiesP w pa ps ∧ (pa = none → ps = [] ∧ pcap = 0)) := ⟨hp, hpa⟩
  have HFit : Hid (∀ w', Calls Tryd.prog 24 #[.slice pa ps.length pcap, .int .i64 120] w' fun e w'' => e = .returned (.bool true) ∧ w'' = w') := fun w' => fitPkts_yes pa ps.length pcap 120 w' (Nat.le_trans hpc hpm) (by omega)
  have hm120 : ps.length ≤ 120 := by have := ho.few; omega
  obtain ⟨a, rfl⟩ : ∃ a : Nat, x = a := ⟨x.toNat, by omega⟩
  obtain ⟨b, rfl⟩ : ∃ b : Nat, y = b := ⟨y.toNat, by omega⟩
  have ha : a < 8 := by omega
  have hb : b < 8 := by omega
  have hqu : ∀ f, 1 ≤ quOf ns f := fun f => (quOf_in hk.each (by omega) f).1
  have HRun : Hid (∀ W a3 k3, Below w.heap.size w W → LiesP W a3 ps → ps.length ≤ k3 → k3 ≤ maxLen → Calls Tryd.prog 42 #[.slice a3 ps.length k3, .int .i64 per, .slice na ns.length ncap] W fun e w' => ∃ a' k' l, e = .returned (.tuple #[.slice a' ps.length k', .nilIface]) ∧ (LiesS w' a' l ∧ RoundSent per ps ns l ∧ l.length = ps.length ∧ (a' = none → l = [] ∧ k' = 0)) ∧ Below W.heap.size W w') := fun W a3 k3 hb g1 _ _ => by
    refine (roundRun_ok a3 k3 ps per na ncap ns W g1 (hn.below hb) ho h1 h2 hk).mono ?_
    rintro e w' ⟨v, rfl, l, hown, hs, hb'⟩
    obtain ⟨a', k', rfl, -, -, hl', -, hn'⟩ := hown.open
    have hlen := hs.length ho hqu
    exact ⟨a', k', l, by rw [hlen], ⟨hl', hs, hlen, hn'⟩, hb'⟩
  have HSp : Hid (∀ W a3 k3 a4 k4 l, Below w.heap.size w W → LiesP W a3 ps → LiesS W a4 l → RoundSent per ps ns l → l.length = ps.length → Calls Tryd.prog 39 #[.slice a3 ps.length k3, .slice a4 ps.length k4, .slice na ns.length ncap, .int .i64 (a : Int), .int .i64 (b : Int)] W fun e w' => ∃ N, e = .returned (.tuple #[.int .i64 N, .nilIface]) ∧ N ≤ 3 * ns.getD a 0 * ns.getD b 0 + maxSz ps ps.length * (ns.getD a 0 + ns.getD b 0) ∧ Below W.heap.size W w') := fun W a3 k3 a4 k4 l hbW g1 g2 g3 g4 => by
    obtain ⟨n1, n2⟩ := g3.nums ho hqu ⟨h1, h2⟩
    have hs := spread_ok a3 k3 ps a4 k4 l na ncap ns a b W ad (cell_later hbW he3) g1 g2 (hn.below hbW) ho hk ha hb (by omega) (fun i x hx => by have := n2 i x hx; exact decide_eq_true (by omega)) (fun i x hx => by
      obtain ⟨k, e1, e2⟩ := n1 i x hx
      exact decide_eq_true (by omega))
    rw [g4] at hs
    refine hs.mono ?_
    rintro e w' ⟨N, rfl, hN, hb'⟩
    exact ⟨N, rfl, shares_bound ho hk ⟨h1, h2⟩ g3 ha hb hN, hb'⟩
  have HOk : Hid (OkPks ps) := ho
  obtain ⟨qa, hqa', hqae⟩ := nums_at hk.len ha
  obtain ⟨qb, hqb', hqbe⟩ := nums_at hk.len hb
  have hqa := hk.each a qa hqa'
  have hqb := hk.each b qb hqb'
  obtain ⟨b3', o3, rfl, -, hc3⟩ := hn.place (by rw [hk.len]; omega)
  have HQ : Hid (w.cell? ⟨b3', o3 + a, none⟩ = some (.int .i64 qa) ∧ w.cell? ⟨b3', o3 + b, none⟩ = some (.int .i64 qb)) := ⟨hc3 a qa hqa', hc3 b qb hqb'⟩
  have h8 := hk.len
  rw [hqae, hqbe] at HSp
  obtain ⟨m, hmm⟩ : ∃ m, ps.length = m := ⟨_, rfl⟩
  have HM : Hid (ps.length = m) := hmm
  have HOwnP : Hid (∀ w', Below w.heap.size w w' → Calls Tryd.prog 21 #[.slice pa m pcap] w' fun e w'' => ∃ a' cap', e = .returned (.slice a' m cap') ∧ LiesP w'' a' ps ∧ m ≤ cap' ∧ cap' ≤ maxLen ∧ Below w'.heap.size w' w'' ∧ Below w.heap.size w w'') := fun w' hb => by
    have := ownPackets_from pa pcap ps w w' hb HP.out.1 (by omega) HP.out.2
    rwa [hmm] at this
  rw [hmm] at hm HFit HRun HSp hm120 ⊢
  rw [h8] at HRun HSp ⊢
  clear hmm he3 hp hpa hpc hpm hn ho hk hqa' hqb' hqae hqbe hc3 h8 hqu
  go_enter Tryd.func11, Tryd.ntmps11
  go_wp2_with fail
  refine (turned_any _).mono ?_
  rintro e w1 ⟨rfl, hb⟩
  have HB1 : Hid (Below w.heap.size w w1) := hb
  clear hb
  go_wp2_with fail
  refine (HFit.out _).mono ?_
  rintro e w1' ⟨rfl, rfl⟩
  go_wp2_with fail
  refine (HOwnP.out _ HB1.out).mono ?_
  rintro e w3 ⟨a3, k3, rfl, l3, g3, m3, b3, B3⟩
  have HB3 : Hid (Below w.heap.size w w3 ∧ LiesP w3 a3 ps ∧ m ≤ k3 ∧ k3 ≤ maxLen) := ⟨B3, l3, g3, m3⟩
  clear l3 g3 m3 b3 B3
  go_wp2_with fail
  refine (HRun.out w3 a3 k3 HB3.out.1 HB3.out.2.1 HB3.out.2.2.1 HB3.out.2.2.2).mono ?_
  rintro e w4 ⟨a4, k4, l, rfl, ⟨hl4, hrs, hlen, hnil⟩, b4⟩
  have HB4 : Hid (Below w.heap.size w w4 ∧ LiesS w4 a4 l ∧ (a4 = none → l = [] ∧ k4 = 0) ∧ RoundSent per ps ns l ∧ l.length = m) := ⟨HB3.out.1.trans (b4.mono HB3.out.1.size), hl4, hnil, hrs, hlen⟩
  have HOwnS : Hid (∀ w', Below w4.heap.size w4 w' → Calls Tryd.prog 18 #[.slice a4 m k4] w' fun e w'' => ∃ a' cap', e = .returned (.slice a' m cap') ∧ LiesS w'' a' l ∧ Below w'.heap.size w' w'' ∧ Below w4.heap.size w4 w'') := fun w' hb => by
    have := ownSent_from a4 k4 l w4 w' hb hl4 (by omega) hnil
    rwa [hlen] at this
  clear hl4 hrs hlen hnil b4
  go_wp2_with fail
  refine (HOwnP.out _ HB4.out.1).mono ?_
  rintro e w5 ⟨a5, k5, rfl, l5, g5, m5, b5, B5⟩
  have HB5 : Hid (Below w.heap.size w w5 ∧ LiesP w5 a5 ps ∧ Below w4.heap.size w4 w5) := ⟨B5, l5, b5⟩
  clear l5 g5 m5 b5 B5
  go_wp2_with fail
  refine (HOwnS.out _ HB5.out.2.2).mono ?_
  rintro e w6 ⟨a6, k6, rfl, l6, b6, B6⟩
  have HB6 : Hid (Below w.heap.size w w6 ∧ LiesP w6 a5 ps ∧ LiesS w6 a6 l) := ⟨HB5.out.1.trans (b6.mono HB5.out.1.size), HB5.out.2.1.below b6, l6⟩
  clear l6 b6 B6
  go_wp2_with fail
  refine (HSp.out w6 a5 k5 a6 k6 l HB6.out.1 HB6.out.2.1 HB6.out.2.2 HB4.out.2.2.2.1 HB4.out.2.2.2.2).mono ?_
  rintro e w7 ⟨N, rfl, hN, b7⟩
  have HB7 : Hid (Below w.heap.size w w7 ∧ N ≤ 3 * qa * qb + maxSz ps m * (qa + qb)) := ⟨HB6.out.1.trans (b7.mono HB6.out.1.size), hN⟩
  clear hN b7
  go_wp2_with fail
  go_loopg [15, 16] m (fun gk sv iv wr => ∃ k : Nat, gk = m - k ∧ k ≤ m ∧ iv = .int .i64 (k : Int) ∧ sv = .int .i64 (maxSz ps k) ∧ w7 = wr)
  case atStart => exact ⟨0, rfl, Nat.zero_le _, rfl, rfl, rfl⟩
  case round =>
    obtain ⟨k, rfl, hkm', rfl, rfl, hw7⟩ := hrel
    subst hw7
    obtain ⟨sz, hsze⟩ : ∃ sz, maxSz ps k = sz := ⟨_, rfl⟩
    have HSz : Hid (maxSz ps k = sz) := hsze
    have hszr := maxSz_in HOk.out k
    rw [hsze] at hszr ⊢
    clear hsze
    by_cases hkm : k < m
    · obtain ⟨p, hpk, -⟩ := get_some ps k (by rw [HM.out]; exact hkm)
      obtain ⟨b2, o2, rfl, -, hc2⟩ := HP.out.1.place (by rw [HM.out]; omega)
      obtain ⟨z, hz⟩ : ∃ z, p.size = z := ⟨_, rfl⟩
      have c1 : w7.cell? ⟨b2, o2 + k * 3 + 1, none⟩ = some (.int .i64 z) := by rw [← hz]; exact cell_later HB7.out.1 (hc2 k _ hpk).2.1
      have HNx : Hid (maxSz ps (k + 1) = max sz z) := by
        show _ = _
        rw [maxSz_succ hpk, HSz.out, hz]
      clear hpk hc2 hz
      by_cases hgt : sz < z
      · have HN2 : Hid (maxSz ps (k + 1) = z) := HNx.out.trans (by omega)
        go_wp2_with fail
        go_roundg (m - (k + 1))
        case measure => omega
        case rel => exact ⟨k + 1, rfl, by omega, by go_num, by rw [HN2.out], rfl⟩
      · have HN2 : Hid (maxSz ps (k + 1) = sz) := HNx.out.trans (by omega)
        go_wp2_with fail
        go_roundg (m - (k + 1))
        case measure => omega
        case rel => exact ⟨k + 1, rfl, by omega, by go_num, by rw [HN2.out], rfl⟩
    · obtain rfl : k = m := by omega
      have hbd := HB7.out.2
      rw [HSz.out] at hbd
      have c1 := cell_later HB7.out.1 HQ.out.1
      have c2 := cell_later HB7.out.1 HQ.out.2
      have m1 : 0 ≤ 3 * qa * qb := Int.mul_nonneg (by omega) (by omega)
      have m2 : 3 * qa * qb ≤ 9000 * 3000 := Int.mul_le_mul (by omega) hqb.2 (by omega) (by omega)
      have m3 : 0 ≤ sz * (qa + qb) := Int.mul_nonneg hszr.1 (by omega)
      have m4 : sz * (qa + qb) ≤ 1500 * 6000 := Int.mul_le_mul hszr.2 (by omega) (by omega) (by omega)
      have v1 : IntKind.i64.wrap (3 * qa) = 3 * qa := IntWalk.i64_in _ (by omega)
      obtain ⟨X, hX⟩ : ∃ X, 3 * qa * qb = X := ⟨_, rfl⟩
      obtain ⟨Y, hY⟩ : ∃ Y, sz * (qa + qb) = Y := ⟨_, rfl⟩
      rw [hX] at m1 m2 hbd
      rw [hY] at m3 m4 hbd
      have v2 : IntKind.i64.wrap (3 * qa * qb) = X := by rw [hX]; exact IntWalk.i64_in _ (by omega)
      have v3 : IntKind.i64.wrap (qa + qb) = qa + qb := IntWalk.i64_in _ (by omega)
      have v4 : IntKind.i64.wrap (sz * (qa + qb)) = Y := by rw [hY]; exact IntWalk.i64_in _ (by omega)
      have v5 : IntKind.i64.wrap (X + Y) = X + Y := IntWalk.i64_in _ (by omega)
      have v6 : decide (N ≤ X + Y) = true := decide_eq_true hbd
      have hai : (a : Int) < 8 := by omega
      have hbi : (b : Int) < 8 := by omega
      clear hX hY hbd
      go_wp2_with fail
      go_quiet (fail)
      go_wp2_with fail
      go_ret
      exact ⟨rfl, below_drewN HB7.out.1 _⟩

end Go.Proofs.YtepnfioldbhffabDoor
