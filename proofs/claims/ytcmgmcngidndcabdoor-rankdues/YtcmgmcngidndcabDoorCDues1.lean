/- RankDues: another order, in memory; its short ways. -/
import Derived.Test.YtcmgmcngidndcabDoorCRankBad
import Derived.Test.YtcmgmcngidndcabDoorCOwnInts
import Derived.Test.YtcmgmcngidndcabDoorCSends
import Derived.Test.YtcmgmcngidndcabDoorCAllLeasts
import Derived.Test.YtcmgmcngidndcabDoorCAllLates
namespace Go.Proofs.YtcmgmcngidndcabDoor
open Go.RowKit

theorem sumOf_in {f : Nat → Int} (hf : ∀ i, 0 ≤ f i ∧ f i ≤ 1500000) : ∀ l, 0 ≤ sumOf f l ∧ sumOf f l ≤ 1500000 * l.length
  | [] => ⟨Int.le_refl _, Int.le_refl _⟩
  | a :: r => by
    have := sumOf_in hf r
    have := hf a
    simp only [sumOf, List.length_cons]
    omega
theorem time_in {per : Int} {ps : List Pk} (ho : OkPks ps) (h1 : 1 ≤ per) (h2 : per ≤ 1000) (i : Nat) : 0 ≤ per * bytesOf ps i ∧ per * bytesOf ps i ≤ 1500000 := by
  have hbb := bytes_in ho i
  have a1 : 0 ≤ per * bytesOf ps i := Int.mul_nonneg (by omega) hbb.1
  have a2 : per * bytesOf ps i ≤ 1000 * 1500 := Int.mul_le_mul h2 hbb.2 hbb.1 (by omega)
  omega
/-- When the last one of another order is through. -/
def rowEnd (per : Int) (ps : List Pk) (T : Int) (os : List Sn) : Int := T + sumOf (fun i => per * bytesOf ps i) (numsOf os)
theorem rowEnd_snoc (per : Int) (ps : List Pk) (T : Int) (os : List Sn) (b : Nat) (x y : Int) : rowEnd per ps T (os ++ [⟨b, x, y⟩]) = rowEnd per ps T os + per * bytesOf ps b := by
  simp only [rowEnd, numsOf, List.map_append, List.map_cons, List.map_nil, sumOf_append, sumOf, Int.toNat_natCast, Int.add_zero, Int.add_assoc]
theorem rowEnd_in {per : Int} {ps : List Pk} {T : Int} (ho : OkPks ps) (h1 : 1 ≤ per) (h2 : per ≤ 1000) (hT : 0 ≤ T ∧ T ≤ 1099511627776) (os : List Sn) : 0 ≤ rowEnd per ps T os ∧ rowEnd per ps T os ≤ 1099511627776 + 1500000 * os.length := by
  have := sumOf_in (time_in (per := per) ho h1 h2) (numsOf os)
  have e : (numsOf os).length = os.length := by simp [numsOf]
  rw [e] at this
  unfold rowEnd
  omega

/-- Another order while it is made: w is the world at its start. -/
structure OtherAt (per : Int) (ps : List Pk) (T : Int) (w wr : World) (v : Value) (g : Nat) (os : List Sn) : Prop where
  row : InRow per ps T os
  own : OwnS wr w.heap.size v os
  done : DoneAt wr g ps.length os
  apart : v.ownBlock ≠ some g
  new : w.heap.size ≤ g
  below : Below w.heap.size w wr
section
variable {per : Int} {ps : List Pk} {T : Int} {w wr wr' : World} {v : Value} {g : Nat} {os : List Sn}
theorem OtherAt.mid (h : OtherAt per ps T w wr v g os) (b : Nat) (o : Obj) : OwnS ((wr.setCell ⟨g, b, none⟩ (.bool true)).alloc o) w.heap.size v os ∧ Below w.heap.size w ((wr.setCell ⟨g, b, none⟩ (.bool true)).alloc o) := by
  have hb2 : But (fun k => k = g) wr (wr.setCell ⟨g, b, none⟩ (.bool true)) := But.setCell (S := fun k => k = g) (But.refl _ wr) (p := ⟨g, b, none⟩) rfl _
  have hb3 : But (fun k => k = g) wr ((wr.setCell ⟨g, b, none⟩ (.bool true)).alloc o) := hb2.alloc o
  exact ⟨ownsRow_of_block h.own (fun k hk hlt => hb3.block k hlt (fun e => h.apart (by rw [← e]; exact hk))), h.below.trans (hb3.below h.below.size fun k hk => by rw [hk]; exact h.new)⟩
theorem OtherAt.grown (h : OtherAt per ps T w wr v g os) {b : Nat} {x : Sn} {g' cap : Nat} {w2 : World} (o : Obj) (h1 : w2.ownsRow w.heap.size 43 3 (.slice (some ⟨g', 0, none⟩) (os.length + 1) cap) (os.length + 1) (cellsS os ++ cellsS [x])) (h2 : ((wr.setCell ⟨g, b, none⟩ (.bool true)).alloc o).grownBy w2 v.ownBlock) (h3 : v.ownBlock = some g' ∨ g' = ((wr.setCell ⟨g, b, none⟩ (.bool true)).alloc o).heap.size)
    (hb : b < ps.length) (hx : x = ⟨b, rowEnd per ps T os, rowEnd per ps T os + per * bytesOf ps b⟩) : OtherAt per ps T w w2 (.slice (some ⟨g', 0, none⟩) (os.length + 1) cap) g (os ++ [x]) := by
  subst hx
  have hd1 := h.done.put b hb (rowEnd per ps T os) (rowEnd per ps T os + per * bytesOf ps b)
  have hd2 : DoneAt ((wr.setCell ⟨g, b, none⟩ (.bool true)).alloc o) g ps.length (os ++ [⟨(b : Nat), rowEnd per ps T os, rowEnd per ps T os + per * bytesOf ps b⟩]) := hd1.of_block (((Below.refl _ _).alloc (Nat.le_refl _) o : Below (wr.setCell ⟨g, b, none⟩ (.bool true)).heap.size _ _).block g hd1.lt) (by simp)
  have hd : DoneAt w2 g ps.length (os ++ [⟨(b : Nat), rowEnd per ps T os, rowEnd per ps T os + per * bytesOf ps b⟩]) := hd2.of_block (h2.block g hd2.lt (fun e => h.apart e.symm)) h2.size
  have hne : g' ≠ g := by
    rcases h3 with h3 | h3
    · intro e; subst e; exact h.apart h3
    · have := hd2.lt; omega
  have hm := h.mid b o
  have hb1 : But (fun k => v.ownBlock = some k) ((wr.setCell ⟨g, b, none⟩ (.bool true)).alloc o) w2 := ⟨h2.os, h2.tape, h2.output, h2.size, fun k hk hn => h2.block k hk (fun e => hn e.symm)⟩
  refine ⟨h.row.snoc hb, ?_, hd, fun e => hne (Option.some.inj e), h.new, hm.2.trans (hb1.below hm.2.size fun k hk => (ownsRow_lt hm.1 hk).1)⟩
  unfold OwnS
  rw [List.length_append, cellsS_append]
  exact h1
end

set_option maxRecDepth 100000 in
set_option maxHeartbeats 1000000 in
theorem dues_many (pa : Option Addr) (m pcap : Nat) (per : Int) (na : Option Addr) (nn ncap : Nat) (oa : Option Addr) (q ocap : Nat) (w : World) (h : 60 < m ∨ (¬ 60 < m ∧ 30 < nn) ∨ (¬ 60 < m ∧ ¬ 30 < nn ∧ 100 < q)) :
    Calls Tryd.prog 7 #[.slice pa m pcap, .int .i64 per, .slice na nn ncap, .slice oa q ocap] w fun e w' => e = .returned (.bool true) ∧ Below w.heap.size w w' := by
  rcases h with h | ⟨h, h'⟩ | ⟨h, h', h''⟩
  · go_enter Tryd.func7, Tryd.ntmps7
    go_wp2_with fail
    refine (sends_any _).mono ?_
    rintro e w1 ⟨rfl, hb⟩
    have HB : Hid (Below w.heap.size w w1) := hb
    clear hb
    go_wp2_with fail
    go_ret
    exact ⟨rfl, HB.out⟩
  · go_enter Tryd.func7, Tryd.ntmps7
    go_wp2_with fail
    refine (sends_any _).mono ?_
    rintro e w1 ⟨rfl, hb⟩
    have HB : Hid (Below w.heap.size w w1) := hb
    clear hb
    go_wp2_with fail
    go_ret
    exact ⟨rfl, HB.out⟩
  · go_enter Tryd.func7, Tryd.ntmps7
    go_wp2_with fail
    refine (sends_any _).mono ?_
    rintro e w1 ⟨rfl, hb⟩
    have HB : Hid (Below w.heap.size w w1) := hb
    clear hb
    go_wp2_with fail
    go_ret
    exact ⟨rfl, HB.out⟩

set_option maxRecDepth 100000 in
set_option maxHeartbeats 2000000 in
theorem dues_bad (pa : Option Addr) (pcap : Nat) (ps : List Pk) (per : Int) (na : Option Addr) (ncap : Nat) (ns : List Int) (oa : Option Addr) (q ocap : Nat) (w : World) (ad : Nat → Addr) (he : ErrsBO w ad) (he2 : NumErrs w ad) (hp : LiesP w pa ps) (hpa : pa = none → ps = [] ∧ pcap = 0) (hn : LiesN w na ns) (hna : na = none → ns = [] ∧ ncap = 0) (hm : ps.length ≤ 60) (hnn : ns.length ≤ 30) (hq : q ≤ 100) (hno : ¬ (OkPks ps ∧ 1 ≤ per ∧ per ≤ 1000 ∧ NumsOk 0 1099511627776 ns)) :
    Calls Tryd.prog 7 #[.slice pa ps.length pcap, .int .i64 per, .slice na ns.length ncap, .slice oa q ocap] w fun e w' => e = .returned (.bool true) ∧ Below w.heap.size w w' := by
  obtain ⟨i0, hi, hz0, hz1, hz2⟩ := info_parts Tryd.infoInt
  have HP : Hid (LiesP w pa ps ∧ (pa = none → ps = [] ∧ pcap = 0)) := ⟨hp, hpa⟩
  have HN : Hid (LiesN w na ns ∧ (na = none → ns = [] ∧ ncap = 0)) := ⟨hn, hna⟩
  have HRun : Hid (∀ W a3 k3 a5 k5, Below w.heap.size w W → LiesP W a3 ps → LiesN W a5 ns → ps.length ≤ k3 → k3 ≤ maxLen → Calls Tryd.prog 34 #[.slice a3 ps.length k3, .int .i64 per, .slice a5 ns.length k5] W fun e w' => ∃ ty v, e = .returned (.tuple #[.slice none 0 0, .iface ty v]) ∧ Below W.heap.size W w') := fun W a3 k3 a5 k5 hb h1 h2 h3 h4 => rankDue_bad a3 k3 ps per a5 k5 ns W ad (he.below hb) (he2.below hb) h1 h3 h4 h2 hno
  clear he he2 hp hpa hn hna hno
  obtain ⟨m, hmm⟩ : ∃ m, ps.length = m := ⟨_, rfl⟩
  obtain ⟨r, hnr⟩ : ∃ r, ns.length = r := ⟨_, rfl⟩
  have HM : Hid (ps.length = m ∧ ns.length = r) := ⟨hmm, hnr⟩
  have HOwnP : Hid (∀ w', Below w.heap.size w w' → Calls Tryd.prog 21 #[.slice pa m pcap] w' fun e w'' => ∃ a' cap', e = .returned (.slice a' m cap') ∧ LiesP w'' a' ps ∧ m ≤ cap' ∧ cap' ≤ maxLen ∧ Below w'.heap.size w' w'' ∧ Below w.heap.size w w'') := fun w' hb => by
    have := ownPackets_from pa pcap ps w w' hb HP.out.1 (by omega) HP.out.2
    rwa [hmm] at this
  rw [hmm] at hm HRun ⊢
  rw [hnr] at hnn HRun ⊢
  clear hmm hnr
  have hm' : ¬ 60 < m := by omega
  have hnn' : ¬ 30 < r := by omega
  have hq' : ¬ 100 < q := by omega
  go_enter Tryd.func7, Tryd.ntmps7
  go_wp2_with fail
  refine (sends_any _).mono ?_
  rintro e w1 ⟨rfl, hb⟩
  have HB1 : Hid (Below w.heap.size w w1) := hb
  clear hb
  go_wp2_with fail
  refine (HOwnP.out _ HB1.out).mono ?_
  rintro e w3 ⟨a3, k3, rfl, l3, g3, m3, b3, B3⟩
  have HB3 : Hid (Below w.heap.size w w3 ∧ LiesP w3 a3 ps ∧ m ≤ k3 ∧ k3 ≤ maxLen) := ⟨B3, l3, g3, m3⟩
  have HN3 : Hid (LiesN w3 na ns) := HN.out.1.below B3
  clear l3 g3 m3 b3 B3
  go_wp2_with (at_builtin; go_must (refine wpList_append_ints _ rfl _ _ 32 rfl 3 i0 (.int .i64 0) Tryd.underlying32 hi hz0 hz1 hz2 rfl na ncap r ns HM.out.2 rfl rfl HN3.out HN.out.2 (by omega) ?_; rintro a5 k5 w5 h5; have HB5 : Hid (Below w.heap.size w w5 ∧ LiesP w5 a3 ps ∧ LiesN w5 a5 ns) := ⟨HB3.out.1.trans (h5.2.2.2.mono HB3.out.1.size), HB3.out.2.1.below h5.2.2.2, h5.1⟩; clear h5))
  refine (HRun.out w5 a3 k3 a5 k5 HB5.out.1 HB5.out.2.1 HB5.out.2.2 HB3.out.2.2.1 HB3.out.2.2.2).mono ?_
  rintro e w6 ⟨ty, v, rfl, b6⟩
  have HB6 : Hid (Below w.heap.size w w6) := HB5.out.1.trans (b6.mono HB5.out.1.size)
  clear b6
  go_wp2_with fail
  go_ret
  exact ⟨rfl, HB6.out⟩
end Go.Proofs.YtcmgmcngidndcabDoor
