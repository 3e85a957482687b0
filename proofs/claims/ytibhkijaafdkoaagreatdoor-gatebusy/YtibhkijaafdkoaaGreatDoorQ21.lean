/- Own facts, put together: no statement of its own. -/
import Derived.Test.YtibhkijaafdkoaaGreatDoorQ13
import Derived.Test.YtibhkijaafdkoaaGreatDoorQ14
import Derived.Test.YtibhkijaafdkoaaGreatDoorQ05
import Derived.Deep.Onto
import Derived.Laws.Rows
import Derived.Test.YtibhkijaafdkoaaGreatDoorQ01
namespace Go.Proofs.YtibhkijaafdkoaaGreatDoor
open Go.RowKit
theorem flow_at {ps : List Pk} {k : Nat} {p : Pk} (ho : OkPks ps) (hp : ps[k]? = some p) : ∃ m : Nat, m < 8 ∧ p.flow = (m : Int) ∧ flowOf ps k = m := by
 obtain ⟨h1, h2, -⟩ := okPk_true (ho.each _ p hp).1
 exact ⟨p.flow.toNat, by omega, by omega, flowOf_get hp⟩
theorem nums_at {ns : List Int} (h : ns.length = 8) {m : Nat} (hm : m < 8) : ∃ x, ns[m]? = some x ∧ ns.getD m 0 = x := by
 obtain ⟨x, hx, -⟩ := get_some ns m (by omega)
 exact ⟨x, hx, by simp [List.getD, hx]⟩
set_option maxRecDepth 100000 in
set_option maxHeartbeats 1000000 in
theorem rankKey (ps : List Pk) (ns : List Int) (gp gr : Nat) (pa : Option Addr) (pcap : Nat) (na : Option Addr) (ncap : Nat) (w : World) (k : Nat) (hcp : w.cell? ⟨gp, 0, none⟩ = some (.slice pa ps.length pcap)) (hcr : w.cell? ⟨gr, 0, none⟩ = some (.slice na ns.length ncap)) (hp : LiesP w pa ps) (hn : LiesN w na ns) (ho : OkPks ps) (h8 : ns.length = 8) (hk : k < ps.length) :
  Calls Tryz.prog 132 #[.int .i64 (k : Int), .pointer (some ⟨gr, 0, none⟩), .pointer (some ⟨gp, 0, none⟩)] w fun e w' => e = .returned (.int .i64 (ofFlow ps ns k)) ∧ ∃ m, w' = w.drewN m := by
 obtain ⟨p, hpk, -⟩ := get_some ps k hk
 obtain ⟨m, hm, hf, hfo⟩ := flow_at ho hpk
 obtain ⟨x, hx, hxd⟩ := nums_at h8 hm
 obtain ⟨b, off, rfl, -, hc⟩ := hp.place (by omega)
 obtain ⟨b2, off2, rfl, -, hc2⟩ := hn.place (by omega)
 have c1 : w.cell? ⟨b, off + k * 3, none⟩ = some (.int .i64 (m : Int)) := by rw [← hf]; exact (hc k p hpk).1
 have c2 := hc2 m x hx
 have hE : ofFlow ps ns k = x := by rw [ofFlow, hfo]; exact hxd
 have hfew := ho.few
 obtain ⟨n, hnn⟩ : ∃ n, ps.length = n := ⟨_, rfl⟩
 rw [hnn] at hcp hk hfew
 rw [h8] at hcr
 rw [hE]
 clear hp hn hc hc2 hpk hx ho h8 hE hxd hnn hfo hf
 go_enter Tryz.func132, Tryz.ntmps132
 go_wp2_with fail
 go_quiet (fail)
 go_wp2
 go_ret
 exact ⟨rfl, _, rfl⟩
set_option maxRecDepth 100000 in
set_option maxHeartbeats 1000000 in
theorem dueKey (ps : List Pk) (ns : List Int) (gp gr : Nat) (pa : Option Addr) (pcap : Nat) (na : Option Addr) (ncap : Nat) (w : World) (k : Nat) (hcp : w.cell? ⟨gp, 0, none⟩ = some (.slice pa ps.length pcap)) (hcr : w.cell? ⟨gr, 0, none⟩ = some (.slice na ns.length ncap)) (hp : LiesP w pa ps) (hn : LiesN w na ns) (ho : OkPks ps) (h8 : NumsOk 0 1099511627776 ns) (hk : k < ps.length) :
  Calls Tryz.prog 134 #[.int .i64 (k : Int), .pointer (some ⟨gp, 0, none⟩), .pointer (some ⟨gr, 0, none⟩)] w fun e w' => e = .returned (.int .i64 (tickOf ps k + ofFlow ps ns k)) ∧ ∃ m, w' = w.drewN m := by
 obtain ⟨p, hpk, -⟩ := get_some ps k hk
 obtain ⟨m, hm, hf, hfo⟩ := flow_at ho hpk
 obtain ⟨x, hx, hxd⟩ := nums_at h8.len hm
 obtain ⟨b, off, rfl, -, hc⟩ := hp.place (by omega)
 obtain ⟨b2, off2, rfl, -, hc2⟩ := hn.place (by have := h8.len; omega)
 have c1 : w.cell? ⟨b, off + k * 3, none⟩ = some (.int .i64 (m : Int)) := by rw [← hf]; exact (hc k p hpk).1
 obtain ⟨t, ht⟩ : ∃ t, p.tick = t := ⟨_, rfl⟩
 have c3 : w.cell? ⟨b, off + k * 3 + 2, none⟩ = some (.int .i64 t) := by rw [← ht]; exact (hc k p hpk).2.2
 have c2 := hc2 m x hx
 obtain ⟨t0, t1⟩ := (show 0 ≤ t ∧ t ≤ 1099511627776 by rw [← ht]; have := okPk_true (ho.each _ p hpk).1; omega)
 obtain ⟨x0, x1⟩ := h8.each m x hx
 have hE : tickOf ps k + ofFlow ps ns k = t + x := by rw [ofFlow, hfo, hxd, tickOf_get hpk, ht]
 have hfew := ho.few
 have hlen := h8.len
 obtain ⟨n, hnn⟩ : ∃ n, ps.length = n := ⟨_, rfl⟩
 rw [hnn] at hcp hk hfew
 rw [hlen] at hcr
 rw [hE]
 have hw : IntKind.i64.wrap (t + x) = t + x := IntWalk.i64_in _ (by omega)
 clear hp hn hc hc2 hpk hx ho h8 hE hxd hnn hfo hf hlen ht
 go_enter Tryz.func134, Tryz.ntmps134
 go_wp2_with fail
 go_quiet (fail)
 go_wp2
 go_ret
 exact ⟨rfl, _, rfl⟩
end Go.Proofs.YtibhkijaafdkoaaGreatDoor

namespace Go.Proofs.YtibhkijaafdkoaaGreatDoor
open Go.RowKit
set_option maxHeartbeats 1000000 in
theorem upTo_yes (hi x : Int) (g : Nat) (w : World) (hc : w.cell? ⟨g, 0, none⟩ = some (.int .i64 hi)) (h : 0 ≤ x ∧ x ≤ hi) :
  Calls Tryz.prog 156 #[.int .i64 x, .pointer (some ⟨g, 0, none⟩)] w fun e w' => e = .returned (.bool true) ∧ w' = w := by
 obtain ⟨h1, h2⟩ := h
 go_enter Tryz.func156, Tryz.ntmps156
 go_wp2
 go_ret
 exact ⟨rfl, rfl⟩
set_option maxHeartbeats 1000000 in
theorem upTo_no (hi x : Int) (g : Nat) (w : World) (hc : w.cell? ⟨g, 0, none⟩ = some (.int .i64 hi)) (h : ¬ (0 ≤ x ∧ x ≤ hi)) :
  Calls Tryz.prog 156 #[.int .i64 x, .pointer (some ⟨g, 0, none⟩)] w fun e w' => e = .returned (.bool false) ∧ w' = w := by
 by_cases h1 : 0 ≤ x
 ·
  have h2 : ¬ x ≤ hi := fun h' => h ⟨h1, h'⟩
  clear h
  go_enter Tryz.func156, Tryz.ntmps156
  go_wp2
  go_ret
  exact ⟨rfl, rfl⟩
 ·
  clear h
  go_enter Tryz.func156, Tryz.ntmps156
  go_wp2
  go_ret
  exact ⟨rfl, rfl⟩
set_option maxHeartbeats 1000000 in
theorem checkNumbers_shape (a : Option Addr) (n cap : Nat) (f : Value) (w : World) (ad : Nat → Addr) (h : n ≠ 8) (he : w.cell? ⟨4, 0, none⟩ = some (.iface 271 (.pointer (some (ad 2))))) :
  Calls Tryz.prog 57 #[.slice a n cap, f] w fun e w' => e = .returned (.iface 271 (.pointer (some (ad 2)))) ∧ w' = w := by
 have h8 : (n : Int) ≠ 8 := by omega
 have h8' : ((n : Int) == 8) = false := by simpa using h8
 go_enter Tryz.func57, Tryz.ntmps57
 go_wp2
 go_ret
 exact ⟨rfl, rfl⟩
set_option maxHeartbeats 2000000 in
theorem checkNumbers_to (a : Option Addr) (cap : Nat) (ns : List Int) (hi : Int) (g : Nat) (w : World) (ad : Nat → Addr) (hc : w.cell? ⟨g, 0, none⟩ = some (.int .i64 hi)) (hl : LiesN w a ns) (h8 : ns.length = 8) (j : Nat) (hj : j ≤ 8) (hg : ∀ (i : Nat) y, i < j → ns[i]? = some y → 0 ≤ y ∧ y ≤ hi) (R : Value)
  (h : (j = 8 ∧ R = .nilIface) ∨ (R = .iface 271 (.pointer (some (ad 1))) ∧ w.cell? ⟨3, 0, none⟩ = some (.iface 271 (.pointer (some (ad 1)))) ∧ ∃ x, ns[j]? = some x ∧ ¬ (0 ≤ x ∧ x ≤ hi))) :
  Calls Tryz.prog 57 #[.slice a 8 cap, .func (.func 156) #[] #[.pointer (some ⟨g, 0, none⟩)]] w fun e w' => e = .returned R ∧ w' = w := by
 have HG : Hid (∀ (i : Nat) y, i < j → ns[i]? = some y → 0 ≤ y ∧ y ≤ hi) := hg
 have HR : Hid ((j = 8 ∧ R = .nilIface) ∨ (R = .iface 271 (.pointer (some (ad 1))) ∧ w.cell? ⟨3, 0, none⟩ = some (.iface 271 (.pointer (some (ad 1)))) ∧ ∃ x, ns[j]? = some x ∧ ¬ (0 ≤ x ∧ x ≤ hi))) := h
 obtain ⟨b, off, rfl, -, hcell⟩ := hl.place (by omega)
 have HC : Hid (∀ (i : Nat) x, ns[i]? = some x → w.cell? ⟨b, off + i, none⟩ = some (.int .i64 x)) := hcell
 have H8 : Hid (ns.length = 8) := h8
 clear hg h hl hcell h8
 go_enter Tryz.func57, Tryz.ntmps57
 go_wp2_with fail
 go_loopw [13] (fun i wr => ∃ k : Nat, k ≤ j ∧ i = .int .i64 k ∧ wr = w) (fun i _ => 8 - (intOf i).toNat)
 case atStart => exact ⟨0, Nat.zero_le _, rfl, rfl⟩
 case round =>
  obtain ⟨k, hk, rfl, rfl⟩ := hrel
  by_cases hkj : k < j
  ·
   obtain ⟨x, hx, -⟩ := get_some ns k (by rw [H8.out]; omega)
   have hok := HG.out k x hkj hx
   have c1 := HC.out k x hx
   clear hx
   go_wp2_with fail
   refine (upTo_yes hi x g _ hc hok).mono ?_
   rintro e w1 ⟨rfl, rfl⟩
   go_wp2_with fail
   go_roundw
   case rel => exact ⟨k + 1, by omega, by go_num, trivial⟩
   case measure => simp [intOf]; omega
  ·
   obtain rfl : k = j := by omega
   rcases HR.out with ⟨rfl, rfl⟩ | ⟨rfl, he, x, hx, hbad⟩
   ·
    go_wp2_with fail
    go_ret
    exact ⟨rfl, rfl⟩
   ·
    have c1 := HC.out k x hx
    have hk8 : k < 8 := by
     rw [← H8.out]
     rcases Nat.lt_or_ge k ns.length with h' | h'
     · exact h'
     · simp [List.getElem?_eq_none h'] at hx
    clear hx
    go_wp2_with fail
    refine (upTo_no hi x g _ hc hbad).mono ?_
    rintro e w1 ⟨rfl, rfl⟩
    go_wp2_with fail
    go_ret
    exact ⟨rfl, rfl⟩
def NumErrs (w : World) (ad : Nat → Addr) : Prop := w.cell? ⟨3, 0, none⟩ = some (.iface 271 (.pointer (some (ad 1)))) ∧ w.cell? ⟨4, 0, none⟩ = some (.iface 271 (.pointer (some (ad 2))))
theorem NumErrs.below {w w' : World} {ad : Nat → Addr} (h : NumErrs w ad) (hb : Below w.heap.size w w') : NumErrs w' ad := ⟨cell_later hb h.1, cell_later hb h.2⟩
set_option maxHeartbeats 1000000 in
theorem checkUpTo_core {R : Value} (a : Option Addr) (n cap : Nat) (hi : Int) (w : World) (h : Calls Tryz.prog 57 #[.slice a n cap, .func (.func 156) #[] #[.pointer (some ⟨w.heap.size, 0, none⟩)]] (w.alloc (.cells #[.int .i64 hi] 3)) fun e w' => e = .returned R ∧ w' = w.alloc (.cells #[.int .i64 hi] 3)) :
  Calls Tryz.prog 131 #[.slice a n cap, .int .i64 hi] w fun e w' => e = .returned R ∧ Below w.heap.size w w' := by
 have HC : Hid (Calls Tryz.prog 57 #[.slice a n cap, .func (.func 156) #[] #[.pointer (some ⟨w.heap.size, 0, none⟩)]] (w.alloc (.cells #[.int .i64 hi] 3)) fun e w' => e = .returned R ∧ w' = w.alloc (.cells #[.int .i64 hi] 3)) := h
 clear h
 go_enter Tryz.func131, Tryz.ntmps131
 go_wp2_with fail
 refine HC.out.mono ?_
 rintro e w1 ⟨rfl, rfl⟩
 go_wp2_with fail
 go_ret
 exact ⟨rfl, (Below.refl _ _).alloc (Nat.le_refl _) _⟩
theorem checkUpTo_ok (a : Option Addr) (cap : Nat) (ns : List Int) (hi : Int) (w : World) (hl : LiesN w a ns) (ho : NumsOk 0 hi ns) :
  Calls Tryz.prog 131 #[.slice a ns.length cap, .int .i64 hi] w fun e w' => e = .returned .nilIface ∧ Below w.heap.size w w' := by
 have hb : Below w.heap.size w (w.alloc (.cells #[.int .i64 hi] 3)) := (Below.refl _ _).alloc (Nat.le_refl _) _
 rw [ho.len]
 exact checkUpTo_core a 8 cap hi w (checkNumbers_to a cap ns hi w.heap.size _ (fun _ => ⟨0, 0, none⟩) (by simp) (hl.below hb) ho.len 8 (Nat.le_refl _) (fun i y _ hy => ho.each i y hy) .nilIface (.inl ⟨rfl, rfl⟩))
theorem checkUpTo_bad (a : Option Addr) (cap : Nat) (ns : List Int) (hi : Int) (w : World) (ad : Nat → Addr) (he : NumErrs w ad) (hl : LiesN w a ns) (c : Nat) (h : NumsFault 0 hi ns c) (hc : 0 < c) :
  Calls Tryz.prog 131 #[.slice a ns.length cap, .int .i64 hi] w fun e w' => e = .returned (sentOf ad c) ∧ Below w.heap.size w w' := by
 have hb : Below w.heap.size w (w.alloc (.cells #[.int .i64 hi] 3)) := (Below.refl _ _).alloc (Nat.le_refl _) _
 rcases h with ⟨rfl, h8⟩ | ⟨rfl, j, h8, hx, hg⟩ | ⟨rfl, -⟩
 · exact checkUpTo_core a _ cap hi w (checkNumbers_shape a _ cap _ _ ad h8 (he.below hb).2)
 ·
  rw [h8]
  have hj : j ≤ 8 := by
   obtain ⟨x, hx, -⟩ := hx
   rw [← h8]
   rcases Nat.lt_or_ge j ns.length with h' | h'
   · exact Nat.le_of_lt h'
   · simp [List.getElem?_eq_none h'] at hx
  exact checkUpTo_core a 8 cap hi w (checkNumbers_to a cap ns hi w.heap.size _ ad (by simp) (hl.below hb) h8 j hj hg _ (.inr ⟨rfl, (he.below hb).1, hx⟩))
 · omega
end Go.Proofs.YtibhkijaafdkoaaGreatDoor

namespace Go.Proofs.YtibhkijaafdkoaaGreatDoor
open Go.RowKit
def nums (xs : List Nat) : List Value := xs.map fun (k : Nat) => .int .i64 (k : Int)
theorem nums_length (xs : List Nat) : (nums xs).length = xs.length := by simp [nums]
theorem nums_append (a b : List Nat) : nums (a ++ b) = nums a ++ nums b := by simp [nums]
structure Slides (w : World) (B : Nat) (v : Value) (F : Nat → Prop) (xs : List Nat) : Prop where
 made : ∃ ao b off cap, v = .slice ao xs.length cap ∧ Came w 1 ao b off xs.length cap (nums xs) ∧ cap ≤ maxLen ∧ (0 < cap → F b)
 foot : ∀ k, F k → B ≤ k ∧ k < w.heap.size
theorem Slides.nil (w : World) (B : Nat) : Slides w B (.slice none 0 0) (fun _ => False) [] :=
 ⟨⟨none, 0, 0, 0, rfl, ⟨Nat.le_refl _, fun h => absurd h (Nat.lt_irrefl _), fun h => absurd h (Nat.lt_irrefl _), rfl, fun j u h => by simp [nums] at h, fun j h => by simp at h⟩, Nat.zero_le _, fun h => absurd h (Nat.lt_irrefl _)⟩, fun _ h => h.elim⟩
theorem Slides.but {S : Nat → Prop} {w w' : World} {B : Nat} {v : Value} {F : Nat → Prop} {xs : List Nat} (h : Slides w B v F xs) (hb : But S w w') (hs : ∀ k, F k → ¬ S k) : Slides w' B v F xs := by
 obtain ⟨ao, b, off, cap, rfl, ⟨h1, h2, h3, h4, h5, h6⟩, hm, hB⟩ := h.made
 refine ⟨⟨ao, b, off, cap, rfl, ⟨h1, h2, fun h => Nat.lt_of_lt_of_le (h3 h) hb.size, h4, fun j u hu => ?_, fun j hj => ?_⟩, hm, hB⟩, fun k hk => ⟨(h.foot k hk).1, Nat.lt_of_lt_of_le (h.foot k hk).2 hb.size⟩⟩
 ·
  have hc : 0 < cap := by
   have := (List.getElem?_eq_some_iff.1 hu).1
   rw [nums_length] at this
   omega
  rw [hb.cell (p := ⟨b, off + j, none⟩) (h3 hc) (hs b (hB hc))]
  exact h5 j u hu
 ·
  have hc : 0 < cap := by omega
  rw [hb.cell (p := ⟨b, off + xs.length * 1 + j, none⟩) (h3 hc) (hs b (hB hc)), hb.frozen (p := ⟨b, off + xs.length * 1 + j, none⟩) (h3 hc) (hs b (hB hc))]
  exact h6 j hj
theorem Slides.form {w : World} {B : Nat} {v : Value} {F : Nat → Prop} {xs : List Nat} (h : Slides w B v F xs) : ∃ ao cap, v = .slice ao xs.length cap ∧ xs.length ≤ cap ∧ cap ≤ maxLen := by
 obtain ⟨ao, b, off, cap, rfl, hc, hm, -⟩ := h.made
 exact ⟨ao, cap, rfl, hc.le, hm⟩
theorem Slides.first {w : World} {B : Nat} {v : Value} {F : Nat → Prop} {k : Nat} {xs : List Nat} (h : Slides w B v F (k :: xs)) :
  ∃ b off cap, v = .slice (some ⟨b, off, none⟩) (xs.length + 1) cap ∧ xs.length + 1 ≤ cap ∧ cap ≤ maxLen ∧ w.cell? ⟨b, off, none⟩ = some (.int .i64 (k : Int)) ∧ F b ∧
   (1 < cap → Slides w B (.slice (some ⟨b, off + 1, none⟩) xs.length (cap - 1)) F xs) ∧ (cap = 1 → xs = [] ∧ Slides w B (.slice (some ⟨b, off, none⟩) 0 0) F []) := by
 obtain ⟨ao, b, off, cap, rfl, ⟨h1, h2, h3, h4, h5, h6⟩, hm, hB⟩ := h.made
 simp only [List.length_cons] at h1 h6
 have hc : 0 < cap := by omega
 obtain rfl := h2 hc
 refine ⟨b, off, cap, rfl, h1, hm, by have := h5 0 _ rfl; simpa using this, hB hc, fun h' => ⟨⟨_, b, off + 1, _, rfl, ⟨by omega, fun _ => rfl, fun _ => h3 hc, by simp [nums], fun j u hu => ?_, fun j hj => ?_⟩, by omega, fun _ => hB hc⟩, h.foot⟩, fun h' => ?_⟩
 ·
  have := h5 (j + 1) u (by simpa [nums] using hu)
  rwa [show off + (j + 1) = off + 1 + j by omega] at this
 ·
  have := h6 j (by omega)
  rwa [show off + (xs.length + 1) * 1 + j = off + 1 + xs.length * 1 + j by omega] at this
 ·
  subst h'
  have hx : xs = [] := List.length_eq_zero_iff.1 (by omega)
  exact ⟨hx, ⟨some ⟨b, off, none⟩, b, off, 0, rfl, ⟨Nat.le_refl _, fun h => absurd h (Nat.lt_irrefl _), fun h => absurd h (Nat.lt_irrefl _), rfl, fun j u h => by simp [nums] at h, fun j h => by simp at h⟩, Nat.zero_le _, fun h => absurd h (Nat.lt_irrefl _)⟩, h.foot⟩
theorem Slides.room {w : World} {B : Nat} {F : Nat → Prop} {ao : Option Addr} {b off cap : Nat} {xs : List Nat} {k : Nat} (hc : Came w 1 ao b off xs.length cap (nums xs)) (hm : cap ≤ maxLen) (hB : 0 < cap → F b) (hF : ∀ k, F k → B ≤ k ∧ k < w.heap.size) (hr : xs.length + 1 ≤ cap) :
  Slides (w.setCells b (off + xs.length * 1) (nums [k])) B (.slice ao (xs.length + 1) cap) F (xs ++ [k]) ∧ But F w (w.setCells b (off + xs.length * 1) (nums [k])) := by
 have hc0 : 0 < cap := by omega
 have hbut : But F w (w.setCells b (off + xs.length * 1) (nums [k])) := But.setCell (S := F) (But.refl _ w) (p := ⟨b, off + xs.length * 1, none⟩) (hB hc0) (.int .i64 (k : Int))
 refine ⟨⟨⟨ao, b, off, cap, by simp, ⟨by simpa using hr, hc.addr, fun h => Nat.lt_of_lt_of_le (hc.lt h) hbut.size, by simp [nums], fun j u hu => ?_, fun j hj => ?_⟩, hm, hB⟩, fun k hk => ⟨(hF k hk).1, Nat.lt_of_lt_of_le (hF k hk).2 hbut.size⟩⟩, hbut⟩
 ·
  rw [nums_append] at hu
  by_cases hj : j < xs.length
  ·
   rw [List.getElem?_append_left (by rw [nums_length]; exact hj)] at hu
   rw [World.cell?_setCells_out b _ _ _ _ (fun _ _ => Or.inl (by show off + j < off + xs.length * 1; omega))]
   exact hc.olds j u hu
  ·
   rw [List.getElem?_append_right (by rw [nums_length]; omega), nums_length] at hu
   have hl := (List.getElem?_eq_some_iff.1 hu).1
   have : (nums [k]).length = 1 := rfl
   have hj0 : j - xs.length = 0 := by omega
   rw [hj0] at hu
   have hs := (hc.spare 0 (by omega)).1
   rw [show off + j = off + xs.length * 1 + 0 by omega]
   have h2 : (w.setCells b (off + xs.length * 1) (nums [k])).cell? ⟨b, off + xs.length * 1 + 0, none⟩ = some (.int .i64 (k : Int)) := World.cell?_setCell_same' w ⟨b, off + xs.length * 1, none⟩ _ hs
   rw [h2]
   exact hu
 ·
  simp only [List.length_append, List.length_cons, List.length_nil] at hj ⊢
  have hsp := hc.spare (j + 1) (by omega)
  rw [show off + (xs.length + (0 + 1)) * 1 + j = off + xs.length * 1 + (j + 1) by omega]
  refine ⟨?_, ?_⟩
  ·
   rw [World.cell?_setCells_out b _ _ _ _ (fun _ _ => Or.inr (by show off + xs.length * 1 + (nums [k]).length ≤ off + xs.length * 1 + (j + 1); have : (nums [k]).length = 1 := rfl; omega))]
   exact hsp.1
  · rw [World.frozen?_setCells]; exact hsp.2
def SlidesOn (w w' : World) (B : Nat) (F : Nat → Prop) (ao : Option Addr) (n cap : Nat) (xs : List Nat) : Prop :=
 ∃ F', Slides w' B (.slice ao n cap) F' xs ∧ (∀ k, F' k → F k ∨ w.heap.size ≤ k) ∧ But F w w'
theorem Slides.grown {w w' : World} {B e : Nat} {v' : Value} {F : Nat → Prop} {k : Nat} {xs : List Nat} (hBw : B ≤ w.heap.size) (hown : w'.ownsRow w.heap.size e 1 v' (xs.length + 1) (nums xs ++ nums [k])) (hg : w.grownBy w' none) :
  ∃ ao cap, v' = .slice ao (xs.length + 1) cap ∧ SlidesOn w w' B F ao (xs.length + 1) cap (xs ++ [k]) := by
 have hbut : But F w w' := ⟨hg.os, hg.tape, hg.output, hg.size, fun i hi _ => hg.block i hi (by simp)⟩
 obtain ⟨hlen, ⟨_, h0⟩ | ⟨g, cap', cur, rfl, hBg, hgc, hn, hmx, hcz, ht⟩⟩ := hown
 · omega
 ·
  have hh : w'.ownsRow w.heap.size e 1 (.slice (some ⟨g, 0, none⟩) (xs.length + 1) cap') (xs.length + 1) (nums xs ++ nums [k]) := ⟨hlen, .inr ⟨g, cap', cur, rfl, hBg, hgc, hn, hmx, hcz, ht⟩⟩
  have hglt : g < w'.heap.size := by
   rcases Nat.lt_or_ge g w'.heap.size with h | h
   · exact h
   · simp [Array.getElem?_eq_none h] at hgc
  refine ⟨_, _, rfl, fun i => i = g, ⟨⟨_, g, 0, cap', by simp, ⟨by simpa using hn, fun _ => rfl, fun _ => hglt, by simp [nums], fun j u hu => ?_, fun j hj => ?_⟩, hmx, fun _ => rfl⟩, fun i hi => by subst hi; exact ⟨by omega, hglt⟩⟩, fun i hi => by subst hi; exact .inr hBg, hbut⟩
  ·
   rw [nums_append] at hu
   have hl := (List.getElem?_eq_some_iff.1 hu).1
   rw [List.length_append, nums_length] at hl
   have : (nums [k]).length = 1 := rfl
   rw [Nat.zero_add, hh.cellAt _ (by omega)]
   exact hu
  ·
   simp only [List.length_append, List.length_cons, List.length_nil] at hj ⊢
   have hjc : xs.length + 1 + j < cur.size := by omega
   rw [show 0 + (xs.length + (0 + 1)) * 1 + j = xs.length + 1 + j by omega]
   refine ⟨?_, ?_⟩
   · rw [cell_of_row w' g _ cur e (0, 0) hgc, Array.getElem?_eq_getElem hjc]; rfl
   · exact frozen_of_row w' g _ cur e hgc
theorem run_append_slide {P : Program} (w : World) (t ty e : TypeId) (i : TypeInfo) (z : Value) (bytes : Nat) (ht : P.underlying t = some (.slice e)) (hi : P.info? e = some i) (hz : i.zero = some z) (hsize : i.size = 1) (hby : i.bytes = bytes) (hzs : z.cells.size = 1)
  (B : Nat) (v : Value) (F : Nat → Prop) (k : Nat) (xs : List Nat) (h : Slides w B v F xs) (hBw : B ≤ w.heap.size) (ad : Addr) (c : Nat) (hk : w.cell? ad = some (.int .i64 (k : Int))) (h63 : xs.length + 1 ≤ maxLen) (hbytes : (xs.length + 1) * bytes ≤ 140737488355328) :
  ∃ ao cap w', (Builtin.append_ #[t, t] ty #[v, .slice (some ad) 1 c]).run P w = .ok (.slice ao (xs.length + 1) cap) w' ∧ SlidesOn w w' B F ao (xs.length + 1) cap (xs ++ [k]) := by
 have hF := h.foot
 obtain ⟨ao, b, off, cap, rfl, hc, hm, hB⟩ := h.made
 have hnews : ∀ j u, (nums [k])[j]? = some u → w.cell? (ad.add j) = some u := by
  intro j u hu
  have hl := (List.getElem?_eq_some_iff.1 hu).1
  have : (nums [k]).length = 1 := rfl
  obtain rfl : j = 0 := by omega
  have e0 : ad.add 0 = ad := by cases ad; simp [Addr.add]
  rw [e0, hk]
  exact hu
 have h1 : ∀ u ∈ nums [k], u.oneCell' = true := by
  intro u hu
  simp [nums] at hu
  subst hu
  rfl
 have hlo : (nums xs).length = xs.length * 1 := by rw [nums_length, Nat.mul_one]
 by_cases hr : xs.length + 1 ≤ cap
 ·
  obtain rfl := hc.addr (by omega)
  have hrun := run_append_room_cells (P := P) w t ty e i ht hi b off xs.length cap ad 1 c (nums [k]) (by rw [hsize]; rfl) hnews h1 hr
   (fun j hj => by rw [hsize]; exact (hc.spare j (by have : (nums [k]).length = 1 := rfl; omega)).1) (fun j hj => by rw [hsize]; exact (hc.spare j (by have : (nums [k]).length = 1 := rfl; omega)).2)
  rw [hsize] at hrun
  obtain ⟨h2, h3⟩ := Slides.room (k := k) hc hm hB hF hr
  exact ⟨_, _, _, hrun, F, h2, fun _ h => .inl h, h3⟩
 ·
  cases ao with
  | some a0 =>
   obtain ⟨v', w', hrun, r1, r2⟩ := run_append_arg_grows (P := P) w t ty e i z 1 bytes ht hi hz hsize hby hzs (by decide) a0 xs.length cap (nums xs) hlo (fun j u hu => by
    have hl := (List.getElem?_eq_some_iff.1 hu).1
    have hle := hc.le
    have ha := hc.addr (by omega)
    cases ha
    rw [Addr.add_lit]
    exact hc.olds j u hu) ad 1 c (nums [k]) rfl hnews (by omega) h63 hbytes
   obtain ⟨ao', cap', rfl, g1⟩ := Slides.grown (F := F) hBw r1 r2
   exact ⟨_, _, w', hrun, g1⟩
  | none =>
   have hcap : cap = 0 := by
    rcases Nat.eq_zero_or_pos cap with h0 | h0
    · exact h0
    · cases hc.addr h0
   have hle := hc.le
   have hx : xs = [] := List.length_eq_zero_iff.1 (by omega)
   subst hx hcap
   obtain ⟨v', w', hrun, r1, r2, _⟩ := run_append_own (P := P) w w.heap.size t ty e i z 1 bytes ht hi hz hsize hby hzs (by decide) (.slice none 0 0) 0 [] (World.ownsRow_nil w _ e 1) ad 1 c (nums [k]) rfl hnews h1 h63 hbytes (Nat.le_refl _)
   obtain ⟨ao', cap', rfl, g1⟩ := Slides.grown (xs := []) (F := F) hBw r1 r2
   exact ⟨_, _, w', hrun, g1⟩
theorem wpList_append_slide {P : Program} (w : World) {ops : Array Oper} {rest : List Oper} {o : Oper} {a : Act} {Q : Exit → Act → World → Prop} (hgd : o.guard = none) (s x : Operand) (t : TypeId)
  (ho : o.op = .call { callee := .builtin .append, args := #[s, x], argTypes := #[t, t] })
  (e : TypeId) (i : TypeInfo) (z : Value) (bytes : Nat) (ht : P.underlying t = some (.slice e)) (hi : P.info? e = some i) (hz : i.zero = some z) (hsize : i.size = 1) (hby : i.bytes = bytes) (hzs : z.cells.size = 1)
  (B : Nat) (v : Value) (F : Nat → Prop) (k : Nat) (xs : List Nat) (hs : a.eval s = v) (h : Slides w B v F xs) (hBw : B ≤ w.heap.size) (ad : Addr) (c : Nat) (hx : a.eval x = .slice (some ad) 1 c) (hk : w.cell? ad = some (.int .i64 (k : Int))) (h63 : xs.length + 1 ≤ maxLen) (hbytes : (xs.length + 1) * bytes ≤ 140737488355328)
  (hK : ∀ ao cap w', SlidesOn w w' B F ao (xs.length + 1) cap (xs ++ [k]) → wpList P ops Q rest (a.put o.dst (.slice ao (xs.length + 1) cap)) w') : wpList P ops Q (o :: rest) a w := by
 refine wpList_plain hgd fun K hK' => ?_
 obtain ⟨ao, cap, w', hrun, g1⟩ := run_append_slide (P := P) w t o.type e i z bytes ht hi hz hsize hby hzs B v F k xs h hBw ad c hk h63 hbytes
 unfold Oper.wp
 simp [execOp, ho, resolve, invoke, builtin, hs, hx, hrun, Result.andThen]
 exact hK' _ _ (hK ao cap w' g1)
end Go.Proofs.YtibhkijaafdkoaaGreatDoor
