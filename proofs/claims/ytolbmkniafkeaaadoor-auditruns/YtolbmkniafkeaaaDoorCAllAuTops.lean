/- Own facts, put together: no statement of its own. -/
import Derived.Test.YtolbmkniafkeaaaDoorCAllAuRules
import Derived.Test.YtolbmkniafkeaaaDoorCAllAuditOfs
import Derived.Test.YtolbmkniafkeaaaDoorCAuClosed
import Derived.Test.YtolbmkniafkeaaaDoorCAllDelays
import Derived.Test.YtolbmkniafkeaaaDoorCIsFlow

/- Walks: package audit's Check. -/
namespace Go.Proofs.YtolbmkniafkeaaaDoor
open Go.RowKit

theorem auErr {w : World} {ad : Nat → Addr} (he : Errs9 w ad) (k : Nat) (hk : k < 9) (n : Int) (pb : Nat) (h0 : w.cell? ⟨pb, 0, none⟩ = some (.int .i64 n)) (h1 : w.cell? ⟨pb, 1, none⟩ = some (.iface 143 (.pointer (some (ad k))))) : ErrIs w (.iface 62 (.pointer (some ⟨pb, 0, none⟩))) (k + 1) n :=
  ⟨codeIs_fault he k hk n pb h0 h1, fun h => by omega, fun _ => ⟨_, _, rfl⟩⟩
/-- What Check leaves. -/
def CheckEnd (c p : Int) (w : World) (e : Ending) (w' : World) : Prop := ∃ E, e = .returned E ∧ ErrIs w' E c p ∧ Below w.heap.size w w'

set_option maxRecDepth 100000 in
set_option maxHeartbeats 2000000 in
theorem auCheck_link (pa : Option Addr) (n pcap : Nat) (per : Int) (la : Option Addr) (m lcap : Nat) (w : World) (c p : Int) (h : Calls Tryd.prog 23 #[.slice pa n pcap, .int .i64 per] w fun e w' => ∃ ty v, e = .returned (.iface ty v) ∧ (ErrIs w' (.iface ty v) c p ∧ Below w.heap.size w w')) :
    Calls Tryd.prog 9 #[.slice pa n pcap, .int .i64 per, .slice la m lcap] w fun e w' => CheckEnd c p w e w' := by
  have HC : Hid (Calls Tryd.prog 23 #[.slice pa n pcap, .int .i64 per] w fun e w' => ∃ ty v, e = .returned (.iface ty v) ∧ (ErrIs w' (.iface ty v) c p ∧ Below w.heap.size w w')) := h
  clear h
  go_enter Tryd.func9, Tryd.ntmps9
  go_wp2_with fail
  refine HC.out.mono ?_
  rintro e w1 ⟨ty, v, rfl, hR⟩
  have HR : Hid (ErrIs w1 (.iface ty v) c p ∧ Below w.heap.size w w1) := hR
  clear hR
  go_wp2_with fail
  go_ret
  exact ⟨_, rfl, HR.out.1, HR.out.2⟩

theorem auNew (w w1 : World) (pa : Option Addr) (cap : Nat) (ps : List Pk) (per : Int) (ad : Nat → Addr) (hb : Below w.heap.size w w1) (hp : LiesP w pa ps) (w3 : World) (hb3 : Below ((w1.alloc (.cells (madeCells #[.bool false] ps.length) 4)).alloc (.cells #[.slice pa ps.length cap, .slice (some ⟨w1.heap.size, 0, none⟩) ps.length ps.length, .int .i64 0] 58)).heap.size ((w1.alloc (.cells (madeCells #[.bool false] ps.length) 4)).alloc (.cells #[.slice pa ps.length cap, .slice (some ⟨w1.heap.size, 0, none⟩) ps.length ps.length, .int .i64 0] 58)) w3)
    (hr : RulesAt w3 (w1.heap.size + 2 + 3) (w1.heap.size + 2) (w1.heap.size + 2 + 2) (w1.heap.size + 2 + 1) ad) (k0 : w3.cell? ⟨w1.heap.size + 2, 0, none⟩ = some (.pointer (some ⟨w1.heap.size + 1, 0, none⟩))) (k1 : w3.cell? ⟨w1.heap.size + 2 + 2, 0, none⟩ = some (.func (.func 47) #[] #[.pointer (some ⟨w1.heap.size + 2, 0, none⟩)])) (k2 : w3.cell? ⟨w1.heap.size + 2 + 1, 0, none⟩ = some (.int .i64 per)) :
    AuditAt w w3 (w1.heap.size + 2 + 3) (w1.heap.size + 2) (w1.heap.size + 2 + 2) (w1.heap.size + 2 + 1) (w1.heap.size + 1) w1.heap.size pa cap ps per [] ad := by
  have hs : (w1.alloc (.cells (madeCells #[.bool false] ps.length) 4)).heap.size = w1.heap.size + 1 := by simp
  have b1 : Below w1.heap.size w1 (w1.alloc (.cells (madeCells #[.bool false] ps.length) 4)) := (Below.refl _ _).alloc (Nat.le_refl _) _
  have b2 : Below (w1.alloc (.cells (madeCells #[.bool false] ps.length) 4)).heap.size (w1.alloc (.cells (madeCells #[.bool false] ps.length) 4)) ((w1.alloc (.cells (madeCells #[.bool false] ps.length) 4)).alloc (.cells #[.slice pa ps.length cap, .slice (some ⟨w1.heap.size, 0, none⟩) ps.length ps.length, .int .i64 0] 58)) := (Below.refl _ _).alloc (Nat.le_refl _) _
  have hd := (done_made w1 ps.length 4).of_block (b2.block w1.heap.size (by rw [hs]; omega)) b2.size
  have hd3 := hd.of_block (hb3.block w1.heap.size hd.lt) hb3.size
  have g : ∀ (o : Nat) v, #[Value.slice pa ps.length cap, .slice (some ⟨w1.heap.size, 0, none⟩) ps.length ps.length, .int .i64 0][o]? = some v → w3.cell? ⟨w1.heap.size + 1, o, none⟩ = some v := fun o v ho => cell_later hb3 (by rw [World.cell?_alloc_at _ _ _ _ hs.symm]; exact ho)
  have hbel : Below w.heap.size w w3 := by
    have h1 := hb.trans (b1.mono hb.size)
    have h2 := h1.trans (b2.mono h1.size)
    exact h2.trans (hb3.mono h2.size)
  refine ⟨⟨k0, k1, k2, g 0 _ rfl, g 1 _ rfl, g 2 _ rfl, hp.below hbel, hd3⟩, hr, ?_, by omega, ⟨by have := hb.size; omega, hb.size⟩, hp, hbel⟩
  rw [hb3.frozen (p := ⟨w1.heap.size + 1, 2, none⟩) (by simp)]
  have := World.frozen?_alloc_new (w1.alloc (.cells (madeCells #[.bool false] ps.length) 4)) #[.slice pa ps.length cap, .slice (some ⟨w1.heap.size, 0, none⟩) ps.length ps.length, .int .i64 0] 58 2
  rwa [hs] at this

set_option maxRecDepth 100000 in
set_option maxHeartbeats 8000000 in
theorem auCheck_sent (pa : Option Addr) (pcap : Nat) (ps : List Pk) (per : Int) (la : Option Addr) (lcap : Nat) (l : List Sn) (w : World) (ad : Nat → Addr) (c p : Int) (he : Errs9 w ad) (hp : LiesP w pa ps) (ho : OkPks ps) (h1 : 1 ≤ per) (h2 : per ≤ 1000) (hl : LiesS w la l) (hll : l.length ≤ 300) (ht : tameAll l) (h : AuditIs per ps l c p) :
    Calls Tryd.prog 9 #[.slice pa ps.length pcap, .int .i64 per, .slice la l.length lcap] w fun e w' => CheckEnd c p w e w' := by
  have HF : Hid (Calls Tryd.prog 23 #[.slice pa ps.length pcap, .int .i64 per] w fun e w' => e = .returned .nilIface ∧ Below w.heap.size w w') := linkCheck_ok pa pcap ps per w hp ho h1 h2
  have HNew : Hid (∀ w1 w3, Below w.heap.size w w1 → Below ((w1.alloc (.cells (madeCells #[.bool false] ps.length) 4)).alloc (.cells #[.slice pa ps.length pcap, .slice (some ⟨w1.heap.size, 0, none⟩) ps.length ps.length, .int .i64 0] 58)).heap.size ((w1.alloc (.cells (madeCells #[.bool false] ps.length) 4)).alloc (.cells #[.slice pa ps.length pcap, .slice (some ⟨w1.heap.size, 0, none⟩) ps.length ps.length, .int .i64 0] 58)) w3 →
      RulesAt w3 (w1.heap.size + 2 + 3) (w1.heap.size + 2) (w1.heap.size + 2 + 2) (w1.heap.size + 2 + 1) ad → w3.cell? ⟨w1.heap.size + 2, 0, none⟩ = some (.pointer (some ⟨w1.heap.size + 1, 0, none⟩)) → w3.cell? ⟨w1.heap.size + 2 + 2, 0, none⟩ = some (.func (.func 47) #[] #[.pointer (some ⟨w1.heap.size + 2, 0, none⟩)]) → w3.cell? ⟨w1.heap.size + 2 + 1, 0, none⟩ = some (.int .i64 per) →
      AuditAt w w3 (w1.heap.size + 2 + 3) (w1.heap.size + 2) (w1.heap.size + 2 + 2) (w1.heap.size + 2 + 1) (w1.heap.size + 1) w1.heap.size pa pcap ps per [] ad) := fun w1 w3 hb hb3 hr k0 k1 k2 => auNew w w1 pa pcap ps per ad hb hp w3 hb3 hr k0 k1 k2
  have HFi : Hid (∀ W R S K P G D out (x : Sn) d, AuditAt w W R S K P G D pa pcap ps per out ad → tame x = true → SentIs per ps out x d → ∀ W', Below W.heap.size W W' → Calls Tryd.prog 25 #[.slice (some ⟨R, 0, none⟩) 5 5, .agg #[.int .i64 x.num, .int .i64 x.beg, .int .i64 x.fin]] W' fun e w' => e = .returned (sentOf ad d.toNat) ∧ Below W'.heap.size W' w') := fun W R S K P G D out x d hA htx hs W' hW' => by
    have := tame_true htx
    have hA' := hA.later hW'
    exact auFirst R S K P G D pa pcap ps per out ad W' x.num x.beg x.fin d hA'.send hA'.rules ho h1 h2 (by omega) hs
  have HGo : Hid (∀ W R S K P G D out (k : Nat) (beg fin : Int), AuditAt w W R S K P G D pa pcap ps per out ad → k < ps.length → Calls Tryd.prog 26 #[.pointer (some ⟨G, 0, none⟩), .agg #[.int .i64 (k : Int), .int .i64 beg, .int .i64 fin]] W fun e w' => e = .returned (.tuple #[]) ∧ AuditAt w w' R S K P G D pa pcap ps per (out ++ [⟨k, beg, fin⟩]) ad) := fun W R S K P G D out k beg fin hA hk => auGoOn w W R S K P G D pa pcap ps per out ad hA k hk beg fin
  have HE : Hid (Errs9 w ad) := he
  have HAu : Hid (AuditIs per ps l c p ∧ tameAll l ∧ LiesS w la l) := ⟨h, ht, hl⟩
  have hfew := ho.few
  obtain ⟨n, hn⟩ : ∃ n, ps.length = n := ⟨_, rfl⟩
  obtain ⟨m, hm⟩ : ∃ m, l.length = m := ⟨_, rfl⟩
  have HN : Hid (ps.length = n ∧ l.length = m) := ⟨hn, hm⟩
  rw [hn] at hfew HF HNew HGo
  rw [hm] at hll
  rw [hn, hm]
  have hmk : ∀ w' : World, (Instr.makeSlice 51 (.int .i64 n) (.int .i64 n)).run Tryd.prog w' = .ok (.slice (some ⟨w'.heap.size, 0, none⟩) n n) (w'.alloc (.cells (madeCells #[.bool false] n) 4)) := fun w' => by
    obtain ⟨i0, hi, hz0, hz1, hz2⟩ := info_parts Tryd.infoFlag
    have := run_make (P := Tryd.prog) w' 51 4 i0 (.bool false) Tryd.underlying51 hi hz0 .i64 .i64 n n (by omega) (by omega) (by rw [hz2]; omega) (by omega)
    simpa [hz1, Value.cells] using this
  clear hp ho hl ht h hn hm he
  go_enter Tryd.func9, Tryd.ntmps9
  go_wp2_with fail
  refine HF.out.mono ?_
  rintro e w1 ⟨rfl, hb1⟩
  have HB1 : Hid (Below w.heap.size w w1) := hb1
  clear hb1
  have hs2 : ((w1.alloc (.cells (madeCells #[.bool false] n) 4)).alloc (.cells #[.slice pa n pcap, .slice (some ⟨w1.heap.size, 0, none⟩) n n, .int .i64 0] 58)).heap.size = w1.heap.size + 2 := by simp
  have hb2 : Below w1.heap.size w1 ((w1.alloc (.cells (madeCells #[.bool false] n) 4)).alloc (.cells #[.slice pa n pcap, .slice (some ⟨w1.heap.size, 0, none⟩) n n, .int .i64 0] 58)) := ((Below.refl _ _).alloc (Nat.le_refl _) _).alloc (by simp) _
  have HRu : Hid (Calls Tryd.prog 24 #[.pointer (some ⟨w1.heap.size + 1, 0, none⟩), .int .i64 per] ((w1.alloc (.cells (madeCells #[.bool false] n) 4)).alloc (.cells #[.slice pa n pcap, .slice (some ⟨w1.heap.size, 0, none⟩) n n, .int .i64 0] 58)) fun e w' => e = .returned (.slice (some ⟨w1.heap.size + 2 + 3, 0, none⟩) 5 5) ∧ RulesAt w' (w1.heap.size + 2 + 3) (w1.heap.size + 2) (w1.heap.size + 2 + 2) (w1.heap.size + 2 + 1) ad ∧ w'.cell? ⟨w1.heap.size + 2, 0, none⟩ = some (.pointer (some ⟨w1.heap.size + 1, 0, none⟩)) ∧ w'.cell? ⟨w1.heap.size + 2 + 2, 0, none⟩ = some (.func (.func 47) #[] #[.pointer (some ⟨w1.heap.size + 2, 0, none⟩)]) ∧ w'.cell? ⟨w1.heap.size + 2 + 1, 0, none⟩ = some (.int .i64 per) ∧ Below (w1.heap.size + 2) ((w1.alloc (.cells (madeCells #[.bool false] n) 4)).alloc (.cells #[.slice pa n pcap, .slice (some ⟨w1.heap.size, 0, none⟩) n n, .int .i64 0] 58)) w') := by
    have := auRules ((w1.alloc (.cells (madeCells #[.bool false] n) 4)).alloc (.cells #[.slice pa n pcap, .slice (some ⟨w1.heap.size, 0, none⟩) n n, .int .i64 0] 58)) (w1.heap.size + 1) per ad (HE.out.below (HB1.out.trans (hb2.mono HB1.out.size)))
    rwa [hs2] at this
  have HS2 : Hid (((w1.alloc (.cells (madeCells #[.bool false] n) 4)).alloc (.cells #[.slice pa n pcap, .slice (some ⟨w1.heap.size, 0, none⟩) n n, .int .i64 0] 58)).heap.size = w1.heap.size + 2) := hs2
  clear hs2 hb2
  go_wp2_with fail
  refine HRu.out.mono ?_
  rintro e w3 ⟨rfl, hr, k0, k1, k2, hb3⟩
  have hA := HNew.out w1 w3 HB1.out (by rw [HS2.out]; exact hb3) hr k0 k1 k2
  clear hr k0 k1 k2 hb3 hmk HRu HS2 HNew HF
  obtain ⟨R, hR⟩ : ∃ R, w1.heap.size + 2 + 3 = R := ⟨_, rfl⟩
  obtain ⟨S, hS⟩ : ∃ R, w1.heap.size + 2 = R := ⟨_, rfl⟩
  obtain ⟨K, hK⟩ : ∃ R, w1.heap.size + 2 + 2 = R := ⟨_, rfl⟩
  obtain ⟨P, hP⟩ : ∃ R, w1.heap.size + 2 + 1 = R := ⟨_, rfl⟩
  obtain ⟨G, hG⟩ : ∃ R, w1.heap.size + 1 = R := ⟨_, rfl⟩
  obtain ⟨D, hD⟩ : ∃ R, w1.heap.size = R := ⟨_, rfl⟩
  rw [hR, hK, hP, hS, hG, hD] at hA
  rw [hR, hG, hD]
  have HA : Hid (AuditAt w w3 R S K P G D pa pcap ps per [] ad) := hA
  clear hA hR hS hK hP hG hD
  go_wp2_with fail
  go_loopw [30] (fun i wr => ∃ k : Nat, k ≤ m ∧ i = .int .i64 k ∧ (∀ (j : Nat) y, j < k → l[j]? = some y → MayOne per ps (l.take j) y) ∧ AuditAt w wr R S K P G D pa pcap ps per (l.take k) ad) (fun i _ => m - (intOf i).toNat)
  case atStart => exact ⟨0, Nat.zero_le _, rfl, fun j y hj => absurd hj (Nat.not_lt_zero _), HA.out⟩
  case round =>
    obtain ⟨i, him', rfl, hmay, hA⟩ := hrel
    have HR : Hid ((∀ (j : Nat) y, j < i → l[j]? = some y → MayOne per ps (l.take j) y) ∧ AuditAt w wr R S K P G D pa pcap ps per (l.take i) ad) := ⟨hmay, hA⟩
    clear hmay hA
    by_cases him : i < m
    · obtain ⟨x, hx, -⟩ := get_some l i (by rw [HN.out.2]; exact him)
      obtain ⟨d, hd⟩ := sentIs_is per ps (l.take i) x
      have HX : Hid (l[i]? = some x ∧ SentIs per ps (l.take i) x d) := ⟨hx, hd⟩
      have hdr := hd.range
      obtain ⟨lb, lo, rfl, -, hcl⟩ := HAu.out.2.2.place (by rw [HN.out.2]; omega)
      have c0 := cell_later HR.out.2.below (hcl i x hx).1
      have c1 := cell_later HR.out.2.below (hcl i x hx).2.1
      have c2 := cell_later HR.out.2.below (hcl i x hx).2.2
      have HC := (show Hid (∀ W', Below wr.heap.size wr W' → Calls Tryd.prog 25 #[.slice (some ⟨R, 0, none⟩) 5 5, .agg #[.int .i64 x.num, .int .i64 x.beg, .int .i64 x.fin]] W' fun e w' => e = .returned (sentOf ad d.toNat) ∧ Below W'.heap.size W' w') from HFi.out wr R S K P G D (l.take i) x d HR.out.2 (HAu.out.2.1 i x hx) hd)
      clear hx hd hcl
      by_cases hd0 : 0 < d
      · have HFirst : Hid (c = d ∧ p = i) := HAu.out.1.first HX.out.1 HX.out.2 hd0 HR.out.1
        obtain ⟨j, rfl⟩ : ∃ j : Nat, d = (j : Int) + 1 := ⟨(d - 1).toNat, by omega⟩
        have hj : j < 9 := by omega
        have HC' : Hid (∀ W', Below wr.heap.size wr W' → Calls Tryd.prog 25 #[.slice (some ⟨R, 0, none⟩) 5 5, .agg #[.int .i64 x.num, .int .i64 x.beg, .int .i64 x.fin]] W' fun e w' => e = .returned (.iface 143 (.pointer (some (ad j)))) ∧ Below W'.heap.size W' w') := fun W' hW' => by
          have := HC.out W' hW'
          rwa [show ((j : Int) + 1).toNat = j + 1 by omega] at this
        clear HC hdr hd0
        go_wp2_with fail
        have hbx : Below wr.heap.size wr (wr.alloc (.cells #[.int .i64 x.num, .int .i64 x.beg, .int .i64 x.fin] 44)) := (Below.refl _ _).alloc (Nat.le_refl _) _
        refine (HC'.out _ hbx).mono ?_
        rintro e w2 ⟨rfl, hb⟩
        have HB2 : Hid (Below w.heap.size w w2) := by
          have h1 := HR.out.2.below.trans (hbx.mono HR.out.2.below.size)
          exact h1.trans (hb.mono h1.size)
        clear hb hbx
        go_wp2_with fail
        go_ret
        have hbe : Below w.heap.size w (w2.alloc (.cells #[.int .i64 (i : Int), .iface 143 (.pointer (some (ad j)))] 64)) := HB2.out.alloc HB2.out.size _
        refine ⟨_, rfl, ?_, hbe⟩
        rw [HFirst.out.1, HFirst.out.2]
        exact auErr (HE.out.below hbe) j hj i w2.heap.size (by simp) (by simp)
      · obtain rfl : d = 0 := by omega
        have hmay := HX.out.2.may
        obtain ⟨k, hk, hkl, -⟩ := hmay.num
        have HMay : Hid (MayOne per ps (l.take i) x ∧ x.num = (k : Int)) := ⟨hmay, hk⟩
        rw [HN.out.1] at hkl
        have HTake : Hid (l.take (i + 1) = l.take i ++ [⟨(k : Int), x.beg, x.fin⟩]) := by
          show _ = _
          rw [List.take_add_one, HX.out.1, ← HMay.out.2]
          rfl
        rw [hk] at c0 HC
        have HC' : Hid (∀ W', Below wr.heap.size wr W' → Calls Tryd.prog 25 #[.slice (some ⟨R, 0, none⟩) 5 5, .agg #[.int .i64 (k : Int), .int .i64 x.beg, .int .i64 x.fin]] W' fun e w' => e = .returned .nilIface ∧ Below W'.heap.size W' w') := fun W' hW' => HC.out W' hW'
        clear hmay hk HC hdr hd0
        go_wp2_with fail
        have hbx : Below wr.heap.size wr (wr.alloc (.cells #[.int .i64 (k : Int), .int .i64 x.beg, .int .i64 x.fin] 44)) := (Below.refl _ _).alloc (Nat.le_refl _) _
        refine (HC'.out _ hbx).mono ?_
        rintro e w2 ⟨rfl, hb⟩
        have r0 : w2.cell? ⟨wr.heap.size, 0, none⟩ = some (.int .i64 (k : Int)) := cell_later hb (by simp)
        have r1 : w2.cell? ⟨wr.heap.size, 1, none⟩ = some (.int .i64 x.beg) := cell_later hb (by simp)
        have r2 : w2.cell? ⟨wr.heap.size, 2, none⟩ = some (.int .i64 x.fin) := cell_later hb (by simp)
        have HG := (show Hid (Calls Tryd.prog 26 #[.pointer (some ⟨G, 0, none⟩), .agg #[.int .i64 (k : Int), .int .i64 x.beg, .int .i64 x.fin]] w2 fun e w' => e = .returned (.tuple #[]) ∧ AuditAt w w' R S K P G D pa pcap ps per (l.take i ++ [⟨k, x.beg, x.fin⟩]) ad) from HGo.out w2 R S K P G D (l.take i) k x.beg x.fin ((HR.out.2.later hbx).later hb) hkl)
        clear hb hbx
        go_wp2_with fail
        refine HG.out.mono ?_
        rintro e w4 ⟨rfl, hA4⟩
        have HA4 : Hid (AuditAt w w4 R S K P G D pa pcap ps per (l.take (i + 1)) ad) := by
          show AuditAt w w4 R S K P G D pa pcap ps per (l.take (i + 1)) ad
          rw [HTake.out]; exact hA4
        clear hA4 r0 r1 r2
        go_wp2_with fail
        go_roundw
        case rel =>
          refine ⟨i + 1, by omega, by go_num, fun j y hj hy => ?_, HA4.out⟩
          rcases Nat.lt_or_ge j i with h | h
          · exact HR.out.1 j y h hy
          · obtain rfl : j = i := by omega
            obtain rfl := Option.some.inj (HX.out.1.symm.trans hy)
            exact HMay.out.1
        case measure => simp [intOf]; omega
    · obtain rfl : i = m := by omega
      have HL : Hid (l.take i = l) := by
        show _ = _
        rw [← HN.out.2]; exact List.take_length
      have hall : ∀ (j : Nat) y, l[j]? = some y → MayOne per ps (l.take j) y := fun j y hy => HR.out.1 j y (by have := lt_of_get hy; rw [HN.out.2] at this; exact this) hy
      have hlast := HAu.out.1.last hall
      have hA := HR.out.2
      rw [HL.out] at hA
      have g1 := hA.send.g1
      rw [HN.out.1] at g1
      have HHas : ∀ b : Bool, (b = true ↔ ∃ i, i < n ∧ isDone l i = false) → Calls Tryd.prog 27 #[.slice (some ⟨D, 0, none⟩) n n, .bool false] wr fun e w' => e = .returned (.bool b) ∧ w' = wr := fun b hb => auHas D n (isDone l) wr hfew (fun j hj => hA.send.done.cell j (by rw [HN.out.1]; exact hj)) b hb
      have hE3 := cell_later HR.out.2.below HE.out.c3
      rcases hlast with ⟨rfl, ⟨rfl, hsome⟩ | ⟨rfl, hnone⟩⟩
      · have HH : Hid (Calls Tryd.prog 27 #[.slice (some ⟨D, 0, none⟩) n n, .bool false] wr fun e w' => e = .returned (.bool true) ∧ w' = wr) := HHas true ⟨fun _ => by rw [← HN.out.1]; exact hsome, fun _ => rfl⟩
        clear hall hA HHas hsome
        go_wp2_with fail
        refine HH.out.mono ?_
        rintro e w5 ⟨rfl, rfl⟩
        go_wp2_with fail
        go_ret
        exact ⟨_, rfl, errIs_sent (HE.out.below HR.out.2.below) 3 (by decide), HR.out.2.below⟩
      · have HH : Hid (Calls Tryd.prog 27 #[.slice (some ⟨D, 0, none⟩) n n, .bool false] wr fun e w' => e = .returned (.bool false) ∧ w' = wr) := HHas false ⟨fun h => (by cases h), fun ⟨j, h1, h2⟩ => by
          rw [hnone j (by rw [HN.out.1]; exact h1)] at h2
          cases h2⟩
        clear hall hA HHas hnone
        go_wp2_with fail
        refine HH.out.mono ?_
        rintro e w5 ⟨rfl, rfl⟩
        go_wp2_with fail
        go_ret
        exact ⟨_, rfl, errIs_nil _, HR.out.2.below⟩

/-- Check, by the error's number and place. -/
theorem auCheck_is (pa : Option Addr) (pcap : Nat) (ps : List Pk) (per : Int) (la : Option Addr) (lcap : Nat) (l : List Sn) (w : World) (ad : Nat → Addr) (c p : Int) (he : Errs9 w ad) (hp : LiesP w pa ps) (hpc : ps.length ≤ pcap) (hpm : pcap ≤ maxLen) (hl : LiesS w la l) (hll : l.length ≤ 300) (ht : tameAll l) (h : AuditAll per ps l c p) :
    Calls Tryd.prog 9 #[.slice pa ps.length pcap, .int .i64 per, .slice la l.length lcap] w fun e w' => ∃ E, e = .returned E ∧ ErrIs w' E c p ∧ Below w.heap.size w w' := by
  rcases h with ⟨h, h0⟩ | ⟨ho, h1, h2, h⟩
  · exact auCheck_link pa ps.length pcap per la l.length lcap w c p (linkCheck_is pa pcap ps per c p w ad he hp hpc hpm h h0)
  · exact auCheck_sent pa pcap ps per la lcap l w ad c p he hp ho h1 h2 hl hll ht h
end Go.Proofs.YtolbmkniafkeaaaDoor

/- Walks: package audit's Bytes; all that is to be shown of package audit. -/
namespace Go.Proofs.YtolbmkniafkeaaaDoor
open Go.RowKit

/-- What Bytes is told of what it is asked. -/
def BytesErr (c p : Int) (w : World) (e : Ending) (w' : World) : Prop := ∃ E, e = .returned E ∧ ErrIs w' E c p ∧ Below w.heap.size w w'
section
variable (pa : Option Addr) (n pcap : Nat) (la : Option Addr) (m lcap : Nat) (f : Int) (w : World) (c p : Int)
set_option maxRecDepth 100000 in
set_option maxHeartbeats 2000000 in
theorem checkBytes_pks (h : Calls Tryd.prog 46 #[.slice pa n pcap] w fun e w' => ∃ E, e = .returned E ∧ ErrIs w' E c p ∧ Below w.heap.size w w') (hc : 0 < c) :
    Calls Tryd.prog 31 #[.slice pa n pcap, .slice la m lcap, .int .i64 f] w fun e w' => BytesErr c p w e w' := by
  have HC : Hid (Calls Tryd.prog 46 #[.slice pa n pcap] w fun e w' => ∃ ty v, e = .returned (.iface ty v) ∧ ErrIs w' (.iface ty v) c p ∧ Below w.heap.size w w') := h.mono fun e w' ⟨E, h1, h2, h3⟩ => by
    obtain ⟨ty, v, rfl⟩ := h2.some_ (by omega)
    exact ⟨ty, v, h1, h2, h3⟩
  clear h
  go_enter Tryd.func31, Tryd.ntmps31
  go_wp2_with fail
  refine HC.out.mono ?_
  rintro e w1 ⟨ty, v, rfl, hE, hb⟩
  have HR : Hid (ErrIs w1 (.iface ty v) c p ∧ Below w.heap.size w w1) := ⟨hE, hb⟩
  clear hE hb
  go_wp2_with fail
  go_ret
  exact ⟨_, rfl, HR.out.1, HR.out.2⟩
set_option maxRecDepth 100000 in
set_option maxHeartbeats 2000000 in
theorem checkBytes_sent (h : Calls Tryd.prog 46 #[.slice pa n pcap] w fun e w' => e = .returned .nilIface ∧ Below w.heap.size w w')
    (h2 : ∀ W, Below w.heap.size w W → Calls Tryd.prog 57 #[.slice pa n pcap, .slice la m lcap] W fun e w' => ∃ u ty v, e = .returned (.tuple #[u, .iface ty v]) ∧ ErrIs w' (.iface ty v) c p ∧ Below W.heap.size W w') :
    Calls Tryd.prog 31 #[.slice pa n pcap, .slice la m lcap, .int .i64 f] w fun e w' => BytesErr c p w e w' := by
  have HC : Hid (Calls Tryd.prog 46 #[.slice pa n pcap] w fun e w' => e = .returned .nilIface ∧ Below w.heap.size w w') := h
  have HD : Hid (∀ W, Below w.heap.size w W → Calls Tryd.prog 57 #[.slice pa n pcap, .slice la m lcap] W fun e w' => ∃ u ty v, e = .returned (.tuple #[u, .iface ty v]) ∧ ErrIs w' (.iface ty v) c p ∧ Below W.heap.size W w') := h2
  clear h h2
  go_enter Tryd.func31, Tryd.ntmps31
  go_wp2_with fail
  refine HC.out.mono ?_
  rintro e w1 ⟨rfl, hb⟩
  have HB : Hid (Below w.heap.size w w1) := hb
  clear hb
  go_wp2_with fail
  refine (HD.out _ HB.out).mono ?_
  rintro e w2 ⟨u, ty, v, rfl, hE, hb⟩
  have HR : Hid (ErrIs w2 (.iface ty v) c p ∧ Below w.heap.size w w2) := ⟨hE, HB.out.trans (hb.mono HB.out.size)⟩
  clear hE hb
  go_wp2_with fail
  go_ret
  exact ⟨_, rfl, HR.out.1, HR.out.2⟩
set_option maxRecDepth 100000 in
set_option maxHeartbeats 2000000 in
theorem checkBytes_flow (ad : Nat → Addr) (he : Errs9 w ad) (h : Calls Tryd.prog 46 #[.slice pa n pcap] w fun e w' => e = .returned .nilIface ∧ Below w.heap.size w w')
    (h2 : ∀ W, Below w.heap.size w W → Calls Tryd.prog 57 #[.slice pa n pcap, .slice la m lcap] W fun e w' => ∃ u, e = .returned (.tuple #[u, .nilIface]) ∧ Below W.heap.size W w') (h3 : (¬ (0 ≤ f ∧ f < 8) ∧ c = 2 ∧ p = -1) ∨ (0 ≤ f ∧ f < 8 ∧ c = 0 ∧ p = -1)) :
    Calls Tryd.prog 31 #[.slice pa n pcap, .slice la m lcap, .int .i64 f] w fun e w' => BytesErr c p w e w' := by
  have HC : Hid (Calls Tryd.prog 46 #[.slice pa n pcap] w fun e w' => e = .returned .nilIface ∧ Below w.heap.size w w') := h
  have HD : Hid (∀ W, Below w.heap.size w W → Calls Tryd.prog 57 #[.slice pa n pcap, .slice la m lcap] W fun e w' => ∃ u, e = .returned (.tuple #[u, .nilIface]) ∧ Below W.heap.size W w') := h2
  have HE : Hid (Errs9 w ad) := he
  clear h h2 he
  rcases h3 with ⟨hf, rfl, rfl⟩ | ⟨hf0, hf8, rfl, rfl⟩
  · have HF : Hid (∀ W, Calls Tryd.prog 58 #[.int .i64 f] W fun e w' => e = .returned (.bool false) ∧ w' = W) := fun W => isFlow_no f W hf
    clear hf
    go_enter Tryd.func31, Tryd.ntmps31
    go_wp2_with fail
    refine HC.out.mono ?_
    rintro e w1 ⟨rfl, hb⟩
    have HB : Hid (Below w.heap.size w w1) := hb
    clear hb
    go_wp2_with fail
    refine (HD.out _ HB.out).mono ?_
    rintro e w2 ⟨u, rfl, hb⟩
    have HR : Hid (Below w.heap.size w w2) := HB.out.trans (hb.mono HB.out.size)
    clear hb
    go_wp2_with fail
    refine (HF.out _).mono ?_
    rintro e w3 ⟨rfl, rfl⟩
    have hE := (HE.out.below HR.out).c1
    go_wp2_with fail
    go_ret
    exact ⟨_, rfl, errIs_sent (HE.out.below HR.out) 1 (by decide), HR.out⟩
  · have HF : Hid (∀ W, Calls Tryd.prog 58 #[.int .i64 f] W fun e w' => e = .returned (.bool true) ∧ w' = W) := fun W => isFlow_yes f W ⟨hf0, hf8⟩
    clear hf0 hf8
    go_enter Tryd.func31, Tryd.ntmps31
    go_wp2_with fail
    refine HC.out.mono ?_
    rintro e w1 ⟨rfl, hb⟩
    have HB : Hid (Below w.heap.size w w1) := hb
    clear hb
    go_wp2_with fail
    refine (HD.out _ HB.out).mono ?_
    rintro e w2 ⟨u, rfl, hb⟩
    have HR : Hid (Below w.heap.size w w2) := HB.out.trans (hb.mono HB.out.size)
    clear hb
    go_wp2_with fail
    refine (HF.out _).mono ?_
    rintro e w3 ⟨rfl, rfl⟩
    go_wp2_with fail
    go_ret
    exact ⟨_, rfl, errIs_nil _, HR.out⟩
set_option maxRecDepth 100000 in
set_option maxHeartbeats 2000000 in
theorem bytes_err (x y : Int) (h : Calls Tryd.prog 31 #[.slice pa n pcap, .slice la m lcap, .int .i64 f] w fun e w' => BytesErr c p w e w') (hc : 0 < c) :
    Calls Tryd.prog 13 #[.slice pa n pcap, .slice la m lcap, .int .i64 f, .int .i64 x, .int .i64 y] w fun e w' => ∃ E, e = .returned (.tuple #[.int .i64 0, E]) ∧ ErrIs w' E c p ∧ Below w.heap.size w w' := by
  have HC : Hid (Calls Tryd.prog 31 #[.slice pa n pcap, .slice la m lcap, .int .i64 f] w fun e w' => ∃ ty v, e = .returned (.iface ty v) ∧ ErrIs w' (.iface ty v) c p ∧ Below w.heap.size w w') := h.mono fun e w' ⟨E, h1, h2, h3⟩ => by
    obtain ⟨ty, v, rfl⟩ := h2.some_ (by omega)
    exact ⟨ty, v, h1, h2, h3⟩
  clear h
  go_enter Tryd.func13, Tryd.ntmps13
  go_wp2_with fail
  refine HC.out.mono ?_
  rintro e w1 ⟨ty, v, rfl, hE, hb⟩
  have HR : Hid (ErrIs w1 (.iface ty v) c p ∧ Below w.heap.size w w1) := ⟨hE, hb⟩
  clear hE hb
  go_wp2_with fail
  go_ret2
  exact ⟨_, rfl, HR.out.1, HR.out.2⟩
end

set_option maxRecDepth 100000 in
set_option maxHeartbeats 4000000 in
theorem bytes_ok (pa : Option Addr) (pcap : Nat) (ps : List Pk) (la : Option Addr) (lcap : Nat) (l : List Sn) (f x y : Int) (w : World) (hp : LiesP w pa ps) (ho : OkPks ps) (hl : LiesS w la l) (hll : l.length ≤ 300) (hnm : ∀ (i : Nat) z, l[i]? = some z → named ps.length z = true) (h : Calls Tryd.prog 31 #[.slice pa ps.length pcap, .slice la l.length lcap, .int .i64 f] w fun e w' => BytesErr 0 (-1) w e w') :
    Calls Tryd.prog 13 #[.slice pa ps.length pcap, .slice la l.length lcap, .int .i64 f, .int .i64 x, .int .i64 y] w fun e w' => e = .returned (.tuple #[.int .i64 (bytesBy ps l f x y l.length), .nilIface]) ∧ Below w.heap.size w w' := by
  have HC : Hid (Calls Tryd.prog 31 #[.slice pa ps.length pcap, .slice la l.length lcap, .int .i64 f] w fun e w' => e = .returned .nilIface ∧ Below w.heap.size w w') := h.mono fun e w' ⟨E, h1, h2, h3⟩ => by
    rw [h2.none_ rfl] at h1
    exact ⟨h1, h3⟩
  have HP : Hid (LiesP w pa ps ∧ OkPks ps) := ⟨hp, ho⟩
  have HL : Hid (LiesS w la l ∧ ∀ (i : Nat) z, l[i]? = some z → named ps.length z = true) := ⟨hl, hnm⟩
  have hfew := ho.few
  obtain ⟨n, hn⟩ : ∃ n, ps.length = n := ⟨_, rfl⟩
  obtain ⟨m, hm⟩ : ∃ m, l.length = m := ⟨_, rfl⟩
  have HN : Hid (ps.length = n ∧ l.length = m) := ⟨hn, hm⟩
  rw [hn, hm] at HC
  rw [hn] at hfew
  rw [hm] at hll
  rw [hn, hm]
  clear h hp ho hl hnm hn hm
  go_enter Tryd.func13, Tryd.ntmps13
  go_wp2_with fail
  refine HC.out.mono ?_
  rintro e w1 ⟨rfl, hb⟩
  have HB1 : Hid (Below w.heap.size w w1) := hb
  clear hb
  go_wp2_with fail
  go_loopw [13, 25] (fun s i wr => ∃ k : Nat, k ≤ m ∧ i = .int .i64 k ∧ s = .int .i64 (bytesBy ps l f x y k) ∧ Below w.heap.size w wr) (fun _ i _ => m - (intOf i).toNat)
  case atStart => exact ⟨0, Nat.zero_le _, rfl, rfl, HB1.out⟩
  case round =>
    obtain ⟨k, hk, rfl, rfl, hb⟩ := hrel
    have HB : Hid (Below w.heap.size w wr) := hb
    have hin := bytesBy_in HP.out.2 l f x y k
    obtain ⟨s, hs⟩ : ∃ s, bytesBy ps l f x y k = s := ⟨_, rfl⟩
    have HS : Hid (bytesBy ps l f x y k = s) := hs
    rw [hs] at hin ⊢
    clear hs
    by_cases hkm : k < m
    · obtain ⟨z, hz, -⟩ := get_some l k (by rw [HN.out.2]; exact hkm)
      obtain ⟨lb, lo, rfl, -, hcl⟩ := HL.out.1.place (by rw [HN.out.2]; omega)
      obtain ⟨t1, t2⟩ := named_true (HL.out.2 k z hz)
      rw [HN.out.1] at t2
      obtain ⟨j, hj⟩ : ∃ j : Nat, z.num = j := ⟨z.num.toNat, by omega⟩
      have hjn : j < n := by omega
      obtain ⟨q, hq, -⟩ := get_some ps j (by rw [HN.out.1]; exact hjn)
      obtain ⟨b2, o2, rfl, -, hc2⟩ := HP.out.1.place (by rw [HN.out.1]; omega)
      have hok := okPk_true (HP.out.2.each _ q hq).1
      have c0 := cell_later hb (hcl k z hz).1
      have c1 := cell_later hb (hcl k z hz).2.1
      have c2 := cell_later hb (hcl k z hz).2.2
      rw [hj] at c0
      have HX : Hid (Below wr.heap.size wr (wr.alloc (.cells #[.int .i64 (j : Int), .int .i64 z.beg, .int .i64 z.fin] 44))) := (Below.refl _ _).alloc (Nat.le_refl _) _
      have d0 := cell_later HX.out (cell_later hb (hc2 j q hq).1)
      have d1 := cell_later HX.out (cell_later hb (hc2 j q hq).2.1)
      have HSucc : Hid (bytesBy ps l f x y (k + 1) = s + (if q.flow = f ∧ x < z.fin ∧ z.fin ≤ y then q.size else 0)) := by
        show _ = _
        rw [bytesBy_succ hz hj hq, HS.out]
      obtain ⟨x0, hx0⟩ : ∃ u, q.flow = u := ⟨_, rfl⟩
      obtain ⟨x1, hx1⟩ : ∃ u, q.size = u := ⟨_, rfl⟩
      rw [hx0] at d0 HSucc
      rw [hx1] at d1 HSucc hok
      have HB' : Hid (Below w.heap.size w (wr.alloc (.cells #[.int .i64 (j : Int), .int .i64 z.beg, .int .i64 z.fin] 44))) := HB.out.trans (HX.out.mono HB.out.size)
      clear hcl hz hc2 hq hj hx0 hx1 hb t1 t2
      generalize z.beg = zb at *
      generalize z.fin = zf at *
      by_cases h1 : x0 = f
      · subst h1
        by_cases h2 : x < zf
        · by_cases h3 : zf ≤ y
          · have HE : Hid (bytesBy ps l x0 x y (k + 1) = s + x1) := HSucc.out.trans (by rw [if_pos ⟨rfl, h2, h3⟩])
            clear HSucc
            go_wp2_with fail
            go_roundw
            case rel => exact ⟨k + 1, by omega, by go_num, by rw [HE.out], HB'.out⟩
            case measure => simp [intOf]; omega
          · have HE : Hid (bytesBy ps l x0 x y (k + 1) = s) := HSucc.out.trans (by rw [if_neg (fun h => h3 h.2.2), Int.add_zero])
            clear HSucc
            go_wp2_with fail
            go_roundw
            case rel => exact ⟨k + 1, by omega, by go_num, by rw [HE.out], HB'.out⟩
            case measure => simp [intOf]; omega
        · have HE : Hid (bytesBy ps l x0 x y (k + 1) = s) := HSucc.out.trans (by rw [if_neg (fun h => h2 h.2.1), Int.add_zero])
          clear HSucc
          go_wp2_with fail
          go_roundw
          case rel => exact ⟨k + 1, by omega, by go_num, by rw [HE.out], HB'.out⟩
          case measure => simp [intOf]; omega
      · have HE : Hid (bytesBy ps l f x y (k + 1) = s) := HSucc.out.trans (by rw [if_neg (fun h => h1 h.1), Int.add_zero])
        have h1' : (x0 == f) = false := by simpa using h1
        clear HSucc
        go_wp2_with fail
        go_roundw
        case rel => exact ⟨k + 1, by omega, by go_num, by rw [HE.out], HB'.out⟩
        case measure => simp [intOf]; omega
    · obtain rfl : k = m := by omega
      clear hb
      go_wp2_with fail
      go_ret2
      exact ⟨by rw [HS.out]; rfl, HB.out⟩

theorem auBytes_is (a : Option Addr) (cap : Nat) (ps : List Pk) (b : Option Addr) (bcap : Nat) (l : List Sn) (f x y : Int) (w : World) (ad : Nat → Addr) (c p : Int) (he : Errs9 w ad) (hp : LiesP w a ps) (hpc : ps.length ≤ cap) (hpm : cap ≤ maxLen) (hl : LiesS w b l) (hll : l.length ≤ 300) (ht : tameAll l) (h : BytesIs ps l f c p) :
    Calls Tryd.prog 13 #[.slice a ps.length cap, .slice b l.length bcap, .int .i64 f, .int .i64 x, .int .i64 y] w fun e w' => ∃ E, e = .returned (.tuple #[.int .i64 (if c = 0 then bytesBy ps l f x y l.length else 0), E]) ∧ ErrIs w' E c p ∧ Below w.heap.size w w' := by
  have hok : OkPks ps → Calls Tryd.prog 46 #[.slice a ps.length cap] w fun e w' => e = .returned .nilIface ∧ Below w.heap.size w w' := fun ho => pcheck_ok a cap ps w hp ho
  have hdel : OkPks ps → ∀ W, Below w.heap.size w W → Calls Tryd.prog 57 #[.slice a ps.length cap, .slice b l.length bcap] W fun e w' => DelaysEnd ps l ad W e w' := fun ho W hW => delays_any a cap ps b bcap l W ad (he.below hW).c3 (hp.below hW) (hl.below hW) hll ho.few ht (fun i q hq => by have := okPk_true (ho.each i q hq).1; omega)
  have hdel0 : OkPks ps → SentFaultIs ps.length l 0 (-1) → ∀ W, Below w.heap.size w W → Calls Tryd.prog 57 #[.slice a ps.length cap, .slice b l.length bcap] W fun e w' => ∃ u, e = .returned (.tuple #[u, .nilIface]) ∧ Below W.heap.size W w' := fun ho hs W hW => (hdel ho W hW).mono fun e w' hd => by
    obtain ⟨hb, ⟨D, rfl, -, -⟩ | ⟨j, z, F, h1, -, h2, -⟩⟩ := hd
    · exact ⟨_, rfl, hb⟩
    · rcases hs with ⟨_, _, _, _, _, hc, _⟩ | ⟨hs, -, -⟩
      · cases hc
      · rw [hs j z h1] at h2
        cases h2
  rcases h with ⟨h, hc⟩ | ⟨ho, h, hc⟩ | ⟨ho, hs, hf, rfl, rfl⟩ | ⟨ho, hs, hf0, hf8, rfl, rfl⟩
  · rw [if_neg (by omega)]
    exact bytes_err a ps.length cap b l.length bcap f w c p x y (checkBytes_pks a ps.length cap b l.length bcap f w c p (pcheck_is a cap ps w ad he hp hpc hpm c p h) hc) hc
  · rw [if_neg (by omega)]
    refine bytes_err a ps.length cap b l.length bcap f w c p x y (checkBytes_sent a ps.length cap b l.length bcap f w c p (hok ho) (fun W hW => (hdel ho W hW).mono fun e w' hd => ?_)) hc
    obtain ⟨hb, ⟨D, -, -, hall⟩ | ⟨j, z, F, h1, h2, h3, rfl, h4, h5⟩⟩ := hd
    · rcases h with ⟨j, z, h1, -, h2, -⟩ | ⟨-, h1, -⟩
      · rw [hall j z h1] at h2
        cases h2
      · omega
    · rcases h with ⟨j', z', g1, g2, g3, rfl, rfl⟩ | ⟨-, g1, -⟩
      · obtain rfl : j = j' := by
          rcases Nat.lt_trichotomy j j' with hh | hh | hh
          · have := g2 j z hh h1
            rw [h3] at this
            cases this
          · exact hh
          · have := h2 j' z' hh g1
            rw [g3] at this
            cases this
        exact ⟨_, _, _, rfl, auErr ((he.below hW).below hb) 3 (by decide) j F h4 h5, hb⟩
      · omega
  · rw [if_neg (by omega)]
    exact bytes_err a ps.length cap b l.length bcap f w 2 (-1) x y (checkBytes_flow a ps.length cap b l.length bcap f w 2 (-1) ad he (hok ho) (hdel0 ho hs) (.inl ⟨hf, rfl, rfl⟩)) (by omega)
  · rw [if_pos rfl]
    have hnm : ∀ (i : Nat) z, l[i]? = some z → named ps.length z = true := by
      rcases hs with ⟨_, _, _, _, _, hc, _⟩ | ⟨hs, -, -⟩
      · cases hc
      · exact hs
    refine (bytes_ok a cap ps b bcap l f x y w hp ho hl hll hnm (checkBytes_flow a ps.length cap b l.length bcap f w 0 (-1) ad he (hok ho) (hdel0 ho hs) (.inr ⟨hf0, hf8, rfl, rfl⟩))).mono ?_
    rintro e w' ⟨rfl, hb⟩
    exact ⟨_, rfl, errIs_nil _, hb⟩
end Go.Proofs.YtolbmkniafkeaaaDoor

/- All that was to be shown of package audit. -/
namespace Go.Proofs.YtolbmkniafkeaaaDoor
open Go.RowKit

theorem auChecks (a : Option Addr) (cap : Nat) (ps : List Pk) (per : Int) (b : Option Addr) (bcap : Nat) (l : List Sn) (w : World) (ad : Nat → Addr) (c p : Int) (he : Errs9 w ad) (hp : LiesP w a ps) (hpc : ps.length ≤ cap) (hpm : cap ≤ maxLen) (hl : LiesS w b l) (hll : l.length ≤ 300) (ht : tameAll l) (h : AuditAll per ps l c p) :
    Calls Tryd.prog 9 #[.slice a ps.length cap, .int .i64 per, .slice b l.length bcap] w fun e w' => ∃ E, e = .returned E ∧ ErrIs w' E c p ∧ Below w.heap.size w w' :=
  auCheck_is a cap ps per b bcap l w ad c p he hp hpc hpm hl hll ht h
theorem auditWalks : AuditWalks := ⟨auChecks, auBytes_is, audited_by auChecks⟩
end Go.Proofs.YtolbmkniafkeaaaDoor
