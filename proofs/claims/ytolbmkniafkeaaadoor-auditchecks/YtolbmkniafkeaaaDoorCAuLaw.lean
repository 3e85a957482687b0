/- AuditChecks: its ways, by what Check and Bytes tell. -/
import Derived.Test.YtolbmkniafkeaaaDoorCAllAuditOfs
import Derived.Test.YtolbmkniafkeaaaDoorCAllDelays
import Derived.Test.YtolbmkniafkeaaaDoorCTwoAt
import Derived.Test.YtolbmkniafkeaaaDoorCFaulted
import Derived.Test.YtolbmkniafkeaaaDoorCFitPkts
namespace Go.Proofs.YtolbmkniafkeaaaDoor
open Go.RowKit

/-- Bytes of a flow among the first k that were sent, between two ticks. -/
def bytesBy (ps : List Pk) (l : List Sn) (f a b : Int) : Nat → Int
  | 0 => 0
  | k + 1 => bytesBy ps l f a b k + (match l[k]? with | some x => (match ps[x.num.toNat]? with | some q => (if q.flow = f ∧ a < x.fin ∧ x.fin ≤ b then q.size else 0) | none => 0) | none => 0)
theorem bytesBy_succ {ps : List Pk} {l : List Sn} {f a b : Int} {k j : Nat} {x : Sn} {q : Pk} (hx : l[k]? = some x) (hj : x.num = j) (hq : ps[j]? = some q) : bytesBy ps l f a b (k + 1) = bytesBy ps l f a b k + (if q.flow = f ∧ a < x.fin ∧ x.fin ≤ b then q.size else 0) := by
  simp only [bytesBy, hx, hj, Int.toNat_natCast, hq]
theorem bytesBy_in {ps : List Pk} (ho : OkPks ps) (l : List Sn) (f a b : Int) : ∀ k, 0 ≤ bytesBy ps l f a b k ∧ bytesBy ps l f a b k ≤ 1500 * k
  | 0 => ⟨Int.le_refl _, Int.le_refl _⟩
  | k + 1 => by
    have := bytesBy_in ho l f a b k
    simp only [bytesBy]
    cases hx : l[k]? with
    | none => simp only; omega
    | some x =>
      cases hq : ps[x.num.toNat]? with
      | none => simp only [hq]; omega
      | some q =>
        have := okPk_true (ho.each _ q hq).1
        simp only [hq]
        split <;> omega
/-- What is wrong with what Bytes is asked. -/
def BytesIs (ps : List Pk) (l : List Sn) (f c p : Int) : Prop := (PksFault ps c p ∧ 0 < c) ∨ (OkPks ps ∧ SentFaultIs ps.length l c p ∧ 0 < c) ∨ (OkPks ps ∧ SentFaultIs ps.length l 0 (-1) ∧ ¬ (0 ≤ f ∧ f < 8) ∧ c = 2 ∧ p = -1) ∨ (OkPks ps ∧ SentFaultIs ps.length l 0 (-1) ∧ 0 ≤ f ∧ f < 8 ∧ c = 0 ∧ p = -1)
/-- What is to be shown of package audit. -/
structure AuditWalks : Prop where
  check : ∀ (a : Option Addr) (cap : Nat) (ps : List Pk) (per : Int) (b : Option Addr) (bcap : Nat) (l : List Sn) (w : World) (ad : Nat → Addr) (c p : Int), Errs9 w ad → LiesP w a ps → ps.length ≤ cap → cap ≤ maxLen → LiesS w b l → l.length ≤ 300 → tameAll l → AuditAll per ps l c p →
    Calls Tryd.prog 9 #[.slice a ps.length cap, .int .i64 per, .slice b l.length bcap] w fun e w' => ∃ E, e = .returned E ∧ ErrIs w' E c p ∧ Below w.heap.size w w'
  bytes : ∀ (a : Option Addr) (cap : Nat) (ps : List Pk) (b : Option Addr) (bcap : Nat) (l : List Sn) (f x y : Int) (w : World) (ad : Nat → Addr) (c p : Int), Errs9 w ad → LiesP w a ps → ps.length ≤ cap → cap ≤ maxLen → LiesS w b l → l.length ≤ 300 → tameAll l → BytesIs ps l f c p →
    Calls Tryd.prog 13 #[.slice a ps.length cap, .slice b l.length bcap, .int .i64 f, .int .i64 x, .int .i64 y] w fun e w' => ∃ E, e = .returned (.tuple #[.int .i64 (if c = 0 then bytesBy ps l f x y l.length else 0), E]) ∧ ErrIs w' E c p ∧ Below w.heap.size w w'
  audited : ∀ (w : World) (ad : Nat → Addr), Errs9 w ad → Calls Tryd.prog 5 #[] w fun e w' => e = .returned (.bool true) ∧ Below w.heap.size w w'

set_option maxRecDepth 100000 in
set_option maxHeartbeats 1000000 in
theorem auLaw_many (AW : AuditWalks) (pa : Option Addr) (m pcap : Nat) (per : Int) (la : Option Addr) (n lcap : Nat) (f x y : Int) (w : World) (ad : Nat → Addr) (he : Errs9 w ad) (h1 : ¬ (m : Int) ≤ 60) (h2 : m ≠ 301) :
    Calls Tryd.prog 3 #[.slice pa m pcap, .int .i64 per, .slice la n lcap, .int .i64 f, .int .i64 x, .int .i64 y] w fun e w' => e = .returned (.bool true) ∧ Below w.heap.size w w' := by
  have HA := (show Hid (∀ w', Below w.heap.size w w' → Calls Tryd.prog 5 #[] w' fun e w'' => e = .returned (.bool true) ∧ Below w'.heap.size w' w'') from fun w' hb => AW.audited w' ad (he.below hb))
  have HF : Hid (∀ w', Calls Tryd.prog 6 #[.slice pa m pcap, .int .i64 60] w' fun e w'' => e = .returned (.bool false) ∧ w'' = w') := fun w' => fitPkts_no pa m pcap 60 w' h1 h2
  clear h1 h2 he AW
  go_enter Tryd.func3, Tryd.ntmps3
  go_wp2_with fail
  refine (HA.out _ (Below.refl _ _)).mono ?_
  rintro e w1 ⟨rfl, hb⟩
  have HB : Hid (Below w.heap.size w w1) := hb
  clear hb
  go_wp2_with fail
  refine (HF.out _).mono ?_
  rintro e w2 ⟨rfl, rfl⟩
  go_wp2_with fail
  go_ret
  exact ⟨rfl, HB.out⟩
set_option maxRecDepth 100000 in
set_option maxHeartbeats 1000000 in
theorem auLaw_more (AW : AuditWalks) (pa : Option Addr) (m pcap : Nat) (per : Int) (la : Option Addr) (n lcap : Nat) (f x y : Int) (w : World) (ad : Nat → Addr) (he : Errs9 w ad) (hm : m ≤ maxLen) (h1 : (m : Int) ≤ 60 ∨ m = 301) (hn : n ≤ maxLen) (h : 80 < n) :
    Calls Tryd.prog 3 #[.slice pa m pcap, .int .i64 per, .slice la n lcap, .int .i64 f, .int .i64 x, .int .i64 y] w fun e w' => e = .returned (.bool true) ∧ Below w.heap.size w w' := by
  have HA := (show Hid (∀ w', Below w.heap.size w w' → Calls Tryd.prog 5 #[] w' fun e w'' => e = .returned (.bool true) ∧ Below w'.heap.size w' w'') from fun w' hb => AW.audited w' ad (he.below hb))
  have HF : Hid (∀ w', Calls Tryd.prog 6 #[.slice pa m pcap, .int .i64 60] w' fun e w'' => e = .returned (.bool true) ∧ w'' = w') := fun w' => fitPkts_yes pa m pcap 60 w' hm h1
  unfold maxLen at hn
  clear h1 he AW
  go_enter Tryd.func3, Tryd.ntmps3
  go_wp2_with fail
  refine (HA.out _ (Below.refl _ _)).mono ?_
  rintro e w1 ⟨rfl, hb⟩
  have HB : Hid (Below w.heap.size w w1) := hb
  clear hb
  go_wp2_with fail
  refine (HF.out _).mono ?_
  rintro e w2 ⟨rfl, rfl⟩
  go_wp2_with fail
  go_ret
  exact ⟨rfl, HB.out⟩
set_option maxRecDepth 100000 in
set_option maxHeartbeats 1000000 in
theorem auLaw_wild (AW : AuditWalks) (pa : Option Addr) (m pcap : Nat) (per : Int) (la : Option Addr) (lcap : Nat) (l : List Sn) (f x y : Int) (w : World) (ad : Nat → Addr) (he : Errs9 w ad) (hm : m ≤ maxLen) (h1 : (m : Int) ≤ 60 ∨ m = 301) (hl : LiesS w la l) (h : l.length ≤ 80) (ht : ¬ tameAll l) :
    Calls Tryd.prog 3 #[.slice pa m pcap, .int .i64 per, .slice la l.length lcap, .int .i64 f, .int .i64 x, .int .i64 y] w fun e w' => e = .returned (.bool true) ∧ Below w.heap.size w w' := by
  have HA := (show Hid (∀ w', Below w.heap.size w w' → Calls Tryd.prog 5 #[] w' fun e w'' => e = .returned (.bool true) ∧ Below w'.heap.size w' w'') from fun w' hb => AW.audited w' ad (he.below hb))
  have HF : Hid (∀ w', Calls Tryd.prog 6 #[.slice pa m pcap, .int .i64 60] w' fun e w'' => e = .returned (.bool true) ∧ w'' = w') := fun w' => fitPkts_yes pa m pcap 60 w' hm h1
  have HTame : Hid (∀ w', Below w.heap.size w w' → Calls Tryd.prog 7 #[.slice la l.length lcap] w' fun e w'' => TameEnd l w' e w'') := fun w' hb => tameSent_any la lcap l w' (hl.below hb) (by omega)
  obtain ⟨n, hn⟩ : ∃ n, l.length = n := ⟨_, rfl⟩
  rw [hn] at h HTame ⊢
  have hn' : ¬ 80 < n := by omega
  clear h1 he AW hl hn
  go_enter Tryd.func3, Tryd.ntmps3
  go_wp2_with fail
  refine (HA.out _ (Below.refl _ _)).mono ?_
  rintro e w1 ⟨rfl, hb⟩
  have HB : Hid (Below w.heap.size w w1) := hb
  clear hb
  go_wp2_with fail
  refine (HF.out _).mono ?_
  rintro e w2 ⟨rfl, rfl⟩
  go_wp2_with fail
  refine (HTame.out _ HB.out).mono ?_
  rintro e w3 ⟨⟨rfl, htame⟩ | rfl, hb3⟩
  · exact absurd htame ht
  · have HB3 : Hid (Below w.heap.size w w3) := HB.out.trans (hb3.mono HB.out.size)
    clear hb3
    go_wp2_with fail
    go_ret
    exact ⟨rfl, HB3.out⟩
set_option maxRecDepth 100000 in
set_option maxHeartbeats 4000000 in
theorem auLaw_pks (AW : AuditWalks) (pa : Option Addr) (pcap : Nat) (ps : List Pk) (per : Int) (la : Option Addr) (lcap : Nat) (l : List Sn) (f x y : Int) (w : World) (ad : Nat → Addr) (he : Errs9 w ad) (hp : LiesP w pa ps) (hpa : pa = none → ps = [] ∧ pcap = 0) (hpc : ps.length ≤ pcap) (hpm : pcap ≤ maxLen) (hl : LiesS w la l) (hla : la = none → l = [] ∧ lcap = 0) (hm : ps.length ≤ 60 ∨ ps.length = 301) (hll : l.length ≤ 80) (ht : tameAll l) (c p : Int) (hf : PksFault ps c p) (hc : 0 < c) :
    Calls Tryd.prog 3 #[.slice pa ps.length pcap, .int .i64 per, .slice la l.length lcap, .int .i64 f, .int .i64 x, .int .i64 y] w fun e w' => e = .returned (.bool true) ∧ Below w.heap.size w w' := by
  have HA := (show Hid (∀ w', Below w.heap.size w w' → Calls Tryd.prog 5 #[] w' fun e w'' => e = .returned (.bool true) ∧ Below w'.heap.size w' w'') from fun w' hb => AW.audited w' ad (he.below hb))
  have HFit : Hid (∀ w', Calls Tryd.prog 6 #[.slice pa ps.length pcap, .int .i64 60] w' fun e w'' => e = .returned (.bool true) ∧ w'' = w') := fun w' => fitPkts_yes pa ps.length pcap 60 w' (Nat.le_trans hpc hpm) (by omega)
  have HTame : Hid (∀ w', Below w.heap.size w w' → Calls Tryd.prog 7 #[.slice la l.length lcap] w' fun e w'' => TameEnd l w' e w'') := fun w' hb => tameSent_any la lcap l w' (hl.below hb) (by omega)
  obtain ⟨ca, cp, hau⟩ := auditAll_is per ps l
  have HChk : Hid (∀ W a3 k3 b3 j3, Below w.heap.size w W → LiesP W a3 ps → ps.length ≤ k3 → k3 ≤ maxLen → LiesS W b3 l → Calls Tryd.prog 9 #[.slice a3 ps.length k3, .int .i64 per, .slice b3 l.length j3] W fun e w' => ∃ E, e = .returned E ∧ ErrIs w' E ca cp ∧ Below W.heap.size W w') := fun W a3 k3 b3 j3 hb g1 g2 g3 g4 => AW.check a3 k3 ps per b3 j3 l W ad ca cp (he.below hb) g1 g2 g3 g4 (by omega) ht hau
  have HAf : Hid (∀ W, Below w.heap.size w W → Calls Tryd.prog 12 #[.slice pa ps.length pcap, .int .i64 per, .slice la l.length lcap] W fun e w' => FaultEnd ca cp W e w') := fun W hb => refAuditFault_is pa pcap ps per la lcap l W ca cp (hp.below hb) hpc hpm (hl.below hb) (by omega) ht hau
  have HBy : Hid (∀ W a3 k3 b3 j3, Below w.heap.size w W → LiesP W a3 ps → ps.length ≤ k3 → k3 ≤ maxLen → LiesS W b3 l → Calls Tryd.prog 13 #[.slice a3 ps.length k3, .slice b3 l.length j3, .int .i64 f, .int .i64 x, .int .i64 y] W fun e w' => ∃ E, e = .returned (.tuple #[.int .i64 0, E]) ∧ ErrIs w' E c p ∧ Below W.heap.size W w') := fun W a3 k3 b3 j3 hb g1 g2 g3 g4 => by
    have := AW.bytes a3 k3 ps b3 j3 l f x y W ad c p (he.below hb) g1 g2 g3 g4 (by omega) ht (.inl ⟨hf, hc⟩)
    rwa [if_neg (by omega)] at this
  have HPf : Hid (∀ W, Below w.heap.size w W → Calls Tryd.prog 14 #[.slice pa ps.length pcap] W fun e w' => e = .returned (.agg #[.int .i64 c, .int .i64 p]) ∧ Below W.heap.size W w') := fun W hb => pfault_is pa pcap ps W (hp.below hb) hpc hpm c p hf
  have hc0 : (c == 0) = false := by simpa using (show c ≠ 0 by omega)
  have HOwnS0 : Hid (∀ w', Below w.heap.size w w' → Calls Tryd.prog 11 #[.slice la l.length lcap] w' fun e w'' => ∃ a' cap', e = .returned (.slice a' l.length cap') ∧ LiesS w'' a' l ∧ Below w'.heap.size w' w'' ∧ Below w.heap.size w w'') := fun w' hb => ownSent_from la lcap l w w' hb hl (by omega) hla
  have HOwnP0 : Hid (∀ w', Below w.heap.size w w' → Calls Tryd.prog 10 #[.slice pa ps.length pcap] w' fun e w'' => ∃ a' cap', e = .returned (.slice a' ps.length cap') ∧ LiesP w'' a' ps ∧ ps.length ≤ cap' ∧ cap' ≤ maxLen ∧ Below w'.heap.size w' w'' ∧ Below w.heap.size w w'') := fun w' hb => ownPackets_from pa pcap ps w w' hb hp (by omega) hpa
  obtain ⟨m, hmm⟩ : ∃ m, ps.length = m := ⟨_, rfl⟩
  obtain ⟨n, hnn⟩ : ∃ n, l.length = n := ⟨_, rfl⟩
  have HM : Hid (ps.length = m ∧ l.length = n) := ⟨hmm, hnn⟩
  rw [hmm] at hm HFit HChk HAf HBy HPf HOwnP0 ⊢
  rw [hnn] at hll HTame HChk HAf HBy HOwnS0 ⊢
  have hn' : ¬ 80 < n := by omega
  clear hmm hnn AW he hp hpa hpc hpm hl hla ht hau hf
  go_enter Tryd.func3, Tryd.ntmps3
  go_wp2_with fail
  refine (HA.out _ (Below.refl _ _)).mono ?_
  rintro e w1 ⟨rfl, hb⟩
  have HB1 : Hid (Below w.heap.size w w1) := hb
  clear hb
  go_wp2_with fail
  refine (HFit.out _).mono ?_
  rintro e w1' ⟨rfl, rfl⟩
  go_wp2_with fail
  refine (HTame.out _ HB1.out).mono ?_
  rintro e w2 ⟨⟨rfl, -⟩ | rfl, hb2⟩
  rotate_left
  · have HB2 : Hid (Below w.heap.size w w2) := HB1.out.trans (hb2.mono HB1.out.size)
    clear hb2
    go_wp2_with fail
    go_ret
    exact ⟨rfl, HB2.out⟩
  have HB2 : Hid (Below w.heap.size w w2) := HB1.out.trans (hb2.mono HB1.out.size)
  clear hb2
  go_wp2_with fail
  refine (HOwnP0.out _ HB2.out).mono ?_
  rintro e w3 ⟨a3, k3, rfl, l3, g3, m3, b3, B3⟩
  have HB3 : Hid (Below w.heap.size w w3 ∧ LiesP w3 a3 ps ∧ m ≤ k3 ∧ k3 ≤ maxLen) := ⟨B3, l3, g3, m3⟩
  clear l3 g3 m3 b3 B3
  go_wp2_with fail
  refine (HOwnS0.out _ HB3.out.1).mono ?_
  rintro e w4 ⟨a4, k4, rfl, l4, b4, B4⟩
  have HB4 : Hid (Below w.heap.size w w4 ∧ LiesP w4 a3 ps ∧ LiesS w4 a4 l) := ⟨B4, HB3.out.2.1.below b4, l4⟩
  clear l4 b4 B4
  go_wp2_with fail
  refine (HChk.out w4 a3 k3 a4 k4 HB4.out.1 HB4.out.2.1 HB3.out.2.2.1 HB3.out.2.2.2 HB4.out.2.2).mono ?_
  rintro e w5 ⟨E5, rfl, e5, b5⟩
  have HB5 : Hid (Below w.heap.size w w5 ∧ CodeIs w5 E5 ca cp) := ⟨HB4.out.1.trans (b5.mono HB4.out.1.size), e5.code⟩
  clear e5 b5
  go_wp2_with fail
  refine (HAf.out _ HB5.out.1).mono ?_
  rintro e w6 ⟨rfl, b6⟩
  have HB6 : Hid (Below w.heap.size w w6 ∧ CodeIs w6 E5 ca cp) := ⟨HB5.out.1.trans (b6.mono HB5.out.1.size), HB5.out.2.below b6⟩
  clear b6
  go_wp2_with fail
  refine (faulted_yes E5 ca cp _ HB6.out.2).mono ?_
  rintro e w7 ⟨rfl, b7⟩
  have HB7 : Hid (Below w.heap.size w w7) := HB6.out.1.trans (b7.mono HB6.out.1.size)
  clear b7
  go_wp2_with fail
  refine (HOwnP0.out _ HB7.out).mono ?_
  rintro e w8 ⟨a8, k8, rfl, l8, g8, m8, b8, B8⟩
  have HB8 : Hid (Below w.heap.size w w8 ∧ LiesP w8 a8 ps ∧ m ≤ k8 ∧ k8 ≤ maxLen) := ⟨B8, l8, g8, m8⟩
  clear l8 g8 m8 b8 B8
  go_wp2_with fail
  refine (HOwnS0.out _ HB8.out.1).mono ?_
  rintro e w9 ⟨a9, k9, rfl, l9, b9, B9⟩
  have HB9 : Hid (Below w.heap.size w w9 ∧ LiesP w9 a8 ps ∧ LiesS w9 a9 l) := ⟨B9, HB8.out.2.1.below b9, l9⟩
  clear l9 b9 B9
  go_wp2_with fail
  refine (HBy.out w9 a8 k8 a9 k9 HB9.out.1 HB9.out.2.1 HB8.out.2.2.1 HB8.out.2.2.2 HB9.out.2.2).mono ?_
  rintro e w10 ⟨E10, rfl, e10, b10⟩
  have HB10 : Hid (Below w.heap.size w w10 ∧ ErrIs w10 E10 c p) := ⟨HB9.out.1.trans (b10.mono HB9.out.1.size), e10⟩
  clear e10 b10
  go_wp2_with fail
  refine (HPf.out _ HB10.out.1).mono ?_
  rintro e w11 ⟨rfl, b11⟩
  have HX : Hid (Below w.heap.size w (w11.alloc (.cells #[.int .i64 c, .int .i64 p] 34)) ∧ Below w10.heap.size w10 (w11.alloc (.cells #[.int .i64 c, .int .i64 p] 34)) ∧ At2 (w11.alloc (.cells #[.int .i64 c, .int .i64 p] 34)) w11.heap.size (.int .i64 c) (.int .i64 p) ∧ w10.heap.size ≤ w11.heap.size) := ⟨HB10.out.1.trans ((b11.alloc b11.size _).mono HB10.out.1.size), b11.alloc b11.size _, at2_new w11 _ _ _, b11.size⟩
  clear b11
  go_wp2_with fail
  refine (faulted_yes E10 c p _ (HB10.out.2.code.below HX.out.2.1)).mono ?_
  rintro e w15 ⟨rfl, b15⟩
  have HB15 : Hid (Below w.heap.size w w15) := HB10.out.1.trans ((HX.out.2.1.trans (b15.mono HX.out.2.1.size)).mono HB10.out.1.size)
  clear b15
  go_wp2_with fail
  go_ret
  exact ⟨rfl, HB15.out⟩

set_option maxRecDepth 100000 in
set_option maxHeartbeats 4000000 in
theorem auLaw_sent (AW : AuditWalks) (pa : Option Addr) (pcap : Nat) (ps : List Pk) (per : Int) (la : Option Addr) (lcap : Nat) (l : List Sn) (f x y : Int) (w : World) (ad : Nat → Addr) (he : Errs9 w ad) (hp : LiesP w pa ps) (hpa : pa = none → ps = [] ∧ pcap = 0) (hpc : ps.length ≤ pcap) (hpm : pcap ≤ maxLen) (hl : LiesS w la l) (hla : la = none → l = [] ∧ lcap = 0) (hm : ps.length ≤ 60 ∨ ps.length = 301) (hll : l.length ≤ 80) (ht : tameAll l) (ho : OkPks ps) (c p : Int) (hf : SentFaultIs ps.length l c p) (hc : 0 < c) :
    Calls Tryd.prog 3 #[.slice pa ps.length pcap, .int .i64 per, .slice la l.length lcap, .int .i64 f, .int .i64 x, .int .i64 y] w fun e w' => e = .returned (.bool true) ∧ Below w.heap.size w w' := by
  have HA := (show Hid (∀ w', Below w.heap.size w w' → Calls Tryd.prog 5 #[] w' fun e w'' => e = .returned (.bool true) ∧ Below w'.heap.size w' w'') from fun w' hb => AW.audited w' ad (he.below hb))
  have HFit : Hid (∀ w', Calls Tryd.prog 6 #[.slice pa ps.length pcap, .int .i64 60] w' fun e w'' => e = .returned (.bool true) ∧ w'' = w') := fun w' => fitPkts_yes pa ps.length pcap 60 w' (Nat.le_trans hpc hpm) (by omega)
  have HTame : Hid (∀ w', Below w.heap.size w w' → Calls Tryd.prog 7 #[.slice la l.length lcap] w' fun e w'' => TameEnd l w' e w'') := fun w' hb => tameSent_any la lcap l w' (hl.below hb) (by omega)
  obtain ⟨ca, cp, hau⟩ := auditAll_is per ps l
  have HChk : Hid (∀ W a3 k3 b3 j3, Below w.heap.size w W → LiesP W a3 ps → ps.length ≤ k3 → k3 ≤ maxLen → LiesS W b3 l → Calls Tryd.prog 9 #[.slice a3 ps.length k3, .int .i64 per, .slice b3 l.length j3] W fun e w' => ∃ E, e = .returned E ∧ ErrIs w' E ca cp ∧ Below W.heap.size W w') := fun W a3 k3 b3 j3 hb g1 g2 g3 g4 => AW.check a3 k3 ps per b3 j3 l W ad ca cp (he.below hb) g1 g2 g3 g4 (by omega) ht hau
  have HAf : Hid (∀ W, Below w.heap.size w W → Calls Tryd.prog 12 #[.slice pa ps.length pcap, .int .i64 per, .slice la l.length lcap] W fun e w' => FaultEnd ca cp W e w') := fun W hb => refAuditFault_is pa pcap ps per la lcap l W ca cp (hp.below hb) hpc hpm (hl.below hb) (by omega) ht hau
  have HBy : Hid (∀ W a3 k3 b3 j3, Below w.heap.size w W → LiesP W a3 ps → ps.length ≤ k3 → k3 ≤ maxLen → LiesS W b3 l → Calls Tryd.prog 13 #[.slice a3 ps.length k3, .slice b3 l.length j3, .int .i64 f, .int .i64 x, .int .i64 y] W fun e w' => ∃ E, e = .returned (.tuple #[.int .i64 0, E]) ∧ ErrIs w' E c p ∧ Below W.heap.size W w') := fun W a3 k3 b3 j3 hb g1 g2 g3 g4 => by
    have := AW.bytes a3 k3 ps b3 j3 l f x y W ad c p (he.below hb) g1 g2 g3 g4 (by omega) ht (.inr (.inl ⟨ho, hf, hc⟩))
    rwa [if_neg (by omega)] at this
  have HPf : Hid (∀ W, Below w.heap.size w W → Calls Tryd.prog 14 #[.slice pa ps.length pcap] W fun e w' => e = .returned (.agg #[.int .i64 0, .int .i64 (-1)]) ∧ Below W.heap.size W w') := fun W hb => pfault_is pa pcap ps W (hp.below hb) hpc hpm 0 (-1) (.inr (.inr ⟨ho, rfl, rfl⟩))
  have HSf : Hid (∀ W, Below w.heap.size w W → Calls Tryd.prog 15 #[.slice pa ps.length pcap, .slice la l.length lcap] W fun e w' => e = .returned (.agg #[.int .i64 c, .int .i64 p]) ∧ Below W.heap.size W w') := fun W hb => sentFault_any pa ps.length pcap la lcap l W (hl.below hb) (by omega) ho.few c p hf
  have hc0 : (c == 0) = false := by simpa using (show c ≠ 0 by omega)
  have HOwnS0 : Hid (∀ w', Below w.heap.size w w' → Calls Tryd.prog 11 #[.slice la l.length lcap] w' fun e w'' => ∃ a' cap', e = .returned (.slice a' l.length cap') ∧ LiesS w'' a' l ∧ Below w'.heap.size w' w'' ∧ Below w.heap.size w w'') := fun w' hb => ownSent_from la lcap l w w' hb hl (by omega) hla
  have HOwnP0 : Hid (∀ w', Below w.heap.size w w' → Calls Tryd.prog 10 #[.slice pa ps.length pcap] w' fun e w'' => ∃ a' cap', e = .returned (.slice a' ps.length cap') ∧ LiesP w'' a' ps ∧ ps.length ≤ cap' ∧ cap' ≤ maxLen ∧ Below w'.heap.size w' w'' ∧ Below w.heap.size w w'') := fun w' hb => ownPackets_from pa pcap ps w w' hb hp (by omega) hpa
  obtain ⟨m, hmm⟩ : ∃ m, ps.length = m := ⟨_, rfl⟩
  obtain ⟨n, hnn⟩ : ∃ n, l.length = n := ⟨_, rfl⟩
  have HM : Hid (ps.length = m ∧ l.length = n) := ⟨hmm, hnn⟩
  rw [hmm] at hm HFit HChk HAf HBy HPf HOwnP0 HSf ⊢
  rw [hnn] at hll HTame HChk HAf HBy HOwnS0 HSf ⊢
  have hn' : ¬ 80 < n := by omega
  clear hmm hnn AW he hp hpa hpc hpm hl hla ht hau hf ho
  go_enter Tryd.func3, Tryd.ntmps3
  go_wp2_with fail
  refine (HA.out _ (Below.refl _ _)).mono ?_
  rintro e w1 ⟨rfl, hb⟩
  have HB1 : Hid (Below w.heap.size w w1) := hb
  clear hb
  go_wp2_with fail
  refine (HFit.out _).mono ?_
  rintro e w1' ⟨rfl, rfl⟩
  go_wp2_with fail
  refine (HTame.out _ HB1.out).mono ?_
  rintro e w2 ⟨⟨rfl, -⟩ | rfl, hb2⟩
  rotate_left
  · have HB2 : Hid (Below w.heap.size w w2) := HB1.out.trans (hb2.mono HB1.out.size)
    clear hb2
    go_wp2_with fail
    go_ret
    exact ⟨rfl, HB2.out⟩
  have HB2 : Hid (Below w.heap.size w w2) := HB1.out.trans (hb2.mono HB1.out.size)
  clear hb2
  go_wp2_with fail
  refine (HOwnP0.out _ HB2.out).mono ?_
  rintro e w3 ⟨a3, k3, rfl, l3, g3, m3, b3, B3⟩
  have HB3 : Hid (Below w.heap.size w w3 ∧ LiesP w3 a3 ps ∧ m ≤ k3 ∧ k3 ≤ maxLen) := ⟨B3, l3, g3, m3⟩
  clear l3 g3 m3 b3 B3
  go_wp2_with fail
  refine (HOwnS0.out _ HB3.out.1).mono ?_
  rintro e w4 ⟨a4, k4, rfl, l4, b4, B4⟩
  have HB4 : Hid (Below w.heap.size w w4 ∧ LiesP w4 a3 ps ∧ LiesS w4 a4 l) := ⟨B4, HB3.out.2.1.below b4, l4⟩
  clear l4 b4 B4
  go_wp2_with fail
  refine (HChk.out w4 a3 k3 a4 k4 HB4.out.1 HB4.out.2.1 HB3.out.2.2.1 HB3.out.2.2.2 HB4.out.2.2).mono ?_
  rintro e w5 ⟨E5, rfl, e5, b5⟩
  have HB5 : Hid (Below w.heap.size w w5 ∧ CodeIs w5 E5 ca cp) := ⟨HB4.out.1.trans (b5.mono HB4.out.1.size), e5.code⟩
  clear e5 b5
  go_wp2_with fail
  refine (HAf.out _ HB5.out.1).mono ?_
  rintro e w6 ⟨rfl, b6⟩
  have HB6 : Hid (Below w.heap.size w w6 ∧ CodeIs w6 E5 ca cp) := ⟨HB5.out.1.trans (b6.mono HB5.out.1.size), HB5.out.2.below b6⟩
  clear b6
  go_wp2_with fail
  refine (faulted_yes E5 ca cp _ HB6.out.2).mono ?_
  rintro e w7 ⟨rfl, b7⟩
  have HB7 : Hid (Below w.heap.size w w7) := HB6.out.1.trans (b7.mono HB6.out.1.size)
  clear b7
  go_wp2_with fail
  refine (HOwnP0.out _ HB7.out).mono ?_
  rintro e w8 ⟨a8, k8, rfl, l8, g8, m8, b8, B8⟩
  have HB8 : Hid (Below w.heap.size w w8 ∧ LiesP w8 a8 ps ∧ m ≤ k8 ∧ k8 ≤ maxLen) := ⟨B8, l8, g8, m8⟩
  clear l8 g8 m8 b8 B8
  go_wp2_with fail
  refine (HOwnS0.out _ HB8.out.1).mono ?_
  rintro e w9 ⟨a9, k9, rfl, l9, b9, B9⟩
  have HB9 : Hid (Below w.heap.size w w9 ∧ LiesP w9 a8 ps ∧ LiesS w9 a9 l) := ⟨B9, HB8.out.2.1.below b9, l9⟩
  clear l9 b9 B9
  go_wp2_with fail
  refine (HBy.out w9 a8 k8 a9 k9 HB9.out.1 HB9.out.2.1 HB8.out.2.2.1 HB8.out.2.2.2 HB9.out.2.2).mono ?_
  rintro e w10 ⟨E10, rfl, e10, b10⟩
  have HB10 : Hid (Below w.heap.size w w10 ∧ ErrIs w10 E10 c p) := ⟨HB9.out.1.trans (b10.mono HB9.out.1.size), e10⟩
  clear e10 b10
  go_wp2_with fail
  refine (HPf.out _ HB10.out.1).mono ?_
  rintro e w11 ⟨rfl, b11⟩
  have HX : Hid (Below w.heap.size w (w11.alloc (.cells #[.int .i64 0, .int .i64 (-1)] 34)) ∧ Below w10.heap.size w10 (w11.alloc (.cells #[.int .i64 0, .int .i64 (-1)] 34)) ∧ At2 (w11.alloc (.cells #[.int .i64 0, .int .i64 (-1)] 34)) w11.heap.size (.int .i64 0) (.int .i64 (-1)) ∧ w10.heap.size ≤ w11.heap.size) := ⟨HB10.out.1.trans ((b11.alloc b11.size _).mono HB10.out.1.size), b11.alloc b11.size _, at2_new w11 _ _ _, b11.size⟩
  clear b11
  go_wp2_with fail
  refine (HSf.out _ HX.out.1).mono ?_
  rintro e w12 ⟨rfl, b12⟩
  obtain ⟨k0, k1, f0, f1⟩ := HX.out.2.2.1.later b12
  have HAt2 : Hid (At2 ((w12.setCell ⟨w11.heap.size, 0, none⟩ (.int .i64 c)).setCell ⟨w11.heap.size, 1, none⟩ (.int .i64 p)) w11.heap.size (.int .i64 c) (.int .i64 p)) := (HX.out.2.2.1.later b12).set _ _
  have HX12 : Hid (Below w10.heap.size w10 ((w12.setCell ⟨w11.heap.size, 0, none⟩ (.int .i64 c)).setCell ⟨w11.heap.size, 1, none⟩ (.int .i64 p))) := ((HX.out.2.1.trans (b12.mono HX.out.2.1.size)).setCell HX.out.2.2.2 _).setCell HX.out.2.2.2 _
  clear b12
  go_wp2_with fail
  refine (faulted_yes E10 c p _ (HB10.out.2.code.below HX12.out)).mono ?_
  rintro e w15 ⟨rfl, b15⟩
  have HB15 : Hid (Below w.heap.size w w15) := HB10.out.1.trans ((HX12.out.trans (b15.mono HX12.out.size)).mono HB10.out.1.size)
  clear b15
  go_wp2_with fail
  go_ret
  exact ⟨rfl, HB15.out⟩

set_option maxRecDepth 100000 in
set_option maxHeartbeats 4000000 in
theorem auLaw_f0 (AW : AuditWalks) (pa : Option Addr) (pcap : Nat) (ps : List Pk) (per : Int) (la : Option Addr) (lcap : Nat) (l : List Sn) (f x y : Int) (w : World) (ad : Nat → Addr) (he : Errs9 w ad) (hp : LiesP w pa ps) (hpa : pa = none → ps = [] ∧ pcap = 0) (hpc : ps.length ≤ pcap) (hpm : pcap ≤ maxLen) (hl : LiesS w la l) (hla : la = none → l = [] ∧ lcap = 0) (hm : ps.length ≤ 60 ∨ ps.length = 301) (hll : l.length ≤ 80) (ht : tameAll l) (ho : OkPks ps) (hf : SentFaultIs ps.length l 0 (-1)) (hf0 : f < 0) :
    Calls Tryd.prog 3 #[.slice pa ps.length pcap, .int .i64 per, .slice la l.length lcap, .int .i64 f, .int .i64 x, .int .i64 y] w fun e w' => e = .returned (.bool true) ∧ Below w.heap.size w w' := by
  have HA := (show Hid (∀ w', Below w.heap.size w w' → Calls Tryd.prog 5 #[] w' fun e w'' => e = .returned (.bool true) ∧ Below w'.heap.size w' w'') from fun w' hb => AW.audited w' ad (he.below hb))
  have HFit : Hid (∀ w', Calls Tryd.prog 6 #[.slice pa ps.length pcap, .int .i64 60] w' fun e w'' => e = .returned (.bool true) ∧ w'' = w') := fun w' => fitPkts_yes pa ps.length pcap 60 w' (Nat.le_trans hpc hpm) (by omega)
  have HTame : Hid (∀ w', Below w.heap.size w w' → Calls Tryd.prog 7 #[.slice la l.length lcap] w' fun e w'' => TameEnd l w' e w'') := fun w' hb => tameSent_any la lcap l w' (hl.below hb) (by omega)
  obtain ⟨ca, cp, hau⟩ := auditAll_is per ps l
  have HChk : Hid (∀ W a3 k3 b3 j3, Below w.heap.size w W → LiesP W a3 ps → ps.length ≤ k3 → k3 ≤ maxLen → LiesS W b3 l → Calls Tryd.prog 9 #[.slice a3 ps.length k3, .int .i64 per, .slice b3 l.length j3] W fun e w' => ∃ E, e = .returned E ∧ ErrIs w' E ca cp ∧ Below W.heap.size W w') := fun W a3 k3 b3 j3 hb g1 g2 g3 g4 => AW.check a3 k3 ps per b3 j3 l W ad ca cp (he.below hb) g1 g2 g3 g4 (by omega) ht hau
  have HAf : Hid (∀ W, Below w.heap.size w W → Calls Tryd.prog 12 #[.slice pa ps.length pcap, .int .i64 per, .slice la l.length lcap] W fun e w' => FaultEnd ca cp W e w') := fun W hb => refAuditFault_is pa pcap ps per la lcap l W ca cp (hp.below hb) hpc hpm (hl.below hb) (by omega) ht hau
  have HBy : Hid (∀ W a3 k3 b3 j3, Below w.heap.size w W → LiesP W a3 ps → ps.length ≤ k3 → k3 ≤ maxLen → LiesS W b3 l → Calls Tryd.prog 13 #[.slice a3 ps.length k3, .slice b3 l.length j3, .int .i64 f, .int .i64 x, .int .i64 y] W fun e w' => ∃ E, e = .returned (.tuple #[.int .i64 0, E]) ∧ ErrIs w' E 2 (-1) ∧ Below W.heap.size W w') := fun W a3 k3 b3 j3 hb g1 g2 g3 g4 => by
    have := AW.bytes a3 k3 ps b3 j3 l f x y W ad 2 (-1) (he.below hb) g1 g2 g3 g4 (by omega) ht (.inr (.inr (.inl ⟨ho, hf, fun h => by omega, rfl, rfl⟩)))
    rwa [if_neg (by omega)] at this
  have HPf : Hid (∀ W, Below w.heap.size w W → Calls Tryd.prog 14 #[.slice pa ps.length pcap] W fun e w' => e = .returned (.agg #[.int .i64 0, .int .i64 (-1)]) ∧ Below W.heap.size W w') := fun W hb => pfault_is pa pcap ps W (hp.below hb) hpc hpm 0 (-1) (.inr (.inr ⟨ho, rfl, rfl⟩))
  have HSf : Hid (∀ W, Below w.heap.size w W → Calls Tryd.prog 15 #[.slice pa ps.length pcap, .slice la l.length lcap] W fun e w' => e = .returned (.agg #[.int .i64 0, .int .i64 (-1)]) ∧ Below W.heap.size W w') := fun W hb => sentFault_any pa ps.length pcap la lcap l W (hl.below hb) (by omega) ho.few 0 (-1) hf
  have HOwnS0 : Hid (∀ w', Below w.heap.size w w' → Calls Tryd.prog 11 #[.slice la l.length lcap] w' fun e w'' => ∃ a' cap', e = .returned (.slice a' l.length cap') ∧ LiesS w'' a' l ∧ Below w'.heap.size w' w'' ∧ Below w.heap.size w w'') := fun w' hb => ownSent_from la lcap l w w' hb hl (by omega) hla
  have HOwnP0 : Hid (∀ w', Below w.heap.size w w' → Calls Tryd.prog 10 #[.slice pa ps.length pcap] w' fun e w'' => ∃ a' cap', e = .returned (.slice a' ps.length cap') ∧ LiesP w'' a' ps ∧ ps.length ≤ cap' ∧ cap' ≤ maxLen ∧ Below w'.heap.size w' w'' ∧ Below w.heap.size w w'') := fun w' hb => ownPackets_from pa pcap ps w w' hb hp (by omega) hpa
  obtain ⟨m, hmm⟩ : ∃ m, ps.length = m := ⟨_, rfl⟩
  obtain ⟨n, hnn⟩ : ∃ n, l.length = n := ⟨_, rfl⟩
  have HM : Hid (ps.length = m ∧ l.length = n) := ⟨hmm, hnn⟩
  rw [hmm] at hm HFit HChk HAf HBy HPf HOwnP0 HSf ⊢
  rw [hnn] at hll HTame HChk HAf HBy HOwnS0 HSf ⊢
  have hn' : ¬ 80 < n := by omega
  clear hmm hnn AW he hp hpa hpc hpm hl hla ht hau hf ho
  go_enter Tryd.func3, Tryd.ntmps3
  go_wp2_with fail
  refine (HA.out _ (Below.refl _ _)).mono ?_
  rintro e w1 ⟨rfl, hb⟩
  have HB1 : Hid (Below w.heap.size w w1) := hb
  clear hb
  go_wp2_with fail
  refine (HFit.out _).mono ?_
  rintro e w1' ⟨rfl, rfl⟩
  go_wp2_with fail
  refine (HTame.out _ HB1.out).mono ?_
  rintro e w2 ⟨⟨rfl, -⟩ | rfl, hb2⟩
  rotate_left
  · have HB2 : Hid (Below w.heap.size w w2) := HB1.out.trans (hb2.mono HB1.out.size)
    clear hb2
    go_wp2_with fail
    go_ret
    exact ⟨rfl, HB2.out⟩
  have HB2 : Hid (Below w.heap.size w w2) := HB1.out.trans (hb2.mono HB1.out.size)
  clear hb2
  go_wp2_with fail
  refine (HOwnP0.out _ HB2.out).mono ?_
  rintro e w3 ⟨a3, k3, rfl, l3, g3, m3, b3, B3⟩
  have HB3 : Hid (Below w.heap.size w w3 ∧ LiesP w3 a3 ps ∧ m ≤ k3 ∧ k3 ≤ maxLen) := ⟨B3, l3, g3, m3⟩
  clear l3 g3 m3 b3 B3
  go_wp2_with fail
  refine (HOwnS0.out _ HB3.out.1).mono ?_
  rintro e w4 ⟨a4, k4, rfl, l4, b4, B4⟩
  have HB4 : Hid (Below w.heap.size w w4 ∧ LiesP w4 a3 ps ∧ LiesS w4 a4 l) := ⟨B4, HB3.out.2.1.below b4, l4⟩
  clear l4 b4 B4
  go_wp2_with fail
  refine (HChk.out w4 a3 k3 a4 k4 HB4.out.1 HB4.out.2.1 HB3.out.2.2.1 HB3.out.2.2.2 HB4.out.2.2).mono ?_
  rintro e w5 ⟨E5, rfl, e5, b5⟩
  have HB5 : Hid (Below w.heap.size w w5 ∧ CodeIs w5 E5 ca cp) := ⟨HB4.out.1.trans (b5.mono HB4.out.1.size), e5.code⟩
  clear e5 b5
  go_wp2_with fail
  refine (HAf.out _ HB5.out.1).mono ?_
  rintro e w6 ⟨rfl, b6⟩
  have HB6 : Hid (Below w.heap.size w w6 ∧ CodeIs w6 E5 ca cp) := ⟨HB5.out.1.trans (b6.mono HB5.out.1.size), HB5.out.2.below b6⟩
  clear b6
  go_wp2_with fail
  refine (faulted_yes E5 ca cp _ HB6.out.2).mono ?_
  rintro e w7 ⟨rfl, b7⟩
  have HB7 : Hid (Below w.heap.size w w7) := HB6.out.1.trans (b7.mono HB6.out.1.size)
  clear b7
  go_wp2_with fail
  refine (HOwnP0.out _ HB7.out).mono ?_
  rintro e w8 ⟨a8, k8, rfl, l8, g8, m8, b8, B8⟩
  have HB8 : Hid (Below w.heap.size w w8 ∧ LiesP w8 a8 ps ∧ m ≤ k8 ∧ k8 ≤ maxLen) := ⟨B8, l8, g8, m8⟩
  clear l8 g8 m8 b8 B8
  go_wp2_with fail
  refine (HOwnS0.out _ HB8.out.1).mono ?_
  rintro e w9 ⟨a9, k9, rfl, l9, b9, B9⟩
  have HB9 : Hid (Below w.heap.size w w9 ∧ LiesP w9 a8 ps ∧ LiesS w9 a9 l) := ⟨B9, HB8.out.2.1.below b9, l9⟩
  clear l9 b9 B9
  go_wp2_with fail
  refine (HBy.out w9 a8 k8 a9 k9 HB9.out.1 HB9.out.2.1 HB8.out.2.2.1 HB8.out.2.2.2 HB9.out.2.2).mono ?_
  rintro e w10 ⟨E10, rfl, e10, b10⟩
  have HB10 : Hid (Below w.heap.size w w10 ∧ ErrIs w10 E10 2 (-1)) := ⟨HB9.out.1.trans (b10.mono HB9.out.1.size), e10⟩
  clear e10 b10
  go_wp2_with fail
  refine (HPf.out _ HB10.out.1).mono ?_
  rintro e w11 ⟨rfl, b11⟩
  have HX : Hid (Below w.heap.size w (w11.alloc (.cells #[.int .i64 0, .int .i64 (-1)] 34)) ∧ Below w10.heap.size w10 (w11.alloc (.cells #[.int .i64 0, .int .i64 (-1)] 34)) ∧ At2 (w11.alloc (.cells #[.int .i64 0, .int .i64 (-1)] 34)) w11.heap.size (.int .i64 0) (.int .i64 (-1)) ∧ w10.heap.size ≤ w11.heap.size) := ⟨HB10.out.1.trans ((b11.alloc b11.size _).mono HB10.out.1.size), b11.alloc b11.size _, at2_new w11 _ _ _, b11.size⟩
  clear b11
  go_wp2_with fail
  refine (HSf.out _ HX.out.1).mono ?_
  rintro e w12 ⟨rfl, b12⟩
  obtain ⟨k0, k1, f0, f1⟩ := HX.out.2.2.1.later b12
  have HAt2 : Hid (At2 ((w12.setCell ⟨w11.heap.size, 0, none⟩ (.int .i64 0)).setCell ⟨w11.heap.size, 1, none⟩ (.int .i64 (-1))) w11.heap.size (.int .i64 0) (.int .i64 (-1))) := (HX.out.2.2.1.later b12).set _ _
  have HX12 : Hid (Below w10.heap.size w10 ((w12.setCell ⟨w11.heap.size, 0, none⟩ (.int .i64 0)).setCell ⟨w11.heap.size, 1, none⟩ (.int .i64 (-1)))) := ((HX.out.2.1.trans (b12.mono HX.out.2.1.size)).setCell HX.out.2.2.2 _).setCell HX.out.2.2.2 _
  clear b12
  go_wp2_with fail
  refine (bare_any 2 _).mono ?_
  rintro e w13 ⟨rfl, b13⟩
  obtain ⟨k0', k1', f0', f1'⟩ := HAt2.out.later b13
  have HX13 : Hid (Below w10.heap.size w10 ((w13.setCell ⟨w11.heap.size, 0, none⟩ (.int .i64 2)).setCell ⟨w11.heap.size, 1, none⟩ (.int .i64 (-1)))) := ((HX12.out.trans (b13.mono HX12.out.size)).setCell HX.out.2.2.2 _).setCell HX.out.2.2.2 _
  clear b13
  go_wp2_with fail
  refine (faulted_yes E10 2 (-1) _ (HB10.out.2.code.below HX13.out)).mono ?_
  rintro e w15 ⟨rfl, b15⟩
  have HB15 : Hid (Below w.heap.size w w15) := HB10.out.1.trans ((HX13.out.trans (b15.mono HX13.out.size)).mono HB10.out.1.size)
  clear b15
  go_wp2_with fail
  go_ret
  exact ⟨rfl, HB15.out⟩

set_option maxRecDepth 100000 in
set_option maxHeartbeats 4000000 in
theorem auLaw_f8 (AW : AuditWalks) (pa : Option Addr) (pcap : Nat) (ps : List Pk) (per : Int) (la : Option Addr) (lcap : Nat) (l : List Sn) (f x y : Int) (w : World) (ad : Nat → Addr) (he : Errs9 w ad) (hp : LiesP w pa ps) (hpa : pa = none → ps = [] ∧ pcap = 0) (hpc : ps.length ≤ pcap) (hpm : pcap ≤ maxLen) (hl : LiesS w la l) (hla : la = none → l = [] ∧ lcap = 0) (hm : ps.length ≤ 60 ∨ ps.length = 301) (hll : l.length ≤ 80) (ht : tameAll l) (ho : OkPks ps) (hf : SentFaultIs ps.length l 0 (-1)) (hf0 : ¬ f < 0) (hf8 : 8 ≤ f) :
    Calls Tryd.prog 3 #[.slice pa ps.length pcap, .int .i64 per, .slice la l.length lcap, .int .i64 f, .int .i64 x, .int .i64 y] w fun e w' => e = .returned (.bool true) ∧ Below w.heap.size w w' := by
  have HA := (show Hid (∀ w', Below w.heap.size w w' → Calls Tryd.prog 5 #[] w' fun e w'' => e = .returned (.bool true) ∧ Below w'.heap.size w' w'') from fun w' hb => AW.audited w' ad (he.below hb))
  have HFit : Hid (∀ w', Calls Tryd.prog 6 #[.slice pa ps.length pcap, .int .i64 60] w' fun e w'' => e = .returned (.bool true) ∧ w'' = w') := fun w' => fitPkts_yes pa ps.length pcap 60 w' (Nat.le_trans hpc hpm) (by omega)
  have HTame : Hid (∀ w', Below w.heap.size w w' → Calls Tryd.prog 7 #[.slice la l.length lcap] w' fun e w'' => TameEnd l w' e w'') := fun w' hb => tameSent_any la lcap l w' (hl.below hb) (by omega)
  obtain ⟨ca, cp, hau⟩ := auditAll_is per ps l
  have HChk : Hid (∀ W a3 k3 b3 j3, Below w.heap.size w W → LiesP W a3 ps → ps.length ≤ k3 → k3 ≤ maxLen → LiesS W b3 l → Calls Tryd.prog 9 #[.slice a3 ps.length k3, .int .i64 per, .slice b3 l.length j3] W fun e w' => ∃ E, e = .returned E ∧ ErrIs w' E ca cp ∧ Below W.heap.size W w') := fun W a3 k3 b3 j3 hb g1 g2 g3 g4 => AW.check a3 k3 ps per b3 j3 l W ad ca cp (he.below hb) g1 g2 g3 g4 (by omega) ht hau
  have HAf : Hid (∀ W, Below w.heap.size w W → Calls Tryd.prog 12 #[.slice pa ps.length pcap, .int .i64 per, .slice la l.length lcap] W fun e w' => FaultEnd ca cp W e w') := fun W hb => refAuditFault_is pa pcap ps per la lcap l W ca cp (hp.below hb) hpc hpm (hl.below hb) (by omega) ht hau
  have HBy : Hid (∀ W a3 k3 b3 j3, Below w.heap.size w W → LiesP W a3 ps → ps.length ≤ k3 → k3 ≤ maxLen → LiesS W b3 l → Calls Tryd.prog 13 #[.slice a3 ps.length k3, .slice b3 l.length j3, .int .i64 f, .int .i64 x, .int .i64 y] W fun e w' => ∃ E, e = .returned (.tuple #[.int .i64 0, E]) ∧ ErrIs w' E 2 (-1) ∧ Below W.heap.size W w') := fun W a3 k3 b3 j3 hb g1 g2 g3 g4 => by
    have := AW.bytes a3 k3 ps b3 j3 l f x y W ad 2 (-1) (he.below hb) g1 g2 g3 g4 (by omega) ht (.inr (.inr (.inl ⟨ho, hf, fun h => by omega, rfl, rfl⟩)))
    rwa [if_neg (by omega)] at this
  have HPf : Hid (∀ W, Below w.heap.size w W → Calls Tryd.prog 14 #[.slice pa ps.length pcap] W fun e w' => e = .returned (.agg #[.int .i64 0, .int .i64 (-1)]) ∧ Below W.heap.size W w') := fun W hb => pfault_is pa pcap ps W (hp.below hb) hpc hpm 0 (-1) (.inr (.inr ⟨ho, rfl, rfl⟩))
  have HSf : Hid (∀ W, Below w.heap.size w W → Calls Tryd.prog 15 #[.slice pa ps.length pcap, .slice la l.length lcap] W fun e w' => e = .returned (.agg #[.int .i64 0, .int .i64 (-1)]) ∧ Below W.heap.size W w') := fun W hb => sentFault_any pa ps.length pcap la lcap l W (hl.below hb) (by omega) ho.few 0 (-1) hf
  have HOwnS0 : Hid (∀ w', Below w.heap.size w w' → Calls Tryd.prog 11 #[.slice la l.length lcap] w' fun e w'' => ∃ a' cap', e = .returned (.slice a' l.length cap') ∧ LiesS w'' a' l ∧ Below w'.heap.size w' w'' ∧ Below w.heap.size w w'') := fun w' hb => ownSent_from la lcap l w w' hb hl (by omega) hla
  have HOwnP0 : Hid (∀ w', Below w.heap.size w w' → Calls Tryd.prog 10 #[.slice pa ps.length pcap] w' fun e w'' => ∃ a' cap', e = .returned (.slice a' ps.length cap') ∧ LiesP w'' a' ps ∧ ps.length ≤ cap' ∧ cap' ≤ maxLen ∧ Below w'.heap.size w' w'' ∧ Below w.heap.size w w'') := fun w' hb => ownPackets_from pa pcap ps w w' hb hp (by omega) hpa
  obtain ⟨m, hmm⟩ : ∃ m, ps.length = m := ⟨_, rfl⟩
  obtain ⟨n, hnn⟩ : ∃ n, l.length = n := ⟨_, rfl⟩
  have HM : Hid (ps.length = m ∧ l.length = n) := ⟨hmm, hnn⟩
  rw [hmm] at hm HFit HChk HAf HBy HPf HOwnP0 HSf ⊢
  rw [hnn] at hll HTame HChk HAf HBy HOwnS0 HSf ⊢
  have hn' : ¬ 80 < n := by omega
  clear hmm hnn AW he hp hpa hpc hpm hl hla ht hau hf ho
  go_enter Tryd.func3, Tryd.ntmps3
  go_wp2_with fail
  refine (HA.out _ (Below.refl _ _)).mono ?_
  rintro e w1 ⟨rfl, hb⟩
  have HB1 : Hid (Below w.heap.size w w1) := hb
  clear hb
  go_wp2_with fail
  refine (HFit.out _).mono ?_
  rintro e w1' ⟨rfl, rfl⟩
  go_wp2_with fail
  refine (HTame.out _ HB1.out).mono ?_
  rintro e w2 ⟨⟨rfl, -⟩ | rfl, hb2⟩
  rotate_left
  · have HB2 : Hid (Below w.heap.size w w2) := HB1.out.trans (hb2.mono HB1.out.size)
    clear hb2
    go_wp2_with fail
    go_ret
    exact ⟨rfl, HB2.out⟩
  have HB2 : Hid (Below w.heap.size w w2) := HB1.out.trans (hb2.mono HB1.out.size)
  clear hb2
  go_wp2_with fail
  refine (HOwnP0.out _ HB2.out).mono ?_
  rintro e w3 ⟨a3, k3, rfl, l3, g3, m3, b3, B3⟩
  have HB3 : Hid (Below w.heap.size w w3 ∧ LiesP w3 a3 ps ∧ m ≤ k3 ∧ k3 ≤ maxLen) := ⟨B3, l3, g3, m3⟩
  clear l3 g3 m3 b3 B3
  go_wp2_with fail
  refine (HOwnS0.out _ HB3.out.1).mono ?_
  rintro e w4 ⟨a4, k4, rfl, l4, b4, B4⟩
  have HB4 : Hid (Below w.heap.size w w4 ∧ LiesP w4 a3 ps ∧ LiesS w4 a4 l) := ⟨B4, HB3.out.2.1.below b4, l4⟩
  clear l4 b4 B4
  go_wp2_with fail
  refine (HChk.out w4 a3 k3 a4 k4 HB4.out.1 HB4.out.2.1 HB3.out.2.2.1 HB3.out.2.2.2 HB4.out.2.2).mono ?_
  rintro e w5 ⟨E5, rfl, e5, b5⟩
  have HB5 : Hid (Below w.heap.size w w5 ∧ CodeIs w5 E5 ca cp) := ⟨HB4.out.1.trans (b5.mono HB4.out.1.size), e5.code⟩
  clear e5 b5
  go_wp2_with fail
  refine (HAf.out _ HB5.out.1).mono ?_
  rintro e w6 ⟨rfl, b6⟩
  have HB6 : Hid (Below w.heap.size w w6 ∧ CodeIs w6 E5 ca cp) := ⟨HB5.out.1.trans (b6.mono HB5.out.1.size), HB5.out.2.below b6⟩
  clear b6
  go_wp2_with fail
  refine (faulted_yes E5 ca cp _ HB6.out.2).mono ?_
  rintro e w7 ⟨rfl, b7⟩
  have HB7 : Hid (Below w.heap.size w w7) := HB6.out.1.trans (b7.mono HB6.out.1.size)
  clear b7
  go_wp2_with fail
  refine (HOwnP0.out _ HB7.out).mono ?_
  rintro e w8 ⟨a8, k8, rfl, l8, g8, m8, b8, B8⟩
  have HB8 : Hid (Below w.heap.size w w8 ∧ LiesP w8 a8 ps ∧ m ≤ k8 ∧ k8 ≤ maxLen) := ⟨B8, l8, g8, m8⟩
  clear l8 g8 m8 b8 B8
  go_wp2_with fail
  refine (HOwnS0.out _ HB8.out.1).mono ?_
  rintro e w9 ⟨a9, k9, rfl, l9, b9, B9⟩
  have HB9 : Hid (Below w.heap.size w w9 ∧ LiesP w9 a8 ps ∧ LiesS w9 a9 l) := ⟨B9, HB8.out.2.1.below b9, l9⟩
  clear l9 b9 B9
  go_wp2_with fail
  refine (HBy.out w9 a8 k8 a9 k9 HB9.out.1 HB9.out.2.1 HB8.out.2.2.1 HB8.out.2.2.2 HB9.out.2.2).mono ?_
  rintro e w10 ⟨E10, rfl, e10, b10⟩
  have HB10 : Hid (Below w.heap.size w w10 ∧ ErrIs w10 E10 2 (-1)) := ⟨HB9.out.1.trans (b10.mono HB9.out.1.size), e10⟩
  clear e10 b10
  go_wp2_with fail
  refine (HPf.out _ HB10.out.1).mono ?_
  rintro e w11 ⟨rfl, b11⟩
  have HX : Hid (Below w.heap.size w (w11.alloc (.cells #[.int .i64 0, .int .i64 (-1)] 34)) ∧ Below w10.heap.size w10 (w11.alloc (.cells #[.int .i64 0, .int .i64 (-1)] 34)) ∧ At2 (w11.alloc (.cells #[.int .i64 0, .int .i64 (-1)] 34)) w11.heap.size (.int .i64 0) (.int .i64 (-1)) ∧ w10.heap.size ≤ w11.heap.size) := ⟨HB10.out.1.trans ((b11.alloc b11.size _).mono HB10.out.1.size), b11.alloc b11.size _, at2_new w11 _ _ _, b11.size⟩
  clear b11
  go_wp2_with fail
  refine (HSf.out _ HX.out.1).mono ?_
  rintro e w12 ⟨rfl, b12⟩
  obtain ⟨k0, k1, f0, f1⟩ := HX.out.2.2.1.later b12
  have HAt2 : Hid (At2 ((w12.setCell ⟨w11.heap.size, 0, none⟩ (.int .i64 0)).setCell ⟨w11.heap.size, 1, none⟩ (.int .i64 (-1))) w11.heap.size (.int .i64 0) (.int .i64 (-1))) := (HX.out.2.2.1.later b12).set _ _
  have HX12 : Hid (Below w10.heap.size w10 ((w12.setCell ⟨w11.heap.size, 0, none⟩ (.int .i64 0)).setCell ⟨w11.heap.size, 1, none⟩ (.int .i64 (-1)))) := ((HX.out.2.1.trans (b12.mono HX.out.2.1.size)).setCell HX.out.2.2.2 _).setCell HX.out.2.2.2 _
  clear b12
  go_wp2_with fail
  refine (bare_any 2 _).mono ?_
  rintro e w13 ⟨rfl, b13⟩
  obtain ⟨k0', k1', f0', f1'⟩ := HAt2.out.later b13
  have HX13 : Hid (Below w10.heap.size w10 ((w13.setCell ⟨w11.heap.size, 0, none⟩ (.int .i64 2)).setCell ⟨w11.heap.size, 1, none⟩ (.int .i64 (-1)))) := ((HX12.out.trans (b13.mono HX12.out.size)).setCell HX.out.2.2.2 _).setCell HX.out.2.2.2 _
  clear b13
  go_wp2_with fail
  refine (faulted_yes E10 2 (-1) _ (HB10.out.2.code.below HX13.out)).mono ?_
  rintro e w15 ⟨rfl, b15⟩
  have HB15 : Hid (Below w.heap.size w w15) := HB10.out.1.trans ((HX13.out.trans (b15.mono HX13.out.size)).mono HB10.out.1.size)
  clear b15
  go_wp2_with fail
  go_ret
  exact ⟨rfl, HB15.out⟩

set_option maxRecDepth 100000 in
set_option maxHeartbeats 4000000 in
theorem auLaw_ok (AW : AuditWalks) (pa : Option Addr) (pcap : Nat) (ps : List Pk) (per : Int) (la : Option Addr) (lcap : Nat) (l : List Sn) (f x y : Int) (w : World) (ad : Nat → Addr) (he : Errs9 w ad) (hp : LiesP w pa ps) (hpa : pa = none → ps = [] ∧ pcap = 0) (hpc : ps.length ≤ pcap) (hpm : pcap ≤ maxLen) (hl : LiesS w la l) (hla : la = none → l = [] ∧ lcap = 0) (hm : ps.length ≤ 60 ∨ ps.length = 301) (hll : l.length ≤ 80) (ht : tameAll l) (ho : OkPks ps) (hf : SentFaultIs ps.length l 0 (-1)) (hf0 : ¬ f < 0) (hf8 : ¬ 8 ≤ f) :
    Calls Tryd.prog 3 #[.slice pa ps.length pcap, .int .i64 per, .slice la l.length lcap, .int .i64 f, .int .i64 x, .int .i64 y] w fun e w' => e = .returned (.bool true) ∧ Below w.heap.size w w' := by
  have HA := (show Hid (∀ w', Below w.heap.size w w' → Calls Tryd.prog 5 #[] w' fun e w'' => e = .returned (.bool true) ∧ Below w'.heap.size w' w'') from fun w' hb => AW.audited w' ad (he.below hb))
  have HFit : Hid (∀ w', Calls Tryd.prog 6 #[.slice pa ps.length pcap, .int .i64 60] w' fun e w'' => e = .returned (.bool true) ∧ w'' = w') := fun w' => fitPkts_yes pa ps.length pcap 60 w' (Nat.le_trans hpc hpm) (by omega)
  have HTame : Hid (∀ w', Below w.heap.size w w' → Calls Tryd.prog 7 #[.slice la l.length lcap] w' fun e w'' => TameEnd l w' e w'') := fun w' hb => tameSent_any la lcap l w' (hl.below hb) (by omega)
  obtain ⟨ca, cp, hau⟩ := auditAll_is per ps l
  have HChk : Hid (∀ W a3 k3 b3 j3, Below w.heap.size w W → LiesP W a3 ps → ps.length ≤ k3 → k3 ≤ maxLen → LiesS W b3 l → Calls Tryd.prog 9 #[.slice a3 ps.length k3, .int .i64 per, .slice b3 l.length j3] W fun e w' => ∃ E, e = .returned E ∧ ErrIs w' E ca cp ∧ Below W.heap.size W w') := fun W a3 k3 b3 j3 hb g1 g2 g3 g4 => AW.check a3 k3 ps per b3 j3 l W ad ca cp (he.below hb) g1 g2 g3 g4 (by omega) ht hau
  have HAf : Hid (∀ W, Below w.heap.size w W → Calls Tryd.prog 12 #[.slice pa ps.length pcap, .int .i64 per, .slice la l.length lcap] W fun e w' => FaultEnd ca cp W e w') := fun W hb => refAuditFault_is pa pcap ps per la lcap l W ca cp (hp.below hb) hpc hpm (hl.below hb) (by omega) ht hau
  have HBy : Hid (∀ W a3 k3 b3 j3, Below w.heap.size w W → LiesP W a3 ps → ps.length ≤ k3 → k3 ≤ maxLen → LiesS W b3 l → Calls Tryd.prog 13 #[.slice a3 ps.length k3, .slice b3 l.length j3, .int .i64 f, .int .i64 x, .int .i64 y] W fun e w' => ∃ E, e = .returned (.tuple #[.int .i64 (bytesBy ps l f x y l.length), E]) ∧ ErrIs w' E 0 (-1) ∧ Below W.heap.size W w') := fun W a3 k3 b3 j3 hb g1 g2 g3 g4 => by
    have := AW.bytes a3 k3 ps b3 j3 l f x y W ad 0 (-1) (he.below hb) g1 g2 g3 g4 (by omega) ht (.inr (.inr (.inr ⟨ho, hf, by omega, by omega, rfl, rfl⟩)))
    rwa [if_pos rfl] at this
  have HPf : Hid (∀ W, Below w.heap.size w W → Calls Tryd.prog 14 #[.slice pa ps.length pcap] W fun e w' => e = .returned (.agg #[.int .i64 0, .int .i64 (-1)]) ∧ Below W.heap.size W w') := fun W hb => pfault_is pa pcap ps W (hp.below hb) hpc hpm 0 (-1) (.inr (.inr ⟨ho, rfl, rfl⟩))
  have HSf : Hid (∀ W, Below w.heap.size w W → Calls Tryd.prog 15 #[.slice pa ps.length pcap, .slice la l.length lcap] W fun e w' => e = .returned (.agg #[.int .i64 0, .int .i64 (-1)]) ∧ Below W.heap.size W w') := fun W hb => sentFault_any pa ps.length pcap la lcap l W (hl.below hb) (by omega) ho.few 0 (-1) hf
  have HNam : Hid (∀ (i : Nat) z, l[i]? = some z → ∃ j : Nat, z.num = j ∧ j < ps.length) := fun i z hz => by
    rcases hf with ⟨_, _, _, _, _, h, _⟩ | ⟨h, -, -⟩
    · omega
    · have := of_decide_eq_true (h i z hz)
      exact ⟨z.num.toNat, by omega, by omega⟩
  have HPL : Hid (LiesP w pa ps ∧ LiesS w la l ∧ OkPks ps) := ⟨hp, hl, ho⟩
  have HOwnS0 : Hid (∀ w', Below w.heap.size w w' → Calls Tryd.prog 11 #[.slice la l.length lcap] w' fun e w'' => ∃ a' cap', e = .returned (.slice a' l.length cap') ∧ LiesS w'' a' l ∧ Below w'.heap.size w' w'' ∧ Below w.heap.size w w'') := fun w' hb => ownSent_from la lcap l w w' hb hl (by omega) hla
  have HOwnP0 : Hid (∀ w', Below w.heap.size w w' → Calls Tryd.prog 10 #[.slice pa ps.length pcap] w' fun e w'' => ∃ a' cap', e = .returned (.slice a' ps.length cap') ∧ LiesP w'' a' ps ∧ ps.length ≤ cap' ∧ cap' ≤ maxLen ∧ Below w'.heap.size w' w'' ∧ Below w.heap.size w w'') := fun w' hb => ownPackets_from pa pcap ps w w' hb hp (by omega) hpa
  obtain ⟨m, hmm⟩ : ∃ m, ps.length = m := ⟨_, rfl⟩
  obtain ⟨n, hnn⟩ : ∃ n, l.length = n := ⟨_, rfl⟩
  have HM : Hid (ps.length = m ∧ l.length = n) := ⟨hmm, hnn⟩
  rw [hmm] at hm HFit HChk HAf HBy HPf HOwnP0 HSf HNam ⊢
  rw [hnn] at hll HTame HChk HAf HBy HOwnS0 HSf ⊢
  have hn' : ¬ 80 < n := by omega
  clear hmm hnn AW he hp hpa hpc hpm hl hla ht hau hf ho
  go_enter Tryd.func3, Tryd.ntmps3
  go_wp2_with fail
  refine (HA.out _ (Below.refl _ _)).mono ?_
  rintro e w1 ⟨rfl, hb⟩
  have HB1 : Hid (Below w.heap.size w w1) := hb
  clear hb
  go_wp2_with fail
  refine (HFit.out _).mono ?_
  rintro e w1' ⟨rfl, rfl⟩
  go_wp2_with fail
  refine (HTame.out _ HB1.out).mono ?_
  rintro e w2 ⟨⟨rfl, -⟩ | rfl, hb2⟩
  rotate_left
  · have HB2 : Hid (Below w.heap.size w w2) := HB1.out.trans (hb2.mono HB1.out.size)
    clear hb2
    go_wp2_with fail
    go_ret
    exact ⟨rfl, HB2.out⟩
  have HB2 : Hid (Below w.heap.size w w2) := HB1.out.trans (hb2.mono HB1.out.size)
  clear hb2
  go_wp2_with fail
  refine (HOwnP0.out _ HB2.out).mono ?_
  rintro e w3 ⟨a3, k3, rfl, l3, g3, m3, b3, B3⟩
  have HB3 : Hid (Below w.heap.size w w3 ∧ LiesP w3 a3 ps ∧ m ≤ k3 ∧ k3 ≤ maxLen) := ⟨B3, l3, g3, m3⟩
  clear l3 g3 m3 b3 B3
  go_wp2_with fail
  refine (HOwnS0.out _ HB3.out.1).mono ?_
  rintro e w4 ⟨a4, k4, rfl, l4, b4, B4⟩
  have HB4 : Hid (Below w.heap.size w w4 ∧ LiesP w4 a3 ps ∧ LiesS w4 a4 l) := ⟨B4, HB3.out.2.1.below b4, l4⟩
  clear l4 b4 B4
  go_wp2_with fail
  refine (HChk.out w4 a3 k3 a4 k4 HB4.out.1 HB4.out.2.1 HB3.out.2.2.1 HB3.out.2.2.2 HB4.out.2.2).mono ?_
  rintro e w5 ⟨E5, rfl, e5, b5⟩
  have HB5 : Hid (Below w.heap.size w w5 ∧ CodeIs w5 E5 ca cp) := ⟨HB4.out.1.trans (b5.mono HB4.out.1.size), e5.code⟩
  clear e5 b5
  go_wp2_with fail
  refine (HAf.out _ HB5.out.1).mono ?_
  rintro e w6 ⟨rfl, b6⟩
  have HB6 : Hid (Below w.heap.size w w6 ∧ CodeIs w6 E5 ca cp) := ⟨HB5.out.1.trans (b6.mono HB5.out.1.size), HB5.out.2.below b6⟩
  clear b6
  go_wp2_with fail
  refine (faulted_yes E5 ca cp _ HB6.out.2).mono ?_
  rintro e w7 ⟨rfl, b7⟩
  have HB7 : Hid (Below w.heap.size w w7) := HB6.out.1.trans (b7.mono HB6.out.1.size)
  clear b7
  go_wp2_with fail
  refine (HOwnP0.out _ HB7.out).mono ?_
  rintro e w8 ⟨a8, k8, rfl, l8, g8, m8, b8, B8⟩
  have HB8 : Hid (Below w.heap.size w w8 ∧ LiesP w8 a8 ps ∧ m ≤ k8 ∧ k8 ≤ maxLen) := ⟨B8, l8, g8, m8⟩
  clear l8 g8 m8 b8 B8
  go_wp2_with fail
  refine (HOwnS0.out _ HB8.out.1).mono ?_
  rintro e w9 ⟨a9, k9, rfl, l9, b9, B9⟩
  have HB9 : Hid (Below w.heap.size w w9 ∧ LiesP w9 a8 ps ∧ LiesS w9 a9 l) := ⟨B9, HB8.out.2.1.below b9, l9⟩
  clear l9 b9 B9
  go_wp2_with fail
  refine (HBy.out w9 a8 k8 a9 k9 HB9.out.1 HB9.out.2.1 HB8.out.2.2.1 HB8.out.2.2.2 HB9.out.2.2).mono ?_
  rintro e w10 ⟨E10, rfl, e10, b10⟩
  have HB10 : Hid (Below w.heap.size w w10 ∧ ErrIs w10 E10 0 (-1)) := ⟨HB9.out.1.trans (b10.mono HB9.out.1.size), e10⟩
  clear e10 b10
  go_wp2_with fail
  refine (HPf.out _ HB10.out.1).mono ?_
  rintro e w11 ⟨rfl, b11⟩
  have HX : Hid (Below w.heap.size w (w11.alloc (.cells #[.int .i64 0, .int .i64 (-1)] 34)) ∧ Below w10.heap.size w10 (w11.alloc (.cells #[.int .i64 0, .int .i64 (-1)] 34)) ∧ At2 (w11.alloc (.cells #[.int .i64 0, .int .i64 (-1)] 34)) w11.heap.size (.int .i64 0) (.int .i64 (-1)) ∧ w10.heap.size ≤ w11.heap.size) := ⟨HB10.out.1.trans ((b11.alloc b11.size _).mono HB10.out.1.size), b11.alloc b11.size _, at2_new w11 _ _ _, b11.size⟩
  clear b11
  go_wp2_with fail
  refine (HSf.out _ HX.out.1).mono ?_
  rintro e w12 ⟨rfl, b12⟩
  obtain ⟨k0, k1, f0, f1⟩ := HX.out.2.2.1.later b12
  have HAt2 : Hid (At2 ((w12.setCell ⟨w11.heap.size, 0, none⟩ (.int .i64 0)).setCell ⟨w11.heap.size, 1, none⟩ (.int .i64 (-1))) w11.heap.size (.int .i64 0) (.int .i64 (-1))) := (HX.out.2.2.1.later b12).set _ _
  have HX12 : Hid (Below w10.heap.size w10 ((w12.setCell ⟨w11.heap.size, 0, none⟩ (.int .i64 0)).setCell ⟨w11.heap.size, 1, none⟩ (.int .i64 (-1)))) := ((HX.out.2.1.trans (b12.mono HX.out.2.1.size)).setCell HX.out.2.2.2 _).setCell HX.out.2.2.2 _
  clear b12
  go_wp2_with fail
  obtain ⟨W, hW⟩ : ∃ W, (w12.setCell ⟨w11.heap.size, 0, none⟩ (.int .i64 0)).setCell ⟨w11.heap.size, 1, none⟩ (.int .i64 (-1)) = W := ⟨_, rfl⟩
  have HBW : Hid (Below w.heap.size w W) := by
    show Below _ _ _
    rw [← hW]
    exact HB10.out.1.trans (HX12.out.mono HB10.out.1.size)
  have hE : E10 = .nilIface := HB10.out.2.none_ rfl
  rw [hW]
  clear hW
  subst hE
  go_loopg [17, 18] n (fun gk sv iv wr => ∃ k : Nat, gk = n - k ∧ k ≤ n ∧ iv = .int .i64 (k : Int) ∧ sv = .int .i64 (bytesBy ps l f x y k) ∧ Below w.heap.size w wr)
  case atStart => exact ⟨0, rfl, Nat.zero_le _, rfl, rfl, HBW.out⟩
  case round =>
    obtain ⟨k, rfl, hkn', rfl, rfl, hbw⟩ := hrel
    have HBw : Hid (Below w.heap.size w wr) := hbw
    clear hbw
    obtain ⟨s, hs⟩ : ∃ s, bytesBy ps l f x y k = s := ⟨_, rfl⟩
    have HSe : Hid (bytesBy ps l f x y k = s) := hs
    have hsr := bytesBy_in HPL.out.2.2 l f x y k
    rw [hs] at hsr
    rw [hs]
    clear hs
    by_cases hkn : k < n
    · obtain ⟨t, ht, -⟩ := get_some l k (by rw [HM.out.2]; exact hkn)
      obtain ⟨j, hj, hjm⟩ := HNam.out k t ht
      obtain ⟨q, hq, -⟩ := get_some ps j (by rw [HM.out.1]; exact hjm)
      obtain ⟨pb, po, rfl, -, hcp⟩ := HPL.out.1.place (by rw [HM.out.1]; omega)
      obtain ⟨lb, lo, rfl, -, hcl⟩ := HPL.out.2.1.place (by rw [HM.out.2]; omega)
      have c0 := cell_later HBw.out (hcl k t ht).1
      rw [hj] at c0
      have d0 := cell_later HBw.out (hcp j q hq).1
      have d1 := cell_later HBw.out (hcp j q hq).2.1
      have d2 := cell_later HBw.out (hcp j q hq).2.2
      have hzr := okPk_true (HPL.out.2.2.each _ q hq).1
      have HNext : Hid (bytesBy ps l f x y (k + 1) = s + (if q.flow = f ∧ x < t.fin ∧ t.fin ≤ y then q.size else 0)) := by
        show _ = _
        rw [bytesBy_succ ht hj hq, HSe.out]
      have hba : Below wr.heap.size wr (wr.alloc (.cells #[.int .i64 q.flow, .int .i64 q.size, .int .i64 q.tick] 42)) := (Below.refl _ _).alloc (Nat.le_refl _) _
      have c2 := cell_later hba (cell_later HBw.out (hcl k t ht).2.2)
      have HBk : Hid (Below w.heap.size w (wr.alloc (.cells #[.int .i64 q.flow, .int .i64 q.size, .int .i64 q.tick] 42))) := HBw.out.trans (hba.mono HBw.out.size)
      obtain ⟨pf, hpf⟩ : ∃ v, q.flow = v := ⟨_, rfl⟩
      obtain ⟨z, hz⟩ : ∃ v, q.size = v := ⟨_, rfl⟩
      obtain ⟨tk, htk⟩ : ∃ v, q.tick = v := ⟨_, rfl⟩
      obtain ⟨xf, hxf⟩ : ∃ v, t.fin = v := ⟨_, rfl⟩
      rw [hpf, hz, htk] at HBk c2
      rw [hxf] at c2 HNext
      rw [hpf, hz] at HNext
      rw [hpf] at d0
      rw [hz] at d1 hzr
      rw [htk] at d2
      clear ht hj hq hcp hcl hba hpf hz htk hxf
      by_cases h1 : pf = f
      · by_cases h2 : x < xf
        · by_cases h3 : xf ≤ y
          · have HNx : Hid (bytesBy ps l f x y (k + 1) = s + z) := HNext.out.trans (by rw [if_pos ⟨h1, h2, h3⟩])
            have u1 : (pf == f) = true := by simpa using h1
            have v1 : IntKind.i64.wrap (s + z) = s + z := IntWalk.i64_in _ (by omega)
            clear h1
            go_wp2_with fail
            go_roundg (n - (k + 1))
            case measure => omega
            case rel => exact ⟨k + 1, rfl, by omega, by go_num, by rw [HNx.out], HBk.out⟩
          · have HNx : Hid (bytesBy ps l f x y (k + 1) = s + 0) := HNext.out.trans (by rw [if_neg (fun h => h3 h.2.2)])
            have u1 : (pf == f) = true := by simpa using h1
            clear h1
            go_wp2_with fail
            go_roundg (n - (k + 1))
            case measure => omega
            case rel => exact ⟨k + 1, rfl, by omega, by go_num, by rw [HNx.out, Int.add_zero], HBk.out⟩
        · have HNx : Hid (bytesBy ps l f x y (k + 1) = s + 0) := HNext.out.trans (by rw [if_neg (fun h => h2 h.2.1)])
          have u1 : (pf == f) = true := by simpa using h1
          clear h1
          go_wp2_with fail
          go_roundg (n - (k + 1))
          case measure => omega
          case rel => exact ⟨k + 1, rfl, by omega, by go_num, by rw [HNx.out, Int.add_zero], HBk.out⟩
      · have HNx : Hid (bytesBy ps l f x y (k + 1) = s + 0) := HNext.out.trans (by rw [if_neg (fun h => h1 h.1)])
        have u1 : (pf == f) = false := by simpa using h1
        clear h1
        go_wp2_with fail
        go_roundg (n - (k + 1))
        case measure => omega
        case rel => exact ⟨k + 1, rfl, by omega, by go_num, by rw [HNx.out, Int.add_zero], HBk.out⟩
    · obtain rfl : k = n := by omega
      have HEq : Hid (bytesBy ps l f x y k = s) := HSe.out
      have ht2 : (s == s) = true := by simp
      rw [HEq.out]
      go_wp2_with fail
      go_ret
      exact ⟨rfl, HBw.out⟩

end Go.Proofs.YtolbmkniafkeaaaDoor
