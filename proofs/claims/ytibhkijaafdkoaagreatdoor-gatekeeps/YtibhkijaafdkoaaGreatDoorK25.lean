/- Own facts, put together: no statement of its own. -/
import Derived.Deep.LoopGhost
import Derived.Test.YtibhkijaafdkoaaGreatDoorK23
namespace Go.Proofs.YtibhkijaafdkoaaGreatDoor
open Go.RowKit
theorem Tryz.methodCome (x : Value) (w : World) : (Go.method 403 164 x "Come").run Tryz.prog w = .ok (218, x) w := by kernel_rfl
theorem Tryz.methodPick (x : Value) (w : World) : (Go.method 403 164 x "Pick").run Tryz.prog w = .ok (219, x) w := by kernel_rfl
theorem Tryz.methodRest (x : Value) (w : World) : (Go.method 403 164 x "Rest").run Tryz.prog w = .ok (220, x) w := by kernel_rfl
set_option maxRecDepth 100000 in
set_option maxHeartbeats 4000000 in
theorem send_held {σ : Type} (Q : Que σ) (Held : World → (Nat → Prop) → σ → Prop) (per : Int) (ps : List Pk) (q0 : σ) (B : Nat) (x1 x2 x3 : Value) (hm : QueMem Held B) (hlaw : QueLaw Q per ps q0) (ho : OkPks ps) (h1 : 1 ≤ per) (h2 : per ≤ 1000)
  (hCome : ∀ w D s p, Reaches Q per ps q0 s → ps[s.next]? = some p → Held w D s.q → Calls Tryz.prog 218 #[.agg #[x1, x2, x3], .int .i64 s.next] w fun e w' => e = .returned (.tuple #[]) ∧ QueLeft Held w w' D (Q.come s.q s.next))
  (hPick : ∀ w D s, Reaches Q per ps q0 s → 0 < Q.rest s.q → Held w D s.q → Calls Tryz.prog 219 #[.agg #[x1, x2, x3]] w fun e w' => e = .returned (.int .i64 (Q.pick s.q : Nat)) ∧ QueLeft Held w w' D (Q.left s.q))
  (hRest : ∀ w D s, Reaches Q per ps q0 s → Held w D s.q → Calls Tryz.prog 220 #[.agg #[x1, x2, x3]] w fun e w' => e = .returned (.int .i64 (Q.rest s.q : Nat)) ∧ QueLeft Held w w' D (Q.asked s.q))
  (a : Option Addr) (cap : Nat) (w : World) (hl : LiesP w a ps) (hB : B ≤ w.heap.size) (ha : ∀ ad, a = some ad → 0 < ps.length → ad.block < B) (D0 : Nat → Prop) (h0 : Held w D0 q0) :
  Calls Tryz.prog 59 #[.slice a ps.length cap, .int .i64 per, .iface 164 (.agg #[x1, x2, x3])] w fun e w' => ∃ s v, e = .returned v ∧ Reaches Q per ps q0 s ∧ ¬ s.next < ps.length ∧ Q.rest s.q = 0 ∧ OwnS w' w.heap.size v s.out ∧ Below B w w' ∧ ∃ D, Held w' D (Q.asked s.q) := by
 have HM : Hid (QueMem Held B ∧ B ≤ w.heap.size ∧ LiesP w a ps ∧ (∀ ad, a = some ad → 0 < ps.length → ad.block < B)) := ⟨hm, hB, hl, ha⟩
 have HL : Hid (QueLaw Q per ps q0 ∧ OkPks ps) := ⟨hlaw, ho⟩
 have HCome : Hid (∀ w D s p, Reaches Q per ps q0 s → ps[s.next]? = some p → Held w D s.q → Calls Tryz.prog 218 #[.agg #[x1, x2, x3], .int .i64 s.next] w fun e w' => e = .returned (.tuple #[]) ∧ QueLeft Held w w' D (Q.come s.q s.next)) := hCome
 have HPick : Hid (∀ w D s, Reaches Q per ps q0 s → 0 < Q.rest s.q → Held w D s.q → Calls Tryz.prog 219 #[.agg #[x1, x2, x3]] w fun e w' => e = .returned (.int .i64 (Q.pick s.q : Nat)) ∧ QueLeft Held w w' D (Q.left s.q)) := hPick
 have HRest : Hid (∀ w D s, Reaches Q per ps q0 s → Held w D s.q → Calls Tryz.prog 220 #[.agg #[x1, x2, x3]] w fun e w' => e = .returned (.int .i64 (Q.rest s.q : Nat)) ∧ QueLeft Held w w' D (Q.asked s.q)) := hRest
 have HS0 : Hid (SendAt Q Held per ps q0 B w w (.slice none 0 0) ⟨[], 0, 0, q0⟩ D0) := ⟨.start, World.ownsRow_nil _ _ _ _, h0, fun g hg => (by cases hg), Below.refl _ _⟩
 obtain ⟨i0, hi, hz0, hz1, hz2⟩ := info_parts Tryz.infoSent
 have hfew := ho.few
 have m1 := Tryz.methodCome
 have m2 := Tryz.methodPick
 have m3 := Tryz.methodRest
 clear hm hlaw ho hCome hPick hRest hl hB ha h0
 obtain ⟨n, hn⟩ : ∃ n, ps.length = n := ⟨_, rfl⟩
 have HN : Hid (ps.length = n) := hn
 rw [hn] at hfew ⊢
 clear hn
 go_enter Tryz.func59, Tryz.ntmps59
 go_wp2_with fail
 go_loopg [7, 8, 9] (leftOf ps (⟨[], 0, 0, q0⟩ : St σ)) (fun gk v t i wr => ∃ s D, gk = leftOf ps s ∧ t = .int .i64 s.now ∧ i = .int .i64 (s.next : Nat) ∧ SendAt Q Held per ps q0 B w wr v s D)
 case atStart => exact ⟨_, D0, rfl, rfl, rfl, HS0.out⟩
 case round =>
  obtain ⟨s, D, rfl, rfl, rfl, hat⟩ := hrel
  obtain ⟨W0, hW0⟩ : ∃ W, W = wr := ⟨_, rfl⟩
  subst hW0
  have HA0 : Hid (SendAt Q Held per ps q0 B w W0 u7 s D) := hat
  obtain ⟨nw, hnw⟩ : ∃ nw, s.now = nw := ⟨_, rfl⟩
  have HNw : Hid (s.now = nw) := hnw
  rw [hnw]
  clear hat hnw
  go_wp2_with fail
  go_loopg [9] (n - s.next) (fun gi i wr2 => ∃ s2 D2, gi = n - s2.next ∧ i = .int .i64 (s2.next : Nat) ∧ s2.out = s.out ∧ s2.now = s.now ∧ s.next ≤ s2.next ∧ SendAt Q Held per ps q0 B w wr2 u7 s2 D2)
  case atStart => exact ⟨s, D, rfl, rfl, rfl, rfl, Nat.le_refl _, HA0.out⟩
  case round =>
   obtain ⟨s2, D2, rfl, rfl, e1, e2, e3, hat⟩ := hrel
   have HA : Hid (SendAt Q Held per ps q0 B w wr u7 s2 D2) := hat
   have HEq : Hid (s2.out = s.out ∧ s2.now = s.now ∧ s.next ≤ s2.next) := ⟨e1, e2, e3⟩
   obtain ⟨nx, hnx⟩ : ∃ nx, s2.next = nx := ⟨_, rfl⟩
   have hnw : s2.now = nw := e2.trans HNw.out
   have HX : Hid (s2.next = nx ∧ s2.now = nw) := ⟨hnx, hnw⟩
   have hnow := hat.reach.now_in ⟨h1, h2⟩ HL.out.2
   have hcnt := hat.reach.count HL.out.1
   have hnl := hat.reach.next_le
   rw [HN.out, hnx] at hnl
   have hol : s2.out.length ≤ 300 := by omega
   rw [hnw] at hnow
   rw [hnx]
   clear hat e1 e2 e3 hnx hnw hcnt
   have HReach : Hid (Reaches Q per ps q0 s2) := HA.out.reach
   have HC1 : Hid (∀ p, ps[nx]? = some p → Calls Tryz.prog 218 #[.agg #[x1, x2, x3], .int .i64 nx] wr fun e w' => e = .returned (.tuple #[]) ∧ QueLeft Held wr w' D2 (Q.come s2.q nx)) := fun p hp => by
    have := HCome.out wr D2 s2 p HA.out.reach (by rw [HX.out.1]; exact hp) HA.out.held
    rwa [HX.out.1] at this
   obtain ⟨rs, hrs⟩ : ∃ rs, Q.rest s2.q = rs := ⟨_, rfl⟩
   have HRS : Hid (Q.rest s2.q = rs) := hrs
   have hcnt := HA.out.reach.count HL.out.1
   rw [hrs, HX.out.1] at hcnt
   have hrs3 : rs ≤ 300 := by omega
   have HR1 : Hid (Calls Tryz.prog 220 #[.agg #[x1, x2, x3]] wr fun e w' => e = .returned (.int .i64 (rs : Nat)) ∧ QueLeft Held wr w' D2 (Q.asked s2.q)) := by
    have := HRest.out wr D2 s2 HA.out.reach HA.out.held
    rwa [hrs] at this
   have HCnt : Hid (s2.out.length + rs = nx) := hcnt
   have HAsk : Hid (0 < rs → Q.asked s2.q = s2.q) := fun h => if_neg (by rw [hrs]; omega)
   clear hrs hcnt
   by_cases hgo : nx < n ∧ tickOf ps nx ≤ nw
   ·
    obtain ⟨hlt, htk⟩ := hgo
    obtain ⟨p, hp, -⟩ := get_some ps nx (by rw [HN.out]; exact hlt)
    obtain ⟨b, off, rfl, hbl, hc⟩ := HM.out.2.2.1.place (by rw [HN.out]; omega)
    have c1 : wr.cell? ⟨b, off + nx * 3 + 2, none⟩ = some (.int .i64 p.tick) := by rw [HA.out.below.cell (p := ⟨b, off + nx * 3 + 2, none⟩) (HM.out.2.2.2 ⟨b, off, none⟩ rfl (by rw [HN.out]; omega))]; exact (hc nx p hp).2.2
    have HP : Hid (ps[nx]? = some p) := hp
    rw [tickOf_get hp] at htk
    have HTk : Hid (p.tick ≤ nw) := htk
    clear hc hp
    go_wp2_with fail
    refine (HC1.out p HP.out).mono ?_
    rintro e w1 ⟨rfl, hq⟩
    have HQ : Hid (QueLeft Held wr w1 D2 (Q.come s2.q nx)) := hq
    clear hq
    go_wp2_with fail
    go_roundg (n - (nx + 1))
    case measure => have := HX.out.1; omega
    case rel =>
     have hr : Reaches Q per ps q0 ⟨s2.out, s2.now, s2.next + 1, Q.come s2.q s2.next⟩ := .come s2 p HReach.out (by rw [HX.out.1]; exact HP.out) (by rw [HX.out.2]; exact HTk.out)
     rw [HX.out.1] at hr
     obtain ⟨D3, h3⟩ := HA.out.called (s' := ⟨s2.out, s2.now, nx + 1, Q.come s2.q nx⟩) HM.out.1 HM.out.2.1 HQ.out hr rfl
     have e3 := HEq.out.2.2
     rw [HX.out.1] at e3
     exact ⟨⟨s2.out, s2.now, nx + 1, Q.come s2.q nx⟩, D3, rfl, by go_num, HEq.out.1, HEq.out.2.1, Nat.le_succ_of_le e3, h3⟩
   ·
    have HStop : Hid (∀ r, ps[s2.next]? = some r → s2.now < r.tick) := fun r hr => by
     rw [HX.out.1] at hr
     rw [HX.out.2]
     have h1 := lt_of_get hr
     rw [HN.out] at h1
     have h2 := tickOf_get hr
     rcases Int.lt_or_le nw r.tick with h3 | h3
     · exact h3
     · exact absurd ⟨h1, by rw [h2]; exact h3⟩ hgo
    have HSend : Hid (0 < rs → ∀ W1 D3 , SendAt Q Held per ps q0 B w W1 u7 s2 D3 → ∃ k p, k < n ∧ ps[k]? = some p ∧ okPk p = true ∧ (Calls Tryz.prog 219 #[.agg #[x1, x2, x3]] W1 fun e w' => e = .returned (.int .i64 (k : Nat)) ∧ ∃ D4, SendMid Held B w w' u7 s2.out (Q.left s2.q) D4) ∧
      (∀ W2, LiesP W2 a ps → Calls Tryz.prog 99 #[.slice a n cap, .int .i64 per, .int .i64 k, .int .i64 nw] W2 fun e w' => e = .returned (.agg #[.int .i64 k, .int .i64 nw, .int .i64 (nw + per * p.size)]) ∧ Below W2.heap.size W2 w') ∧
      Reaches Q per ps q0 ⟨s2.out ++ [⟨(k : Nat), nw, nw + per * p.size⟩], nw + per * p.size, nx, Q.left s2.q⟩) := fun hpos W1 D3 hA1 => by
     have hpos' : 0 < Q.rest s2.q := by rw [HRS.out]; exact hpos
     have hk := HL.out.1.pick s2 HReach.out hpos'
     rw [HX.out.1] at hk
     obtain ⟨p, hp, -⟩ := get_some ps (Q.pick s2.q) (by rw [HN.out]; omega)
     have hok := (HL.out.2.each _ p hp).1
     refine ⟨Q.pick s2.q, p, by omega, hp, hok, ?_, fun W2 hl2 => ?_, ?_⟩
     ·
      refine (HPick.out W1 D3 s2 HReach.out hpos' hA1.held).mono ?_
      rintro e w' ⟨rfl, hq⟩
      obtain ⟨D4, g1, g2, g3, g4⟩ := hA1.parts HM.out.1 HM.out.2.1 hq
      exact ⟨rfl, D4, g1, g2, g3, g4⟩
     ·
      have := sendOne_ok a cap ps per nw (Q.pick s2.q) p W2 hl2 (by rw [HN.out]; exact hfew) hp hok h1 h2 hnow.1 (by omega)
      rwa [HN.out] at this
     ·
      have := Reaches.send s2 p HReach.out HStop.out hpos' hp
      rwa [HX.out.1, HX.out.2] at this
    have hway : (¬ nx < n) ∨ (nx < n ∧ nw < tickOf ps nx) := by omega
    have HWay : Hid ((¬ nx < n) ∨ (nx < n ∧ nw < tickOf ps nx)) := hway
    have HCell : Hid (nx < n → ∃ b off, a = some ⟨b, off, none⟩ ∧ ∀ W, Below B w W → W.cell? ⟨b, off + nx * 3 + 2, none⟩ = some (.int .i64 (tickOf ps nx))) := fun hlt => by
     obtain ⟨p, hp, -⟩ := get_some ps nx (by rw [HN.out]; exact hlt)
     obtain ⟨b, off, rfl, hbl, hc⟩ := HM.out.2.2.1.place (by rw [HN.out]; omega)
     refine ⟨b, off, rfl, fun W hW => ?_⟩
     rw [hW.cell (p := ⟨b, off + nx * 3 + 2, none⟩) (HM.out.2.2.2 ⟨b, off, none⟩ rfl (by rw [HN.out]; omega)), tickOf_get hp]
     exact (hc nx p hp).2.2
    clear hgo hway
    by_cases hrest : 0 < rs
    ·
     rcases HWay.out with hlt | ⟨hlt, htk⟩
     ·
      go_wp2_with fail
      refine HR1.out.mono ?_
      rintro e w1 ⟨rfl, hq⟩
      rw [HAsk.out hrest] at hq
      obtain ⟨D3, h3⟩ := HA.out.called HM.out.1 HM.out.2.1 hq HReach.out rfl
      obtain ⟨k, p, hkn, hp, hok, hpick, hone, hreach⟩ := HSend.out hrest w1 D3 h3
      have HPk : Hid (Calls Tryz.prog 219 #[.agg #[x1, x2, x3]] w1 fun e w' => e = .returned (.int .i64 (k : Nat)) ∧ ∃ D4, SendMid Held B w w' u7 s2.out (Q.left s2.q) D4) := hpick
      have HOne : Hid (∀ W2, LiesP W2 a ps → Calls Tryz.prog 99 #[.slice a n cap, .int .i64 per, .int .i64 k, .int .i64 nw] W2 fun e w' => e = .returned (.agg #[.int .i64 k, .int .i64 nw, .int .i64 (nw + per * p.size)]) ∧ Below W2.heap.size W2 w') := hone
      obtain ⟨uz, hto⟩ : ∃ uz, nw + per * p.size = uz := ⟨_, rfl⟩
      rw [hto] at hreach
      have HTo : Hid (nw + per * p.size = uz) := hto
      have HRe : Hid (Reaches Q per ps q0 ⟨s2.out ++ [⟨(k : Nat), nw, uz⟩], uz, nx, Q.left s2.q⟩) := hreach
      clear hq h3 hpick hone hreach hp hok hto
      go_wp2_with fail
      refine HPk.out.mono ?_
      rintro e w2 ⟨rfl, D4, hmid⟩
      have HMid : Hid (SendMid Held B w w2 u7 s2.out (Q.left s2.q) D4) := hmid
      have HLies : Hid (LiesP w2 a ps) := HM.out.2.2.1.bel HM.out.2.2.2 hmid.below
      clear hmid
      go_wp2_with fail
      refine (HOne.out w2 HLies.out).mono ?_
      rintro e w3 ⟨rfl, hb3⟩
      rw [HTo.out]
      have HMid3 : Hid (SendMid Held B w w3 u7 s2.out (Q.left s2.q) D4) := HMid.out.later HM.out.1 HM.out.2.1 hb3
      clear hb3
      have HMid4 : Hid (SendMid Held B w ((w3.alloc (.cells #[.int .i64 k, .int .i64 nw, .int .i64 uz] 78)).alloc (.cells #[.int .i64 k, .int .i64 nw, .int .i64 uz] 78)) u7 s2.out (Q.left s2.q) D4) := HMid3.out.later HM.out.1 HM.out.2.1 (((Below.refl _ _).alloc (Nat.le_refl _) _).alloc (by simp) _)
      have HNews : Hid (∀ j u, (cellsS [⟨k, nw, uz⟩])[j]? = some u → ((w3.alloc (.cells #[.int .i64 k, .int .i64 nw, .int .i64 uz] 78)).alloc (.cells #[.int .i64 k, .int .i64 nw, .int .i64 uz] 78)).cell? ((⟨w3.heap.size + 1, 0, none⟩ : Addr).add j) = some u) := World.news_of_block (cs := #[.int .i64 k, .int .i64 nw, .int .i64 uz]) (t := 78) (by have := heap_alloc_new (w3.alloc (.cells #[.int .i64 k, .int .i64 nw, .int .i64 uz] 78)) (.cells #[.int .i64 k, .int .i64 nw, .int .i64 uz] 78); simpa using this)
      have HCel : Hid (((w3.alloc (.cells #[.int .i64 k, .int .i64 nw, .int .i64 uz] 78)).alloc (.cells #[.int .i64 k, .int .i64 nw, .int .i64 uz] 78)).cell? ⟨w3.heap.size, 2, none⟩ = some (.int .i64 uz)) := cell_later ((Below.refl _ _).alloc (Nat.le_refl _) _) (by simp)
      have HBs : Hid (w.heap.size ≤ ((w3.alloc (.cells #[.int .i64 k, .int .i64 nw, .int .i64 uz] 78)).alloc (.cells #[.int .i64 k, .int .i64 nw, .int .i64 uz] 78)).heap.size ∧ w3.heap.size < ((w3.alloc (.cells #[.int .i64 k, .int .i64 nw, .int .i64 uz] 78)).alloc (.cells #[.int .i64 k, .int .i64 nw, .int .i64 uz] 78)).heap.size) := ⟨HMid4.out.below.size, by simp; omega⟩
      have HNe : Hid (some w3.heap.size ≠ u7.ownBlock) := fun e => by
       have := (ownsRow_lt HMid3.out.own e.symm).2
       omega
      go_wp2_with (at_builtin; go_must (refine wpList_append_lies _ rfl _ _ 45 rfl w.heap.size 78 i0 (.agg #[.int .i64 0, .int .i64 0, .int .i64 0]) 3 24 Tryz.underlying45 hi hz0 hz1 hz2 rfl (by decide) u7 s2.out.length (cellsS s2.out) rfl HMid4.out.own ⟨w3.heap.size + 1, 0, none⟩ 1 1 (cellsS [⟨k, nw, uz⟩]) rfl rfl HNews.out (cellsS_one _) (by decide) (by unfold maxLen; omega) (by omega) HBs.out.1 _ rfl ?_; intro g5 cap5 w5 ho5 hg5 hat5 hlt5; have c5 : w5.cell? ⟨w3.heap.size, 2, none⟩ = some (.int .i64 uz) := (hg5.cell_far ⟨w3.heap.size, 2, none⟩ HBs.out.2 HNe.out).trans HCel.out; have H5 : Hid (SendAt Q Held per ps q0 B w w5 (.slice (some ⟨g5, 0, none⟩) (s2.out.length + 1) cap5) ⟨s2.out ++ [⟨(k : Nat), nw, uz⟩], uz, nx, Q.left s2.q⟩ D4) := SendAt.grown HM.out.1 HM.out.2.1 HMid4.out ho5 hg5 hat5 _ HRe.out rfl rfl; clear ho5 hg5 hat5 hlt5))
      go_roundg (leftOf ps (⟨s2.out ++ [⟨(k : Nat), nw, uz⟩], uz, nx, Q.left s2.q⟩ : St σ))
      case measure =>
       refine left_send ?_ ?_
       · simp [HEq.out.1]
       ·
        have h3 := HCnt.out
        rw [HEq.out.1] at h3
        rw [HN.out]
        omega
      case rel => exact ⟨_, D4, rfl, rfl, rfl, H5.out⟩
     ·
      obtain ⟨b, off, rfl, hcell⟩ := HCell.out hlt
      have c1 := hcell wr HA.out.below
      clear hcell
      go_wp2_with fail
      refine HR1.out.mono ?_
      rintro e w1 ⟨rfl, hq⟩
      rw [HAsk.out hrest] at hq
      obtain ⟨D3, h3⟩ := HA.out.called HM.out.1 HM.out.2.1 hq HReach.out rfl
      obtain ⟨k, p, hkn, hp, hok, hpick, hone, hreach⟩ := HSend.out hrest w1 D3 h3
      have HPk : Hid (Calls Tryz.prog 219 #[.agg #[x1, x2, x3]] w1 fun e w' => e = .returned (.int .i64 (k : Nat)) ∧ ∃ D4, SendMid Held B w w' u7 s2.out (Q.left s2.q) D4) := hpick
      have HOne : Hid (∀ W2, LiesP W2 (some ⟨b, off, none⟩) ps → Calls Tryz.prog 99 #[.slice (some ⟨b, off, none⟩) n cap, .int .i64 per, .int .i64 k, .int .i64 nw] W2 fun e w' => e = .returned (.agg #[.int .i64 k, .int .i64 nw, .int .i64 (nw + per * p.size)]) ∧ Below W2.heap.size W2 w') := hone
      obtain ⟨uz, hto⟩ : ∃ uz, nw + per * p.size = uz := ⟨_, rfl⟩
      rw [hto] at hreach
      have HTo : Hid (nw + per * p.size = uz) := hto
      have HRe : Hid (Reaches Q per ps q0 ⟨s2.out ++ [⟨(k : Nat), nw, uz⟩], uz, nx, Q.left s2.q⟩) := hreach
      clear hq h3 hpick hone hreach hp hok hto
      go_wp2_with fail
      refine HPk.out.mono ?_
      rintro e w2 ⟨rfl, D4, hmid⟩
      have HMid : Hid (SendMid Held B w w2 u7 s2.out (Q.left s2.q) D4) := hmid
      have HLies : Hid (LiesP w2 (some ⟨b, off, none⟩) ps) := HM.out.2.2.1.bel HM.out.2.2.2 hmid.below
      clear hmid
      go_wp2_with fail
      refine (HOne.out w2 HLies.out).mono ?_
      rintro e w3 ⟨rfl, hb3⟩
      rw [HTo.out]
      have HMid3 : Hid (SendMid Held B w w3 u7 s2.out (Q.left s2.q) D4) := HMid.out.later HM.out.1 HM.out.2.1 hb3
      clear hb3
      have HMid4 : Hid (SendMid Held B w ((w3.alloc (.cells #[.int .i64 k, .int .i64 nw, .int .i64 uz] 78)).alloc (.cells #[.int .i64 k, .int .i64 nw, .int .i64 uz] 78)) u7 s2.out (Q.left s2.q) D4) := HMid3.out.later HM.out.1 HM.out.2.1 (((Below.refl _ _).alloc (Nat.le_refl _) _).alloc (by simp) _)
      have HNews : Hid (∀ j u, (cellsS [⟨k, nw, uz⟩])[j]? = some u → ((w3.alloc (.cells #[.int .i64 k, .int .i64 nw, .int .i64 uz] 78)).alloc (.cells #[.int .i64 k, .int .i64 nw, .int .i64 uz] 78)).cell? ((⟨w3.heap.size + 1, 0, none⟩ : Addr).add j) = some u) := World.news_of_block (cs := #[.int .i64 k, .int .i64 nw, .int .i64 uz]) (t := 78) (by have := heap_alloc_new (w3.alloc (.cells #[.int .i64 k, .int .i64 nw, .int .i64 uz] 78)) (.cells #[.int .i64 k, .int .i64 nw, .int .i64 uz] 78); simpa using this)
      have HCel : Hid (((w3.alloc (.cells #[.int .i64 k, .int .i64 nw, .int .i64 uz] 78)).alloc (.cells #[.int .i64 k, .int .i64 nw, .int .i64 uz] 78)).cell? ⟨w3.heap.size, 2, none⟩ = some (.int .i64 uz)) := cell_later ((Below.refl _ _).alloc (Nat.le_refl _) _) (by simp)
      have HBs : Hid (w.heap.size ≤ ((w3.alloc (.cells #[.int .i64 k, .int .i64 nw, .int .i64 uz] 78)).alloc (.cells #[.int .i64 k, .int .i64 nw, .int .i64 uz] 78)).heap.size ∧ w3.heap.size < ((w3.alloc (.cells #[.int .i64 k, .int .i64 nw, .int .i64 uz] 78)).alloc (.cells #[.int .i64 k, .int .i64 nw, .int .i64 uz] 78)).heap.size) := ⟨HMid4.out.below.size, by simp; omega⟩
      have HNe : Hid (some w3.heap.size ≠ u7.ownBlock) := fun e => by
       have := (ownsRow_lt HMid3.out.own e.symm).2
       omega
      go_wp2_with (at_builtin; go_must (refine wpList_append_lies _ rfl _ _ 45 rfl w.heap.size 78 i0 (.agg #[.int .i64 0, .int .i64 0, .int .i64 0]) 3 24 Tryz.underlying45 hi hz0 hz1 hz2 rfl (by decide) u7 s2.out.length (cellsS s2.out) rfl HMid4.out.own ⟨w3.heap.size + 1, 0, none⟩ 1 1 (cellsS [⟨k, nw, uz⟩]) rfl rfl HNews.out (cellsS_one _) (by decide) (by unfold maxLen; omega) (by omega) HBs.out.1 _ rfl ?_; intro g5 cap5 w5 ho5 hg5 hat5 hlt5; have c5 : w5.cell? ⟨w3.heap.size, 2, none⟩ = some (.int .i64 uz) := (hg5.cell_far ⟨w3.heap.size, 2, none⟩ HBs.out.2 HNe.out).trans HCel.out; have H5 : Hid (SendAt Q Held per ps q0 B w w5 (.slice (some ⟨g5, 0, none⟩) (s2.out.length + 1) cap5) ⟨s2.out ++ [⟨(k : Nat), nw, uz⟩], uz, nx, Q.left s2.q⟩ D4) := SendAt.grown HM.out.1 HM.out.2.1 HMid4.out ho5 hg5 hat5 _ HRe.out rfl rfl; clear ho5 hg5 hat5 hlt5))
      go_roundg (leftOf ps (⟨s2.out ++ [⟨(k : Nat), nw, uz⟩], uz, nx, Q.left s2.q⟩ : St σ))
      case measure =>
       refine left_send ?_ ?_
       · simp [HEq.out.1]
       ·
        have h3 := HCnt.out
        rw [HEq.out.1] at h3
        rw [HN.out]
        omega
      case rel => exact ⟨_, D4, rfl, rfl, rfl, H5.out⟩
    ·
     rcases HWay.out with hlt | ⟨hlt, htk⟩
     ·
      go_wp2_with fail
      refine HR1.out.mono ?_
      rintro e w1 ⟨rfl, hq⟩
      have HQ : Hid (QueLeft Held wr w1 D2 (Q.asked s2.q)) := hq
      clear hq
      go_wp2_with fail
      go_ret
      obtain ⟨D3, h31, h32, -, h34⟩ := HA.out.parts HM.out.1 HM.out.2.1 HQ.out
      exact ⟨s2, u7, rfl, HReach.out, by rw [HX.out.1]; omega, by rw [HRS.out]; omega, h31, h34, D3, h32⟩
     ·
      obtain ⟨b, off, rfl, hcell⟩ := HCell.out hlt
      have c1 := hcell wr HA.out.below
      have HCl : Hid (∀ W, Below B w W → W.cell? ⟨b, off + nx * 3 + 2, none⟩ = some (.int .i64 (tickOf ps nx))) := hcell
      clear hcell
      go_wp2_with fail
      refine HR1.out.mono ?_
      rintro e w1 ⟨rfl, hq⟩
      have hask : Q.asked s2.q = Q.idle s2.q := if_pos (by rw [HRS.out]; omega)
      rw [hask] at hq
      obtain ⟨D3, h31, h32, h33, h34⟩ := HA.out.parts HM.out.1 HM.out.2.1 hq
      have c2 := HCl.out w1 h34
      have H3 : Hid (OwnS w1 w.heap.size u7 s2.out ∧ Held w1 D3 (Q.idle s2.q) ∧ (∀ g, u7.ownBlock = some g → ¬ D3 g) ∧ Below B w w1) := ⟨h31, h32, h33, h34⟩
      clear hq hask h31 h32 h33 h34
      go_wp2_with fail
      go_roundg (leftOf ps (⟨s2.out, tickOf ps nx, nx, Q.idle s2.q⟩ : St σ))
      case measure =>
       have h3 := HCnt.out
       have h4 := HEq.out.2.2
       have h5 := HA0.out.reach.count HL.out.1
       rw [HEq.out.1] at h3
       rw [HX.out.1] at h4
       have h6 : s.next = nx := by omega
       refine left_idle (by simp [HEq.out.1]) h6.symm ?_ ?_ ?_
       · rw [HN.out, h6]; exact hlt
       · rw [h6, HNw.out]; exact htk
       · rw [h6]; exact Int.le_refl _
      case rel =>
       obtain ⟨p, hp, -⟩ := get_some ps nx (by rw [HN.out]; exact hlt)
       have hr : Reaches Q per ps q0 ⟨s2.out, p.tick, s2.next, Q.idle s2.q⟩ := .idle s2 p HReach.out (by rw [HX.out.1]; exact hp) (by rw [HX.out.2, ← tickOf_get hp]; exact htk) (by rw [HRS.out]; omega)
       rw [HX.out.1, ← tickOf_get hp] at hr
       exact ⟨_, D3, rfl, rfl, rfl, hr, H3.out.1, H3.out.2.1, H3.out.2.2.1, H3.out.2.2.2⟩
theorem send_any {σ : Type} (Q : Que σ) (Held : World → (Nat → Prop) → σ → Prop) (per : Int) (ps : List Pk) (q0 : σ) (B : Nat) (x1 x2 x3 : Value) (hm : QueMem Held B) (hlaw : QueLaw Q per ps q0) (ho : OkPks ps) (h1 : 1 ≤ per) (h2 : per ≤ 1000)
  (hCome : ∀ w D s p, Reaches Q per ps q0 s → ps[s.next]? = some p → Held w D s.q → Calls Tryz.prog 218 #[.agg #[x1, x2, x3], .int .i64 s.next] w fun e w' => e = .returned (.tuple #[]) ∧ QueLeft Held w w' D (Q.come s.q s.next))
  (hPick : ∀ w D s, Reaches Q per ps q0 s → 0 < Q.rest s.q → Held w D s.q → Calls Tryz.prog 219 #[.agg #[x1, x2, x3]] w fun e w' => e = .returned (.int .i64 (Q.pick s.q : Nat)) ∧ QueLeft Held w w' D (Q.left s.q))
  (hRest : ∀ w D s, Reaches Q per ps q0 s → Held w D s.q → Calls Tryz.prog 220 #[.agg #[x1, x2, x3]] w fun e w' => e = .returned (.int .i64 (Q.rest s.q : Nat)) ∧ QueLeft Held w w' D (Q.asked s.q))
  (a : Option Addr) (cap : Nat) (w : World) (hl : LiesP w a ps) (hB : B ≤ w.heap.size) (ha : ∀ ad, a = some ad → 0 < ps.length → ad.block < B) (D0 : Nat → Prop) (h0 : Held w D0 q0) :
  Calls Tryz.prog 59 #[.slice a ps.length cap, .int .i64 per, .iface 164 (.agg #[x1, x2, x3])] w fun e w' => ∃ s v, e = .returned v ∧ Reaches Q per ps q0 s ∧ ¬ s.next < ps.length ∧ Q.rest s.q = 0 ∧ OwnS w' w.heap.size v s.out ∧ Below B w w' :=
 (send_held Q Held per ps q0 B x1 x2 x3 hm hlaw ho h1 h2 hCome hPick hRest a cap w hl hB ha D0 h0).mono fun _ _ ⟨s, v, e, g1, g2, g3, g4, g5, _⟩ => ⟨s, v, e, g1, g2, g3, g4, g5⟩
end Go.Proofs.YtibhkijaafdkoaaGreatDoor
