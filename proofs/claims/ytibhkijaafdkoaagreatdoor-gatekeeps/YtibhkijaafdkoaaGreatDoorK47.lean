/- Own facts, put together: no statement of its own. -/
import Derived.Test.YtibhkijaafdkoaaGreatDoorK38
import Derived.Test.YtibhkijaafdkoaaGreatDoorK46
import Derived.Test.YtibhkijaafdkoaaGreatDoorK32
import Derived.BigRegion
import Derived.Deep.LoopGhost
import Derived.Test.YtibhkijaafdkoaaGreatDoorK17
import Derived.Test.YtibhkijaafdkoaaGreatDoorK24
import Derived.Test.YtibhkijaafdkoaaGreatDoorK18
import Derived.Test.YtibhkijaafdkoaaGreatDoorK39
namespace Go.Proofs.YtibhkijaafdkoaaGreatDoor
open Go.RowKit
theorem sumOf_by (a1 a2 : Option Addr) (cap1 cap2 : Nat) (la lb : List (Int × Int)) (w : World) (h1 : Lies w a1 la) (h2 : Lies w a2 lb) (k1 : okCurve la) (k2 : okCurve lb) :
  Calls Tryz.prog 42 #[.slice a1 la.length cap1, .slice a2 lb.length cap2] w fun e w' => ∃ a cap code L, e = .returned (.tuple #[.slice a L.length cap, .int .i64 code]) ∧ SumRel la lb code L ∧ Lies w' a L ∧ L.length ≤ cap ∧ cap ≤ maxLen ∧ Below w.heap.size w w' := by
 refine (sumOf_ok a1 a2 cap1 cap2 la lb w h1 h2 k1.2.1 k2.2.1 k1.2.2 k2.2.2).mono ?_
 rintro e w' h
 obtain ⟨code, L, hr⟩ : ∃ code L, SumRel la lb code L := by
  obtain ⟨-, ⟨hn, -⟩ | ⟨hok, R, hk, -⟩⟩ := h
  · exact ⟨2, [], .inl ⟨hn, rfl, rfl⟩⟩
  ·
   rcases Nat.lt_or_ge 6 R.length with h6 | h6
   · exact ⟨3, [], .inr ⟨hok, R, tidyIs_of hk, .inl ⟨h6, rfl, rfl⟩⟩⟩
   · exact ⟨0, R, .inr ⟨hok, R, tidyIs_of hk, .inr ⟨h6, rfl, rfl⟩⟩⟩
 obtain ⟨v, rfl, ho, hb⟩ := sumOf_is h hr
 obtain ⟨a, n, cap, rfl⟩ : ∃ a n cap, v = .slice a n cap := by
  obtain ⟨-, ⟨rfl, -⟩ | ⟨g, cap, cur, rfl, -⟩⟩ := ho
  · exact ⟨_, _, _, rfl⟩
  · exact ⟨_, _, _, rfl⟩
 obtain ⟨rfl, e2, e3, e4⟩ := ho.lies
 exact ⟨a, cap, code, L, rfl, hr, e4, e2, e3, hb⟩
theorem delay_by (a : Option Addr) (cap : Nat) (L : List (Int × Int)) (per : Int) (w : World) (ad : Nat → Addr) (he : Errs9 w ad) (hl : Lies w a L) (hcap : L.length ≤ cap) (hm : cap ≤ maxLen) (hL : okCurve L) (h1 : 1 ≤ per) (h2 : per ≤ 1000) :
  Calls Tryz.prog 17 #[.slice a L.length cap, .int .i64 per] w fun e w' => ∃ o, DelayBy per L o ∧ NumEnd o w e w' := by
 by_cases hs : leastR L * per ≤ 1000
 ·
  refine (delay_ok a cap L per w hl hcap hm ⟨hL, h1, h2⟩ hs).mono ?_
  rintro e w' ⟨d, rfl, hd, hb⟩
  exact ⟨some d, .inl ⟨d, rfl, hd, hs⟩, hb, .inr ⟨d, rfl, rfl⟩⟩
 ·
  refine (delay_none a cap L per w ad he hl hcap hm ⟨hL, h1, h2⟩ (by omega)).mono ?_
  rintro e w' ⟨rfl, hb⟩
  exact ⟨none, .inr ⟨rfl, by omega⟩, hb, .inl ⟨rfl, _, rfl, errIs_sent (he.below hb) 3 (by omega)⟩⟩
theorem busy_by (a : Option Addr) (cap : Nat) (L : List (Int × Int)) (per : Int) (w : World) (ad : Nat → Addr) (he : Errs9 w ad) (hl : Lies w a L) (hcap : L.length ≤ cap) (hm : cap ≤ maxLen) (hL : okCurve L) (h1 : 1 ≤ per) (h2 : per ≤ 1000) :
  Calls Tryz.prog 18 #[.slice a L.length cap, .int .i64 per] w fun e w' => ∃ o, BusyBy per L o ∧ NumEnd o w e w' := by
 refine (busy_any a cap L per w ad he hl hcap hm ⟨hL, h1, h2⟩).mono ?_
 rintro e w' ⟨hb, ⟨n, hn, rfl⟩ | ⟨hn, rfl⟩⟩
 · exact ⟨some (per * n), .inl ⟨n, rfl, hn⟩, hb, .inr ⟨_, rfl, rfl⟩⟩
 · exact ⟨none, .inr ⟨rfl, hn⟩, hb, .inl ⟨rfl, _, rfl, errIs_sent (he.below hb) 3 (by omega)⟩⟩
theorem Tryz.callDelay (args : Array Value) (W : World) : Sem.run Tryz.prog (callFunc 17 args) W = .ok (.enter 17 args) W := by kernel_rfl
theorem Tryz.callBusy (args : Array Value) (W : World) : Sem.run Tryz.prog (callFunc 18 args) W = .ok (.enter 18 args) W := by kernel_rfl
section
variable (ca : Option Addr) (m ccap : Nat) (kb : ByteArray) (per : Int) (na : Option Addr) (r ncap : Nat) (w : World)
set_option maxRecDepth 100000 in
set_option maxHeartbeats 2000000 in
theorem gateBound_gate (c p : Int) (hc : 0 < c) (h : CheckTells w (.agg #[.slice ca m ccap, .string kb, .int .i64 per, .slice na r ncap]) c p) :
  Calls Tryz.prog 11 #[.agg #[.slice ca m ccap, .string kb, .int .i64 per, .slice na r ncap]] w fun e w' => ∃ E, e = .returned (.tuple #[.int .i64 0, E]) ∧ ErrIs w' E c p ∧ Below w.heap.size w w' := by
 have hb1 : Below w.heap.size w (w.alloc (.cells #[.slice ca m ccap, .string kb, .int .i64 per, .slice na r ncap] 32)) := (Below.refl _ _).alloc (Nat.le_refl _) _
 have HC := (show Hid (Calls Tryz.prog 29 #[.agg #[.slice ca m ccap, .string kb, .int .i64 per, .slice na r ncap]] (w.alloc (.cells #[.slice ca m ccap, .string kb, .int .i64 per, .slice na r ncap] 32)) fun e w' => ∃ E, e = .returned E ∧ ErrIs w' E c p ∧ Below (w.alloc (.cells #[.slice ca m ccap, .string kb, .int .i64 per, .slice na r ncap] 32)).heap.size (w.alloc (.cells #[.slice ca m ccap, .string kb, .int .i64 per, .slice na r ncap] 32)) w') from h _ hb1)
 have HB1 : Hid (Below w.heap.size w (w.alloc (.cells #[.slice ca m ccap, .string kb, .int .i64 per, .slice na r ncap] 32))) := hb1
 clear h hb1
 go_enter Tryz.func11, Tryz.ntmps11
 go_wp2_with fail
 refine HC.out.mono ?_
 rintro e w1 ⟨E, rfl, h1, h2⟩
 obtain ⟨ty, v, rfl⟩ := h1.some_ (by omega)
 have H1 : Hid (ErrIs w1 (.iface ty v) c p ∧ Below w.heap.size w w1) := ⟨h1, HB1.out.trans (h2.mono HB1.out.size)⟩
 clear h1 h2 HC
 go_wp2_with fail
 go_ret2
 exact ⟨_, rfl, H1.out⟩
set_option maxRecDepth 100000 in
set_option maxHeartbeats 4000000 in
theorem gateBound_main (cs : List (List (Int × Int))) (k : Nat) (hkb : kindOf kb.toList = k) (ad : Nat → Addr) (he : Errs9 w ad) (h1 : 1 ≤ per) (h2 : per ≤ 1000) (hco : CurvesOk (curveFl cs)) (h : CheckTells w (.agg #[.slice ca m ccap, .string kb, .int .i64 per, .slice na r ncap]) 0 (-1)) (ht : ∀ W, Below w.heap.size w W → Calls Tryz.prog 34 #[.slice ca m ccap] W fun e w' => TogetherEnd cs W e w') :
  Calls Tryz.prog 11 #[.agg #[.slice ca m ccap, .string kb, .int .i64 per, .slice na r ncap]] w fun e w' => ∃ o, BoundIs SumRel DelayBy BusyBy cs k per o ∧ NumEnd o w e w' := by
 have hb1 : Below w.heap.size w (w.alloc (.cells #[.slice ca m ccap, .string kb, .int .i64 per, .slice na r ncap] 32)) := (Below.refl _ _).alloc (Nat.le_refl _) _
 have hga := gateAt_new w (.slice ca m ccap) kb per (.slice na r ncap) 32
 have HC := (show Hid (Calls Tryz.prog 29 #[.agg #[.slice ca m ccap, .string kb, .int .i64 per, .slice na r ncap]] (w.alloc (.cells #[.slice ca m ccap, .string kb, .int .i64 per, .slice na r ncap] 32)) fun e w' => ∃ E, e = .returned E ∧ ErrIs w' E 0 (-1) ∧ Below (w.alloc (.cells #[.slice ca m ccap, .string kb, .int .i64 per, .slice na r ncap] 32)).heap.size (w.alloc (.cells #[.slice ca m ccap, .string kb, .int .i64 per, .slice na r ncap] 32)) w') from h _ hb1)
 have HB1 : Hid (Below w.heap.size w (w.alloc (.cells #[.slice ca m ccap, .string kb, .int .i64 per, .slice na r ncap] 32))) := hb1
 have HG : Hid (GateAt (w.alloc (.cells #[.slice ca m ccap, .string kb, .int .i64 per, .slice na r ncap] 32)) w.heap.size (.slice ca m ccap) kb per (.slice na r ncap)) := hga
 have HT : Hid (∀ W, Below w.heap.size w W → Calls Tryz.prog 34 #[.slice ca m ccap] W fun e w' => TogetherEnd cs W e w') := ht
 have HE : Hid (Errs9 w ad) := he
 have HCo : Hid (CurvesOk (curveFl cs)) := hco
 have hkt := kindTests kb
 rw [hkb] at hkt
 have t1 := hkt.t1
 have u1 := hkt.u1
 have hcD := Tryz.callDelay
 have hcB := Tryz.callBusy
 clear h hb1 hga ht he hco hkt hkb
 obtain ⟨isF, hF⟩ : ∃ b, decide (k = 1) = b := ⟨_, rfl⟩
 rw [hF] at t1 u1
 have HF : Hid (decide (k = 1) = isF) := hF
 clear hF
 go_enter Tryz.func11, Tryz.ntmps11
 go_wp2_with fail
 refine HC.out.mono ?_
 rintro e w1 ⟨E, rfl, he1, hb2⟩
 obtain rfl := he1.none_ rfl
 have HB2 : Hid (Below w.heap.size w w1) := HB1.out.trans (hb2.mono HB1.out.size)
 have HG1 : Hid (GateAt w1 w.heap.size (.slice ca m ccap) kb per (.slice na r ncap)) := HG.out.later hb2
 have g0 := HG1.out.c0
 clear he1 hb2 HC
 go_wp2_with fail
 refine (HT.out _ HB2.out).mono ?_
 rintro e w2 ⟨hb3, ⟨a, cap, L, hall, rfl, hlL, hL1, hL2⟩ | ⟨hnone, ty, v, rfl⟩⟩
 ·
  have HB3 : Hid (Below w.heap.size w w2) := HB2.out.trans (hb3.mono HB2.out.size)
  have HG2 : Hid (GateAt w2 w.heap.size (.slice ca m ccap) kb per (.slice na r ncap)) := HG1.out.later hb3
  have hokL : okCurve L := by
   obtain ⟨h0, q, -, hq8, hq, -⟩ := hall
   exact addTo_ok sumWay HCo.out h0 q L hq8 hq
  have g1 := HG2.out.c1
  have g2 := HG2.out.c2
  have HAll : Hid (CurveAll SumRel cs L) := hall
  have HDe := (show Hid (Calls Tryz.prog 17 #[.slice a L.length cap, .int .i64 per] w2 fun e w' => ∃ o, DelayBy per L o ∧ NumEnd o w2 e w') from delay_by a cap L per w2 ad (HE.out.below HB3.out) hlL hL1 hL2 hokL h1 h2)
  have HBu := (show Hid (Calls Tryz.prog 18 #[.slice a L.length cap, .int .i64 per] w2 fun e w' => ∃ o, BusyBy per L o ∧ NumEnd o w2 e w') from busy_by a cap L per w2 ad (HE.out.below HB3.out) hlL hL1 hL2 hokL h1 h2)
  obtain ⟨n, hn⟩ : ∃ n, L.length = n := ⟨_, rfl⟩
  rw [hn] at HDe HBu ⊢
  have HEndE : Hid (∀ o w3, BoundIs SumRel DelayBy BusyBy cs k per o → Below w2.heap.size w2 w3 → o = none → ∃ ad3, w3.cell? ⟨0, 0, none⟩ = some (.iface 271 (.pointer (some ad3))) ∧ ∀ q, ∃ o, BoundIs SumRel DelayBy BusyBy cs k per o ∧ NumEnd o w (.returned (.tuple #[.int .i64 0, .iface 271 (.pointer (some ad3))])) (w3.drewN q)) := fun o w3 ho hb hn => by
   have hb' := HB3.out.trans (hb.mono HB3.out.size)
   refine ⟨ad 3, (HE.out.below hb').c3, fun q => ⟨none, by rw [hn] at ho; exact ho, below_drewN hb' q, .inl ⟨rfl, _, rfl, errIs_sent (HE.out.below (below_drewN hb' q)) 3 (by omega)⟩⟩⟩
  have HEndN : Hid (∀ d w3, BoundIs SumRel DelayBy BusyBy cs k per (some d) → Below w2.heap.size w2 w3 → ∃ o, BoundIs SumRel DelayBy BusyBy cs k per o ∧ NumEnd o w (.returned (.tuple #[.int .i64 d, .nilIface])) w3) := fun d w3 ho hb => ⟨some d, ho, HB3.out.trans (hb.mono HB3.out.size), .inr ⟨d, rfl, rfl⟩⟩
  clear hb3 hall hlL hL1 hL2 hokL hn
  cases isF with
  | true =>
   have hk1 : k = 1 := by have := HF.out; simpa using this
   have HBd : Hid (∀ o, DelayBy per L o → BoundIs SumRel DelayBy BusyBy cs k per o) := fun o ho => .inr ⟨L, HAll.out, .inl ⟨hk1, ho⟩⟩
   clear hk1 HBu
   go_wp2_with fail
   refine HDe.out.mono ?_
   rintro e w3 ⟨o, ho, hb4, ⟨hon, E, rfl, hE⟩ | ⟨d, hod, rfl⟩⟩
   ·
    obtain ⟨ty, v, rfl⟩ := hE.some_ (by decide)
    obtain ⟨ad3, c3, hend⟩ := HEndE.out o w3 (HBd.out o ho) hb4 hon
    have HEd : Hid (∀ q, ∃ o, BoundIs SumRel DelayBy BusyBy cs k per o ∧ NumEnd o w (.returned (.tuple #[.int .i64 0, .iface 271 (.pointer (some ad3))])) (w3.drewN q)) := hend
    clear ho hb4 hon hE hend HDe
    go_wp2_with fail
    go_quiet (fail)
    go_wp2_with fail
    go_ret2
    exact HEd.out nq
   ·
    rw [hod] at ho
    have HEd : Hid (∃ o, BoundIs SumRel DelayBy BusyBy cs k per o ∧ NumEnd o w (.returned (.tuple #[.int .i64 d, .nilIface])) w3) := HEndN.out d w3 (HBd.out _ ho) hb4
    clear ho hb4 hod HDe
    go_wp2_with fail
    go_ret2
    exact HEd.out
  | false =>
   have hk1 : k ≠ 1 := by have := HF.out; simpa using this
   have HBd : Hid (∀ o, BusyBy per L o → BoundIs SumRel DelayBy BusyBy cs k per o) := fun o ho => .inr ⟨L, HAll.out, .inr ⟨hk1, ho⟩⟩
   clear hk1 HDe
   go_wp2_with fail
   refine HBu.out.mono ?_
   rintro e w3 ⟨o, ho, hb4, ⟨hon, E, rfl, hE⟩ | ⟨d, hod, rfl⟩⟩
   ·
    obtain ⟨ty, v, rfl⟩ := hE.some_ (by decide)
    obtain ⟨ad3, c3, hend⟩ := HEndE.out o w3 (HBd.out o ho) hb4 hon
    have HEd : Hid (∀ q, ∃ o, BoundIs SumRel DelayBy BusyBy cs k per o ∧ NumEnd o w (.returned (.tuple #[.int .i64 0, .iface 271 (.pointer (some ad3))])) (w3.drewN q)) := hend
    clear ho hb4 hon hE hend HBu
    go_wp2_with fail
    go_quiet (fail)
    go_wp2_with fail
    go_ret2
    exact HEd.out nq
   ·
    rw [hod] at ho
    have HEd : Hid (∃ o, BoundIs SumRel DelayBy BusyBy cs k per o ∧ NumEnd o w (.returned (.tuple #[.int .i64 d, .nilIface])) w3) := HEndN.out d w3 (HBd.out _ ho) hb4
    clear ho hb4 hod HBu
    go_wp2_with fail
    go_ret2
    exact HEd.out
 ·
  have HB3 : Hid (Below w.heap.size w w2) := HB2.out.trans (hb3.mono HB2.out.size)
  have c3 := (HE.out.below HB3.out).c3
  have HEd : Hid (∀ q, ∃ o, BoundIs SumRel DelayBy BusyBy cs k per o ∧ NumEnd o w (.returned (.tuple #[.int .i64 0, .iface 271 (.pointer (some (ad 3)))])) (w2.drewN q)) := fun q => ⟨none, .inl ⟨hnone, rfl⟩, below_drewN HB3.out q, .inl ⟨rfl, _, rfl, errIs_sent (HE.out.below (below_drewN HB3.out q)) 3 (by omega)⟩⟩
  clear hb3 hnone
  go_wp2_with fail
  go_quiet (fail)
  go_wp2_with fail
  go_ret2
  exact HEd.out nq
end
theorem boundWalks : BoundWalks SumRel DelayBy BusyBy where
 way := sumWay
 sumOf := sumOf_by
 delay1 := delay_one_by
 busy1 := busy_one_by
 delay := delay_by
 busy := busy_by
 bad := fun ca ccap cs kb per na ncap ns w ad c p he hg h hc => gateBound_gate ca _ ccap kb per na _ ncap w c p hc fun W hW => gateCheck_is ca ccap cs kb per na ncap ns W ad c p (he.below hW) (hg.below hW) h
 good := fun ca ccap cs kb per na ncap ns w ad he hg hok => by
  refine gateBound_main ca _ ccap kb per na _ ncap w cs _ rfl ad he hok.per.1 hok.per.2 (fun f hf => ?_) (fun W hW => gateCheck_is ca ccap cs kb per na ncap ns W ad 0 (-1) (he.below hW) (hg.below hW) ?_) (fun W hW => together_any ca ccap cs W ad (he.below hW) (hg.curves.below hW) hok.len hg.cfit hok.curves)
  ·
   obtain ⟨ls, hls, -⟩ := get_some cs f (by rw [hok.len]; exact hf)
   rw [curveFl_get hls]
   exact hok.curves f ls hf hls
  · exact .inr (.inr ⟨hok.len, hok.curves, rfl, .inr ⟨hok.kind.1, hok.kind.2, .inr ⟨hok.per.1, hok.per.2, 0, hok.nums, rfl⟩⟩⟩)
end Go.Proofs.YtibhkijaafdkoaaGreatDoor

namespace Go.Proofs.YtibhkijaafdkoaaGreatDoor
open Go.RowKit
section
variable (ca : Option Addr) (ccap : Nat) (cs : List (List (Int × Int))) (kb : ByteArray) (per : Int) (na : Option Addr) (ncap : Nat) (ns : List Int) (pa : Option Addr) (pcap : Nat) (n : Nat) (w : World) (ad : Nat → Addr)
set_option maxRecDepth 100000 in
set_option maxHeartbeats 4000000 in
theorem gateKeeps_out (GW : GateWalks) (he : Errs9 w ad) (hg : GateRaw w ca ccap cs na ncap ns) (h : ¬ Slim cs ns ∨ ¬ (n ≤ 120 ∨ n = 301)) :
  Calls Tryz.prog 4 #[.agg #[.slice ca cs.length ccap, .string kb, .int .i64 per, .slice na ns.length ncap], .slice pa n pcap] w fun e w' => e = .returned (.bool true) ∧ Below w.heap.size w w' := by
 have HOp : Hid (∀ W, Below w.heap.size w W → Calls Tryz.prog 9 #[] W fun e w' => e = .returned (.bool true) ∧ Below W.heap.size W w') := fun W hb => opens_by GW W ad (he.below hb)
 have HWi : Hid (∀ W, Below w.heap.size w W → Calls Tryz.prog 10 #[.agg #[.slice ca cs.length ccap, .string kb, .int .i64 per, .slice na ns.length ncap]] W fun e w' => WideEnd cs ns W e w') := fun W hb => wide_any ca ccap cs kb per na ncap ns W (hg.curves.below hb) hg.cfit hg.cmax hg.nfit hg.nmax
 have HFit : Hid (Slim cs ns → ∀ w', Calls Tryz.prog 19 #[.slice pa n pcap, .int .i64 120] w' fun e w'' => e = .returned (.bool false) ∧ w'' = w') := fun hs w' => by
  rcases h with h | h
  · exact absurd hs h
  · exact fitPkts_no pa n pcap 120 w' (by omega) (by omega)
 have hb1 : Below w.heap.size w (w.alloc (.cells #[.slice ca cs.length ccap, .string kb, .int .i64 per, .slice na ns.length ncap] 25)) := (Below.refl _ _).alloc (Nat.le_refl _) _
 have hga := gateAt_new w (.slice ca cs.length ccap) kb per (.slice na ns.length ncap) 25
 obtain ⟨V, hV⟩ : ∃ V, w.alloc (.cells #[.slice ca cs.length ccap, .string kb, .int .i64 per, .slice na ns.length ncap] 25) = V := ⟨_, rfl⟩
 rw [hV] at hb1 hga
 have HV : Hid (Below w.heap.size w V ∧ GateAt V w.heap.size (.slice ca cs.length ccap) kb per (.slice na ns.length ncap)) := ⟨hb1, hga⟩
 obtain ⟨m, hm⟩ : ∃ m, cs.length = m := ⟨_, rfl⟩
 obtain ⟨r, hr⟩ : ∃ r, ns.length = r := ⟨_, rfl⟩
 rw [hm, hr] at HWi HV hV
 rw [hm, hr]
 clear he hg hb1 hga hm hr GW h
 go_enter Tryz.func4, Tryz.ntmps4
 go_wp2_with fail
 refine (HOp.out _ HV.out.1).mono ?_
 rintro e w1 ⟨rfl, hb⟩
 have HB1 : Hid (Below w.heap.size w w1) := HV.out.1.trans (hb.mono HV.out.1.size)
 obtain ⟨x0, x1, x2, x3⟩ := HV.out.2.later hb
 clear hb hV
 go_wp2_with fail
 refine (HWi.out _ HB1.out).mono ?_
 rintro e w2 ⟨rfl | ⟨rfl, hs⟩, hb⟩
 ·
  have HB2 : Hid (Below w.heap.size w w2) := HB1.out.trans (hb.mono HB1.out.size)
  clear hb
  go_wp2_with fail
  go_ret
  exact ⟨rfl, HB2.out⟩
 have HB2 : Hid (Below w.heap.size w w2) := HB1.out.trans (hb.mono HB1.out.size)
 have HF : Hid (∀ w', Calls Tryz.prog 19 #[.slice pa n pcap, .int .i64 120] w' fun e w'' => e = .returned (.bool false) ∧ w'' = w') := HFit.out hs
 clear hb hs x0 x1 x2 x3
 go_wp2_with fail
 refine (HF.out _).mono ?_
 rintro e w3 ⟨rfl, rfl⟩
 go_wp2_with fail
 go_ret
 exact ⟨rfl, HB2.out⟩
end
theorem gateKeeps_any (S : List (Int × Int) → List (Int × Int) → Int → List (Int × Int) → Prop) (Dd Db : Int → List (Int × Int) → Option Int → Prop) (GW : GateWalks) (BW : BoundWalks S Dd Db) (KW : KeepWalks S Dd Db) (ca : Option Addr) (ccap : Nat) (cs : List (List (Int × Int))) (kb : ByteArray) (per : Int) (na : Option Addr) (ncap : Nat) (ns : List Int) (pa : Option Addr) (pcap : Nat) (ps : List Pk) (w : World) (ad : Nat → Addr) (he : Errs9 w ad) (hg : GateRaw w ca ccap cs na ncap ns) (hp : PksLie w pa pcap ps) :
  Calls Tryz.prog 4 #[.agg #[.slice ca cs.length ccap, .string kb, .int .i64 per, .slice na ns.length ncap], .slice pa ps.length pcap] w fun e w' => e = .returned (.bool true) ∧ Below w.heap.size w w' := by
 by_cases hs : Slim cs ns
 ·
  by_cases hfit : ps.length ≤ 120 ∨ ps.length = 301
  · exact gateKeeps_main S Dd Db ca ccap cs kb per na ncap ns pa pcap ps w ad GW BW KW he (hg.lies hs) hp hfit
  · exact gateKeeps_out ca ccap cs kb per na ncap ns pa pcap _ w ad GW he hg (.inr hfit)
 · exact gateKeeps_out ca ccap cs kb per na ncap ns pa pcap _ w ad GW he hg (.inl hs)
end Go.Proofs.YtibhkijaafdkoaaGreatDoor

namespace Go.Proofs.YtibhkijaafdkoaaGreatDoor
open Go.RowKit
structure AuSend (w : World) (S K P G D : Nat) (pa : Option Addr) (cap : Nat) (ps : List Pk) (per : Int) (out : List Sn) : Prop where
 s : w.cell? ⟨S, 0, none⟩ = some (.pointer (some ⟨G, 0, none⟩))
 k : w.cell? ⟨K, 0, none⟩ = some (.func (.func 89) #[] #[.pointer (some ⟨S, 0, none⟩)])
 p : w.cell? ⟨P, 0, none⟩ = some (.int .i64 per)
 g0 : w.cell? ⟨G, 0, none⟩ = some (.slice pa ps.length cap)
 g1 : w.cell? ⟨G, 1, none⟩ = some (.slice (some ⟨D, 0, none⟩) ps.length ps.length)
 g2 : w.cell? ⟨G, 2, none⟩ = some (.int .i64 (lastFin out))
 pks : LiesP w pa ps
 done : DoneAt w D ps.length out
theorem AuSend.later {w w' : World} {S K P G D : Nat} {pa : Option Addr} {cap : Nat} {ps : List Pk} {per : Int} {out : List Sn} (h : AuSend w S K P G D pa cap ps per out) (hb : Below w.heap.size w w') : AuSend w' S K P G D pa cap ps per out :=
 ⟨cell_later hb h.s, cell_later hb h.k, cell_later hb h.p, cell_later hb h.g0, cell_later hb h.g1, cell_later hb h.g2, h.pks.below hb, h.done.of_block (hb.block D h.done.lt) hb.size⟩
section
variable (S K P G D : Nat) (pa : Option Addr) (cap : Nat) (ps : List Pk) (per : Int) (out : List Sn) (w : World) (num beg fin : Int)
set_option maxRecDepth 100000 in
set_option maxHeartbeats 2000000 in
theorem auPacket (h : AuSend w S K P G D pa cap ps per out) (hn : ps.length ≤ 300) (k : Nat) (hk : num = k) (q : Pk) (hq : ps[k]? = some q) :
  Calls Tryz.prog 89 #[.agg #[.int .i64 num, .int .i64 beg, .int .i64 fin], .pointer (some ⟨S, 0, none⟩)] w fun e w' => e = .returned (.agg #[.int .i64 q.flow, .int .i64 q.size, .int .i64 q.tick]) ∧ Below w.heap.size w w' := by
 subst hk
 have hkl := lt_of_get hq
 obtain ⟨b2, o2, rfl, -, hc2⟩ := h.pks.place (by omega)
 have hb1 : Below w.heap.size w ((w.alloc (.cells #[.int .i64 (k : Int), .int .i64 beg, .int .i64 fin] 78)).alloc (.cells #[.int .i64 0, .int .i64 0, .int .i64 0] 52)) := ((Below.refl _ _).alloc (Nat.le_refl _) _).alloc (by simp) _
 have e0 : ((w.alloc (.cells #[.int .i64 (k : Int), .int .i64 beg, .int .i64 fin] 78)).alloc (.cells #[.int .i64 0, .int .i64 0, .int .i64 0] 52)).cell? ⟨w.heap.size, 0, none⟩ = some (.int .i64 (k : Int)) := cell_later ((Below.refl _ _).alloc (Nat.le_refl _) _) (by simp)
 have hs : (w.alloc (.cells #[.int .i64 (k : Int), .int .i64 beg, .int .i64 fin] 78)).heap.size = w.heap.size + 1 := by simp
 have z0 : ((w.alloc (.cells #[.int .i64 (k : Int), .int .i64 beg, .int .i64 fin] 78)).alloc (.cells #[.int .i64 0, .int .i64 0, .int .i64 0] 52)).cell? ⟨w.heap.size + 1, 0, none⟩ = some (.int .i64 0) := by rw [World.cell?_alloc_at _ _ _ _ hs.symm]; rfl
 have z1 : ((w.alloc (.cells #[.int .i64 (k : Int), .int .i64 beg, .int .i64 fin] 78)).alloc (.cells #[.int .i64 0, .int .i64 0, .int .i64 0] 52)).cell? ⟨w.heap.size + 1, 1, none⟩ = some (.int .i64 0) := by rw [World.cell?_alloc_at _ _ _ _ hs.symm]; rfl
 have z2 : ((w.alloc (.cells #[.int .i64 (k : Int), .int .i64 beg, .int .i64 fin] 78)).alloc (.cells #[.int .i64 0, .int .i64 0, .int .i64 0] 52)).cell? ⟨w.heap.size + 1, 2, none⟩ = some (.int .i64 0) := by rw [World.cell?_alloc_at _ _ _ _ hs.symm]; rfl
 have zf : ∀ i, ((w.alloc (.cells #[.int .i64 (k : Int), .int .i64 beg, .int .i64 fin] 78)).alloc (.cells #[.int .i64 0, .int .i64 0, .int .i64 0] 52)).frozen? ⟨w.heap.size + 1, i, none⟩ = false := fun i => by
  have := World.frozen?_alloc_new (w.alloc (.cells #[.int .i64 (k : Int), .int .i64 beg, .int .i64 fin] 78)) #[.int .i64 0, .int .i64 0, .int .i64 0] 52 i
  rwa [hs] at this
 have c1 := cell_later hb1 h.s
 have c2 := cell_later hb1 h.g0
 have d0 := cell_later hb1 (hc2 k q hq).1
 have d1 := cell_later hb1 (hc2 k q hq).2.1
 have d2 := cell_later hb1 (hc2 k q hq).2.2
 obtain ⟨n, hnn⟩ : ∃ n, ps.length = n := ⟨_, rfl⟩
 rw [hnn] at hkl c2 hn
 obtain ⟨x0, hx0⟩ : ∃ x, q.flow = x := ⟨_, rfl⟩
 obtain ⟨x1, hx1⟩ : ∃ x, q.size = x := ⟨_, rfl⟩
 obtain ⟨x2, hx2⟩ : ∃ x, q.tick = x := ⟨_, rfl⟩
 rw [hx0] at d0 ⊢
 rw [hx1] at d1 ⊢
 rw [hx2] at d2 ⊢
 obtain ⟨V, hV⟩ : ∃ V, (w.alloc (.cells #[.int .i64 (k : Int), .int .i64 beg, .int .i64 fin] 78)).alloc (.cells #[.int .i64 0, .int .i64 0, .int .i64 0] 52) = V := ⟨_, rfl⟩
 rw [hV] at hb1 e0 z0 z1 z2 zf c1 c2 d0 d1 d2
 have f0 := zf 0
 have f1 := zf 1
 have f2 := zf 2
 have HV : Hid (Below w.heap.size w V) := hb1
 have hk0 : (k : Int) < n := by omega
 clear h hc2 hq hnn hx0 hx1 hx2 hs zf hb1
 go_enter Tryz.func89, Tryz.ntmps89
 go_wp2_with fail
 go_region
 go_wp2_with fail
 exact bodyPost_ret (v := .agg #[.int .i64 x0, .int .i64 x1, .int .i64 x2]) (by simp [results, Tryz.results89, go_sem, z0, z1, z2]) rfl ⟨rfl, below_drewN (((HV.out.setCell (p := ⟨w.heap.size + 1, 0, none⟩) (Nat.le_succ _) _).setCell (p := ⟨w.heap.size + 1, 1, none⟩) (Nat.le_succ _) _).setCell (p := ⟨w.heap.size + 1, 2, none⟩) (Nat.le_succ _) _) 1⟩
set_option maxRecDepth 100000 in
set_option maxHeartbeats 2000000 in
theorem auNone (h : AuSend w S K P G D pa cap ps per out) (b : Bool) (hb : (b = true ∧ (num < 0 ∨ (ps.length : Int) ≤ num)) ∨ ∃ k : Nat, num = k ∧ k < ps.length ∧ b = isDone out k) :
  Calls Tryz.prog 90 #[.agg #[.int .i64 num, .int .i64 beg, .int .i64 fin], .pointer (some ⟨S, 0, none⟩)] w fun e w' => e = .returned (.bool b) ∧ Below w.heap.size w w' := by
 have hb1 : Below w.heap.size w (w.alloc (.cells #[.int .i64 num, .int .i64 beg, .int .i64 fin] 78)) := (Below.refl _ _).alloc (Nat.le_refl _) _
 have e0 : (w.alloc (.cells #[.int .i64 num, .int .i64 beg, .int .i64 fin] 78)).cell? ⟨w.heap.size, 0, none⟩ = some (.int .i64 num) := by simp
 have c1 := cell_later hb1 h.s
 have c2 := cell_later hb1 h.g0
 have c3 := cell_later hb1 h.g1
 have HD : Hid (∀ k, k < ps.length → (w.alloc (.cells #[.int .i64 num, .int .i64 beg, .int .i64 fin] 78)).cell? ⟨D, k, none⟩ = some (.bool (isDone out k))) := fun k hk => cell_later hb1 (h.done.cell k hk)
 obtain ⟨n, hnn⟩ : ∃ n, ps.length = n := ⟨_, rfl⟩
 rw [hnn] at hb c2 c3 HD
 obtain ⟨V, hV⟩ : ∃ V, w.alloc (.cells #[.int .i64 num, .int .i64 beg, .int .i64 fin] 78) = V := ⟨_, rfl⟩
 rw [hV] at hb1 e0 c1 c2 c3 HD
 have HV : Hid (Below w.heap.size w V) := hb1
 clear h hnn hb1
 rcases hb with ⟨rfl, hb⟩ | ⟨k, rfl, hk, rfl⟩
 ·
  by_cases h0 : num < 0
  ·
   have d0 : decide (num < 0) = true := by simpa using h0
   clear hb
   go_enter Tryz.func90, Tryz.ntmps90
   go_wp2_with fail
   go_quiet (fail)
   go_wp2_with fail
   go_ret
   exact ⟨rfl, below_drewN HV.out _⟩
  ·
   have d0 : decide (num < 0) = false := by simpa using h0
   have h1 : (n : Int) ≤ num := by omega
   have d1 : decide ((n : Int) ≤ num) = true := by simpa using h1
   clear hb h0
   go_enter Tryz.func90, Tryz.ntmps90
   go_wp2_with fail
   go_quiet (fail)
   go_wp2_with fail
   go_ret
   exact ⟨rfl, below_drewN HV.out _⟩
 ·
  have d0 : decide ((k : Int) < 0) = false := by simp
  have d1 : decide ((n : Int) ≤ (k : Int)) = false := by simp; omega
  have H2 : Hid (decide (n ≤ k) = false) := by simp [Hid]; omega
  have dk := HD.out k hk
  go_enter Tryz.func90, Tryz.ntmps90
  go_wp2_with fail
  go_quiet (fail)
  go_wp2_with fail
  go_ret
  refine ⟨?_, below_drewN HV.out _⟩
  show Ending.returned (.bool (decide (n ≤ k) || isDone out k)) = _
  rw [H2.out, Bool.false_or]
end
end Go.Proofs.YtibhkijaafdkoaaGreatDoor

namespace Go.Proofs.YtibhkijaafdkoaaGreatDoor
open Go.RowKit
theorem Tryz.pktField0 (a b c : Int) (W : World) : (Instr.field 52 (.agg #[.int .i64 a, .int .i64 b, .int .i64 c]) 0).run Tryz.prog W = .ok (.int .i64 a) W := by kernel_rfl
theorem Tryz.pktField1 (a b c : Int) (W : World) : (Instr.field 52 (.agg #[.int .i64 a, .int .i64 b, .int .i64 c]) 1).run Tryz.prog W = .ok (.int .i64 b) W := by kernel_rfl
theorem Tryz.pktField2 (a b c : Int) (W : World) : (Instr.field 52 (.agg #[.int .i64 a, .int .i64 b, .int .i64 c]) 2).run Tryz.prog W = .ok (.int .i64 c) W := by kernel_rfl
section
variable (S K P G D : Nat) (pa : Option Addr) (cap : Nat) (ps : List Pk) (per : Int) (out : List Sn) (w : World) (num beg fin : Int)
set_option maxRecDepth 100000 in
set_option maxHeartbeats 4000000 in
theorem auOld (h : AuSend w S K P G D pa cap ps per out) (hn : ps.length ≤ 300) (k : Nat) (hk : num = k) (q : Pk) (hq : ps[k]? = some q) (b : Bool) (hb : b = true ↔ (beg < q.tick ∨ beg < lastFin out)) :
  Calls Tryz.prog 91 #[.agg #[.int .i64 num, .int .i64 beg, .int .i64 fin], .pointer (some ⟨K, 0, none⟩), .pointer (some ⟨S, 0, none⟩)] w fun e w' => e = .returned (.bool b) ∧ Below w.heap.size w w' := by
 have hb1 : Below w.heap.size w (w.alloc (.cells #[.int .i64 num, .int .i64 beg, .int .i64 fin] 78)) := (Below.refl _ _).alloc (Nat.le_refl _) _
 have e0 : (w.alloc (.cells #[.int .i64 num, .int .i64 beg, .int .i64 fin] 78)).cell? ⟨w.heap.size, 0, none⟩ = some (.int .i64 num) := by simp
 have e1 : (w.alloc (.cells #[.int .i64 num, .int .i64 beg, .int .i64 fin] 78)).cell? ⟨w.heap.size, 1, none⟩ = some (.int .i64 beg) := by simp
 have e2 : (w.alloc (.cells #[.int .i64 num, .int .i64 beg, .int .i64 fin] 78)).cell? ⟨w.heap.size, 2, none⟩ = some (.int .i64 fin) := by simp
 have c1 := cell_later hb1 h.s
 have c2 := cell_later hb1 h.k
 have c3 := cell_later hb1 h.g2
 have HP : Hid (∀ W, Below w.heap.size w W → Calls Tryz.prog 89 #[.agg #[.int .i64 num, .int .i64 beg, .int .i64 fin], .pointer (some ⟨S, 0, none⟩)] W fun e w' => e = .returned (.agg #[.int .i64 q.flow, .int .i64 q.size, .int .i64 q.tick]) ∧ Below W.heap.size W w') := fun W hb => auPacket S K P G D pa cap ps per out W num beg fin (h.later hb) hn k hk q hq
 obtain ⟨lf, hlf⟩ : ∃ lf, lastFin out = lf := ⟨_, rfl⟩
 rw [hlf] at hb c3
 obtain ⟨x0, hx0⟩ : ∃ x, q.flow = x := ⟨_, rfl⟩
 obtain ⟨x1, hx1⟩ : ∃ x, q.size = x := ⟨_, rfl⟩
 obtain ⟨x2, hx2⟩ : ∃ x, q.tick = x := ⟨_, rfl⟩
 rw [hx2] at hb
 rw [hx0, hx1, hx2] at HP
 obtain ⟨V, hV⟩ : ∃ V, w.alloc (.cells #[.int .i64 num, .int .i64 beg, .int .i64 fin] 78) = V := ⟨_, rfl⟩
 rw [hV] at hb1 e0 e1 e2 c1 c2 c3
 have HV : Hid (Below w.heap.size w V) := hb1
 have y0 := fun g : Later V => g.cell e0
 have y1 := fun g : Later V => g.cell e1
 have y2 := fun g : Later V => g.cell e2
 have y3 := fun g : Later V => g.cell c1
 have y4 := fun g : Later V => g.cell c2
 have y5 := fun g : Later V => g.cell c3
 have HP' : Hid (∀ g : Later V, Calls Tryz.prog 89 #[.agg #[.int .i64 num, .int .i64 beg, .int .i64 fin], .pointer (some ⟨S, 0, none⟩)] g.w fun e w' => e = .returned (.agg #[.int .i64 x0, .int .i64 x1, .int .i64 x2]) ∧ ∃ g' : Later V, w' = g'.w) := Later.calls fun W hb => HP.out W (HV.out.trans (hb.mono HV.out.size))
 clear h hn hk hq hlf hx0 hx1 hx2 hb1 HP
 have hne : Nonempty (Later V) := ⟨⟨V, Below.refl _ _⟩⟩
 have hfl := fun W => Tryz.pktField2 x0 x1 x2 W
 by_cases h1 : beg < x2
 ·
  obtain rfl : b = true := hb.2 (.inl h1)
  have d1 : decide (beg < x2) = true := by simpa using h1
  clear hb h1
  go_enter Tryz.func91, Tryz.ntmps91
  go_wp2_with fail
  refine wp_region_later (by kernel_rfl) (by kernel_rfl) ?_
  repeat (go_big_quiet_step (exact HP'.out _))
  refine wpQuiet_nil ?_
  rintro _ ⟨gq, rfl⟩
  go_wp2_with fail
  go_ret
  exact ⟨rfl, HV.out.trans (gq.bel.mono HV.out.size)⟩
 ·
  have d1 : decide (beg < x2) = false := by simpa using h1
  obtain rfl : b = decide (beg < lf) := by
   rcases Int.lt_or_le beg lf with h | h
   · rw [hb.2 (.inr h)]; simpa using h
   ·
    have : ¬ b = true := fun hh => by rcases hb.1 hh with h' | h' <;> omega
    rw [Bool.eq_false_iff.2 this]; simpa using h
  clear hb h1
  go_enter Tryz.func91, Tryz.ntmps91
  go_wp2_with fail
  refine wp_region_later (by kernel_rfl) (by kernel_rfl) ?_
  repeat (go_big_quiet_step (exact HP'.out _))
  refine wpQuiet_nil ?_
  rintro _ ⟨gq, rfl⟩
  go_wp2_with fail
  go_ret
  exact ⟨rfl, HV.out.trans (gq.bel.mono HV.out.size)⟩
end
end Go.Proofs.YtibhkijaafdkoaaGreatDoor

namespace Go.Proofs.YtibhkijaafdkoaaGreatDoor
open Go.RowKit
section
variable (S K P G D : Nat) (pa : Option Addr) (cap : Nat) (ps : List Pk) (per : Int) (out : List Sn) (w : World) (num beg fin : Int)
set_option maxRecDepth 100000 in
set_option maxHeartbeats 4000000 in
theorem auShape (h : AuSend w S K P G D pa cap ps per out) (hn : ps.length ≤ 300) (k : Nat) (hk : num = k) (q : Pk) (hq : ps[k]? = some q) (hok : okPk q = true) (h1 : 1 ≤ per) (h2 : per ≤ 1000) (ht : -2000000000000000 ≤ beg ∧ beg ≤ 2000000000000000) (b : Bool) (hb : b = true ↔ fin - beg ≠ per * q.size) :
  Calls Tryz.prog 92 #[.agg #[.int .i64 num, .int .i64 beg, .int .i64 fin], .pointer (some ⟨P, 0, none⟩), .pointer (some ⟨K, 0, none⟩)] w fun e w' => e = .returned (.bool b) ∧ Below w.heap.size w w' := by
 have hb1 : Below w.heap.size w (w.alloc (.cells #[.int .i64 num, .int .i64 beg, .int .i64 fin] 78)) := (Below.refl _ _).alloc (Nat.le_refl _) _
 have e0 : (w.alloc (.cells #[.int .i64 num, .int .i64 beg, .int .i64 fin] 78)).cell? ⟨w.heap.size, 0, none⟩ = some (.int .i64 num) := by simp
 have e1 : (w.alloc (.cells #[.int .i64 num, .int .i64 beg, .int .i64 fin] 78)).cell? ⟨w.heap.size, 1, none⟩ = some (.int .i64 beg) := by simp
 have e2 : (w.alloc (.cells #[.int .i64 num, .int .i64 beg, .int .i64 fin] 78)).cell? ⟨w.heap.size, 2, none⟩ = some (.int .i64 fin) := by simp
 have c2 := cell_later hb1 h.k
 have c3 := cell_later hb1 h.p
 have HP : Hid (∀ W, Below w.heap.size w W → Calls Tryz.prog 89 #[.agg #[.int .i64 num, .int .i64 beg, .int .i64 fin], .pointer (some ⟨S, 0, none⟩)] W fun e w' => e = .returned (.agg #[.int .i64 q.flow, .int .i64 q.size, .int .i64 q.tick]) ∧ Below W.heap.size W w') := fun W hb => auPacket S K P G D pa cap ps per out W num beg fin (h.later hb) hn k hk q hq
 have hq1 := okPk_true hok
 obtain ⟨x0, hx0⟩ : ∃ x, q.flow = x := ⟨_, rfl⟩
 obtain ⟨x1, hx1⟩ : ∃ x, q.size = x := ⟨_, rfl⟩
 obtain ⟨x2, hx2⟩ : ∃ x, q.tick = x := ⟨_, rfl⟩
 rw [hx1] at hb hq1
 rw [hx0, hx1, hx2] at HP
 obtain ⟨V, hV⟩ : ∃ V, w.alloc (.cells #[.int .i64 num, .int .i64 beg, .int .i64 fin] 78) = V := ⟨_, rfl⟩
 rw [hV] at hb1 e0 e1 e2 c2 c3
 have HV : Hid (Below w.heap.size w V) := hb1
 have y0 := fun g : Later V => g.cell e0
 have y1 := fun g : Later V => g.cell e1
 have y2 := fun g : Later V => g.cell e2
 have y4 := fun g : Later V => g.cell c2
 have y5 := fun g : Later V => g.cell c3
 have HP' : Hid (∀ g : Later V, Calls Tryz.prog 89 #[.agg #[.int .i64 num, .int .i64 beg, .int .i64 fin], .pointer (some ⟨S, 0, none⟩)] g.w fun e w' => e = .returned (.agg #[.int .i64 x0, .int .i64 x1, .int .i64 x2]) ∧ ∃ g' : Later V, w' = g'.w) := Later.calls fun W hb => HP.out W (HV.out.trans (hb.mono HV.out.size))
 have a1 : 0 ≤ per * x1 := Int.mul_nonneg (by omega) (by omega)
 have a2 : per * x1 ≤ 1000 * 1500 := Int.mul_le_mul (by omega) (by omega) (by omega) (by omega)
 obtain ⟨m, hm⟩ : ∃ m, per * x1 = m := ⟨_, rfl⟩
 rw [hm] at a1 a2 hb
 have v1 : IntKind.i64.wrap (per * x1) = m := by rw [hm]; exact IntWalk.i64_in _ (by omega)
 have v2 : IntKind.i64.wrap (beg + m) = beg + m := IntWalk.i64_in _ (by omega)
 have HB : Hid (b = (fin != beg + m)) := by
  show b = _
  by_cases hf : fin = beg + m
  ·
   have : ¬ b = true := fun h => hb.1 h (by omega)
   rw [Bool.eq_false_iff.2 this]; simp [hf]
  · rw [hb.2 (by omega)]; simp [hf]
 have hne : Nonempty (Later V) := ⟨⟨V, Below.refl _ _⟩⟩
 have hfl := fun W => Tryz.pktField1 x0 x1 x2 W
 clear h hn hk hq hx0 hx1 hx2 hb1 HP hm hb hq1 hok a1 a2 h1 h2
 go_enter Tryz.func92, Tryz.ntmps92
 go_wp2_with fail
 refine wp_region_later (by kernel_rfl) (by kernel_rfl) ?_
 repeat (go_big_quiet_step (exact HP'.out _))
 refine wpQuiet_nil ?_
 rintro _ ⟨gq, rfl⟩
 go_wp2_with fail
 go_ret
 refine ⟨?_, HV.out.trans (gq.bel.mono HV.out.size)⟩
 rw [HB.out]
 rfl
end
end Go.Proofs.YtibhkijaafdkoaaGreatDoor
