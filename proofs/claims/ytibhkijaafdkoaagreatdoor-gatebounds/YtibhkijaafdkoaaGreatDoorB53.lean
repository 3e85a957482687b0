/- Own facts, put together: no statement of its own. -/
import Derived.OwnWalk
import Derived.Test.YtibhkijaafdkoaaGreatDoorB42
import Derived.Test.YtibhkijaafdkoaaGreatDoorB52
import Derived.Test.YtibhkijaafdkoaaGreatDoorB43
import Derived.Test.YtibhkijaafdkoaaGreatDoorTie
import Derived.ProofKit
import Derived.OpenShut
import Derived.ShutString
import Derived.ChangeOld
import Derived.ChangeVars
import Derived.Deep.SlicePairs
import Derived.Lib.SmallJoins
import Derived.LaidMore
import Derived.LaidLaws
import Derived.LaidHandle
import Derived.Stop.LaidErr
import Derived.Stop.Joined
import Derived.Test.YtibhkijaafdkoaaGreatDoorB01
namespace Go.Proofs.YtibhkijaafdkoaaGreatDoor
open Go.RowKit
def CheckTells (w : World) (g : Value) (c p : Int) : Prop := ∀ W, Below w.heap.size w W → Calls Tryz.prog 29 #[g] W fun e w' => ∃ E, e = .returned E ∧ ErrIs w' E c p ∧ Below W.heap.size W w'
section
variable (ca : Option Addr) (m ccap : Nat) (kb : ByteArray) (per : Int) (na : Option Addr) (r ncap : Nat) (pa : Option Addr) (n pcap : Nat) (w : World)
set_option maxRecDepth 100000 in
set_option maxHeartbeats 2000000 in
theorem gateRun_gate (c p : Int) (hc : 0 < c) (h : CheckTells w (.agg #[.slice ca m ccap, .string kb, .int .i64 per, .slice na r ncap]) c p) :
  Calls Tryz.prog 20 #[.agg #[.slice ca m ccap, .string kb, .int .i64 per, .slice na r ncap], .slice pa n pcap] w fun e w' => GateBad c p w e w' := by
 have hb1 : Below w.heap.size w (w.alloc (.cells #[.slice ca m ccap, .string kb, .int .i64 per, .slice na r ncap] 32)) := (Below.refl _ _).alloc (Nat.le_refl _) _
 have HC := (show Hid (Calls Tryz.prog 29 #[.agg #[.slice ca m ccap, .string kb, .int .i64 per, .slice na r ncap]] (w.alloc (.cells #[.slice ca m ccap, .string kb, .int .i64 per, .slice na r ncap] 32)) fun e w' => ∃ E, e = .returned E ∧ ErrIs w' E c p ∧ Below (w.alloc (.cells #[.slice ca m ccap, .string kb, .int .i64 per, .slice na r ncap] 32)).heap.size (w.alloc (.cells #[.slice ca m ccap, .string kb, .int .i64 per, .slice na r ncap] 32)) w') from h _ hb1)
 have HB1 : Hid (Below w.heap.size w (w.alloc (.cells #[.slice ca m ccap, .string kb, .int .i64 per, .slice na r ncap] 32))) := hb1
 clear h hb1
 go_enter Tryz.func20, Tryz.ntmps20
 go_wp2_with fail
 refine HC.out.mono ?_
 rintro e w1 ⟨E, rfl, h1, h2⟩
 obtain ⟨ty, v, rfl⟩ := h1.some_ (by omega)
 have H1 : Hid (GateBad c p w (.returned (.tuple #[.slice none 0 0, .slice none 0 0, .iface ty v])) w1) := ⟨none, 0, none, 0, _, rfl, h1, HB1.out.trans (h2.mono HB1.out.size)⟩
 clear h1 h2 HC
 go_wp2_with fail
 (try simp only [Exit.inBlock, Exit.then])
 refine bodyPost_ret (results_tmp3 rfl _ _ _) rfl ?_
 exact H1.out
set_option maxRecDepth 100000 in
set_option maxHeartbeats 2000000 in
theorem gateRun_pks (c p : Int) (hc : 0 < c) (h : CheckTells w (.agg #[.slice ca m ccap, .string kb, .int .i64 per, .slice na r ncap]) 0 (-1)) (hp : ∀ W, Below w.heap.size w W → Calls Tryz.prog 49 #[.slice pa n pcap] W fun e w' => ∃ E, e = .returned E ∧ ErrIs w' E c p ∧ Below W.heap.size W w') :
  Calls Tryz.prog 20 #[.agg #[.slice ca m ccap, .string kb, .int .i64 per, .slice na r ncap], .slice pa n pcap] w fun e w' => GateBad c p w e w' := by
 have hb1 : Below w.heap.size w (w.alloc (.cells #[.slice ca m ccap, .string kb, .int .i64 per, .slice na r ncap] 32)) := (Below.refl _ _).alloc (Nat.le_refl _) _
 have HC := (show Hid (Calls Tryz.prog 29 #[.agg #[.slice ca m ccap, .string kb, .int .i64 per, .slice na r ncap]] (w.alloc (.cells #[.slice ca m ccap, .string kb, .int .i64 per, .slice na r ncap] 32)) fun e w' => ∃ E, e = .returned E ∧ ErrIs w' E 0 (-1) ∧ Below (w.alloc (.cells #[.slice ca m ccap, .string kb, .int .i64 per, .slice na r ncap] 32)).heap.size (w.alloc (.cells #[.slice ca m ccap, .string kb, .int .i64 per, .slice na r ncap] 32)) w') from h _ hb1)
 have HB1 : Hid (Below w.heap.size w (w.alloc (.cells #[.slice ca m ccap, .string kb, .int .i64 per, .slice na r ncap] 32))) := hb1
 have HP : Hid (∀ W, Below w.heap.size w W → Calls Tryz.prog 49 #[.slice pa n pcap] W fun e w' => ∃ E, e = .returned E ∧ ErrIs w' E c p ∧ Below W.heap.size W w') := hp
 clear h hb1 hp
 go_enter Tryz.func20, Tryz.ntmps20
 go_wp2_with fail
 refine HC.out.mono ?_
 rintro e w1 ⟨E, rfl, h1, h2⟩
 obtain rfl := h1.none_ rfl
 have HB2 : Hid (Below w.heap.size w w1) := HB1.out.trans (h2.mono HB1.out.size)
 clear h1 h2 HC
 go_wp2_with fail
 refine (HP.out _ HB2.out).mono ?_
 rintro e w2 ⟨E, rfl, h1, h2⟩
 obtain ⟨ty, v, rfl⟩ := h1.some_ (by omega)
 have H1 : Hid (GateBad c p w (.returned (.tuple #[.slice none 0 0, .slice none 0 0, .iface ty v])) w2) := ⟨none, 0, none, 0, _, rfl, h1, HB2.out.trans (h2.mono HB2.out.size)⟩
 clear h1 h2
 go_wp2_with fail
 (try simp only [Exit.inBlock, Exit.then])
 refine bodyPost_ret (results_tmp3 rfl _ _ _) rfl ?_
 exact H1.out
end
set_option maxRecDepth 100000 in
set_option maxHeartbeats 4000000 in
theorem gateRun_main (ca : Option Addr) (ccap : Nat) (cs : List (List (Int × Int))) (kb : ByteArray) (per : Int) (na : Option Addr) (ncap : Nat) (ns : List Int) (pa : Option Addr) (pcap : Nat) (ps : List Pk) (w : World) (ad : Nat → Addr) (he : Errs9 w ad) (hg : GateLies w ca ccap cs na ncap ns) (hp : PksLie w pa pcap ps) (hok : GateOk cs (kindOf kb.toList) per ns) (ho : OkPks ps) :
  Calls Tryz.prog 20 #[.agg #[.slice ca cs.length ccap, .string kb, .int .i64 per, .slice na ns.length ncap], .slice pa ps.length pcap] w fun e w' =>
   (∀ i : Nat, NeverAt (curveFl cs) ps i → (∀ j, j < i → ¬ NeverAt (curveFl cs) ps j) → GateBad 4 i w e w') ∧ ((∀ i, ¬ NeverAt (curveFl cs) ps i) → GateGood cs (kindOf kb.toList) per ns ps w e w') := by
 obtain ⟨k, hk⟩ : ∃ k, kindOf kb.toList = k := ⟨_, rfl⟩
 rw [hk] at hok ⊢
 obtain ⟨m, hm⟩ : ∃ m, cs.length = m := ⟨_, rfl⟩
 obtain ⟨r, hr⟩ : ∃ r, ns.length = r := ⟨_, rfl⟩
 obtain ⟨n, hn⟩ : ∃ n, ps.length = n := ⟨_, rfl⟩
 have HCk : Hid (∀ W, Below w.heap.size w W → Calls Tryz.prog 29 #[.agg #[.slice ca m ccap, .string kb, .int .i64 per, .slice na r ncap]] W fun e w' => e = .returned .nilIface ∧ Below W.heap.size W w') := fun W hW => by
  have hi : GateIs cs (kindOf kb.toList) per ns 0 (-1) := by
   rw [hk]
   exact .inr (.inr ⟨hok.len, hok.curves, rfl, .inr ⟨hok.kind.1, hok.kind.2, .inr ⟨hok.per.1, hok.per.2, 0, hok.nums, rfl⟩⟩⟩)
  have := gateCheck_is ca ccap cs kb per na ncap ns W ad 0 (-1) (he.below hW) (hg.below hW) hi
  rw [hm, hr] at this
  refine this.mono ?_
  rintro e w' ⟨E, rfl, h1, h2⟩
  rw [h1.none_ rfl]
  exact ⟨rfl, h2⟩
 have HPc : Hid (∀ W, Below w.heap.size w W → Calls Tryz.prog 49 #[.slice pa n pcap] W fun e w' => e = .returned .nilIface ∧ Below W.heap.size W w') := fun W hW => by
  have := pcheck_ok pa pcap ps W (hp.pks.below hW) ho
  rwa [hn] at this
 have HSa : Hid (∀ W, Below w.heap.size w W → Calls Tryz.prog 50 #[.slice ca m ccap, .slice pa n pcap] W fun e w' => ShapeAllEnd cs ps ad W e w') := fun W hW => by
  have := shapeAll_any ca ccap cs pa pcap ps W ad (he.below hW) (hg.curves.below hW) hok.len hok.curves (hp.below hW) ho
  rwa [hm, hn] at this
 obtain ⟨b, hb⟩ : ∃ b, decide (k ≠ 0) = b := ⟨_, rfl⟩
 have HSe : Hid (∀ W, Calls Tryz.prog 51 #[] W fun e w' => SendersEnd kb k b W e w') := fun W => senders_is kb k hk b hb W
 have hb1 : Below w.heap.size w (w.alloc (.cells #[.slice ca m ccap, .string kb, .int .i64 per, .slice na r ncap] 32)) := (Below.refl _ _).alloc (Nat.le_refl _) _
 have hga := gateAt_new w (.slice ca m ccap) kb per (.slice na r ncap) 32
 have HG : Hid (GateAt (w.alloc (.cells #[.slice ca m ccap, .string kb, .int .i64 per, .slice na r ncap] 32)) w.heap.size (.slice ca m ccap) kb per (.slice na r ncap)) := hga
 have HB1 : Hid (Below w.heap.size w (w.alloc (.cells #[.slice ca m ccap, .string kb, .int .i64 per, .slice na r ncap] 32))) := hb1
 have HE : Hid (Errs9 w ad) := he
 have HN : Hid (LiesN w na ns) := hg.nums
 have HK : Hid (GateOk cs k per ns ∧ OkPks ps ∧ ns.length = r) := ⟨hok, ho, hr⟩
 have HCo : Hid (CurvesOk (curveFl cs)) := fun f hf => by
  obtain ⟨ls, hls, -⟩ := get_some cs f (by rw [hok.len]; exact hf)
  rw [curveFl_get hls]
  exact hok.curves f ls hf hls
 rw [hm, hr, hn]
 clear he hg hp hok ho hk hm hr hn hb hb1 hga
 go_enter Tryz.func20, Tryz.ntmps20
 go_wp2_with fail
 refine (HCk.out _ HB1.out).mono ?_
 rintro e w1 ⟨rfl, h1⟩
 have HB2 : Hid (Below w.heap.size w w1) := HB1.out.trans (h1.mono HB1.out.size)
 have HG1 : Hid (GateAt w1 w.heap.size (.slice ca m ccap) kb per (.slice na r ncap)) := HG.out.later h1
 clear h1
 go_wp2_with fail
 refine (HPc.out _ HB2.out).mono ?_
 rintro e w2 ⟨rfl, h2⟩
 have HB3 : Hid (Below w.heap.size w w2) := HB2.out.trans (h2.mono HB2.out.size)
 have HG2 : Hid (GateAt w2 w.heap.size (.slice ca m ccap) kb per (.slice na r ncap)) := HG1.out.later h2
 have g0 := HG2.out.c0
 clear h2
 go_wp2_with fail
 refine (HSa.out _ HB3.out).mono ?_
 rintro e w3 ⟨hb3, ⟨i, F, hni, hall, rfl, hF0, hF1⟩ | ⟨qa, qcap, at_, L, hnev, hsh, hord, rfl, hpl⟩⟩
 ·
  have HB4 : Hid (Below w.heap.size w w3) := HB3.out.trans (hb3.mono HB3.out.size)
  have HEnd : Hid (GateBad 4 i w (.returned (.tuple #[.slice none 0 0, .slice none 0 0, .iface 110 (.pointer (some ⟨F, 0, none⟩))])) w3) := by
   refine ⟨none, 0, none, 0, _, rfl, ⟨?_, fun h => absurd h (by decide), fun _ => ⟨_, _, rfl⟩⟩, HB4.out⟩
   have := codeIs_fault (HE.out.below HB4.out) 3 (by omega) (i : Int) F hF0 hF1
   simpa using this
  have HNi : Hid (NeverAt (curveFl cs) ps i ∧ ∀ j, j < i → ¬ NeverAt (curveFl cs) ps j) := ⟨hni, hall⟩
  clear hb3 hni hall hF0 hF1 g0
  go_wp2_with fail
  (try simp only [Exit.inBlock, Exit.then])
  refine bodyPost_ret (results_tmp3 rfl _ _ _) rfl ?_
  refine ⟨fun i' h1 h2 => ?_, fun h => absurd HNi.out.1 (h i)⟩
  obtain rfl : i' = i := by
   rcases Nat.lt_trichotomy i' i with h | h | h
   · exact absurd h1 (HNi.out.2 i' h)
   · exact h
   · exact absurd HNi.out.1 (h2 i h)
  exact HEnd.out
 ·
  have HB4 : Hid (Below w.heap.size w w3) := HB3.out.trans (hb3.mono HB3.out.size)
  have HG3 : Hid (GateAt w3 w.heap.size (.slice ca m ccap) kb per (.slice na r ncap)) := HG2.out.later hb3
  have HQ : Hid ((∀ i, ¬ NeverAt (curveFl cs) ps i) ∧ Shaped (curveFl cs) ps at_ ∧ IsOrder at_ ps.length L) := ⟨hnev, hsh, hord⟩
  have HQo : Hid (OkPks (gatePks ps at_ L)) := hsh.ok HK.out.2.1 HCo.out hord
  have HPl : Hid (PksLie w3 qa qcap (gatePks ps at_ L)) := hpl
  obtain ⟨q, hq⟩ : ∃ q, (gatePks ps at_ L).length = q := ⟨_, rfl⟩
  have HQn : Hid ((gatePks ps at_ L).length = q) := hq
  rw [hq]
  have g1 := HG3.out.c1
  have g2 := HG3.out.c2
  have g3 := HG3.out.c3
  have HSb : Hid (∀ W, Below w3.heap.size w3 W → W.cell? ⟨w.heap.size, 1, none⟩ = some (.string kb) ∧ W.cell? ⟨w.heap.size, 2, none⟩ = some (.int .i64 per) ∧ W.cell? ⟨w.heap.size, 3, none⟩ = some (.slice na r ncap)) := fun W hW => ⟨cell_later hW HG3.out.c1, cell_later hW HG3.out.c2, cell_later hW HG3.out.c3⟩
  have HD : Hid (Below w3.heap.size w3 w3.drew) := below_drewN (Below.refl _ _) 1
  have HSend : Hid (∀ F bd W, Below w3.heap.size w3 W → SendBy W k F bd → Calls Tryz.prog F (#[.slice qa q qcap, .int .i64 per, .slice na r ncap] ++ bd) W fun e w' => SendEnd k per ns (gatePks ps at_ L) 0 W e w') := fun F bd W hW hby => by
   have hbw := HB4.out.trans (hW.mono HB4.out.size)
   have := hby.send qa qcap (gatePks ps at_ L) per na ncap ns W ad 0 (Below.refl _ _) (HE.out.below hbw) (HPl.out.below hW) (HN.out.below hbw) HQo.out (.inr ⟨HK.out.1.per.1, HK.out.1.per.2, 0, HK.out.1.nums, rfl⟩)
   rwa [HQn.out, HK.out.2.2] at this
  clear hb3 hnev hsh hord hpl hq g0
  go_wp2_with fail
  go_region_held3 (fun w' => w'.cell? ⟨w.heap.size, 1, none⟩ = some (.string kb) ∧ w'.cell? ⟨w.heap.size, 2, none⟩ = some (.int .i64 per) ∧ w'.cell? ⟨w.heap.size, 3, none⟩ = some (.slice na r ncap))
   (first | exact hS | exact HSb.out _ HD.out)
   (first
   | (go_at_call 51; refine (HSe.out _).mono ?_; rintro e w4 ⟨M, fv, rfl, hb4, hlk1, hlk, hfv⟩; have HB5 : Hid (Below w3.heap.size w3 w4) := (by exact HD.out.trans (hb4.mono HD.out.size)); have hS := HSb.out w4 HB5.out; obtain ⟨F, bd, rfl, hby⟩ := hfv HK.out.1.kind.1; have hcF := hby.call; have HBy : Hid (SendBy w4 k F bd) := hby; clear hb4 hlk1 hby)
   | (refine (HSend.out F bd w4 HB5.out HBy.out).mono ?_; rintro e w5 ⟨la, nl, lcap, E, rfl, hE, hb5, hl5⟩; have hS := HSb.out w5 (HB5.out.trans (hb5.mono HB5.out.size)); have HX : Hid (ErrIs w5 E 0 (-1) ∧ Below w4.heap.size w4 w5 ∧ ∃ l, nl = l.length ∧ SntLie w5 la lcap l ∧ LinkSends k per (gatePks ps at_ L) ns l) := ⟨hE, hb5, hl5 rfl⟩; clear hE hb5 hl5))
  all_goals
   obtain ⟨hE, hb5, l, hln, hsl, hls⟩ := HX.out
   obtain rfl := hE.none_ rfl
   have HEnd : Hid (GateGood cs k per ns ps w (.returned (.tuple #[.slice qa q qcap, .slice la nl lcap, .nilIface])) w5) := by
    have hb35 := HB5.out.trans (hb5.mono HB5.out.size)
    refine ⟨qa, qcap, la, lcap, gatePks ps at_ L, l, by rw [HQn.out, hln], HPl.out.below hb35, hsl, ⟨at_, L, HQ.out.2.1, HQ.out.2.2, rfl, hls⟩, HB4.out.trans (hb35.mono HB4.out.size)⟩
   clear hE hb5 hln hsl hls HX hS g1 g2 g3
   go_wp2_with fail
   (try simp only [Exit.inBlock, Exit.then])
   refine bodyPost_ret (results_tmp3 rfl _ _ _) rfl ?_
   exact ⟨fun i h _ => absurd h (HQ.out.1 i), fun _ => HEnd.out⟩
theorem gateWalks : GateWalks where
 check := gateCheck_is
 bad := fun ca ccap cs kb per na ncap ns pa pcap ps w ad c p he hg hp h hc => by
  rcases h with ⟨h, -⟩ | ⟨hok, h, -⟩ | ⟨hok, ho, i, hn, hall, rfl, rfl⟩ | ⟨-, -, -, rfl, -⟩
  · exact gateRun_gate ca _ ccap kb per na _ ncap pa _ pcap w c p hc fun W hW => gateCheck_is ca ccap cs kb per na ncap ns W ad c p (he.below hW) (hg.below hW) h
  ·
   refine gateRun_pks ca _ ccap kb per na _ ncap pa _ pcap w c p hc (fun W hW => gateCheck_is ca ccap cs kb per na ncap ns W ad 0 (-1) (he.below hW) (hg.below hW) ?_) (fun W hW => pcheck_is pa pcap ps W ad (he.below hW) (hp.pks.below hW) hp.cap hp.max c p h)
   exact .inr (.inr ⟨hok.len, hok.curves, rfl, .inr ⟨hok.kind.1, hok.kind.2, .inr ⟨hok.per.1, hok.per.2, 0, hok.nums, rfl⟩⟩⟩)
  · exact (gateRun_main ca ccap cs kb per na ncap ns pa pcap ps w ad he hg hp hok ho).mono fun _ _ h => h.1 i hn hall
  · omega
 good := fun ca ccap cs kb per na ncap ns pa pcap ps w ad he hg hp hok ho hn => (gateRun_main ca ccap cs kb per na ncap ns pa pcap ps w ad he hg hp hok ho).mono fun _ _ h => h.2 hn
end Go.Proofs.YtibhkijaafdkoaaGreatDoor

namespace Go.Proofs.YtibhkijaafdkoaaGreatDoor
open Go.RowKit
theorem sumOf_by (a1 a2 : Option Addr) (cap1 cap2 : Nat) (la lb : List (Int × Int)) (w : World) (h1 : Lies w a1 la) (h2 : Lies w a2 lb) (k1 : okCurve la) (k2 : okCurve lb) :
  Calls Tryz.prog 42 #[.slice a1 la.length cap1, .slice a2 lb.length cap2] w fun e w' => ∃ a cap code L, e = .returned (.tuple #[.slice a L.length cap, .int .i64 code]) ∧ SumRel la lb code L ∧ Lies w' a L ∧ L.length ≤ cap ∧ cap ≤ maxLen ∧ Below w.heap.size w w' := by
 refine (sumOf_ok a1 a2 cap1 cap2 la lb w h1 h2 k1.2.1 k2.2.1 k1.2.2 k2.2.2).mono ?_
 rintro e w' h
 obtain ⟨code, L, hr⟩ : ∃ code L, SumRel la lb code L := by
  obtain ⟨-, ⟨hn, -⟩ | ⟨hok, R, hk, -⟩⟩ := h
  · exact ⟨2, [], .inl ⟨hn, rfl, rfl⟩⟩
  ·
   rcases Nat.lt_or_ge 6 R.length with h6 | h6
   · exact ⟨3, [], .inr ⟨hok, R, tidyIs_of hk, .inl ⟨h6, rfl, rfl⟩⟩⟩
   · exact ⟨0, R, .inr ⟨hok, R, tidyIs_of hk, .inr ⟨h6, rfl, rfl⟩⟩⟩
 obtain ⟨v, rfl, ho, hb⟩ := sumOf_is h hr
 obtain ⟨a, n, cap, rfl⟩ : ∃ a n cap, v = .slice a n cap := by
  obtain ⟨-, ⟨rfl, -⟩ | ⟨g, cap, cur, rfl, -⟩⟩ := ho
  · exact ⟨_, _, _, rfl⟩
  · exact ⟨_, _, _, rfl⟩
 obtain ⟨rfl, e2, e3, e4⟩ := ho.lies
 exact ⟨a, cap, code, L, rfl, hr, e4, e2, e3, hb⟩
theorem delay_by (a : Option Addr) (cap : Nat) (L : List (Int × Int)) (per : Int) (w : World) (ad : Nat → Addr) (he : Errs9 w ad) (hl : Lies w a L) (hcap : L.length ≤ cap) (hm : cap ≤ maxLen) (hL : okCurve L) (h1 : 1 ≤ per) (h2 : per ≤ 1000) :
  Calls Tryz.prog 17 #[.slice a L.length cap, .int .i64 per] w fun e w' => ∃ o, DelayBy per L o ∧ NumEnd o w e w' := by
 by_cases hs : leastR L * per ≤ 1000
 ·
  refine (delay_ok a cap L per w hl hcap hm ⟨hL, h1, h2⟩ hs).mono ?_
  rintro e w' ⟨d, rfl, hd, hb⟩
  exact ⟨some d, .inl ⟨d, rfl, hd, hs⟩, hb, .inr ⟨d, rfl, rfl⟩⟩
 ·
  refine (delay_none a cap L per w ad he hl hcap hm ⟨hL, h1, h2⟩ (by omega)).mono ?_
  rintro e w' ⟨rfl, hb⟩
  exact ⟨none, .inr ⟨rfl, by omega⟩, hb, .inl ⟨rfl, _, rfl, errIs_sent (he.below hb) 3 (by omega)⟩⟩
theorem busy_by (a : Option Addr) (cap : Nat) (L : List (Int × Int)) (per : Int) (w : World) (ad : Nat → Addr) (he : Errs9 w ad) (hl : Lies w a L) (hcap : L.length ≤ cap) (hm : cap ≤ maxLen) (hL : okCurve L) (h1 : 1 ≤ per) (h2 : per ≤ 1000) :
  Calls Tryz.prog 18 #[.slice a L.length cap, .int .i64 per] w fun e w' => ∃ o, BusyBy per L o ∧ NumEnd o w e w' := by
 refine (busy_any a cap L per w ad he hl hcap hm ⟨hL, h1, h2⟩).mono ?_
 rintro e w' ⟨hb, ⟨n, hn, rfl⟩ | ⟨hn, rfl⟩⟩
 · exact ⟨some (per * n), .inl ⟨n, rfl, hn⟩, hb, .inr ⟨_, rfl, rfl⟩⟩
 · exact ⟨none, .inr ⟨rfl, hn⟩, hb, .inl ⟨rfl, _, rfl, errIs_sent (he.below hb) 3 (by omega)⟩⟩
theorem Tryz.callDelay (args : Array Value) (W : World) : Sem.run Tryz.prog (callFunc 17 args) W = .ok (.enter 17 args) W := by kernel_rfl
theorem Tryz.callBusy (args : Array Value) (W : World) : Sem.run Tryz.prog (callFunc 18 args) W = .ok (.enter 18 args) W := by kernel_rfl
section
variable (ca : Option Addr) (m ccap : Nat) (kb : ByteArray) (per : Int) (na : Option Addr) (r ncap : Nat) (w : World)
set_option maxRecDepth 100000 in
set_option maxHeartbeats 2000000 in
theorem gateBound_gate (c p : Int) (hc : 0 < c) (h : CheckTells w (.agg #[.slice ca m ccap, .string kb, .int .i64 per, .slice na r ncap]) c p) :
  Calls Tryz.prog 11 #[.agg #[.slice ca m ccap, .string kb, .int .i64 per, .slice na r ncap]] w fun e w' => ∃ E, e = .returned (.tuple #[.int .i64 0, E]) ∧ ErrIs w' E c p ∧ Below w.heap.size w w' := by
 have hb1 : Below w.heap.size w (w.alloc (.cells #[.slice ca m ccap, .string kb, .int .i64 per, .slice na r ncap] 32)) := (Below.refl _ _).alloc (Nat.le_refl _) _
 have HC := (show Hid (Calls Tryz.prog 29 #[.agg #[.slice ca m ccap, .string kb, .int .i64 per, .slice na r ncap]] (w.alloc (.cells #[.slice ca m ccap, .string kb, .int .i64 per, .slice na r ncap] 32)) fun e w' => ∃ E, e = .returned E ∧ ErrIs w' E c p ∧ Below (w.alloc (.cells #[.slice ca m ccap, .string kb, .int .i64 per, .slice na r ncap] 32)).heap.size (w.alloc (.cells #[.slice ca m ccap, .string kb, .int .i64 per, .slice na r ncap] 32)) w') from h _ hb1)
 have HB1 : Hid (Below w.heap.size w (w.alloc (.cells #[.slice ca m ccap, .string kb, .int .i64 per, .slice na r ncap] 32))) := hb1
 clear h hb1
 go_enter Tryz.func11, Tryz.ntmps11
 go_wp2_with fail
 refine HC.out.mono ?_
 rintro e w1 ⟨E, rfl, h1, h2⟩
 obtain ⟨ty, v, rfl⟩ := h1.some_ (by omega)
 have H1 : Hid (ErrIs w1 (.iface ty v) c p ∧ Below w.heap.size w w1) := ⟨h1, HB1.out.trans (h2.mono HB1.out.size)⟩
 clear h1 h2 HC
 go_wp2_with fail
 go_ret2
 exact ⟨_, rfl, H1.out⟩
set_option maxRecDepth 100000 in
set_option maxHeartbeats 4000000 in
theorem gateBound_main (cs : List (List (Int × Int))) (k : Nat) (hkb : kindOf kb.toList = k) (ad : Nat → Addr) (he : Errs9 w ad) (h1 : 1 ≤ per) (h2 : per ≤ 1000) (hco : CurvesOk (curveFl cs)) (h : CheckTells w (.agg #[.slice ca m ccap, .string kb, .int .i64 per, .slice na r ncap]) 0 (-1)) (ht : ∀ W, Below w.heap.size w W → Calls Tryz.prog 34 #[.slice ca m ccap] W fun e w' => TogetherEnd cs W e w') :
  Calls Tryz.prog 11 #[.agg #[.slice ca m ccap, .string kb, .int .i64 per, .slice na r ncap]] w fun e w' => ∃ o, BoundIs SumRel DelayBy BusyBy cs k per o ∧ NumEnd o w e w' := by
 have hb1 : Below w.heap.size w (w.alloc (.cells #[.slice ca m ccap, .string kb, .int .i64 per, .slice na r ncap] 32)) := (Below.refl _ _).alloc (Nat.le_refl _) _
 have hga := gateAt_new w (.slice ca m ccap) kb per (.slice na r ncap) 32
 have HC := (show Hid (Calls Tryz.prog 29 #[.agg #[.slice ca m ccap, .string kb, .int .i64 per, .slice na r ncap]] (w.alloc (.cells #[.slice ca m ccap, .string kb, .int .i64 per, .slice na r ncap] 32)) fun e w' => ∃ E, e = .returned E ∧ ErrIs w' E 0 (-1) ∧ Below (w.alloc (.cells #[.slice ca m ccap, .string kb, .int .i64 per, .slice na r ncap] 32)).heap.size (w.alloc (.cells #[.slice ca m ccap, .string kb, .int .i64 per, .slice na r ncap] 32)) w') from h _ hb1)
 have HB1 : Hid (Below w.heap.size w (w.alloc (.cells #[.slice ca m ccap, .string kb, .int .i64 per, .slice na r ncap] 32))) := hb1
 have HG : Hid (GateAt (w.alloc (.cells #[.slice ca m ccap, .string kb, .int .i64 per, .slice na r ncap] 32)) w.heap.size (.slice ca m ccap) kb per (.slice na r ncap)) := hga
 have HT : Hid (∀ W, Below w.heap.size w W → Calls Tryz.prog 34 #[.slice ca m ccap] W fun e w' => TogetherEnd cs W e w') := ht
 have HE : Hid (Errs9 w ad) := he
 have HCo : Hid (CurvesOk (curveFl cs)) := hco
 have hkt := kindTests kb
 rw [hkb] at hkt
 have t1 := hkt.t1
 have u1 := hkt.u1
 have hcD := Tryz.callDelay
 have hcB := Tryz.callBusy
 clear h hb1 hga ht he hco hkt hkb
 obtain ⟨isF, hF⟩ : ∃ b, decide (k = 1) = b := ⟨_, rfl⟩
 rw [hF] at t1 u1
 have HF : Hid (decide (k = 1) = isF) := hF
 clear hF
 go_enter Tryz.func11, Tryz.ntmps11
 go_wp2_with fail
 refine HC.out.mono ?_
 rintro e w1 ⟨E, rfl, he1, hb2⟩
 obtain rfl := he1.none_ rfl
 have HB2 : Hid (Below w.heap.size w w1) := HB1.out.trans (hb2.mono HB1.out.size)
 have HG1 : Hid (GateAt w1 w.heap.size (.slice ca m ccap) kb per (.slice na r ncap)) := HG.out.later hb2
 have g0 := HG1.out.c0
 clear he1 hb2 HC
 go_wp2_with fail
 refine (HT.out _ HB2.out).mono ?_
 rintro e w2 ⟨hb3, ⟨a, cap, L, hall, rfl, hlL, hL1, hL2⟩ | ⟨hnone, ty, v, rfl⟩⟩
 ·
  have HB3 : Hid (Below w.heap.size w w2) := HB2.out.trans (hb3.mono HB2.out.size)
  have HG2 : Hid (GateAt w2 w.heap.size (.slice ca m ccap) kb per (.slice na r ncap)) := HG1.out.later hb3
  have hokL : okCurve L := by
   obtain ⟨h0, q, -, hq8, hq, -⟩ := hall
   exact addTo_ok sumWay HCo.out h0 q L hq8 hq
  have g1 := HG2.out.c1
  have g2 := HG2.out.c2
  have HAll : Hid (CurveAll SumRel cs L) := hall
  have HDe := (show Hid (Calls Tryz.prog 17 #[.slice a L.length cap, .int .i64 per] w2 fun e w' => ∃ o, DelayBy per L o ∧ NumEnd o w2 e w') from delay_by a cap L per w2 ad (HE.out.below HB3.out) hlL hL1 hL2 hokL h1 h2)
  have HBu := (show Hid (Calls Tryz.prog 18 #[.slice a L.length cap, .int .i64 per] w2 fun e w' => ∃ o, BusyBy per L o ∧ NumEnd o w2 e w') from busy_by a cap L per w2 ad (HE.out.below HB3.out) hlL hL1 hL2 hokL h1 h2)
  obtain ⟨n, hn⟩ : ∃ n, L.length = n := ⟨_, rfl⟩
  rw [hn] at HDe HBu ⊢
  have HEndE : Hid (∀ o w3, BoundIs SumRel DelayBy BusyBy cs k per o → Below w2.heap.size w2 w3 → o = none → ∃ ad3, w3.cell? ⟨0, 0, none⟩ = some (.iface 271 (.pointer (some ad3))) ∧ ∀ q, ∃ o, BoundIs SumRel DelayBy BusyBy cs k per o ∧ NumEnd o w (.returned (.tuple #[.int .i64 0, .iface 271 (.pointer (some ad3))])) (w3.drewN q)) := fun o w3 ho hb hn => by
   have hb' := HB3.out.trans (hb.mono HB3.out.size)
   refine ⟨ad 3, (HE.out.below hb').c3, fun q => ⟨none, by rw [hn] at ho; exact ho, below_drewN hb' q, .inl ⟨rfl, _, rfl, errIs_sent (HE.out.below (below_drewN hb' q)) 3 (by omega)⟩⟩⟩
  have HEndN : Hid (∀ d w3, BoundIs SumRel DelayBy BusyBy cs k per (some d) → Below w2.heap.size w2 w3 → ∃ o, BoundIs SumRel DelayBy BusyBy cs k per o ∧ NumEnd o w (.returned (.tuple #[.int .i64 d, .nilIface])) w3) := fun d w3 ho hb => ⟨some d, ho, HB3.out.trans (hb.mono HB3.out.size), .inr ⟨d, rfl, rfl⟩⟩
  clear hb3 hall hlL hL1 hL2 hokL hn
  cases isF with
  | true =>
   have hk1 : k = 1 := by have := HF.out; simpa using this
   have HBd : Hid (∀ o, DelayBy per L o → BoundIs SumRel DelayBy BusyBy cs k per o) := fun o ho => .inr ⟨L, HAll.out, .inl ⟨hk1, ho⟩⟩
   clear hk1 HBu
   go_wp2_with fail
   refine HDe.out.mono ?_
   rintro e w3 ⟨o, ho, hb4, ⟨hon, E, rfl, hE⟩ | ⟨d, hod, rfl⟩⟩
   ·
    obtain ⟨ty, v, rfl⟩ := hE.some_ (by decide)
    obtain ⟨ad3, c3, hend⟩ := HEndE.out o w3 (HBd.out o ho) hb4 hon
    have HEd : Hid (∀ q, ∃ o, BoundIs SumRel DelayBy BusyBy cs k per o ∧ NumEnd o w (.returned (.tuple #[.int .i64 0, .iface 271 (.pointer (some ad3))])) (w3.drewN q)) := hend
    clear ho hb4 hon hE hend HDe
    go_wp2_with fail
    go_quiet (fail)
    go_wp2_with fail
    go_ret2
    exact HEd.out nq
   ·
    rw [hod] at ho
    have HEd : Hid (∃ o, BoundIs SumRel DelayBy BusyBy cs k per o ∧ NumEnd o w (.returned (.tuple #[.int .i64 d, .nilIface])) w3) := HEndN.out d w3 (HBd.out _ ho) hb4
    clear ho hb4 hod HDe
    go_wp2_with fail
    go_ret2
    exact HEd.out
  | false =>
   have hk1 : k ≠ 1 := by have := HF.out; simpa using this
   have HBd : Hid (∀ o, BusyBy per L o → BoundIs SumRel DelayBy BusyBy cs k per o) := fun o ho => .inr ⟨L, HAll.out, .inr ⟨hk1, ho⟩⟩
   clear hk1 HDe
   go_wp2_with fail
   refine HBu.out.mono ?_
   rintro e w3 ⟨o, ho, hb4, ⟨hon, E, rfl, hE⟩ | ⟨d, hod, rfl⟩⟩
   ·
    obtain ⟨ty, v, rfl⟩ := hE.some_ (by decide)
    obtain ⟨ad3, c3, hend⟩ := HEndE.out o w3 (HBd.out o ho) hb4 hon
    have HEd : Hid (∀ q, ∃ o, BoundIs SumRel DelayBy BusyBy cs k per o ∧ NumEnd o w (.returned (.tuple #[.int .i64 0, .iface 271 (.pointer (some ad3))])) (w3.drewN q)) := hend
    clear ho hb4 hon hE hend HBu
    go_wp2_with fail
    go_quiet (fail)
    go_wp2_with fail
    go_ret2
    exact HEd.out nq
   ·
    rw [hod] at ho
    have HEd : Hid (∃ o, BoundIs SumRel DelayBy BusyBy cs k per o ∧ NumEnd o w (.returned (.tuple #[.int .i64 d, .nilIface])) w3) := HEndN.out d w3 (HBd.out _ ho) hb4
    clear ho hb4 hod HBu
    go_wp2_with fail
    go_ret2
    exact HEd.out
 ·
  have HB3 : Hid (Below w.heap.size w w2) := HB2.out.trans (hb3.mono HB2.out.size)
  have c3 := (HE.out.below HB3.out).c3
  have HEd : Hid (∀ q, ∃ o, BoundIs SumRel DelayBy BusyBy cs k per o ∧ NumEnd o w (.returned (.tuple #[.int .i64 0, .iface 271 (.pointer (some (ad 3)))])) (w2.drewN q)) := fun q => ⟨none, .inl ⟨hnone, rfl⟩, below_drewN HB3.out q, .inl ⟨rfl, _, rfl, errIs_sent (HE.out.below (below_drewN HB3.out q)) 3 (by omega)⟩⟩
  clear hb3 hnone
  go_wp2_with fail
  go_quiet (fail)
  go_wp2_with fail
  go_ret2
  exact HEd.out nq
end
theorem boundWalks : BoundWalks SumRel DelayBy BusyBy where
 way := sumWay
 sumOf := sumOf_by
 delay1 := delay_one_by
 busy1 := busy_one_by
 delay := delay_by
 busy := busy_by
 bad := fun ca ccap cs kb per na ncap ns w ad c p he hg h hc => gateBound_gate ca _ ccap kb per na _ ncap w c p hc fun W hW => gateCheck_is ca ccap cs kb per na ncap ns W ad c p (he.below hW) (hg.below hW) h
 good := fun ca ccap cs kb per na ncap ns w ad he hg hok => by
  refine gateBound_main ca _ ccap kb per na _ ncap w cs _ rfl ad he hok.per.1 hok.per.2 (fun f hf => ?_) (fun W hW => gateCheck_is ca ccap cs kb per na ncap ns W ad 0 (-1) (he.below hW) (hg.below hW) ?_) (fun W hW => together_any ca ccap cs W ad (he.below hW) (hg.curves.below hW) hok.len hg.cfit hok.curves)
  ·
   obtain ⟨ls, hls, -⟩ := get_some cs f (by rw [hok.len]; exact hf)
   rw [curveFl_get hls]
   exact hok.curves f ls hf hls
  · exact .inr (.inr ⟨hok.len, hok.curves, rfl, .inr ⟨hok.kind.1, hok.kind.2, .inr ⟨hok.per.1, hok.per.2, 0, hok.nums, rfl⟩⟩⟩)
end Go.Proofs.YtibhkijaafdkoaaGreatDoor

namespace Go.Proofs.YtibhkijaafdkoaaGreatDoor
open Go.ChangeShapes Go.WideShapes Go.ChangeAt Go.RowKit
theorem Tryz.own : ownKnob Tryz.prog.godebug = none := by kernel_rfl
theorem Tryz.laidOut : laidOutB Tryz.prog = true := by kernel_rfl
theorem Tryz.cellsInt : Tryz.prog.cellsOf 3 = 1 := by kernel_rfl
theorem Tryz.cellsES : Tryz.prog.cellsOf 291 = 1 := by kernel_rfl
theorem Tryz.cellsStr : Tryz.prog.cellsOf 9 = 1 := by kernel_rfl
def nameES : String := match (Rows.laid_floodgate_api_ErrBound : DataW Unit) with | .iface n _ => n | _ => "none"
theorem rows_star {P : Program} {tp : TypeId} {s : String} (hs : s = nameES) (h : ((List.range P.types.size).all fun u => P.typeName? 3 u != some nameES || u == tp) = true) : ((List.range P.types.size).all fun u => P.typeName? 3 u != some s || u == tp) = true := by
 rw [hs]
 exact h
theorem Tryz.rowPES (u : TypeId) (h : Tryz.prog.typeName? 3 u = some nameES) : u = 271 :=
 typeName_ptr_named (P := Tryz.prog) (nm := "errors.errorString") (tp := 271) (rows_star (by decide) (by kernel_rfl)) (by kernel_rfl) (by decide) u (h.trans (congrArg some (by decide)))
set_option maxRecDepth 100000 in
theorem sentinel_of_laid {n nm : String} {text : List UInt8} {r : List (String × DataW Unit)} {W : World} {g : Nat}
  (h : laidMet Tryz.prog ((n, .iface nm (.ptr (.agg [.lit (.string text)]))) :: r) W)
  (hnm : nm = nameES) (hg : Tryz.prog.globalNamed n = some g) (ht : (Tryz.prog.globals[g]?).map (·.type) = some 29) :
  ∃ (a : Addr) (s : ByteArray), W.cell? ⟨g, 0, none⟩ = some (.iface 271 (.pointer (some a))) ∧ W.cell? a = some (.string s) ∧ s.data.toList = text ∧ ∃ c t, W.heap[a.block]? = some (.cells c t (0, 0)) := by
 obtain ⟨ps, ⟨g0, t0, cs0, f0, p0, q0, hg0, ht0, hv0, hd0, _, e0⟩, _, hrows⟩ := h
 obtain rfl := Option.some.inj (hg.symm.trans hg0)
 obtain rfl := Option.some.inj (ht.symm.trans ht0)
 subst e0
 obtain ⟨l0⟩ := cs0
 have ok0 : ∀ u v, l0 = [.iface u v] → Value.okWide Tryz.prog W .any 0 u v := fun u v e => by
  subst e
  exact (hrows g 0 (by simp [MemPlace.row])).2 u v (by simpa using World.var?_cell hg0 hv0 0)
 obtain ⟨a0, s0, rfl, hc0, hs0, hz0, rfl⟩ := errorString_of_trod Tryz.underlying29 (fun u hu => Tryz.rowPES u (by rw [← hnm]; exact hu)) Tryz.underlying271 Tryz.underlying291 rfl rfl Tryz.underlying9 Tryz.cellsES Tryz.cellsStr hd0 ok0
 exact ⟨a0, s0, by simpa using World.var?_cell hg0 hv0 0, hc0, hs0, (hrows a0.block a0.off (by simp [MemPlace.row])).1⟩
end Go.Proofs.YtibhkijaafdkoaaGreatDoor
