/- Own facts, put together: no statement of its own. -/
import Derived.OwnWalk
import Derived.Test.YtibhkijaafdkoaaGreatDoorQ39
import Derived.Test.YtibhkijaafdkoaaGreatDoorQ49
import Derived.Test.YtibhkijaafdkoaaGreatDoorQ38
import Derived.Test.YtibhkijaafdkoaaGreatDoorQ01
import Derived.Test.YtibhkijaafdkoaaGreatDoorQ41
import Derived.Test.YtibhkijaafdkoaaGreatDoorQ21
import Derived.Test.YtibhkijaafdkoaaGreatDoorQ10
import Derived.Deep.AppendLies
import Derived.Deep.LoopGhost
import Derived.Test.YtibhkijaafdkoaaGreatDoorQ19
import Derived.Test.YtibhkijaafdkoaaGreatDoorQ24
import Derived.Test.YtibhkijaafdkoaaGreatDoorQ20
import Derived.Test.YtibhkijaafdkoaaGreatDoorQ29
import Derived.Test.YtibhkijaafdkoaaGreatDoorQ48
import Derived.Test.YtibhkijaafdkoaaGreatDoorQ15
namespace Go.Proofs.YtibhkijaafdkoaaGreatDoor
open Go.RowKit
def CheckTells (w : World) (g : Value) (c p : Int) : Prop := ∀ W, Below w.heap.size w W → Calls Tryz.prog 29 #[g] W fun e w' => ∃ E, e = .returned E ∧ ErrIs w' E c p ∧ Below W.heap.size W w'
section
variable (ca : Option Addr) (m ccap : Nat) (kb : ByteArray) (per : Int) (na : Option Addr) (r ncap : Nat) (pa : Option Addr) (n pcap : Nat) (w : World)
set_option maxRecDepth 100000 in
set_option maxHeartbeats 2000000 in
theorem gateRun_gate (c p : Int) (hc : 0 < c) (h : CheckTells w (.agg #[.slice ca m ccap, .string kb, .int .i64 per, .slice na r ncap]) c p) :
  Calls Tryz.prog 20 #[.agg #[.slice ca m ccap, .string kb, .int .i64 per, .slice na r ncap], .slice pa n pcap] w fun e w' => GateBad c p w e w' := by
 have hb1 : Below w.heap.size w (w.alloc (.cells #[.slice ca m ccap, .string kb, .int .i64 per, .slice na r ncap] 32)) := (Below.refl _ _).alloc (Nat.le_refl _) _
 have HC := (show Hid (Calls Tryz.prog 29 #[.agg #[.slice ca m ccap, .string kb, .int .i64 per, .slice na r ncap]] (w.alloc (.cells #[.slice ca m ccap, .string kb, .int .i64 per, .slice na r ncap] 32)) fun e w' => ∃ E, e = .returned E ∧ ErrIs w' E c p ∧ Below (w.alloc (.cells #[.slice ca m ccap, .string kb, .int .i64 per, .slice na r ncap] 32)).heap.size (w.alloc (.cells #[.slice ca m ccap, .string kb, .int .i64 per, .slice na r ncap] 32)) w') from h _ hb1)
 have HB1 : Hid (Below w.heap.size w (w.alloc (.cells #[.slice ca m ccap, .string kb, .int .i64 per, .slice na r ncap] 32))) := hb1
 clear h hb1
 go_enter Tryz.func20, Tryz.ntmps20
 go_wp2_with fail
 refine HC.out.mono ?_
 rintro e w1 ⟨E, rfl, h1, h2⟩
 obtain ⟨ty, v, rfl⟩ := h1.some_ (by omega)
 have H1 : Hid (GateBad c p w (.returned (.tuple #[.slice none 0 0, .slice none 0 0, .iface ty v])) w1) := ⟨none, 0, none, 0, _, rfl, h1, HB1.out.trans (h2.mono HB1.out.size)⟩
 clear h1 h2 HC
 go_wp2_with fail
 (try simp only [Exit.inBlock, Exit.then])
 refine bodyPost_ret (results_tmp3 rfl _ _ _) rfl ?_
 exact H1.out
set_option maxRecDepth 100000 in
set_option maxHeartbeats 2000000 in
theorem gateRun_pks (c p : Int) (hc : 0 < c) (h : CheckTells w (.agg #[.slice ca m ccap, .string kb, .int .i64 per, .slice na r ncap]) 0 (-1)) (hp : ∀ W, Below w.heap.size w W → Calls Tryz.prog 49 #[.slice pa n pcap] W fun e w' => ∃ E, e = .returned E ∧ ErrIs w' E c p ∧ Below W.heap.size W w') :
  Calls Tryz.prog 20 #[.agg #[.slice ca m ccap, .string kb, .int .i64 per, .slice na r ncap], .slice pa n pcap] w fun e w' => GateBad c p w e w' := by
 have hb1 : Below w.heap.size w (w.alloc (.cells #[.slice ca m ccap, .string kb, .int .i64 per, .slice na r ncap] 32)) := (Below.refl _ _).alloc (Nat.le_refl _) _
 have HC := (show Hid (Calls Tryz.prog 29 #[.agg #[.slice ca m ccap, .string kb, .int .i64 per, .slice na r ncap]] (w.alloc (.cells #[.slice ca m ccap, .string kb, .int .i64 per, .slice na r ncap] 32)) fun e w' => ∃ E, e = .returned E ∧ ErrIs w' E 0 (-1) ∧ Below (w.alloc (.cells #[.slice ca m ccap, .string kb, .int .i64 per, .slice na r ncap] 32)).heap.size (w.alloc (.cells #[.slice ca m ccap, .string kb, .int .i64 per, .slice na r ncap] 32)) w') from h _ hb1)
 have HB1 : Hid (Below w.heap.size w (w.alloc (.cells #[.slice ca m ccap, .string kb, .int .i64 per, .slice na r ncap] 32))) := hb1
 have HP : Hid (∀ W, Below w.heap.size w W → Calls Tryz.prog 49 #[.slice pa n pcap] W fun e w' => ∃ E, e = .returned E ∧ ErrIs w' E c p ∧ Below W.heap.size W w') := hp
 clear h hb1 hp
 go_enter Tryz.func20, Tryz.ntmps20
 go_wp2_with fail
 refine HC.out.mono ?_
 rintro e w1 ⟨E, rfl, h1, h2⟩
 obtain rfl := h1.none_ rfl
 have HB2 : Hid (Below w.heap.size w w1) := HB1.out.trans (h2.mono HB1.out.size)
 clear h1 h2 HC
 go_wp2_with fail
 refine (HP.out _ HB2.out).mono ?_
 rintro e w2 ⟨E, rfl, h1, h2⟩
 obtain ⟨ty, v, rfl⟩ := h1.some_ (by omega)
 have H1 : Hid (GateBad c p w (.returned (.tuple #[.slice none 0 0, .slice none 0 0, .iface ty v])) w2) := ⟨none, 0, none, 0, _, rfl, h1, HB2.out.trans (h2.mono HB2.out.size)⟩
 clear h1 h2
 go_wp2_with fail
 (try simp only [Exit.inBlock, Exit.then])
 refine bodyPost_ret (results_tmp3 rfl _ _ _) rfl ?_
 exact H1.out
end
set_option maxRecDepth 100000 in
set_option maxHeartbeats 4000000 in
theorem gateRun_main (ca : Option Addr) (ccap : Nat) (cs : List (List (Int × Int))) (kb : ByteArray) (per : Int) (na : Option Addr) (ncap : Nat) (ns : List Int) (pa : Option Addr) (pcap : Nat) (ps : List Pk) (w : World) (ad : Nat → Addr) (he : Errs9 w ad) (hg : GateLies w ca ccap cs na ncap ns) (hp : PksLie w pa pcap ps) (hok : GateOk cs (kindOf kb.toList) per ns) (ho : OkPks ps) :
  Calls Tryz.prog 20 #[.agg #[.slice ca cs.length ccap, .string kb, .int .i64 per, .slice na ns.length ncap], .slice pa ps.length pcap] w fun e w' =>
   (∀ i : Nat, NeverAt (curveFl cs) ps i → (∀ j, j < i → ¬ NeverAt (curveFl cs) ps j) → GateBad 4 i w e w') ∧ ((∀ i, ¬ NeverAt (curveFl cs) ps i) → GateGood cs (kindOf kb.toList) per ns ps w e w') := by
 obtain ⟨k, hk⟩ : ∃ k, kindOf kb.toList = k := ⟨_, rfl⟩
 rw [hk] at hok ⊢
 obtain ⟨m, hm⟩ : ∃ m, cs.length = m := ⟨_, rfl⟩
 obtain ⟨r, hr⟩ : ∃ r, ns.length = r := ⟨_, rfl⟩
 obtain ⟨n, hn⟩ : ∃ n, ps.length = n := ⟨_, rfl⟩
 have HCk : Hid (∀ W, Below w.heap.size w W → Calls Tryz.prog 29 #[.agg #[.slice ca m ccap, .string kb, .int .i64 per, .slice na r ncap]] W fun e w' => e = .returned .nilIface ∧ Below W.heap.size W w') := fun W hW => by
  have hi : GateIs cs (kindOf kb.toList) per ns 0 (-1) := by
   rw [hk]
   exact .inr (.inr ⟨hok.len, hok.curves, rfl, .inr ⟨hok.kind.1, hok.kind.2, .inr ⟨hok.per.1, hok.per.2, 0, hok.nums, rfl⟩⟩⟩)
  have := gateCheck_is ca ccap cs kb per na ncap ns W ad 0 (-1) (he.below hW) (hg.below hW) hi
  rw [hm, hr] at this
  refine this.mono ?_
  rintro e w' ⟨E, rfl, h1, h2⟩
  rw [h1.none_ rfl]
  exact ⟨rfl, h2⟩
 have HPc : Hid (∀ W, Below w.heap.size w W → Calls Tryz.prog 49 #[.slice pa n pcap] W fun e w' => e = .returned .nilIface ∧ Below W.heap.size W w') := fun W hW => by
  have := pcheck_ok pa pcap ps W (hp.pks.below hW) ho
  rwa [hn] at this
 have HSa : Hid (∀ W, Below w.heap.size w W → Calls Tryz.prog 50 #[.slice ca m ccap, .slice pa n pcap] W fun e w' => ShapeAllEnd cs ps ad W e w') := fun W hW => by
  have := shapeAll_any ca ccap cs pa pcap ps W ad (he.below hW) (hg.curves.below hW) hok.len hok.curves (hp.below hW) ho
  rwa [hm, hn] at this
 obtain ⟨b, hb⟩ : ∃ b, decide (k ≠ 0) = b := ⟨_, rfl⟩
 have HSe : Hid (∀ W, Calls Tryz.prog 51 #[] W fun e w' => SendersEnd kb k b W e w') := fun W => senders_is kb k hk b hb W
 have hb1 : Below w.heap.size w (w.alloc (.cells #[.slice ca m ccap, .string kb, .int .i64 per, .slice na r ncap] 32)) := (Below.refl _ _).alloc (Nat.le_refl _) _
 have hga := gateAt_new w (.slice ca m ccap) kb per (.slice na r ncap) 32
 have HG : Hid (GateAt (w.alloc (.cells #[.slice ca m ccap, .string kb, .int .i64 per, .slice na r ncap] 32)) w.heap.size (.slice ca m ccap) kb per (.slice na r ncap)) := hga
 have HB1 : Hid (Below w.heap.size w (w.alloc (.cells #[.slice ca m ccap, .string kb, .int .i64 per, .slice na r ncap] 32))) := hb1
 have HE : Hid (Errs9 w ad) := he
 have HN : Hid (LiesN w na ns) := hg.nums
 have HK : Hid (GateOk cs k per ns ∧ OkPks ps ∧ ns.length = r) := ⟨hok, ho, hr⟩
 have HCo : Hid (CurvesOk (curveFl cs)) := fun f hf => by
  obtain ⟨ls, hls, -⟩ := get_some cs f (by rw [hok.len]; exact hf)
  rw [curveFl_get hls]
  exact hok.curves f ls hf hls
 rw [hm, hr, hn]
 clear he hg hp hok ho hk hm hr hn hb hb1 hga
 go_enter Tryz.func20, Tryz.ntmps20
 go_wp2_with fail
 refine (HCk.out _ HB1.out).mono ?_
 rintro e w1 ⟨rfl, h1⟩
 have HB2 : Hid (Below w.heap.size w w1) := HB1.out.trans (h1.mono HB1.out.size)
 have HG1 : Hid (GateAt w1 w.heap.size (.slice ca m ccap) kb per (.slice na r ncap)) := HG.out.later h1
 clear h1
 go_wp2_with fail
 refine (HPc.out _ HB2.out).mono ?_
 rintro e w2 ⟨rfl, h2⟩
 have HB3 : Hid (Below w.heap.size w w2) := HB2.out.trans (h2.mono HB2.out.size)
 have HG2 : Hid (GateAt w2 w.heap.size (.slice ca m ccap) kb per (.slice na r ncap)) := HG1.out.later h2
 have g0 := HG2.out.c0
 clear h2
 go_wp2_with fail
 refine (HSa.out _ HB3.out).mono ?_
 rintro e w3 ⟨hb3, ⟨i, F, hni, hall, rfl, hF0, hF1⟩ | ⟨qa, qcap, at_, L, hnev, hsh, hord, rfl, hpl⟩⟩
 ·
  have HB4 : Hid (Below w.heap.size w w3) := HB3.out.trans (hb3.mono HB3.out.size)
  have HEnd : Hid (GateBad 4 i w (.returned (.tuple #[.slice none 0 0, .slice none 0 0, .iface 110 (.pointer (some ⟨F, 0, none⟩))])) w3) := by
   refine ⟨none, 0, none, 0, _, rfl, ⟨?_, fun h => absurd h (by decide), fun _ => ⟨_, _, rfl⟩⟩, HB4.out⟩
   have := codeIs_fault (HE.out.below HB4.out) 3 (by omega) (i : Int) F hF0 hF1
   simpa using this
  have HNi : Hid (NeverAt (curveFl cs) ps i ∧ ∀ j, j < i → ¬ NeverAt (curveFl cs) ps j) := ⟨hni, hall⟩
  clear hb3 hni hall hF0 hF1 g0
  go_wp2_with fail
  (try simp only [Exit.inBlock, Exit.then])
  refine bodyPost_ret (results_tmp3 rfl _ _ _) rfl ?_
  refine ⟨fun i' h1 h2 => ?_, fun h => absurd HNi.out.1 (h i)⟩
  obtain rfl : i' = i := by
   rcases Nat.lt_trichotomy i' i with h | h | h
   · exact absurd h1 (HNi.out.2 i' h)
   · exact h
   · exact absurd HNi.out.1 (h2 i h)
  exact HEnd.out
 ·
  have HB4 : Hid (Below w.heap.size w w3) := HB3.out.trans (hb3.mono HB3.out.size)
  have HG3 : Hid (GateAt w3 w.heap.size (.slice ca m ccap) kb per (.slice na r ncap)) := HG2.out.later hb3
  have HQ : Hid ((∀ i, ¬ NeverAt (curveFl cs) ps i) ∧ Shaped (curveFl cs) ps at_ ∧ IsOrder at_ ps.length L) := ⟨hnev, hsh, hord⟩
  have HQo : Hid (OkPks (gatePks ps at_ L)) := hsh.ok HK.out.2.1 HCo.out hord
  have HPl : Hid (PksLie w3 qa qcap (gatePks ps at_ L)) := hpl
  obtain ⟨q, hq⟩ : ∃ q, (gatePks ps at_ L).length = q := ⟨_, rfl⟩
  have HQn : Hid ((gatePks ps at_ L).length = q) := hq
  rw [hq]
  have g1 := HG3.out.c1
  have g2 := HG3.out.c2
  have g3 := HG3.out.c3
  have HSb : Hid (∀ W, Below w3.heap.size w3 W → W.cell? ⟨w.heap.size, 1, none⟩ = some (.string kb) ∧ W.cell? ⟨w.heap.size, 2, none⟩ = some (.int .i64 per) ∧ W.cell? ⟨w.heap.size, 3, none⟩ = some (.slice na r ncap)) := fun W hW => ⟨cell_later hW HG3.out.c1, cell_later hW HG3.out.c2, cell_later hW HG3.out.c3⟩
  have HD : Hid (Below w3.heap.size w3 w3.drew) := below_drewN (Below.refl _ _) 1
  have HSend : Hid (∀ F bd W, Below w3.heap.size w3 W → SendBy W k F bd → Calls Tryz.prog F (#[.slice qa q qcap, .int .i64 per, .slice na r ncap] ++ bd) W fun e w' => SendEnd k per ns (gatePks ps at_ L) 0 W e w') := fun F bd W hW hby => by
   have hbw := HB4.out.trans (hW.mono HB4.out.size)
   have := hby.send qa qcap (gatePks ps at_ L) per na ncap ns W ad 0 (Below.refl _ _) (HE.out.below hbw) (HPl.out.below hW) (HN.out.below hbw) HQo.out (.inr ⟨HK.out.1.per.1, HK.out.1.per.2, 0, HK.out.1.nums, rfl⟩)
   rwa [HQn.out, HK.out.2.2] at this
  clear hb3 hnev hsh hord hpl hq g0
  go_wp2_with fail
  go_region_held3 (fun w' => w'.cell? ⟨w.heap.size, 1, none⟩ = some (.string kb) ∧ w'.cell? ⟨w.heap.size, 2, none⟩ = some (.int .i64 per) ∧ w'.cell? ⟨w.heap.size, 3, none⟩ = some (.slice na r ncap))
   (first | exact hS | exact HSb.out _ HD.out)
   (first
   | (go_at_call 51; refine (HSe.out _).mono ?_; rintro e w4 ⟨M, fv, rfl, hb4, hlk1, hlk, hfv⟩; have HB5 : Hid (Below w3.heap.size w3 w4) := (by exact HD.out.trans (hb4.mono HD.out.size)); have hS := HSb.out w4 HB5.out; obtain ⟨F, bd, rfl, hby⟩ := hfv HK.out.1.kind.1; have hcF := hby.call; have HBy : Hid (SendBy w4 k F bd) := hby; clear hb4 hlk1 hby)
   | (refine (HSend.out F bd w4 HB5.out HBy.out).mono ?_; rintro e w5 ⟨la, nl, lcap, E, rfl, hE, hb5, hl5⟩; have hS := HSb.out w5 (HB5.out.trans (hb5.mono HB5.out.size)); have HX : Hid (ErrIs w5 E 0 (-1) ∧ Below w4.heap.size w4 w5 ∧ ∃ l, nl = l.length ∧ SntLie w5 la lcap l ∧ LinkSends k per (gatePks ps at_ L) ns l) := ⟨hE, hb5, hl5 rfl⟩; clear hE hb5 hl5))
  all_goals
   obtain ⟨hE, hb5, l, hln, hsl, hls⟩ := HX.out
   obtain rfl := hE.none_ rfl
   have HEnd : Hid (GateGood cs k per ns ps w (.returned (.tuple #[.slice qa q qcap, .slice la nl lcap, .nilIface])) w5) := by
    have hb35 := HB5.out.trans (hb5.mono HB5.out.size)
    refine ⟨qa, qcap, la, lcap, gatePks ps at_ L, l, by rw [HQn.out, hln], HPl.out.below hb35, hsl, ⟨at_, L, HQ.out.2.1, HQ.out.2.2, rfl, hls⟩, HB4.out.trans (hb35.mono HB4.out.size)⟩
   clear hE hb5 hln hsl hls HX hS g1 g2 g3
   go_wp2_with fail
   (try simp only [Exit.inBlock, Exit.then])
   refine bodyPost_ret (results_tmp3 rfl _ _ _) rfl ?_
   exact ⟨fun i h _ => absurd h (HQ.out.1 i), fun _ => HEnd.out⟩
theorem gateWalks : GateWalks where
 check := gateCheck_is
 bad := fun ca ccap cs kb per na ncap ns pa pcap ps w ad c p he hg hp h hc => by
  rcases h with ⟨h, -⟩ | ⟨hok, h, -⟩ | ⟨hok, ho, i, hn, hall, rfl, rfl⟩ | ⟨-, -, -, rfl, -⟩
  · exact gateRun_gate ca _ ccap kb per na _ ncap pa _ pcap w c p hc fun W hW => gateCheck_is ca ccap cs kb per na ncap ns W ad c p (he.below hW) (hg.below hW) h
  ·
   refine gateRun_pks ca _ ccap kb per na _ ncap pa _ pcap w c p hc (fun W hW => gateCheck_is ca ccap cs kb per na ncap ns W ad 0 (-1) (he.below hW) (hg.below hW) ?_) (fun W hW => pcheck_is pa pcap ps W ad (he.below hW) (hp.pks.below hW) hp.cap hp.max c p h)
   exact .inr (.inr ⟨hok.len, hok.curves, rfl, .inr ⟨hok.kind.1, hok.kind.2, .inr ⟨hok.per.1, hok.per.2, 0, hok.nums, rfl⟩⟩⟩)
  · exact (gateRun_main ca ccap cs kb per na ncap ns pa pcap ps w ad he hg hp hok ho).mono fun _ _ h => h.1 i hn hall
  · omega
 good := fun ca ccap cs kb per na ncap ns pa pcap ps w ad he hg hp hok ho hn => (gateRun_main ca ccap cs kb per na ncap ns pa pcap ps w ad he hg hp hok ho).mono fun _ _ h => h.2 hn
end Go.Proofs.YtibhkijaafdkoaaGreatDoor

namespace Go.Proofs.YtibhkijaafdkoaaGreatDoor
open Go.RowKit
structure GateRaw (w : World) (ca : Option Addr) (ccap : Nat) (cs : List (List (Int × Int))) (na : Option Addr) (ncap : Nat) (ns : List Int) : Prop where
 curves : LiesC w ca cs
 cfit : cs.length ≤ ccap
 cmax : ccap ≤ maxLen
 nums : LiesN w na ns
 nfit : ns.length ≤ ncap
 nmax : ncap ≤ maxLen
 nnone : na = none → ns = [] ∧ ncap = 0
theorem GateRaw.below {w w' : World} {ca : Option Addr} {ccap : Nat} {cs : List (List (Int × Int))} {na : Option Addr} {ncap : Nat} {ns : List Int} (h : GateRaw w ca ccap cs na ncap ns) (hb : Below w.heap.size w w') : GateRaw w' ca ccap cs na ncap ns := ⟨h.curves.below hb, h.cfit, h.cmax, h.nums.below hb, h.nfit, h.nmax, h.nnone⟩
theorem GateRaw.lies {w : World} {ca : Option Addr} {ccap : Nat} {cs : List (List (Int × Int))} {na : Option Addr} {ncap : Nat} {ns : List Int} (h : GateRaw w ca ccap cs na ncap ns) (hs : Slim cs ns) : GateLies w ca ccap cs na ncap ns := ⟨h.curves, h.cfit, h.cmax, h.nums, h.nfit, h.nmax, h.nnone, hs⟩
end Go.Proofs.YtibhkijaafdkoaaGreatDoor

namespace Go.Proofs.YtibhkijaafdkoaaGreatDoor
open Go.RowKit
structure At2 (W : World) (g : Nat) (x y : Value) : Prop where
 c0 : W.cell? ⟨g, 0, none⟩ = some x
 c1 : W.cell? ⟨g, 1, none⟩ = some y
 f0 : W.frozen? ⟨g, 0, none⟩ = false
 f1 : W.frozen? ⟨g, 1, none⟩ = false
section
variable {W W' : World} {g h : Nat} {x y : Value}
theorem At2.later (k : At2 W g x y) (hb : Below W.heap.size W W') : At2 W' g x y :=
 have l := cell_lt k.c0
 ⟨cell_later hb k.c0, cell_later hb k.c1, by rw [hb.frozen (p := ⟨g, 0, none⟩) l]; exact k.f0, by rw [hb.frozen (p := ⟨g, 1, none⟩) l]; exact k.f1⟩
end
end Go.Proofs.YtibhkijaafdkoaaGreatDoor

namespace Go.Proofs.YtibhkijaafdkoaaGreatDoor
open Go.RowKit
structure CameAt (w : World) (g n next : Nat) : Prop where
 cell : ∀ i, i < n → w.cell? ⟨g, i, none⟩ = some (.bool (decide (i < next)))
 frozen : ∀ i, w.frozen? ⟨g, i, none⟩ = false
 lt : g < w.heap.size
structure CredAt (w : World) (g : Nat) (cr : Nat → Int) : Prop where
 cell : ∀ f, f < 8 → w.cell? ⟨g, f, none⟩ = some (.int .i64 (cr f))
 frozen : ∀ i, w.frozen? ⟨g, i, none⟩ = false
 lt : g < w.heap.size
theorem CameAt.of_block {w w' : World} {g n k : Nat} (h : CameAt w g n k) (hb : w'.heap[g]? = w.heap[g]?) (hs : w.heap.size ≤ w'.heap.size) : CameAt w' g n k :=
 ⟨fun i hi => (World.cell?_of_block (a := ⟨g, i, none⟩) hb).trans (h.cell i hi), fun i => (World.frozen?_of_block (a := ⟨g, i, none⟩) hb).trans (h.frozen i), Nat.lt_of_lt_of_le h.lt hs⟩
theorem CredAt.of_block {w w' : World} {g : Nat} {cr : Nat → Int} (h : CredAt w g cr) (hb : w'.heap[g]? = w.heap[g]?) (hs : w.heap.size ≤ w'.heap.size) : CredAt w' g cr :=
 ⟨fun i hi => (World.cell?_of_block (a := ⟨g, i, none⟩) hb).trans (h.cell i hi), fun i => (World.frozen?_of_block (a := ⟨g, i, none⟩) hb).trans (h.frozen i), Nat.lt_of_lt_of_le h.lt hs⟩
structure RoMem (w wr : World) (gd gc gk n : Nat) (v : Value) (out : List Sn) (next : Nat) (cr : Nat → Int) (rv : Value) (F : Nat → Prop) (row : List Nat) : Prop where
 own : OwnS wr w.heap.size v out
 done : DoneAt wr gd n out
 came : CameAt wr gc n next
 cred : CredAt wr gk cr
 row : Slides wr w.heap.size rv F row
 ne : gd ≠ gc ∧ gd ≠ gk ∧ gc ≠ gk
 vne : v.ownBlock ≠ some gd ∧ v.ownBlock ≠ some gc ∧ v.ownBlock ≠ some gk
 fne : ¬ F gd ∧ ¬ F gc ∧ ¬ F gk ∧ ∀ k, F k → v.ownBlock ≠ some k
 new : w.heap.size ≤ gd ∧ w.heap.size ≤ gc ∧ w.heap.size ≤ gk
 below : Below w.heap.size w wr
section
variable {w wr wr' : World} {gd gc gk n : Nat} {v : Value} {out : List Sn} {next : Nat} {cr : Nat → Int} {rv : Value} {F : Nat → Prop} {row : List Nat}
theorem RoMem.later (h : RoMem w wr gd gc gk n v out next cr rv F row) (hb : Below wr.heap.size wr wr') : RoMem w wr' gd gc gk n v out next cr rv F row :=
 ⟨ownsRow_of_block h.own (fun g _ hg => hb.block g hg), h.done.of_block (hb.block gd h.done.lt) hb.size, h.came.of_block (hb.block gc h.came.lt) hb.size, h.cred.of_block (hb.block gk h.cred.lt) hb.size, h.row.but (S := fun _ => False) (.ofBelow hb) (fun _ _ h => h), h.ne, h.vne, h.fne, h.new, h.below.trans (hb.mono h.below.size)⟩
theorem RoMem.alloc (h : RoMem w wr gd gc gk n v out next cr rv F row) (o : Obj) : RoMem w (wr.alloc o) gd gc gk n v out next cr rv F row := h.later ((Below.refl _ _).alloc (Nat.le_refl _) _)
end
end Go.Proofs.YtibhkijaafdkoaaGreatDoor

namespace Go.Proofs.YtibhkijaafdkoaaGreatDoor
open Go.RowKit
theorem Slides.cells {w : World} {B : Nat} {v : Value} {F : Nat → Prop} {xs : List Nat} (h : Slides w B v F xs) : ∃ ao cap, v = .slice ao xs.length cap ∧ xs.length ≤ cap ∧ cap ≤ maxLen ∧ (ao = none → xs = [] ∧ cap = 0) ∧ LiesN w ao (asInts xs) ∧ ∀ ad, ao = some ad → ∀ (j k : Nat), xs[j]? = some k → w.cell? ⟨ad.block, ad.off + j, none⟩ = some (.int .i64 (k : Int)) := by
 obtain ⟨ao, b, off, cap, rfl, hc, hm, hB⟩ := h.made
 have hle := hc.le
 have key : ∀ (j k : Nat), xs[j]? = some k → ao = some ⟨b, off, none⟩ ∧ w.cell? ⟨b, off + j, none⟩ = some (.int .i64 (k : Int)) := fun j k hj => by
  have hl := (List.getElem?_eq_some_iff.1 hj).1
  refine ⟨hc.addr (by omega), hc.olds j _ ?_⟩
  simp [nums, hj]
 refine ⟨ao, cap, rfl, hle, hm, fun e => ?_, ?_, fun ad had j k hj => ?_⟩
 ·
  have h0 : cap = 0 := by
   rcases Nat.eq_zero_or_pos cap with h0 | h0
   · exact h0
   · rw [hc.addr h0] at e; cases e
  exact ⟨List.length_eq_zero_iff.1 (by omega), h0⟩
 ·
  cases xs with
  | nil => exact .inl rfl
  | cons k r =>
   refine .inr ⟨b, off, (key 0 k rfl).1, hc.lt (by simp at hle; omega), fun i x hx => ?_⟩
   simp only [asInts, List.getElem?_map] at hx
   cases hi : (k :: r)[i]? with
   | none => rw [hi] at hx; cases hx
   | some z =>
    rw [hi] at hx
    have e : (z : Int) = x := by simpa using hx
    rw [← e]
    exact (key i z hi).2
 ·
  obtain ⟨e1, e2⟩ := key j k hj
  rw [e1] at had
  cases had
  exact e2
end Go.Proofs.YtibhkijaafdkoaaGreatDoor

namespace Go.Proofs.YtibhkijaafdkoaaGreatDoor
open Go.RowKit
structure FoMem (w wr : World) (gt gc gd gl n : Nat) (v : Value) (out : List Sn) (next : Nat) (tag last : Nat → Int) : Prop where
 own : OwnS wr w.heap.size v out
 tags : NumsAt wr gt n tag
 came : CameAt wr gc n next
 done : DoneAt wr gd n out
 last : NumsAt wr gl 8 last
 ne : gt ≠ gc ∧ gt ≠ gd ∧ gt ≠ gl ∧ gc ≠ gd ∧ gc ≠ gl ∧ gd ≠ gl
 vne : v.ownBlock ≠ some gt ∧ v.ownBlock ≠ some gc ∧ v.ownBlock ≠ some gd ∧ v.ownBlock ≠ some gl
 new : w.heap.size ≤ gt ∧ w.heap.size ≤ gc ∧ w.heap.size ≤ gd ∧ w.heap.size ≤ gl
 below : Below w.heap.size w wr
section
variable {w wr wr' : World} {gt gc gd gl n : Nat} {v : Value} {out : List Sn} {next : Nat} {tag last : Nat → Int}
theorem FoMem.later (h : FoMem w wr gt gc gd gl n v out next tag last) (hb : Below wr.heap.size wr wr') : FoMem w wr' gt gc gd gl n v out next tag last :=
 ⟨ownsRow_of_block h.own (fun g _ hg => hb.block g hg), h.tags.of_block (hb.block gt h.tags.lt) hb.size, h.came.of_block (hb.block gc h.came.lt) hb.size, h.done.of_block (hb.block gd h.done.lt) hb.size, h.last.of_block (hb.block gl h.last.lt) hb.size, h.ne, h.vne, h.new, h.below.trans (hb.mono h.below.size)⟩
end
end Go.Proofs.YtibhkijaafdkoaaGreatDoor

namespace Go.Proofs.YtibhkijaafdkoaaGreatDoor
open Go.RowKit
structure FillAt (w W wr : World) (D n : Nat) (a : Nat → Int) : Prop where
 but : But (fun b => b = D) W wr
 at_ : NumsAt wr D n a
 below : Below w.heap.size w W
 new : w.heap.size ≤ D
section
variable {w W wr wr' : World} {D n : Nat} {a : Nat → Int}
theorem FillAt.later (h : FillAt w W wr D n a) (hb : Below wr.heap.size wr wr') : FillAt w W wr' D n a := ⟨h.but.trans (.ofBelow hb), h.at_.of_block (hb.block D h.at_.lt) hb.size, h.below, h.new⟩
end
end Go.Proofs.YtibhkijaafdkoaaGreatDoor
