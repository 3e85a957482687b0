/- Own facts, put together: no statement of its own. -/
import Derived.Test.YtibhkijaafdkoaaGreatDoorP36
import Derived.Test.YtibhkijaafdkoaaGreatDoorP35
import Derived.Test.YtibhkijaafdkoaaGreatDoorP16
import Derived.Test.YtibhkijaafdkoaaGreatDoorP18
import Derived.Test.YtibhkijaafdkoaaGreatDoorP15
import Derived.Test.YtibhkijaafdkoaaGreatDoorP32
namespace Go.Proofs.YtibhkijaafdkoaaGreatDoor
open Go.RowKit
structure GateLies (w : World) (ca : Option Addr) (ccap : Nat) (cs : List (List (Int × Int))) (na : Option Addr) (ncap : Nat) (ns : List Int) : Prop where
 curves : LiesC w ca cs
 cfit : cs.length ≤ ccap
 cmax : ccap ≤ maxLen
 nums : LiesN w na ns
 nfit : ns.length ≤ ncap
 nmax : ncap ≤ maxLen
 nnone : na = none → ns = [] ∧ ncap = 0
 slim : Slim cs ns
theorem GateLies.below {w w' : World} {ca : Option Addr} {ccap : Nat} {cs : List (List (Int × Int))} {na : Option Addr} {ncap : Nat} {ns : List Int} (h : GateLies w ca ccap cs na ncap ns) (hb : Below w.heap.size w w') : GateLies w' ca ccap cs na ncap ns := ⟨h.curves.below hb, h.cfit, h.cmax, h.nums.below hb, h.nfit, h.nmax, h.nnone, h.slim⟩
structure PksLie (w : World) (pa : Option Addr) (pcap : Nat) (ps : List Pk) : Prop where
 pks : LiesP w pa ps
 cap : ps.length ≤ pcap
 max : pcap ≤ maxLen
 none_ : pa = none → ps = [] ∧ pcap = 0
theorem PksLie.below {w w' : World} {pa : Option Addr} {pcap : Nat} {ps : List Pk} (h : PksLie w pa pcap ps) (hb : Below w.heap.size w w') : PksLie w' pa pcap ps := ⟨h.pks.below hb, h.cap, h.max, h.none_⟩
structure SntLie (w : World) (la : Option Addr) (lcap : Nat) (l : List Sn) : Prop where
 sent : LiesS w la l
 cap : l.length ≤ lcap
 max : lcap ≤ maxLen
 none_ : la = none → l = [] ∧ lcap = 0
theorem SntLie.below {w w' : World} {la : Option Addr} {lcap : Nat} {l : List Sn} (h : SntLie w la lcap l) (hb : Below w.heap.size w w') : SntLie w' la lcap l := ⟨h.sent.below hb, h.cap, h.max, h.none_⟩
def GateBad (c p : Int) (w : World) (e : Ending) (w' : World) : Prop := ∃ qa qcap la lcap E, e = .returned (.tuple #[.slice qa 0 qcap, .slice la 0 lcap, E]) ∧ ErrIs w' E c p ∧ Below w.heap.size w w'
def GateGood (cs : List (List (Int × Int))) (k : Nat) (per : Int) (ns : List Int) (ps : List Pk) (w : World) (e : Ending) (w' : World) : Prop := ∃ qa qcap la lcap qs l, e = .returned (.tuple #[.slice qa qs.length qcap, .slice la l.length lcap, .nilIface]) ∧ PksLie w' qa qcap qs ∧ SntLie w' la lcap l ∧ GateRun (curveFl cs) k per ns ps qs l ∧ Below w.heap.size w w'
structure GateWalks : Prop where
 check : ∀ (ca : Option Addr) (ccap : Nat) (cs : List (List (Int × Int))) (kb : ByteArray) (per : Int) (na : Option Addr) (ncap : Nat) (ns : List Int) (w : World) (ad : Nat → Addr) (c p : Int), Errs9 w ad → GateLies w ca ccap cs na ncap ns → GateIs cs (kindOf kb.toList) per ns c p →
  Calls Tryz.prog 29 #[.agg #[.slice ca cs.length ccap, .string kb, .int .i64 per, .slice na ns.length ncap]] w fun e w' => ∃ E, e = .returned E ∧ ErrIs w' E c p ∧ Below w.heap.size w w'
 bad : ∀ (ca : Option Addr) (ccap : Nat) (cs : List (List (Int × Int))) (kb : ByteArray) (per : Int) (na : Option Addr) (ncap : Nat) (ns : List Int) (pa : Option Addr) (pcap : Nat) (ps : List Pk) (w : World) (ad : Nat → Addr) (c p : Int), Errs9 w ad → GateLies w ca ccap cs na ncap ns → PksLie w pa pcap ps → RunIs cs (kindOf kb.toList) per ns ps c p → 0 < c →
  Calls Tryz.prog 20 #[.agg #[.slice ca cs.length ccap, .string kb, .int .i64 per, .slice na ns.length ncap], .slice pa ps.length pcap] w fun e w' => GateBad c p w e w'
 good : ∀ (ca : Option Addr) (ccap : Nat) (cs : List (List (Int × Int))) (kb : ByteArray) (per : Int) (na : Option Addr) (ncap : Nat) (ns : List Int) (pa : Option Addr) (pcap : Nat) (ps : List Pk) (w : World) (ad : Nat → Addr), Errs9 w ad → GateLies w ca ccap cs na ncap ns → PksLie w pa pcap ps → GateOk cs (kindOf kb.toList) per ns → OkPks ps → (∀ i, ¬ NeverAt (curveFl cs) ps i) →
  Calls Tryz.prog 20 #[.agg #[.slice ca cs.length ccap, .string kb, .int .i64 per, .slice na ns.length ncap], .slice pa ps.length pcap] w fun e w' => GateGood cs (kindOf kb.toList) per ns ps w e w'
def bare8 : List (List (Int × Int)) := List.replicate 8 []
theorem curveFl_bare : curveFl bare8 = fun _ => [] := by
 funext f
 cases h : bare8[f]? with
 | none => simp [curveFl, List.getD, h]
 | some ls =>
  rw [curveFl_get h]
  exact List.eq_of_mem_replicate (List.mem_of_getElem? h)
theorem never_bare (ps : List Pk) (i : Nat) : ¬ NeverAt (curveFl bare8) ps i := by
 rw [curveFl_bare]
 rintro ⟨p, s, -, h, -⟩
 exact h rfl
theorem run_bare {k : Nat} {per : Int} {ns : List Int} {ps qs : List Pk} {l : List Sn} (ho : OkPks ps) (h : GateRun (curveFl bare8) k per ns ps qs l) : qs = ps ∧ LinkSends k per ps ns l := by
 obtain ⟨a, L, h1, h2, rfl, h3⟩ := h
 rw [curveFl_bare] at h1
 obtain ⟨g1, g2, g3⟩ := open_gate ho
 have e := (gate_one ho h1 g1 h2 g2).trans g3
 rw [e] at h3
 exact ⟨e, h3⟩
def gpk1 : Pk := ⟨0, 3, 5⟩
theorem gpk1_ok : OkPks [gpk1] := ⟨by decide, fun i p h => by
 match i, h with
 | 0, h => cases h; exact ⟨rfl, by decide⟩
 | i + 1, h => simp at h⟩
theorem bare_ok : GateOk bare8 1 2 [] := ⟨rfl, fun i ls _ h => .inl (List.eq_of_mem_replicate (List.mem_of_getElem? h)), by decide, by decide, .inl ⟨rfl, .inr ⟨rfl, rfl⟩⟩⟩
theorem slim_bare (ns : List Int) (h : ns.length ≤ 30) : Slim bare8 ns := ⟨by decide, h, fun i ls hi => by rw [List.eq_of_mem_replicate (List.mem_of_getElem? hi)]; simp⟩
theorem liesC_bare (w : World) (t : TypeId) : LiesC (w.alloc (.cells (madeCells #[.slice none 0 0] 8) t)) (some ⟨w.heap.size, 0, none⟩) bare8 :=
 .inr ⟨w.heap.size, 0, rfl, by simp, fun i ls hi => by
  have hl : ls = [] := List.eq_of_mem_replicate (List.mem_of_getElem? hi)
  subst hl
  have hi8 : i < 8 := lt_of_get hi
  refine ⟨none, 0, ?_, .inl rfl, Nat.le_refl _, by simp [maxLen], fun _ => ⟨rfl, rfl⟩⟩
  rw [World.cell?_alloc_at _ _ _ _ rfl, Nat.zero_add]
  exact made_get _ _ _ hi8⟩
theorem kind_fifo : kindOf (ByteArray.toList ⟨#[102, 105, 102, 111]⟩) = 1 := by rw [bytes_fifo]; rfl
theorem make_curves (w' : World) : (Instr.makeSlice 22 (.int .i64 8) (.int .i64 8)).run Tryz.prog w' = .ok (.slice (some ⟨w'.heap.size, 0, none⟩) 8 8) (w'.alloc (.cells (madeCells #[.slice none 0 0] 8) 38)) := by
 obtain ⟨i0, hi, hz0, hz1, hz2⟩ := info_parts Tryz.infoLines
 have := run_make (P := Tryz.prog) w' 22 38 i0 (.slice none 0 0) Tryz.underlying22 hi hz0 .i64 .i64 8 8 (by omega) (by omega) (by rw [hz2]; omega) (by omega)
 simpa [hz1, Value.cells] using this
set_option maxRecDepth 100000 in
set_option maxHeartbeats 2000000 in
theorem opens_by (GW : GateWalks) (w : World) (ad : Nat → Addr) (he : Errs9 w ad) : Calls Tryz.prog 9 #[] w fun e w' => e = .returned (.bool true) ∧ Below w.heap.size w w' := by
 have HR : Hid (∀ W pb cb, Below w.heap.size w W → LiesC W (some ⟨cb, 0, none⟩) bare8 → LiesP W (some ⟨pb, 0, none⟩) [gpk1] → Calls Tryz.prog 20 #[.agg #[.slice (some ⟨cb, 0, none⟩) 8 8, .string ⟨#[102, 105, 102, 111]⟩, .int .i64 2, .slice none 0 0], .slice (some ⟨pb, 0, none⟩) 1 1] W fun e w' => ∃ qa qcap b o lcap, e = .returned (.tuple #[.slice qa 1 qcap, .slice (some ⟨b, o, none⟩) 1 lcap, .nilIface]) ∧ w'.cell? ⟨b, o + 2, none⟩ = some (.int .i64 11) ∧ Below W.heap.size W w') := fun W pb cb hb hc hp => by
  refine (GW.good (some ⟨cb, 0, none⟩) 8 bare8 ⟨#[102, 105, 102, 111]⟩ 2 none 0 [] (some ⟨pb, 0, none⟩) 1 [gpk1] W ad (he.below hb) ⟨hc, by decide, by decide, .inl rfl, by decide, by decide, fun _ => ⟨rfl, rfl⟩, slim_bare [] (by decide)⟩ ⟨hp, by decide, by decide, fun h => by cases h⟩ (by rw [kind_fifo]; exact bare_ok) gpk1_ok (never_bare _)).mono ?_
  rintro e w' ⟨qa, qcap, la, lcap, qs, l, rfl, h1, h2, h3, h4⟩
  rw [kind_fifo] at h3
  obtain ⟨rfl, h5⟩ := run_bare gpk1_ok h3
  obtain rfl : l = [⟨0, 5, 11⟩] := by
   rcases h5 with ⟨-, rfl⟩ | ⟨e, -⟩ | ⟨e, -⟩ | ⟨e, -⟩ | ⟨e, -⟩
   · rfl
   all_goals omega
  obtain ⟨b, o, rfl, -, hcl⟩ := h2.sent.place (by simp)
  refine ⟨qa, qcap, b, o, lcap, rfl, ?_, h4⟩
  have := (hcl 0 _ rfl).2.2
  simpa using this
 have hmk := make_curves
 have hs2 : ((w.alloc (.cells (madeCells #[.slice none 0 0] 8) 38)).alloc (.cells #[.slice (some ⟨w.heap.size, 0, none⟩) 8 8, .string ⟨#[102, 105, 102, 111]⟩, .int .i64 2, .slice none 0 0] 32)).heap.size = w.heap.size + 1 + 1 := by simp
 have hb1 : Below w.heap.size w (w.alloc (.cells (madeCells #[.slice none 0 0] 8) 38)) := (Below.refl _ _).alloc (Nat.le_refl _) _
 have hb2 : Below (w.alloc (.cells (madeCells #[.slice none 0 0] 8) 38)).heap.size (w.alloc (.cells (madeCells #[.slice none 0 0] 8) 38)) ((w.alloc (.cells (madeCells #[.slice none 0 0] 8) 38)).alloc (.cells #[.slice (some ⟨w.heap.size, 0, none⟩) 8 8, .string ⟨#[102, 105, 102, 111]⟩, .int .i64 2, .slice none 0 0] 32)) := (Below.refl _ _).alloc (Nat.le_refl _) _
 have hb3 : Below ((w.alloc (.cells (madeCells #[.slice none 0 0] 8) 38)).alloc (.cells #[.slice (some ⟨w.heap.size, 0, none⟩) 8 8, .string ⟨#[102, 105, 102, 111]⟩, .int .i64 2, .slice none 0 0] 32)).heap.size ((w.alloc (.cells (madeCells #[.slice none 0 0] 8) 38)).alloc (.cells #[.slice (some ⟨w.heap.size, 0, none⟩) 8 8, .string ⟨#[102, 105, 102, 111]⟩, .int .i64 2, .slice none 0 0] 32)) (((w.alloc (.cells (madeCells #[.slice none 0 0] 8) 38)).alloc (.cells #[.slice (some ⟨w.heap.size, 0, none⟩) 8 8, .string ⟨#[102, 105, 102, 111]⟩, .int .i64 2, .slice none 0 0] 32)).alloc (.cells #[.int .i64 0, .int .i64 3, .int .i64 5] 52)) := (Below.refl _ _).alloc (Nat.le_refl _) _
 have HV : Hid (Below w.heap.size w (((w.alloc (.cells (madeCells #[.slice none 0 0] 8) 38)).alloc (.cells #[.slice (some ⟨w.heap.size, 0, none⟩) 8 8, .string ⟨#[102, 105, 102, 111]⟩, .int .i64 2, .slice none 0 0] 32)).alloc (.cells #[.int .i64 0, .int .i64 3, .int .i64 5] 52)) ∧ LiesC (((w.alloc (.cells (madeCells #[.slice none 0 0] 8) 38)).alloc (.cells #[.slice (some ⟨w.heap.size, 0, none⟩) 8 8, .string ⟨#[102, 105, 102, 111]⟩, .int .i64 2, .slice none 0 0] 32)).alloc (.cells #[.int .i64 0, .int .i64 3, .int .i64 5] 52)) (some ⟨w.heap.size, 0, none⟩) bare8 ∧ LiesP (((w.alloc (.cells (madeCells #[.slice none 0 0] 8) 38)).alloc (.cells #[.slice (some ⟨w.heap.size, 0, none⟩) 8 8, .string ⟨#[102, 105, 102, 111]⟩, .int .i64 2, .slice none 0 0] 32)).alloc (.cells #[.int .i64 0, .int .i64 3, .int .i64 5] 52)) (some ⟨w.heap.size + 1 + 1, 0, none⟩) [gpk1]) := by
  have h12 := hb1.trans (hb2.mono hb1.size)
  refine ⟨h12.trans (hb3.mono h12.size), ((liesC_bare w 38).below hb2).below hb3, ?_⟩
  have := liesP_new ((w.alloc (.cells (madeCells #[.slice none 0 0] 8) 38)).alloc (.cells #[.slice (some ⟨w.heap.size, 0, none⟩) 8 8, .string ⟨#[102, 105, 102, 111]⟩, .int .i64 2, .slice none 0 0] 32)) 0 3 5
  rwa [hs2] at this
 clear GW he hs2 hb1 hb2 hb3
 go_enter Tryz.func9, Tryz.ntmps9
 go_wp2_with fail
 refine (HR.out _ _ _ HV.out.1 HV.out.2.1 HV.out.2.2).mono ?_
 rintro e w5 ⟨qa, qcap, b, o, lcap, rfl, hcell, hb5⟩
 have HB5 : Hid (Below w.heap.size w w5) := HV.out.1.trans (hb5.mono HV.out.1.size)
 clear hb5
 go_wp2_with fail
 go_ret
 exact ⟨rfl, HB5.out⟩
end Go.Proofs.YtibhkijaafdkoaaGreatDoor

namespace Go.Proofs.YtibhkijaafdkoaaGreatDoor
open Go.RowKit
def KindRes (k : Nat) (per : Int) (ns : List Int) (c : Int) : Prop := (¬ (1 ≤ per ∧ per ≤ 1000) ∧ c = 2) ∨ (1 ≤ per ∧ per ≤ 1000 ∧ ∃ d : Nat, KindFault k ns d ∧ c = d)
def SendEnd (k : Nat) (per : Int) (ns : List Int) (ps : List Pk) (c : Int) (w : World) (e : Ending) (w' : World) : Prop := ∃ la n lcap E, e = .returned (.tuple #[.slice la n lcap, E]) ∧ ErrIs w' E c (-1) ∧ Below w.heap.size w w' ∧ (c = 0 → ∃ l, n = l.length ∧ SntLie w' la lcap l ∧ LinkSends k per ps ns l)
theorem sendEnd_bad {k : Nat} {per : Int} {ns : List Int} {ps : List Pk} {c : Int} {w : World} (hc : 0 < c) {e : Ending} {w' : World} (h : ∃ ty v, e = .returned (.tuple #[.slice none 0 0, .iface ty v]) ∧ (ErrIs w' (.iface ty v) c (-1) ∧ Below w.heap.size w w')) : SendEnd k per ns ps c w e w' := by
 obtain ⟨ty, v, rfl, h1, h2⟩ := h
 exact ⟨none, 0, 0, _, rfl, h1, h2, fun h0 => by omega⟩
theorem sendEnd_ok {k : Nat} {per : Int} {ns : List Int} {ps : List Pk} {w w' : World} {v : Value} {l : List Sn} (ho : OwnS w' w.heap.size v l) (hl : LinkSends k per ps ns l) (hb : Below w.heap.size w w') : SendEnd k per ns ps 0 w (.returned (.tuple #[v, .nilIface])) w' := by
 obtain ⟨a, cap, rfl, h1, h2, h3, -, h5⟩ := ho.open
 exact ⟨a, l.length, cap, .nilIface, rfl, errIs_nil w', hb, fun _ => ⟨l, rfl, ⟨h3, h1, h2, h5⟩, hl⟩⟩
section
variable (pa : Option Addr) (pcap : Nat) (ps : List Pk) (per : Int) (na : Option Addr) (ncap : Nat) (ns : List Int) (w : World) (ad : Nat → Addr)
theorem linkBad {per : Int} {ps : List Pk} (ho : OkPks ps) (h : ¬ (1 ≤ per ∧ per ≤ 1000)) : LinkFaultIs ps per 2 (-1) := .inr (.inl ⟨ho, by omega, rfl, rfl⟩)
theorem sendRank (he : Errs9 w ad) (hp : PksLie w pa pcap ps) (hn : LiesN w na ns) (ho : OkPks ps) (c : Int) (hr : KindRes 2 per ns c) : Calls Tryz.prog 86 #[.slice pa ps.length pcap, .int .i64 per, .slice na ns.length ncap] w fun e w' => SendEnd 2 per ns ps c w e w' := by
 rcases hr with ⟨h, rfl⟩ | ⟨h1, h2, d, hd, rfl⟩
 · exact (rankRun_isL pa pcap ps per na ns.length ncap w ad he hp.pks hp.cap hp.max 2 (-1) (linkBad ho h) (by omega)).mono fun _ _ h => sendEnd_bad (by omega) h
 ·
  rcases hd with ⟨h, -⟩ | ⟨-, hd⟩ | ⟨h, -⟩ | ⟨h, -⟩ | ⟨h, -⟩
  · omega
  ·
   rcases Nat.eq_zero_or_pos d with rfl | h0
   ·
    refine (rankRun_ok pa pcap ps per na ncap ns w hp.pks hn ho h1 h2 hd.ok).mono ?_
    rintro e w' ⟨v, rfl, l, g1, g2, g3, g4⟩
    exact sendEnd_ok g1 (.inr (.inl ⟨rfl, g2, g3⟩)) g4
   · exact (rankRun_isN pa pcap ps per na ncap ns w ad he hp.pks hn ho h1 h2 d hd h0).mono fun _ _ h => sendEnd_bad (by omega) h
  all_goals omega
theorem sendDue (he : Errs9 w ad) (hp : PksLie w pa pcap ps) (hn : LiesN w na ns) (ho : OkPks ps) (c : Int) (hr : KindRes 3 per ns c) : Calls Tryz.prog 87 #[.slice pa ps.length pcap, .int .i64 per, .slice na ns.length ncap] w fun e w' => SendEnd 3 per ns ps c w e w' := by
 rcases hr with ⟨h, rfl⟩ | ⟨h1, h2, d, hd, rfl⟩
 · exact (rankDue_isL pa pcap ps per na ns.length ncap w ad he hp.pks hp.cap hp.max 2 (-1) (linkBad ho h) (by omega)).mono fun _ _ h => sendEnd_bad (by omega) h
 ·
  rcases hd with ⟨h, -⟩ | ⟨h, -⟩ | ⟨-, hd⟩ | ⟨h, -⟩ | ⟨h, -⟩
  · omega
  · omega
  ·
   rcases Nat.eq_zero_or_pos d with rfl | h0
   ·
    refine (rankDue_ok pa pcap ps per na ncap ns w hp.pks hn ho h1 h2 hd.ok).mono ?_
    rintro e w' ⟨v, rfl, l, g1, g2, g3, g4⟩
    exact sendEnd_ok g1 (.inr (.inr (.inl ⟨rfl, g2, g3⟩))) g4
   · exact (rankDue_isN pa pcap ps per na ncap ns w ad he hp.pks hn ho h1 h2 d hd h0).mono fun _ _ h => sendEnd_bad (by omega) h
  all_goals omega
theorem sendRound (he : Errs9 w ad) (hp : PksLie w pa pcap ps) (hn : LiesN w na ns) (ho : OkPks ps) (c : Int) (hr : KindRes 4 per ns c) : Calls Tryz.prog 26 #[.slice pa ps.length pcap, .int .i64 per, .slice na ns.length ncap] w fun e w' => SendEnd 4 per ns ps c w e w' := by
 rcases hr with ⟨h, rfl⟩ | ⟨h1, h2, d, hd, rfl⟩
 · exact (roundRun_isL pa pcap ps per na ns.length ncap w ad he hp.pks hp.cap hp.max 2 (-1) (linkBad ho h) (by omega)).mono fun _ _ h => sendEnd_bad (by omega) h
 ·
  rcases hd with ⟨h, -⟩ | ⟨h, -⟩ | ⟨h, -⟩ | ⟨-, hd⟩ | ⟨h, -⟩
  · omega
  · omega
  · omega
  ·
   rcases Nat.eq_zero_or_pos d with rfl | h0
   ·
    refine (roundRun_ok pa pcap ps per na ncap ns w hp.pks hn ho h1 h2 hd.ok).mono ?_
    rintro e w' ⟨v, rfl, l, g1, g2, g4⟩
    exact sendEnd_ok g1 (.inr (.inr (.inr (.inl ⟨rfl, g2⟩)))) g4
   · exact (roundRun_isN pa pcap ps per na ncap ns w ad he hp.pks hn ho h1 h2 d hd h0).mono fun _ _ h => sendEnd_bad (by omega) h
  all_goals omega
theorem sendFair (he : Errs9 w ad) (hp : PksLie w pa pcap ps) (hn : LiesN w na ns) (ho : OkPks ps) (c : Int) (hr : KindRes 5 per ns c) : Calls Tryz.prog 88 #[.slice pa ps.length pcap, .int .i64 per, .slice na ns.length ncap] w fun e w' => SendEnd 5 per ns ps c w e w' := by
 rcases hr with ⟨h, rfl⟩ | ⟨h1, h2, d, hd, rfl⟩
 · exact (fairRun_err (R := fun ty v w' => ErrIs w' (.iface ty v) 2 (-1) ∧ Below w.heap.size w w') pa _ pcap per na _ ncap w (fairCheck_isL pa pcap ps per na ns.length ncap w ad he hp.pks hp.cap hp.max 2 (-1) (linkBad ho h) (by omega))).mono fun _ _ h => sendEnd_bad (by omega) h
 ·
  rcases hd with ⟨h, -⟩ | ⟨h, -⟩ | ⟨h, -⟩ | ⟨h, -⟩ | ⟨-, hd⟩
  · omega
  · omega
  · omega
  · omega
  ·
   rcases Nat.eq_zero_or_pos d with rfl | h0
   ·
    refine (fairRun_ok pa pcap ps per na ncap ns w hp.pks hn ho h1 h2 hd.ok).mono ?_
    rintro e w' ⟨v, rfl, g, gt, l, f, g1, g2, g4, -⟩
    exact sendEnd_ok g1 (.inr (.inr (.inr (.inr ⟨rfl, _, g2⟩)))) g4
   · exact (fairRun_err (R := fun ty v w' => ErrIs w' (.iface ty v) d (-1) ∧ Below w.heap.size w w') pa _ pcap per na _ ncap w (fairCheck_isN pa pcap ps per na ncap ns w ad he hp.pks hn ho h1 h2 d hd h0)).mono fun _ _ h => sendEnd_bad (by omega) h
theorem Tryz.callFifo (args : Array Value) (W : World) : Sem.run Tryz.prog (callFunc 85 args) W = .ok (.enter 85 args) W := by kernel_rfl
set_option maxRecDepth 100000 in
set_option maxHeartbeats 2000000 in
theorem sendFifo (X : Nat) (he : Errs9 w ad) (hx : w.cell? ⟨X, 0, none⟩ = some (.func (.func 85) #[] #[])) (hp : PksLie w pa pcap ps) (ho : OkPks ps) (c : Int) (hr : KindRes 1 per ns c) : Calls Tryz.prog 129 #[.slice pa ps.length pcap, .int .i64 per, .slice na ns.length ncap, .pointer (some ⟨X, 0, none⟩)] w fun e w' => SendEnd 1 per ns ps c w e w' := by
 have hcall := Tryz.callFifo
 have HE : Hid (Errs9 w ad) := he
 have HO : Hid (OkPks ps) := ho
 rcases hr with ⟨h, rfl⟩ | ⟨h1, h2, d, hd, rfl⟩
 ·
  have HC : Hid (Calls Tryz.prog 85 #[.slice pa ps.length pcap, .int .i64 per] w fun e w' => ∃ ty v, e = .returned (.tuple #[.slice none 0 0, .iface ty v]) ∧ (ErrIs w' (.iface ty v) 2 (-1) ∧ Below w.heap.size w w')) := fifoRun_is pa pcap ps per 2 (-1) w ad he hp.pks hp.cap hp.max (linkBad ho h) (by omega)
  clear he hp ho h
  go_enter Tryz.func129, Tryz.ntmps129
  go_wp2_with fail
  refine HC.out.mono ?_
  rintro e w1 ⟨ty, v, rfl, h3, h4⟩
  have H3 : Hid (ErrIs w1 (.iface ty v) 2 (-1) ∧ Below w.heap.size w w1) := ⟨h3, h4⟩
  clear h3 h4
  go_wp2_with fail
  go_ret2
  exact sendEnd_bad (by omega) ⟨ty, v, rfl, H3.out⟩
 ·
  have HC : Hid (Calls Tryz.prog 85 #[.slice pa ps.length pcap, .int .i64 per] w fun e w' => ∃ v, e = .returned (.tuple #[v, .nilIface]) ∧ OwnS w' w.heap.size v (lindAll per ps ps.length) ∧ Below w.heap.size w w') := fifoRun_ok pa pcap ps per w hp.pks ho h1 h2
  have hd' : (d = 3 ∧ ns ≠ []) ∨ (d = 0 ∧ ns = []) := by
   rcases hd with ⟨-, hd⟩ | ⟨h, -⟩ | ⟨h, -⟩ | ⟨h, -⟩ | ⟨h, -⟩
   · exact hd
   all_goals omega
  obtain ⟨r, hr⟩ : ∃ r, ns.length = r := ⟨_, rfl⟩
  have HR : Hid (ns.length = r) := hr
  rw [hr]
  clear he hp ho hd hr
  rcases hd' with ⟨rfl, hne⟩ | ⟨rfl, hnil⟩
  ·
   have hr0 : (0 : Int) < (r : Int) := by have := List.length_pos_iff.2 hne; have := HR.out; omega
   clear hne
   go_enter Tryz.func129, Tryz.ntmps129
   go_wp2_with fail
   refine HC.out.mono ?_
   rintro e w1 ⟨v, rfl, h3, h4⟩
   have H4 : Hid (Below w.heap.size w w1) := h4
   have c2 := (HE.out.below h4).c2
   clear h3 h4
   go_wp2_with fail
   go_quiet (fail)
   go_wp2_with fail
   go_ret2
   have hbq : Below w.heap.size w (w1.drewN nq) := below_drewN H4.out nq
   exact ⟨none, 0, 0, _, rfl, errIs_sent (HE.out.below hbq) 2 (by omega), hbq, fun h0 => absurd h0 (by decide)⟩
  ·
   have hr0 : ¬ (0 : Int) < (r : Int) := by have := HR.out; rw [hnil] at this; simp at this; omega
   have HNil : Hid (ns = []) := hnil
   clear hnil
   go_enter Tryz.func129, Tryz.ntmps129
   go_wp2_with fail
   refine HC.out.mono ?_
   rintro e w1 ⟨v, rfl, h3, h4⟩
   have H4 : Hid (OwnS w1 w.heap.size v (lindAll per ps ps.length) ∧ Below w.heap.size w w1) := ⟨h3, h4⟩
   clear h3 h4
   go_wp2_with fail
   go_ret2
   exact sendEnd_ok H4.out.1 (.inl ⟨rfl, rfl⟩) H4.out.2
end
end Go.Proofs.YtibhkijaafdkoaaGreatDoor
