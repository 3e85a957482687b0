/- Own facts, put together: no statement of its own. -/
import Derived.Test.YtibhkijaafdkoaaGreatDoorB23
import Derived.Test.YtibhkijaafdkoaaGreatDoorB01
import Derived.Test.YtibhkijaafdkoaaGreatDoorB24
import Derived.Deep.LoopGhost
import Derived.Test.YtibhkijaafdkoaaGreatDoorB17
namespace Go.Proofs.YtibhkijaafdkoaaGreatDoor
open Go.RowKit
structure GateLies (w : World) (ca : Option Addr) (ccap : Nat) (cs : List (List (Int × Int))) (na : Option Addr) (ncap : Nat) (ns : List Int) : Prop where
 curves : LiesC w ca cs
 cfit : cs.length ≤ ccap
 cmax : ccap ≤ maxLen
 nums : LiesN w na ns
 nfit : ns.length ≤ ncap
 nmax : ncap ≤ maxLen
 nnone : na = none → ns = [] ∧ ncap = 0
 slim : Slim cs ns
theorem GateLies.below {w w' : World} {ca : Option Addr} {ccap : Nat} {cs : List (List (Int × Int))} {na : Option Addr} {ncap : Nat} {ns : List Int} (h : GateLies w ca ccap cs na ncap ns) (hb : Below w.heap.size w w') : GateLies w' ca ccap cs na ncap ns := ⟨h.curves.below hb, h.cfit, h.cmax, h.nums.below hb, h.nfit, h.nmax, h.nnone, h.slim⟩
structure PksLie (w : World) (pa : Option Addr) (pcap : Nat) (ps : List Pk) : Prop where
 pks : LiesP w pa ps
 cap : ps.length ≤ pcap
 max : pcap ≤ maxLen
 none_ : pa = none → ps = [] ∧ pcap = 0
theorem PksLie.below {w w' : World} {pa : Option Addr} {pcap : Nat} {ps : List Pk} (h : PksLie w pa pcap ps) (hb : Below w.heap.size w w') : PksLie w' pa pcap ps := ⟨h.pks.below hb, h.cap, h.max, h.none_⟩
structure SntLie (w : World) (la : Option Addr) (lcap : Nat) (l : List Sn) : Prop where
 sent : LiesS w la l
 cap : l.length ≤ lcap
 max : lcap ≤ maxLen
 none_ : la = none → l = [] ∧ lcap = 0
def GateBad (c p : Int) (w : World) (e : Ending) (w' : World) : Prop := ∃ qa qcap la lcap E, e = .returned (.tuple #[.slice qa 0 qcap, .slice la 0 lcap, E]) ∧ ErrIs w' E c p ∧ Below w.heap.size w w'
def GateGood (cs : List (List (Int × Int))) (k : Nat) (per : Int) (ns : List Int) (ps : List Pk) (w : World) (e : Ending) (w' : World) : Prop := ∃ qa qcap la lcap qs l, e = .returned (.tuple #[.slice qa qs.length qcap, .slice la l.length lcap, .nilIface]) ∧ PksLie w' qa qcap qs ∧ SntLie w' la lcap l ∧ GateRun (curveFl cs) k per ns ps qs l ∧ Below w.heap.size w w'
structure GateWalks : Prop where
 check : ∀ (ca : Option Addr) (ccap : Nat) (cs : List (List (Int × Int))) (kb : ByteArray) (per : Int) (na : Option Addr) (ncap : Nat) (ns : List Int) (w : World) (ad : Nat → Addr) (c p : Int), Errs9 w ad → GateLies w ca ccap cs na ncap ns → GateIs cs (kindOf kb.toList) per ns c p →
  Calls Tryz.prog 29 #[.agg #[.slice ca cs.length ccap, .string kb, .int .i64 per, .slice na ns.length ncap]] w fun e w' => ∃ E, e = .returned E ∧ ErrIs w' E c p ∧ Below w.heap.size w w'
 bad : ∀ (ca : Option Addr) (ccap : Nat) (cs : List (List (Int × Int))) (kb : ByteArray) (per : Int) (na : Option Addr) (ncap : Nat) (ns : List Int) (pa : Option Addr) (pcap : Nat) (ps : List Pk) (w : World) (ad : Nat → Addr) (c p : Int), Errs9 w ad → GateLies w ca ccap cs na ncap ns → PksLie w pa pcap ps → RunIs cs (kindOf kb.toList) per ns ps c p → 0 < c →
  Calls Tryz.prog 20 #[.agg #[.slice ca cs.length ccap, .string kb, .int .i64 per, .slice na ns.length ncap], .slice pa ps.length pcap] w fun e w' => GateBad c p w e w'
 good : ∀ (ca : Option Addr) (ccap : Nat) (cs : List (List (Int × Int))) (kb : ByteArray) (per : Int) (na : Option Addr) (ncap : Nat) (ns : List Int) (pa : Option Addr) (pcap : Nat) (ps : List Pk) (w : World) (ad : Nat → Addr), Errs9 w ad → GateLies w ca ccap cs na ncap ns → PksLie w pa pcap ps → GateOk cs (kindOf kb.toList) per ns → OkPks ps → (∀ i, ¬ NeverAt (curveFl cs) ps i) →
  Calls Tryz.prog 20 #[.agg #[.slice ca cs.length ccap, .string kb, .int .i64 per, .slice na ns.length ncap], .slice pa ps.length pcap] w fun e w' => GateGood cs (kindOf kb.toList) per ns ps w e w'
def bare8 : List (List (Int × Int)) := List.replicate 8 []
theorem curveFl_bare : curveFl bare8 = fun _ => [] := by
 funext f
 cases h : bare8[f]? with
 | none => simp [curveFl, List.getD, h]
 | some ls =>
  rw [curveFl_get h]
  exact List.eq_of_mem_replicate (List.mem_of_getElem? h)
theorem never_bare (ps : List Pk) (i : Nat) : ¬ NeverAt (curveFl bare8) ps i := by
 rw [curveFl_bare]
 rintro ⟨p, s, -, h, -⟩
 exact h rfl
theorem run_bare {k : Nat} {per : Int} {ns : List Int} {ps qs : List Pk} {l : List Sn} (ho : OkPks ps) (h : GateRun (curveFl bare8) k per ns ps qs l) : qs = ps ∧ LinkSends k per ps ns l := by
 obtain ⟨a, L, h1, h2, rfl, h3⟩ := h
 rw [curveFl_bare] at h1
 obtain ⟨g1, g2, g3⟩ := open_gate ho
 have e := (gate_one ho h1 g1 h2 g2).trans g3
 rw [e] at h3
 exact ⟨e, h3⟩
def gpk1 : Pk := ⟨0, 3, 5⟩
theorem gpk1_ok : OkPks [gpk1] := ⟨by decide, fun i p h => by
 match i, h with
 | 0, h => cases h; exact ⟨rfl, by decide⟩
 | i + 1, h => simp at h⟩
theorem bare_ok : GateOk bare8 1 2 [] := ⟨rfl, fun i ls _ h => .inl (List.eq_of_mem_replicate (List.mem_of_getElem? h)), by decide, by decide, .inl ⟨rfl, .inr ⟨rfl, rfl⟩⟩⟩
theorem slim_bare (ns : List Int) (h : ns.length ≤ 30) : Slim bare8 ns := ⟨by decide, h, fun i ls hi => by rw [List.eq_of_mem_replicate (List.mem_of_getElem? hi)]; simp⟩
theorem liesC_bare (w : World) (t : TypeId) : LiesC (w.alloc (.cells (madeCells #[.slice none 0 0] 8) t)) (some ⟨w.heap.size, 0, none⟩) bare8 :=
 .inr ⟨w.heap.size, 0, rfl, by simp, fun i ls hi => by
  have hl : ls = [] := List.eq_of_mem_replicate (List.mem_of_getElem? hi)
  subst hl
  have hi8 : i < 8 := lt_of_get hi
  refine ⟨none, 0, ?_, .inl rfl, Nat.le_refl _, by simp [maxLen], fun _ => ⟨rfl, rfl⟩⟩
  rw [World.cell?_alloc_at _ _ _ _ rfl, Nat.zero_add]
  exact made_get _ _ _ hi8⟩
theorem kind_fifo : kindOf (ByteArray.toList ⟨#[102, 105, 102, 111]⟩) = 1 := by rw [bytes_fifo]; rfl
theorem make_curves (w' : World) : (Instr.makeSlice 22 (.int .i64 8) (.int .i64 8)).run Tryz.prog w' = .ok (.slice (some ⟨w'.heap.size, 0, none⟩) 8 8) (w'.alloc (.cells (madeCells #[.slice none 0 0] 8) 38)) := by
 obtain ⟨i0, hi, hz0, hz1, hz2⟩ := info_parts Tryz.infoLines
 have := run_make (P := Tryz.prog) w' 22 38 i0 (.slice none 0 0) Tryz.underlying22 hi hz0 .i64 .i64 8 8 (by omega) (by omega) (by rw [hz2]; omega) (by omega)
 simpa [hz1, Value.cells] using this
set_option maxRecDepth 100000 in
set_option maxHeartbeats 2000000 in
theorem opens_by (GW : GateWalks) (w : World) (ad : Nat → Addr) (he : Errs9 w ad) : Calls Tryz.prog 9 #[] w fun e w' => e = .returned (.bool true) ∧ Below w.heap.size w w' := by
 have HR : Hid (∀ W pb cb, Below w.heap.size w W → LiesC W (some ⟨cb, 0, none⟩) bare8 → LiesP W (some ⟨pb, 0, none⟩) [gpk1] → Calls Tryz.prog 20 #[.agg #[.slice (some ⟨cb, 0, none⟩) 8 8, .string ⟨#[102, 105, 102, 111]⟩, .int .i64 2, .slice none 0 0], .slice (some ⟨pb, 0, none⟩) 1 1] W fun e w' => ∃ qa qcap b o lcap, e = .returned (.tuple #[.slice qa 1 qcap, .slice (some ⟨b, o, none⟩) 1 lcap, .nilIface]) ∧ w'.cell? ⟨b, o + 2, none⟩ = some (.int .i64 11) ∧ Below W.heap.size W w') := fun W pb cb hb hc hp => by
  refine (GW.good (some ⟨cb, 0, none⟩) 8 bare8 ⟨#[102, 105, 102, 111]⟩ 2 none 0 [] (some ⟨pb, 0, none⟩) 1 [gpk1] W ad (he.below hb) ⟨hc, by decide, by decide, .inl rfl, by decide, by decide, fun _ => ⟨rfl, rfl⟩, slim_bare [] (by decide)⟩ ⟨hp, by decide, by decide, fun h => by cases h⟩ (by rw [kind_fifo]; exact bare_ok) gpk1_ok (never_bare _)).mono ?_
  rintro e w' ⟨qa, qcap, la, lcap, qs, l, rfl, h1, h2, h3, h4⟩
  rw [kind_fifo] at h3
  obtain ⟨rfl, h5⟩ := run_bare gpk1_ok h3
  obtain rfl : l = [⟨0, 5, 11⟩] := by
   rcases h5 with ⟨-, rfl⟩ | ⟨e, -⟩ | ⟨e, -⟩ | ⟨e, -⟩ | ⟨e, -⟩
   · rfl
   all_goals omega
  obtain ⟨b, o, rfl, -, hcl⟩ := h2.sent.place (by simp)
  refine ⟨qa, qcap, b, o, lcap, rfl, ?_, h4⟩
  have := (hcl 0 _ rfl).2.2
  simpa using this
 have hmk := make_curves
 have hs2 : ((w.alloc (.cells (madeCells #[.slice none 0 0] 8) 38)).alloc (.cells #[.slice (some ⟨w.heap.size, 0, none⟩) 8 8, .string ⟨#[102, 105, 102, 111]⟩, .int .i64 2, .slice none 0 0] 32)).heap.size = w.heap.size + 1 + 1 := by simp
 have hb1 : Below w.heap.size w (w.alloc (.cells (madeCells #[.slice none 0 0] 8) 38)) := (Below.refl _ _).alloc (Nat.le_refl _) _
 have hb2 : Below (w.alloc (.cells (madeCells #[.slice none 0 0] 8) 38)).heap.size (w.alloc (.cells (madeCells #[.slice none 0 0] 8) 38)) ((w.alloc (.cells (madeCells #[.slice none 0 0] 8) 38)).alloc (.cells #[.slice (some ⟨w.heap.size, 0, none⟩) 8 8, .string ⟨#[102, 105, 102, 111]⟩, .int .i64 2, .slice none 0 0] 32)) := (Below.refl _ _).alloc (Nat.le_refl _) _
 have hb3 : Below ((w.alloc (.cells (madeCells #[.slice none 0 0] 8) 38)).alloc (.cells #[.slice (some ⟨w.heap.size, 0, none⟩) 8 8, .string ⟨#[102, 105, 102, 111]⟩, .int .i64 2, .slice none 0 0] 32)).heap.size ((w.alloc (.cells (madeCells #[.slice none 0 0] 8) 38)).alloc (.cells #[.slice (some ⟨w.heap.size, 0, none⟩) 8 8, .string ⟨#[102, 105, 102, 111]⟩, .int .i64 2, .slice none 0 0] 32)) (((w.alloc (.cells (madeCells #[.slice none 0 0] 8) 38)).alloc (.cells #[.slice (some ⟨w.heap.size, 0, none⟩) 8 8, .string ⟨#[102, 105, 102, 111]⟩, .int .i64 2, .slice none 0 0] 32)).alloc (.cells #[.int .i64 0, .int .i64 3, .int .i64 5] 52)) := (Below.refl _ _).alloc (Nat.le_refl _) _
 have HV : Hid (Below w.heap.size w (((w.alloc (.cells (madeCells #[.slice none 0 0] 8) 38)).alloc (.cells #[.slice (some ⟨w.heap.size, 0, none⟩) 8 8, .string ⟨#[102, 105, 102, 111]⟩, .int .i64 2, .slice none 0 0] 32)).alloc (.cells #[.int .i64 0, .int .i64 3, .int .i64 5] 52)) ∧ LiesC (((w.alloc (.cells (madeCells #[.slice none 0 0] 8) 38)).alloc (.cells #[.slice (some ⟨w.heap.size, 0, none⟩) 8 8, .string ⟨#[102, 105, 102, 111]⟩, .int .i64 2, .slice none 0 0] 32)).alloc (.cells #[.int .i64 0, .int .i64 3, .int .i64 5] 52)) (some ⟨w.heap.size, 0, none⟩) bare8 ∧ LiesP (((w.alloc (.cells (madeCells #[.slice none 0 0] 8) 38)).alloc (.cells #[.slice (some ⟨w.heap.size, 0, none⟩) 8 8, .string ⟨#[102, 105, 102, 111]⟩, .int .i64 2, .slice none 0 0] 32)).alloc (.cells #[.int .i64 0, .int .i64 3, .int .i64 5] 52)) (some ⟨w.heap.size + 1 + 1, 0, none⟩) [gpk1]) := by
  have h12 := hb1.trans (hb2.mono hb1.size)
  refine ⟨h12.trans (hb3.mono h12.size), ((liesC_bare w 38).below hb2).below hb3, ?_⟩
  have := liesP_new ((w.alloc (.cells (madeCells #[.slice none 0 0] 8) 38)).alloc (.cells #[.slice (some ⟨w.heap.size, 0, none⟩) 8 8, .string ⟨#[102, 105, 102, 111]⟩, .int .i64 2, .slice none 0 0] 32)) 0 3 5
  rwa [hs2] at this
 clear GW he hs2 hb1 hb2 hb3
 go_enter Tryz.func9, Tryz.ntmps9
 go_wp2_with fail
 refine (HR.out _ _ _ HV.out.1 HV.out.2.1 HV.out.2.2).mono ?_
 rintro e w5 ⟨qa, qcap, b, o, lcap, rfl, hcell, hb5⟩
 have HB5 : Hid (Below w.heap.size w w5) := HV.out.1.trans (hb5.mono HV.out.1.size)
 clear hb5
 go_wp2_with fail
 go_ret
 exact ⟨rfl, HB5.out⟩
end Go.Proofs.YtibhkijaafdkoaaGreatDoor

namespace Go.Proofs.YtibhkijaafdkoaaGreatDoor
open Go.RowKit
structure GateRaw (w : World) (ca : Option Addr) (ccap : Nat) (cs : List (List (Int × Int))) (na : Option Addr) (ncap : Nat) (ns : List Int) : Prop where
 curves : LiesC w ca cs
 cfit : cs.length ≤ ccap
 cmax : ccap ≤ maxLen
 nums : LiesN w na ns
 nfit : ns.length ≤ ncap
 nmax : ncap ≤ maxLen
 nnone : na = none → ns = [] ∧ ncap = 0
end Go.Proofs.YtibhkijaafdkoaaGreatDoor

namespace Go.Proofs.YtibhkijaafdkoaaGreatDoor
open Go.RowKit
set_option maxHeartbeats 1000000 in
theorem numbersError_shape (a : Option Addr) (n cap : Nat) (lo hi : Int) (w : World) (h : n ≠ 8) :
  Calls Tryz.prog 38 #[.slice a n cap, .int .i64 lo, .int .i64 hi] w fun e w' => e = .returned (.int .i64 3) ∧ w' = w := by
 have h8 : (n : Int) ≠ 8 := by omega
 have h8' : ((n : Int) == 8) = false := by simpa using h8
 go_enter Tryz.func38, Tryz.ntmps38
 go_wp2
 go_ret
 exact ⟨rfl, rfl⟩
set_option maxHeartbeats 2000000 in
theorem numbersError_to (a : Option Addr) (cap : Nat) (ns : List Int) (lo hi : Int) (w : World) (hl : LiesN w a ns) (h8 : ns.length = 8) (j : Nat) (hj : j ≤ 8) (hg : ∀ (i : Nat) y, i < j → ns[i]? = some y → lo ≤ y ∧ y ≤ hi) (R : Int)
  (h : (j = 8 ∧ R = 0) ∨ (R = 2 ∧ ∃ x, ns[j]? = some x ∧ ¬ (lo ≤ x ∧ x ≤ hi))) :
  Calls Tryz.prog 38 #[.slice a 8 cap, .int .i64 lo, .int .i64 hi] w fun e w' => e = .returned (.int .i64 R) ∧ w' = w := by
 have HG : Hid (∀ (i : Nat) y, i < j → ns[i]? = some y → lo ≤ y ∧ y ≤ hi) := hg
 have HR : Hid ((j = 8 ∧ R = 0) ∨ (R = 2 ∧ ∃ x, ns[j]? = some x ∧ ¬ (lo ≤ x ∧ x ≤ hi))) := h
 obtain ⟨b, off, rfl, -, hcell⟩ := hl.place (by omega)
 have HC : Hid (∀ (i : Nat) x, ns[i]? = some x → w.cell? ⟨b, off + i, none⟩ = some (.int .i64 x)) := hcell
 have H8 : Hid (ns.length = 8) := h8
 clear hg h hl hcell h8
 go_enter Tryz.func38, Tryz.ntmps38
 go_wp2_with fail
 go_loopw [7] (fun i wr => ∃ k : Nat, k ≤ j ∧ i = .int .i64 k ∧ wr = w) (fun i _ => 8 - (intOf i).toNat)
 case atStart => exact ⟨0, Nat.zero_le _, rfl, rfl⟩
 case round =>
  obtain ⟨k, hk, rfl, rfl⟩ := hrel
  by_cases hkj : k < j
  ·
   obtain ⟨x, hx, -⟩ := get_some ns k (by rw [H8.out]; omega)
   obtain ⟨o1, o2⟩ := HG.out k x hkj hx
   have c1 := HC.out k x hx
   have o1' : ¬ x < lo := by omega
   have o2' : ¬ hi < x := by omega
   clear hx
   go_wp2_with fail
   go_roundw
   case rel => exact ⟨k + 1, by omega, by go_num, trivial⟩
   case measure => simp [intOf]; omega
  ·
   obtain rfl : k = j := by omega
   rcases HR.out with ⟨rfl, rfl⟩ | ⟨rfl, x, hx, hbad⟩
   ·
    go_wp2_with fail
    go_ret
    exact ⟨rfl, rfl⟩
   ·
    have c1 := HC.out k x hx
    have hk8 : k < 8 := by
     rw [← H8.out]
     rcases Nat.lt_or_ge k ns.length with h' | h'
     · exact h'
     · simp [List.getElem?_eq_none h'] at hx
    clear hx
    by_cases hx1 : x < lo
    ·
     go_wp2_with fail
     go_ret
     exact ⟨rfl, rfl⟩
    ·
     have hx2 : hi < x := by omega
     go_wp2_with fail
     go_ret
     exact ⟨rfl, rfl⟩
theorem numbersError_is (a : Option Addr) (cap : Nat) (ns : List Int) (lo hi : Int) (w : World) (hl : LiesN w a ns) (c : Nat) (h : NumsFault lo hi ns c) :
  Calls Tryz.prog 38 #[.slice a ns.length cap, .int .i64 lo, .int .i64 hi] w fun e w' => e = .returned (.int .i64 c) ∧ w' = w := by
 rcases h with ⟨rfl, h8⟩ | ⟨rfl, j, h8, hx, hg⟩ | ⟨rfl, h8, ho⟩
 · exact numbersError_shape a _ cap lo hi w h8
 ·
  rw [h8]
  have hj : j ≤ 8 := by
   obtain ⟨x, hx, -⟩ := hx
   rw [← h8]
   rcases Nat.lt_or_ge j ns.length with h' | h'
   · exact Nat.le_of_lt h'
   · simp [List.getElem?_eq_none h'] at hx
  exact numbersError_to a cap ns lo hi w hl h8 j hj hg 2 (.inr ⟨rfl, hx⟩)
 ·
  rw [h8]
  exact numbersError_to a cap ns lo hi w hl h8 8 (Nat.le_refl _) (fun i y _ hy => ho i y hy) 0 (.inl ⟨rfl, rfl⟩)
end Go.Proofs.YtibhkijaafdkoaaGreatDoor

namespace Go.Proofs.YtibhkijaafdkoaaGreatDoor
open Go.RowKit
set_option maxHeartbeats 2000000 in
theorem weightsError_to (a : Option Addr) (cap : Nat) (ns : List Int) (w : World) (hl : LiesN w a ns) (ho : NumsOk 1 12 ns) (j : Nat) (hj : j ≤ 8) (hg : ∀ (i : Nat) y, i < j → ns[i]? = some y → isWt y) (R : Int)
  (h : (j = 8 ∧ R = 0) ∨ (R = 2 ∧ ∃ x, ns[j]? = some x ∧ ¬ isWt x)) :
  Calls Tryz.prog 39 #[.slice a 8 cap] w fun e w' => e = .returned (.int .i64 R) ∧ w' = w := by
 have HNe : Hid (Calls Tryz.prog 38 #[.slice a 8 cap, .int .i64 1, .int .i64 12] w fun e w' => e = .returned (.int .i64 0) ∧ w' = w) := by
  have := numbersError_is a cap ns 1 12 w hl 0 (.inr (.inr ⟨rfl, ho⟩))
  rwa [ho.len] at this
 have HG : Hid (∀ (i : Nat) y, i < j → ns[i]? = some y → isWt y) := hg
 have HR : Hid ((j = 8 ∧ R = 0) ∨ (R = 2 ∧ ∃ x, ns[j]? = some x ∧ ¬ isWt x)) := h
 have H8 : Hid (ns.length = 8 ∧ ∀ (i : Nat) x, ns[i]? = some x → 1 ≤ x ∧ x ≤ 12) := ⟨ho.len, ho.each⟩
 obtain ⟨b, off, rfl, -, hcell⟩ := hl.place (by rw [ho.len]; omega)
 have HC : Hid (∀ (i : Nat) x, ns[i]? = some x → w.cell? ⟨b, off + i, none⟩ = some (.int .i64 x)) := hcell
 clear hg h hl hcell ho
 go_enter Tryz.func39, Tryz.ntmps39
 go_wp2_with fail
 refine HNe.out.mono ?_
 rintro e w1 ⟨rfl, rfl⟩
 go_wp2_with fail
 go_loopg [3, 4] 9 (fun gk ev i wr => wr = w1 ∧ ∃ k : Nat, k ≤ 8 ∧ i = .int .i64 k ∧ gk = 9 - k ∧ ((k ≤ j ∧ ev = .int .i64 0) ∨ (k = j + 1 ∧ R = 2 ∧ ev = .int .i64 2)))
 case atStart => exact ⟨rfl, 0, by omega, rfl, rfl, .inl ⟨Nat.zero_le _, rfl⟩⟩
 case round =>
  obtain ⟨rfl, k, hk, rfl, rfl, ⟨hkj, rfl⟩ | ⟨hkj, rfl, rfl⟩⟩ := hrel
  ·
   by_cases hlt : k < j
   ·
    obtain ⟨x, hx, -⟩ := get_some ns k (by rw [H8.out.1]; omega)
    have hok := HG.out k x hlt hx
    have hin := H8.out.2 k x hx
    have c1 := HC.out k x hx
    have h3 : (12 % x == 0) = true := by simpa using hok.2
    have h4 : 12 % x = 0 := hok.2
    clear hx hok
    go_wp2_with fail
    go_roundg (9 - (k + 1))
    case rel => exact ⟨rfl, k + 1, by omega, by go_num, rfl, .inl ⟨by omega, rfl⟩⟩
    case measure => omega
   ·
    obtain rfl : k = j := by omega
    rcases HR.out with ⟨rfl, rfl⟩ | ⟨rfl, x, hx, hbad⟩
    ·
     go_wp2_with fail
     go_ret
     exact ⟨rfl, rfl⟩
    ·
     have c1 := HC.out k x hx
     have hin := H8.out.2 k x hx
     have hk8 : k < 8 := by have := lt_of_get hx; rw [H8.out.1] at this; exact this
     have h3 : (12 % x == 0) = false := by simpa using fun h2 => hbad ⟨hin.1, h2⟩
     have h4 : ¬ 12 % x = 0 := fun h2 => hbad ⟨hin.1, h2⟩
     clear hx hbad
     go_wp2_with fail
     go_roundg (9 - (k + 1))
     case rel => exact ⟨rfl, k + 1, by omega, by go_num, rfl, .inr ⟨rfl, trivial, rfl⟩⟩
     case measure => omega
  ·
   by_cases h8 : k < 8
   ·
    go_wp2_with fail
    go_ret
    exact ⟨rfl, rfl⟩
   ·
    go_wp2_with fail
    go_ret
    exact ⟨rfl, rfl⟩
set_option maxHeartbeats 1000000 in
theorem weightsError_num (a : Option Addr) (n cap : Nat) (c : Int) (w : World) (hn : n ≤ 1000) (hc : 0 < c) (h : Calls Tryz.prog 38 #[.slice a n cap, .int .i64 1, .int .i64 12] w fun e w' => e = .returned (.int .i64 c) ∧ w' = w) :
  Calls Tryz.prog 39 #[.slice a n cap] w fun e w' => e = .returned (.int .i64 c) ∧ w' = w := by
 have HNe : Hid (Calls Tryz.prog 38 #[.slice a n cap, .int .i64 1, .int .i64 12] w fun e w' => e = .returned (.int .i64 c) ∧ w' = w) := h
 have hc0 : (c == 0) = false := by simpa using (show c ≠ 0 by omega)
 have hc1 : ¬ c = 0 := by omega
 clear h
 go_enter Tryz.func39, Tryz.ntmps39
 go_wp2_with fail
 refine HNe.out.mono ?_
 rintro e w1 ⟨rfl, rfl⟩
 go_wp2_with fail
 go_loopg [3, 4] 0 (fun _ ev i wr => wr = w1 ∧ i = .int .i64 0 ∧ ev = .int .i64 c)
 case atStart => exact ⟨rfl, rfl, rfl⟩
 case round =>
  obtain ⟨rfl, rfl, rfl⟩ := hrel
  by_cases h8 : 0 < n
  ·
   go_wp2_with fail
   go_ret
   exact ⟨rfl, rfl⟩
  ·
   obtain rfl : n = 0 := by omega
   go_wp2_with fail
   go_ret
   exact ⟨rfl, rfl⟩
theorem weightsError_is (a : Option Addr) (cap : Nat) (ns : List Int) (w : World) (hn : ns.length ≤ 1000) (hl : LiesN w a ns) (c : Nat) (h : WtsFault ns c) :
  Calls Tryz.prog 39 #[.slice a ns.length cap] w fun e w' => e = .returned (.int .i64 c) ∧ w' = w := by
 rcases h with ⟨rfl, h8⟩ | ⟨rfl, j, h8, ⟨x, hx, hbad⟩, hg⟩ | ⟨rfl, ho⟩
 · exact weightsError_num a _ cap 3 w hn (by decide) (numbersError_is a cap ns 1 12 w hl 3 (.inl ⟨rfl, h8⟩))
 ·
  obtain ⟨c, hc⟩ := numsFault_is 1 12 ns
  rcases hc with ⟨rfl, h⟩ | ⟨rfl, h⟩ | ⟨rfl, h⟩
  · exact absurd h8 h
  · exact weightsError_num a _ cap 2 w hn (by decide) (numbersError_is a cap ns 1 12 w hl 2 (.inr (.inl ⟨rfl, h⟩)))
  ·
   rw [h8]
   exact weightsError_to a cap ns w hl h j (by have := lt_of_get hx; omega) hg 2 (.inr ⟨rfl, x, hx, hbad⟩)
 ·
  rw [ho.len]
  exact weightsError_to a cap ns w hl ho.nums 8 (Nat.le_refl _) (fun i y _ hy => ho.each i y hy) 0 (.inl ⟨rfl, rfl⟩)
end Go.Proofs.YtibhkijaafdkoaaGreatDoor

namespace Go.Proofs.YtibhkijaafdkoaaGreatDoor
open Go.RowKit
structure At2 (W : World) (g : Nat) (x y : Value) : Prop where
 c0 : W.cell? ⟨g, 0, none⟩ = some x
 c1 : W.cell? ⟨g, 1, none⟩ = some y
 f0 : W.frozen? ⟨g, 0, none⟩ = false
 f1 : W.frozen? ⟨g, 1, none⟩ = false
section
variable {W W' : World} {g h : Nat} {x y : Value}
theorem at2_new (w : World) (x y : Value) (t : TypeId) : At2 (w.alloc (.cells #[x, y] t)) w.heap.size x y := ⟨by simp, by simp, by simp, by simp⟩
theorem At2.later (k : At2 W g x y) (hb : Below W.heap.size W W') : At2 W' g x y :=
 have l := cell_lt k.c0
 ⟨cell_later hb k.c0, cell_later hb k.c1, by rw [hb.frozen (p := ⟨g, 0, none⟩) l]; exact k.f0, by rw [hb.frozen (p := ⟨g, 1, none⟩) l]; exact k.f1⟩
end
end Go.Proofs.YtibhkijaafdkoaaGreatDoor
