/- Own facts, put together: no statement of its own. -/
import Derived.Test.YtibhkijaafdkoaaGreatDoorR28
import Derived.Test.YtibhkijaafdkoaaGreatDoorR13
import Derived.Test.YtibhkijaafdkoaaGreatDoorR20
namespace Go.Proofs.YtibhkijaafdkoaaGreatDoor
open Go.RowKit
def RoundEnd (per : Int) (ps : List Pk) (ns : List Int) (w : World) (e : Ending) (w' : World) : Prop := ∃ v l, e = .returned v ∧ OwnS w' w.heap.size v l ∧ RoundSent per ps ns l ∧ Below w.heap.size w w'
theorem isIn_line {d : Drr} {f : Nat} {B : Bool} (h : B = true ↔ (d.srv = some f ∨ f ∈ d.row)) : B = true ↔ f ∈ d.line := by
 rw [h]
 unfold Drr.line
 cases d.srv with
 | none => simp
 | some g => simp [eq_comm]
set_option maxRecDepth 100000 in
set_option maxHeartbeats 40000000 in
theorem roundOf_any (pa : Option Addr) (pcap : Nat) (ps : List Pk) (per : Int) (na : Option Addr) (ncap : Nat) (ns : List Int) (w : World) (hp : LiesP w pa ps) (hnn : LiesN w na ns) (ho : OkPks ps) (h1 : 1 ≤ per) (h2 : per ≤ 1000) (hk : NumsOk 1 3000 ns) :
  Calls Tryz.prog 108 #[.slice pa ps.length pcap, .int .i64 per, .slice na ns.length ncap] w fun e w' => RoundEnd per ps ns w e w' := by
 have hqu : ∀ f, 1 ≤ quOf ns f := fun f => (quOf_in hk.each (by omega) f).1
 have HP : Hid (LiesP w pa ps ∧ OkPks ps) := ⟨hp, ho⟩
 have HQ : Hid (NumsOk 1 3000 ns ∧ (∀ f, 1 ≤ quOf ns f)) := ⟨hk, hqu⟩
 have hfew := ho.few
 have h8 := hk.len
 obtain ⟨b3, o3, rfl, -, hc3⟩ := hnn.place (by omega)
 have HN : Hid (∀ W f, Below w.heap.size w W → f < 8 → ∃ x, quOf ns f = x ∧ 1 ≤ x ∧ x ≤ 3000 ∧ W.cell? ⟨b3, o3 + f, none⟩ = some (.int .i64 x)) := fun W f hb hf => by
  obtain ⟨x, hx, -⟩ := get_some ns f (by omega)
  have := hk.each f x hx
  exact ⟨x, quOf_get hx, this.1, this.2, cell_later hb (hc3 f x hx)⟩
 obtain ⟨n, hn⟩ : ∃ n, ps.length = n := ⟨_, rfl⟩
 have HNN : Hid (ps.length = n) := hn
 have HWt' : Hid (∀ W g f t out, Below w.heap.size w W → DoneAt W g n out → Calls Tryz.prog 143 #[.slice pa n pcap, .slice (some ⟨g, 0, none⟩) n n, .int .i64 ((f : Nat) : Int), .int .i64 t] W fun e w' => ∃ v, e = .returned v ∧ OwnQ w' W.heap.size v (waitL ps out f t n) ∧ Below W.heap.size W w') := fun W g f t out hb hd => by
  have := waiting_any pa pcap ps g out f t W (hp.below hb) ho (by rw [hn]; exact hd)
  rwa [hn] at this
 clear hp hnn ho hk hqu hc3
 rw [hn, h8]
 rw [hn] at hfew
 have hmk : ∀ w' : World, (Instr.makeSlice 104 (.int .i64 n) (.int .i64 n)).run Tryz.prog w' = .ok (.slice (some ⟨w'.heap.size, 0, none⟩) n n) (w'.alloc (.cells (madeCells #[.bool false] n) 4)) := fun w' => by
  obtain ⟨i0, hi, hz0, hz1, hz2⟩ := info_parts Tryz.infoBool
  have := run_make (P := Tryz.prog) w' 104 4 i0 (.bool false) Tryz.underlying104 hi hz0 .i64 .i64 n n (by omega) (by omega) (by rw [hz2]; omega) (by omega)
  simpa [hz1, Value.cells] using this
 have hmi : ∀ w' : World, (Instr.makeSlice 23 (.int .i64 8) (.int .i64 8)).run Tryz.prog w' = .ok (.slice (some ⟨w'.heap.size, 0, none⟩) 8 8) (w'.alloc (.cells (madeCells #[.int .i64 0] 8) 3)) := fun w' => by
  obtain ⟨i0, hi, hz0, hz1, hz2⟩ := info_parts Tryz.infoInt
  have := run_make (P := Tryz.prog) w' 23 3 i0 (.int .i64 0) Tryz.underlying23 hi hz0 .i64 .i64 8 8 (by omega) (by omega) (by rw [hz2]; omega) (by omega)
  simpa [hz1, Value.cells] using this
 have HM0 : Hid (RoMem w (((w.alloc (.cells (madeCells #[.bool false] n) 4)).alloc (.cells (madeCells #[.bool false] n) 4)).alloc (.cells (madeCells #[.int .i64 0] 8) 3)) w.heap.size (w.heap.size + 1) (w.heap.size + 2) n (.slice none 0 0) [] 0 (fun _ => 0) (.slice none 0 0) (fun _ => False) []) := roMem_new w n _ _
 obtain ⟨iS, hiS, hzS0, hzS1, hzS2⟩ := info_parts Tryz.infoSent
 obtain ⟨iI, hiI, hzI0, hzI1, hzI2⟩ := info_parts Tryz.infoInt
 clear hn
 go_enter Tryz.func108, Tryz.ntmps108
 go_wp2_with fail
 obtain ⟨gd, hgd⟩ : ∃ gd, w.heap.size = gd := ⟨_, rfl⟩
 obtain ⟨gc, hgc⟩ : ∃ gc, w.heap.size + 1 = gc := ⟨_, rfl⟩
 obtain ⟨gk, hgk⟩ : ∃ gk, w.heap.size + 2 = gk := ⟨_, rfl⟩
 obtain ⟨W1, hW1⟩ : ∃ W1, ((w.alloc (.cells (madeCells #[.bool false] n) 4)).alloc (.cells (madeCells #[.bool false] n) 4)).alloc (.cells (madeCells #[.int .i64 0] 8) 3) = W1 := ⟨_, rfl⟩
 have HG : Hid (w.heap.size = gd) := hgd
 have HM1 : Hid (RoMem w W1 gd gc gk n (.slice none 0 0) [] 0 (fun _ => 0) (.slice none 0 0) (fun _ => False) []) := by
  have := HM0.out
  rwa [hW1, hgk, hgc, hgd] at this
 rw [hW1, hgk, hgc, hgd]
 clear hW1 hgk hgc hgd HM0 hmk hmi
 go_loopg [7, 11, 12, 13] (roLeft ps ⟨[], 0, 0, turns0⟩ 29999 1) (fun gm v r sv t wr => ∃ s d fu z F, gm = roLeft ps s fu z ∧ sv = .int .i64 (srvInt d.srv) ∧ t = .int .i64 s.now ∧ RoAt per ps ns s d fu z ∧ RoMem w wr gd gc gk n v s.out s.next d.cr r F d.row)
 case atStart => exact ⟨_, _, 29999, 1, _, rfl, rfl, rfl, RoAt.start per ps ns, HM1.out⟩
 case round =>
  obtain ⟨s, d, fu, z, F, rfl, rfl, rfl, hro, hmem⟩ := hrel
  obtain ⟨W0, hW0⟩ : ∃ W, W = wr := ⟨_, rfl⟩
  subst hW0
  have HR0 : Hid (RoAt per ps ns s d fu z) := hro
  have HM : Hid (RoMem w W0 gd gc gk n u7 s.out s.next d.cr u11 F d.row) := hmem
  obtain ⟨a7, k7, hv7, h71, h72, -, -, -⟩ := hmem.own.open
  have hnow := hro.reach.now_in ⟨h1, h2⟩ HP.out.2
  have hcnt := hro.reach.count (turns_law HP.out.2 HQ.out.2)
  have hnl := hro.reach.next_le
  rw [HNN.out] at hnl
  have hol : s.out.length ≤ n := by omega
  obtain ⟨nw, hnw⟩ : ∃ nw, s.now = nw := ⟨_, rfl⟩
  obtain ⟨L, hL⟩ : ∃ L, s.out.length = L := ⟨_, rfl⟩
  obtain ⟨sv, hsv⟩ : ∃ sv, srvInt d.srv = sv := ⟨_, rfl⟩
  have HNw : Hid (s.now = nw ∧ s.out.length = L ∧ srvInt d.srv = sv) := ⟨hnw, hL, hsv⟩
  rw [hnw, hL] at hnow
  rw [hL] at hol h71 hv7
  have H7 : Hid (u7 = .slice a7 L k7) := hv7
  rw [hnw, hsv]
  unfold maxLen at h72
  clear hro hmem hcnt hnl hnw hL hsv
  subst hv7
  by_cases hlt : L < n
  ·
   go_wp2_with fail
   go_loopg [11, 14] n (fun gi r iv wr2 => ∃ (k : Nat) (s1 : St TQ) (d1 : Drr) (F1 : Nat → Prop), gi = n - k ∧ k ≤ n ∧ iv = .int .i64 (k : Int) ∧ s1.out = s.out ∧ s1.now = s.now ∧ d1.srv = d.srv ∧ d1.cr = d.cr ∧ (∀ j, j < k → tickOf ps j ≤ s.now → j < s1.next) ∧ RoAt per ps ns s1 d1 fu z ∧ RoMem w wr2 gd gc gk n (.slice a7 L k7) s1.out s1.next d1.cr r F1 d1.row)
   case atStart => exact ⟨0, s, d, F, rfl, Nat.zero_le _, rfl, rfl, rfl, rfl, rfl, fun j h => absurd h (Nat.not_lt_zero _), HR0.out, HM.out⟩
   case round =>
    obtain ⟨k, s1, d1, F1, rfl, hkn', rfl, e1, e2, e3, e4, hbef, hro, hmem⟩ := hrel
    obtain ⟨W2, hW2⟩ : ∃ W, W = wr := ⟨_, rfl⟩
    subst hW2
    have HR : Hid (RoAt per ps ns s1 d1 fu z) := hro
    have HM2 : Hid (RoMem w W2 gd gc gk n (.slice a7 L k7) s1.out s1.next d1.cr u11 F1 d1.row) := hmem
    have HEq : Hid (s1.out = s.out ∧ s1.now = s.now ∧ d1.srv = d.srv ∧ d1.cr = d.cr ∧ s1.now = nw ∧ s1.out.length = L ∧ srvInt d1.srv = sv) := ⟨e1, e2, e3, e4, e2.trans HNw.out.1, by rw [e1]; exact HNw.out.2.1, by rw [e3]; exact HNw.out.2.2⟩
    have HBef : Hid (∀ j, j < k → tickOf ps j ≤ s.now → j < s1.next) := hbef
    have hfewq : ∀ f, 8 ≤ f → d1.qs f = [] := fun f hf => by rw [hro.qs]; exact (turns_ok HP.out.2 HQ.out.2 hro.reach).few f hf
    have hrow := row_few' hro.ok hfewq
    have hnl := hro.reach.next_le
    rw [HNN.out] at hnl
    obtain ⟨ra, rcap, hrv, hr1, hr2, hrn, hrl, hrc⟩ := hmem.row.cells
    have HRC : Hid ((ra = none → d1.row = [] ∧ rcap = 0) ∧ LiesN W2 ra (asInts d1.row) ∧ ∀ ad, ra = some ad → ∀ (j k : Nat), d1.row[j]? = some k → W2.cell? ⟨ad.block, ad.off + j, none⟩ = some (.int .i64 (k : Int))) := ⟨hrn, hrl, hrc⟩
    obtain ⟨rl, hrle⟩ : ∃ rl, d1.row.length = rl := ⟨_, rfl⟩
    have HRl : Hid (d1.row.length = rl) := hrle
    rw [hrle] at hrv hr1
    have hrl8 : rl ≤ 8 := by rw [← hrle]; exact hrow.1
    have HRow : Hid (∀ f, f ∈ d1.line → f < 8) := hrow.2
    have HRv : Hid (u11 = .slice ra rl rcap) := hrv
    unfold maxLen at hr2
    clear hro hmem e1 e2 e3 e4 hbef hfewq hrow hrn hrl hrc hrle
    subst hrv
    by_cases hkn : k < n
    ·
     have HBel : Hid (Below w.heap.size w W2) := HM2.out.below
     obtain ⟨p, hpk, -⟩ := get_some ps k (by rw [HNN.out]; exact hkn)
     obtain ⟨fl, hfl, hf, hfo⟩ := flow_at HP.out.2 hpk
     obtain ⟨b2, o2, rfl, -, hc2⟩ := HP.out.1.place (by rw [HNN.out]; omega)
     obtain ⟨tk, htke⟩ : ∃ tk, p.tick = tk := ⟨_, rfl⟩
     have HCp : Hid (∀ W, Below w.heap.size w W → W.cell? ⟨b2, o2 + k * 3, none⟩ = some (.int .i64 (fl : Int)) ∧ W.cell? ⟨b2, o2 + k * 3 + 2, none⟩ = some (.int .i64 tk)) := fun W hb => ⟨by rw [← hf]; exact cell_later hb (hc2 k _ hpk).1, by rw [← htke]; exact cell_later hb (hc2 k _ hpk).2.2⟩
     have HPk : Hid (ps[k]? = some p ∧ p.tick = tk ∧ flowOf ps k = fl ∧ tickOf ps k = tk) := ⟨hpk, htke, hfo, by rw [tickOf_get hpk]; exact htke⟩
     have d1c := HM2.out.came.cell k hkn
     have p2 := (HCp.out W2 HBel.out).2
     clear hpk hf hfo hc2 htke
     by_cases hcame : k < s1.next
     ·
      have hdc : decide (k < s1.next) = true := decide_eq_true hcame
      rw [hdc] at d1c
      have HB2 : Hid (∀ j, j < k + 1 → tickOf ps j ≤ s.now → j < s1.next) := fun j hj ht => by
       rcases Nat.lt_or_ge j k with h | h
       · exact HBef.out j h ht
       · omega
      clear hdc
      go_wp2_with fail
      go_roundg (n - (k + 1))
      case measure => omega
      case rel => exact ⟨k + 1, s1, d1, F1, rfl, by omega, by go_num, HEq.out.1, HEq.out.2.1, HEq.out.2.2.1, HEq.out.2.2.2.1, HB2.out, HR.out, HM2.out⟩
     ·
      have hdc : decide (k < s1.next) = false := decide_eq_false hcame
      rw [hdc] at d1c
      by_cases htk : tk ≤ nw
      ·
       obtain ⟨hks, hdq, hfu⟩ := HR.out.more HP.out.2 (fun j hj ht => HBef.out j hj (by rw [← HEq.out.2.1]; exact ht)) HPk.out.1 (by rw [HPk.out.2.1, HEq.out.2.2.2.2.1]; exact htk) (Nat.le_of_not_lt hcame)
       have hrc := HR.out.come HP.out.2 (p := p) (by rw [← hks]; exact HPk.out.1) (by rw [HPk.out.2.1, HEq.out.2.2.2.2.1]; exact htk) ⟨hdq, hfu⟩
       rw [← hks] at hrc
       have HRC2 : Hid (RoAt per ps ns ⟨s1.out, s1.now, k + 1, (turnsQ ps ns).come s1.q k⟩ (d1.come (flowOf ps) k) fu z) := hrc
       have HMX0 := HM2.out.setCame (by rw [← hks]; exact hkn)
       rw [← hks] at HMX0
       have f1c := HM2.out.came.frozen k
       have HMXa : Hid (RoMem w (W2.setCell ⟨gc, k, none⟩ (.bool true)) gd gc gk n (.slice a7 L k7) s1.out (k + 1) d1.cr (.slice ra rl rcap) F1 d1.row) := HMX0
       obtain ⟨WX, hWX⟩ : ∃ WX, W2.setCell ⟨gc, k, none⟩ (.bool true) = WX := ⟨_, rfl⟩
       have HMX : Hid (RoMem w WX gd gc gk n (.slice a7 L k7) s1.out (k + 1) d1.cr (.slice ra rl rcap) F1 d1.row) := by rw [← hWX]; exact HMXa.out
       have p1 : WX.cell? ⟨b2, o2 + k * 3, none⟩ = some (.int .i64 (fl : Int)) := (HCp.out _ HMX.out.below).1
       have HB2 : Hid (∀ j, j < k + 1 → tickOf ps j ≤ s.now → j < k + 1) := fun j hj _ => hj
       obtain ⟨B0, hB0⟩ : ∃ B0, ((fl : Int) == sv) = B0 := ⟨_, rfl⟩
       have HB0 : Hid (B0 = true ↔ (d1.srv = some fl ∨ fl ∈ d1.row.take 0)) := by
        show _ ↔ _
        rw [← hB0, ← HEq.out.2.2.2.2.2.2]
        cases d1.srv with
        | none => simp [srvInt]
        | some g => simp [srvInt]; omega
       have HRowX : Hid (∀ (j x : Nat), d1.row[j]? = some x → ∃ rb ro, ra = some ⟨rb, ro, none⟩ ∧ WX.cell? ⟨rb, ro + j, none⟩ = some (.int .i64 (x : Int))) := fun j x hx => by
        obtain ⟨ao, cap0, e1, -, -, -, hl, hcells⟩ := HMX.out.row.cells
        injection e1 with e1 e2 e3
        subst e1
        rcases hl with h0 | ⟨b, o, e4, -, -⟩
        ·
         have : d1.row = [] := by simpa [asInts] using h0
         rw [this] at hx
         simp at hx
        · exact ⟨b, o, e4, hcells ⟨b, o, none⟩ e4 j x hx⟩
       have HKs : Hid (k = s1.next) := hks
       clear hcame hdc hks hdq hfu hrc HMX0
       go_wp2_with fail
       clear hWX hB0 p1 p2 d1c f1c
       go_loopg [16, 17] rl (fun gj bv jv wr3 => ∃ (j : Nat) (B : Bool), gj = rl - j ∧ j ≤ rl ∧ jv = .int .i64 (j : Int) ∧ bv = .bool B ∧ (B = true ↔ (d1.srv = some fl ∨ fl ∈ d1.row.take j)) ∧ WX = wr3)
       case atStart => exact ⟨0, B0, rfl, Nat.zero_le _, rfl, rfl, HB0.out, rfl⟩
       case round =>
        obtain ⟨j, B, rfl, hjl', rfl, rfl, hB, hwx⟩ := hrel
        subst hwx
        have HB : Hid (B = true ↔ (d1.srv = some fl ∨ fl ∈ d1.row.take j)) := hB
        clear hB
        by_cases hjl : j < rl
        ·
         obtain ⟨x, hx, -⟩ := get_some d1.row j (by rw [HRl.out]; exact hjl)
         obtain ⟨rb, ro, rfl, cx⟩ := HRowX.out j x hx
         have HX : Hid (d1.row.take (j + 1) = d1.row.take j ++ [x]) := by
          show _ = _
          rw [List.take_add_one, hx]
          rfl
         clear hx
         by_cases hxf : x = fl
         ·
          have hxd : ((x : Int) == (fl : Int)) = true := by simp; omega
          have HB3 : Hid (d1.srv = some fl ∨ fl ∈ d1.row.take (j + 1)) := by
           show _ ∨ _
           rw [HX.out]
           simp [hxf]
          clear hxf
          go_wp2_with fail
          go_roundg (rl - (j + 1))
          case measure => omega
          case rel => exact ⟨j + 1, true, rfl, by omega, by go_num, rfl, ⟨fun _ => HB3.out, fun _ => rfl⟩, rfl⟩
         ·
          have hxd : ((x : Int) == (fl : Int)) = false := by simp; omega
          have HB3 : Hid (B = true ↔ (d1.srv = some fl ∨ fl ∈ d1.row.take (j + 1))) := by
           show _ ↔ _
           rw [HX.out, HB.out]
           simp [Ne.symm hxf]
          clear hxf
          go_wp2_with fail
          go_roundg (rl - (j + 1))
          case measure => omega
          case rel => exact ⟨j + 1, B, rfl, by omega, by go_num, rfl, HB3.out, rfl⟩
        ·
         obtain rfl : j = rl := by omega
         have HLn : Hid (B = true ↔ flowOf ps k ∈ d1.line) := by
          have := HB.out
          rw [← HRl.out, List.take_length] at this
          show _ ↔ _
          rw [HPk.out.2.2.1]
          exact isIn_line this
         cases B with
         | true =>
          have HMf : Hid (RoMem w WX gd gc gk n (.slice a7 L k7) s1.out (k + 1) (d1.come (flowOf ps) k).cr (.slice ra j rcap) F1 (d1.come (flowOf ps) k).row) := by
           have e : (d1.come (flowOf ps) k).row = d1.row := if_pos (HLn.out.1 (by trivial))
           show RoMem _ _ _ _ _ _ _ _ _ _ _ _ _
           rw [e]
           exact HMX.out
          go_wp2_with fail
          go_roundg (n - (k + 1))
          case measure => omega
          case rel => exact ⟨k + 1, ⟨s1.out, s1.now, k + 1, (turnsQ ps ns).come s1.q k⟩, d1.come (flowOf ps) k, F1, rfl, by omega, by go_num, HEq.out.1, HEq.out.2.1, HEq.out.2.2.1, HEq.out.2.2.2.1, HB2.out, HRC2.out, HMf.out⟩
         | false =>
          have hba : Below WX.heap.size WX (WX.alloc (.cells #[.int .i64 (fl : Int)] 3)) := (Below.refl _ _).alloc (Nat.le_refl _) _
          have HMa : Hid (RoMem w (WX.alloc (.cells #[.int .i64 (fl : Int)] 3)) gd gc gk n (.slice a7 L k7) s1.out (k + 1) d1.cr (.slice ra j rcap) F1 d1.row) := HMX.out.later hba
          have HCk : Hid ((WX.alloc (.cells #[.int .i64 (fl : Int)] 3)).cell? ⟨WX.heap.size, 0, none⟩ = some (.int .i64 (fl : Int))) := (cell_of_row _ _ 0 _ _ _ (heap_alloc_new WX _)).trans rfl
          have HBs : Hid (w.heap.size ≤ (WX.alloc (.cells #[.int .i64 (fl : Int)] 3)).heap.size) := HMa.out.below.size
          have HRw : Hid ((d1.come (flowOf ps) k).row = d1.row ++ [fl]) := by
           have e : (d1.come (flowOf ps) k).row = d1.row ++ [flowOf ps k] := if_neg (fun h => by have := HLn.out.2 h; cases this)
           show _ = _
           rw [e, HPk.out.2.2.1]
          clear hba
          go_wp2_with (at_builtin; go_must (refine wpList_append_slide _ rfl _ _ 23 rfl 3 iI (.int .i64 0) 8 Tryz.underlying23 hiI hzI0 hzI1 hzI2 rfl w.heap.size (.slice ra j rcap) F1 fl d1.row rfl HMa.out.row HBs.out ⟨WX.heap.size, 0, none⟩ 1 rfl HCk.out (by rw [HRl.out]; unfold maxLen; omega) (by rw [HRl.out]; omega) ?_; intro ao' cap' w2 hon; rw [HRl.out] at hon ⊢; obtain ⟨F', g1, g2, g3⟩ := hon; have HOn : Hid (RoMem w w2 gd gc gk n (.slice a7 L k7) s1.out (k + 1) d1.cr (.slice ao' (j + 1) cap') F' (d1.row ++ [fl])) := HMa.out.setRow g3 g1 g2; clear g1 g2 g3))
          go_roundg (n - (k + 1))
          case measure => omega
          case rel => exact ⟨k + 1, ⟨s1.out, s1.now, k + 1, (turnsQ ps ns).come s1.q k⟩, d1.come (flowOf ps) k, F', rfl, by omega, by go_num, HEq.out.1, HEq.out.2.1, HEq.out.2.2.1, HEq.out.2.2.2.1, HB2.out, HRC2.out, by rw [HRw.out]; exact HOn.out⟩
      ·
       have HB2 : Hid (∀ j, j < k + 1 → tickOf ps j ≤ s.now → j < s1.next) := fun j hj ht => by
        rcases Nat.lt_or_ge j k with h | h
        · exact HBef.out j h ht
        ·
         obtain rfl : j = k := by omega
         rw [HPk.out.2.2.2, HNw.out.1] at ht
         exact absurd ht htk
       clear hcame hdc
       go_wp2_with fail
       go_roundg (n - (k + 1))
       case measure => omega
       case rel => exact ⟨k + 1, s1, d1, F1, rfl, by omega, by go_num, HEq.out.1, HEq.out.2.1, HEq.out.2.2.1, HEq.out.2.2.2.1, HB2.out, HR.out, HM2.out⟩
    ·
     have hkn2 : n = k := by omega
     subst hkn2
     have HNo : Hid (NoMore ps s1) := fun i hi1 hi2 => by
      rcases Int.lt_or_le s1.now (tickOf ps i) with h | h
      · exact h
      ·
       have := HBef.out i (by rw [HNN.out] at hi2; exact hi2) (by rw [← HEq.out.2.1]; exact h)
       omega
     have hlt' : s1.out.length < ps.length := by rw [HEq.out.2.2.2.2.2.1, HNN.out]; exact hlt
     cases hs : d1.srv with
     | none =>
      have hsv : sv = -1 := by rw [← HEq.out.2.2.2.2.2.2, hs]; rfl
      subst hsv
      cases hr : d1.row with
      | nil =>
       have hline : d1.line = [] := by unfold Drr.line; rw [hs]; exact hr
       obtain ⟨-, hfu, hrest⟩ := HR.out.rests HP.out.2 HQ.out.2 hline
       obtain ⟨hnx, hz, hidle⟩ := HR.out.idles HP.out.2 HQ.out.2 hline HNo.out hlt'
       obtain ⟨hdone, hnot⟩ := HR.out.undone HP.out.2 HQ.out.2 hrest
       have hrl0 : rl = 0 := by rw [← HRl.out, hr]; rfl
       subst hrl0
       subst hz
       subst hfu
       obtain ⟨p, hpk, -⟩ := get_some ps s1.next hnx
       obtain ⟨b2, o2, rfl, -, hc2⟩ := HP.out.1.place (by omega)
       obtain ⟨tk, htke⟩ : ∃ tk, p.tick = tk := ⟨_, rfl⟩
       obtain ⟨nx, hnxe⟩ : ∃ nx, s1.next = nx := ⟨_, rfl⟩
       have HId : Hid (RoAt per ps ns ⟨s1.out, tk, nx, s1.q⟩ d1 29999 0) := by
        have := hidle p hpk
        rwa [htke, hnxe] at this
       have ct : W2.cell? ⟨b2, o2 + nx * 3 + 2, none⟩ = some (.int .i64 tk) := by rw [← htke, ← hnxe]; exact cell_later HM2.out.below (hc2 s1.next _ hpk).2.2
       have HDo : Hid ((∀ i, i < nx → isDone s1.out i = true) ∧ isDone s1.out nx = false) := by rw [← hnxe]; exact ⟨hdone, hnot⟩
       have hnxn : nx < n := by rw [← hnxe, ← HNN.out]; exact hnx
       have HM3 : Hid (RoMem w W2 gd gc gk n (.slice a7 L k7) s1.out nx d1.cr (.slice ra 0 rcap) F1 d1.row) := by rw [← hnxe]; exact HM2.out
       have HSn : Hid (srvInt d1.srv = -1) := by show _ = _; rw [hs]; rfl
       clear hidle hdone hnot hrest hpk hc2 htke hnxe hline hnx hlt' hs hr
       go_wp2_with fail
       go_loopg [18] nx (fun gj jv wr4 => ∃ j : Nat, gj = nx - j ∧ j ≤ nx ∧ jv = .int .i64 (j : Int) ∧ W2 = wr4)
       case atStart => exact ⟨0, rfl, Nat.zero_le _, rfl, rfl⟩
       case round =>
        obtain ⟨j, rfl, hjx', rfl, hw4⟩ := hrel
        subst hw4
        have dj := HM3.out.done.cell j (by omega)
        by_cases hjx : j < nx
        ·
         rw [HDo.out.1 j hjx] at dj
         go_wp2_with fail
         go_roundg (nx - (j + 1))
         case measure => omega
         case rel => exact ⟨j + 1, rfl, by omega, by go_num, rfl⟩
        ·
         obtain rfl : j = nx := by omega
         rw [HDo.out.2] at dj
         go_wp2_with fail
         go_roundg (roLeft ps ⟨s1.out, tk, j, s1.q⟩ 29999 0)
         case measure =>
          unfold roLeft
          simp only [HEq.out.1]
          omega
         case rel => exact ⟨⟨s1.out, tk, j, s1.q⟩, d1, 29999, 0, F1, rfl, by rw [HSn.out], rfl, HId.out, HM3.out⟩
      | cons f r =>
       have hf8 : f < 8 := HRow.out f (by unfold Drr.line; rw [hs]; simp only; rw [hr]; exact List.mem_cons_self ..)
       obtain ⟨fu1, hfu1, hsa⟩ := HR.out.turns HP.out.2 HQ.out.2 HNo.out hs hr
       have hsl0 := HM2.out.row
       rw [hr] at hsl0
       obtain ⟨rb, ro, rcap', hv', hcapl, hcapm, crf, -, t1, t2⟩ := hsl0.first
       injection hv' with hv1 hv2 hv3
       subst hv1
       subst hv2
       subst hv3
       obtain ⟨x, hxq, hx1, hx2, cx⟩ := HN.out W2 f HM2.out.below hf8
       obtain ⟨c, hce⟩ : ∃ c, d1.cr f = c := ⟨_, rfl⟩
       have hcr0 := HR.out.ok.cr_in HQ.out.2 f
       have hxr : quOf ns f = x := hxq
       rw [hxr, hce] at hcr0
       have wcx : IntKind.i64.wrap (c + x) = c + x := IntWalk.i64_in _ (by omega)
       clear hsl0
       by_cases hcap1 : 1 < rcap
       ·
        have hsl := t1 hcap1
        have HMr : Hid (RoMem w W2 gd gc gk n (.slice a7 L k7) s1.out s1.next d1.cr (.slice (some ⟨rb, ro + 1, none⟩) r.length (rcap - 1)) F1 r) := HM2.out.setRow (But.refl _ _) hsl (fun k hk => .inl hk)
        have HX0 : Hid (RoMem w (W2.setCell ⟨gk, f, none⟩ (.int .i64 (c + x))).drew gd gc gk n (.slice a7 L k7) s1.out s1.next (put1 d1.cr f (c + x)) (.slice (some ⟨rb, ro + 1, none⟩) r.length (rcap - 1)) F1 r) := (HMr.out.setCred hf8 (c + x)).later (Below.refl _ _).drew
        have ck : W2.cell? ⟨gk, f, none⟩ = some (.int .i64 c) := by rw [← hce]; exact HM2.out.cred.cell f hf8
        have cf := HM2.out.cred.frozen f
        obtain ⟨dX, hdX⟩ : ∃ dX, d1.turn (quOf ns) f r = dX := ⟨_, rfl⟩
        have HSA : Hid (ServeAt per ps ns s1 dX f fu1 z) := by rw [← hdX]; exact hsa
        have hdc : dX.cr = put1 d1.cr f (c + x) := by rw [← hdX, ← hce, ← hxq]; rfl
        have hdr : dX.row = r := by rw [← hdX]; rfl
        rw [← hdc] at HX0
        have hfi0 : (f : Int) < 8 := by omega
        have HCr0 : Hid (dX.row = r) := hdr
        clear t1 t2 hsl hdX hdc hdr hsa hce hxq hs hr hlt'
        go_wp2_with fail
        go_region
        obtain ⟨X, hX⟩ : ∃ X, (W2.setCell ⟨gk, f, none⟩ (.int .i64 (c + x))).drew = X := ⟨_, rfl⟩
        rw [hX] at HX0 ⊢
        have HMX : Hid (RoMem w X gd gc gk n (.slice a7 L k7) s1.out s1.next dX.cr (.slice (some ⟨rb, ro + 1, none⟩) r.length (rcap - 1)) F1 dX.row) := by
         show RoMem _ _ _ _ _ _ _ _ _ _ _ _ _
         rw [HCr0.out]
         exact HX0.out
        clear hX HX0 ck cf crf wcx cx hcr0 hxr
        obtain ⟨k1, r1, hk1, hw1, hkl, -, hdn, hkf, hlen⟩ := HSA.out.head HP.out.2 HQ.out.2 h1
        have hkn1 : k1 < n := by rw [← HNN.out]; exact hkl
        obtain ⟨p, hpk, -⟩ := get_some ps k1 hkl
        obtain ⟨b2, o2, rfl, -, hc2⟩ := HP.out.1.place (by omega)
        obtain ⟨sz, hsz⟩ : ∃ sz, p.size = sz := ⟨_, rfl⟩
        have HCs : Hid (∀ W, Below w.heap.size w W → W.cell? ⟨b2, o2 + k1 * 3 + 1, none⟩ = some (.int .i64 sz)) := fun W hb => by rw [← hsz]; exact cell_later hb (hc2 k1 _ hpk).2.1
        have hszr : 1 ≤ sz ∧ sz ≤ 1500 := by have := okPk_true (HP.out.2.each _ p hpk).1; omega
        have hsza : sizeAt ps k1 = sz := by rw [sizeAt_get hpk]; exact hsz
        have hcrr := HSA.out.ok.cr_in HQ.out.2 f
        have hqur := (quOf_in HQ.out.1.each (by omega) f).2
        obtain ⟨c, hcr⟩ : ∃ c, dX.cr f = c := ⟨_, rfl⟩
        rw [hcr] at hcrr
        have HK1 : Hid (dX.qs f = k1 :: r1 ∧ ps[k1]? = some p ∧ p.size = sz ∧ sizeAt ps k1 = sz ∧ dX.cr f = c) := ⟨hk1, hpk, hsz, hsza, hcr⟩
        have hcb : 0 ≤ c ∧ c ≤ 1000000 := by omega
        have HWl : Hid (waitL ps s1.out f nw n = k1 :: r1) := by rw [← HNN.out, ← HEq.out.2.2.2.2.1]; exact hw1
        have HCw : Hid (Calls Tryz.prog 143 #[.slice (some ⟨b2, o2, none⟩) n pcap, .slice (some ⟨gd, 0, none⟩) n n, .int .i64 (f : Int), .int .i64 nw] X fun e w' => ∃ v, e = .returned v ∧ OwnQ w' X.heap.size v (k1 :: r1) ∧ Below X.heap.size X w') := by
         have := HWt'.out X gd f nw s1.out HMX.out.below HMX.out.done
         rwa [HWl.out] at this
        have HLen : Hid ((k1 :: r1).length ≤ 300) := hlen
        clear hk1 hw1 hkl hdn hkf hlen hpk hc2 hsz hsza hcrr hqur hcr
        go_wp2_with fail
        refine HCw.out.mono ?_
        rintro e5 w1 ⟨v5, rfl, hq5, hb5⟩
        have HM5 : Hid (RoMem w w1 gd gc gk n (.slice a7 L k7) s1.out s1.next dX.cr (.slice (some ⟨rb, ro + 1, none⟩) r.length (rcap - 1)) F1 dX.row) := HMX.out.later hb5
        unfold OwnQ at hq5
        rw [← asInts_length] at hq5
        obtain ⟨g5, cap5, rfl, hl5, hm5, hc5⟩ := own_some hq5 (by rw [asInts_length]; simp)
        have q0 : w1.cell? ⟨g5, 0, none⟩ = some (.int .i64 (k1 : Int)) := hc5 0 _ rfl
        obtain ⟨m5, hm5e⟩ : ∃ m5, (asInts (k1 :: r1)).length = m5 := ⟨_, rfl⟩
        have hm50 : 0 < m5 := by rw [← hm5e, asInts_length]; simp
        rw [hm5e] at hl5 ⊢
        unfold maxLen at hm5
        have cs1 := HCs.out w1 HM5.out.below
        have ck1 : w1.cell? ⟨gk, f, none⟩ = some (.int .i64 c) := by rw [← HK1.out.2.2.2.2]; exact HM5.out.cred.cell f hf8
        have hfi : (f : Int) < 8 := by omega
        clear hq5 hb5 hc5 hm5e
        by_cases hbig : c < sz
        ·
         have hdb : decide (c < sz) = true := decide_eq_true hbig
         obtain ⟨fu2, hfu2, hback⟩ := HSA.out.back HK1.out.1 (by rw [HK1.out.2.2.2.1, HK1.out.2.2.2.2]; exact hbig)
         have HBk : Hid (RoAt per ps ns s1 (dX.back f) fu2 z) := hback
         clear hback hbig
         go_wp2_with fail
         go_quiet (fail)
         obtain ⟨Y, hY⟩ : ∃ Y, w1.drewN nq = Y := ⟨_, rfl⟩
         have HMY : Hid (RoMem w Y gd gc gk n (.slice a7 L k7) s1.out s1.next dX.cr (.slice (some ⟨rb, ro + 1, none⟩) r.length (rcap - 1)) F1 dX.row) := by
          have := HM5.out.later (below_drewN (Below.refl _ w1) nq)
          rwa [hY] at this
         rw [hY]
         obtain ⟨ra6, rcap6, hrv6, -, -, hrn6, hrl6, -⟩ := HMY.out.row.cells
         injection hrv6 with hr61 hr62 hr63
         have HR6 : Hid ((ra6 = none → asInts dX.row = [] ∧ rcap6 = 0) ∧ LiesN Y ra6 (asInts dX.row) ∧ (asInts dX.row).length = r.length) := ⟨fun e => ⟨by rw [(hrn6 e).1]; rfl, (hrn6 e).2⟩, hrl6, by rw [asInts_length]; exact hr62.symm⟩
         rw [← hr61, ← hr63] at HR6
         clear hY hrn6 hrl6 hr61 hr62 hr63 q0 cs1 ck1 hdb
         go_wp2_with (first
          | (at_builtin; (refine wpList_append_copy _ rfl _ _ 23 rfl 3 iI (.int .i64 0) Tryz.underlying23 hiI hzI0 hzI1 hzI2 rfl (some ⟨rb, ro + 1, none⟩) (rcap - 1) (r.length) (asInts dX.row) HR6.out.2.2 rfl rfl HR6.out.2.1 HR6.out.1 (by omega) ?_; rintro v6 w6 ⟨ho6, hb6⟩; have H6 : Hid ((w6.alloc (.cells #[.int .i64 (f : Int)] 3)).ownsRow Y.heap.size 3 1 v6 (r.length) (ints (asInts dX.row)) ∧ Below Y.heap.size Y (w6.alloc (.cells #[.int .i64 (f : Int)] 3)) ∧ (∀ j u, (ints [(f : Int)])[j]? = some u → (w6.alloc (.cells #[.int .i64 (f : Int)] 3)).cell? (Addr.add ⟨w6.heap.size, 0, none⟩ j) = some u)) := ⟨ownsRow_of_block ho6 (fun g' _ hg' => Below.heap_alloc w6 _ g' hg'), hb6.alloc hb6.size _, World.news_of_block (cs := #[.int .i64 (f : Int)]) (t := 3) (heap_alloc_new w6 _)⟩; clear ho6 hb6))
          | (at_builtin; go_must (refine wpList_append_lies _ rfl _ _ 23 rfl Y.heap.size 3 iI (.int .i64 0) 1 8 Tryz.underlying23 hiI hzI0 hzI1 hzI2 rfl (by decide) v6 (r.length) (ints (asInts dX.row)) rfl H6.out.1 ⟨w6.heap.size, 0, none⟩ 1 1 (ints [(f : Int)]) rfl rfl H6.out.2.2 (ints_one _) (by decide) (by unfold maxLen; omega) (by omega) H6.out.2.1.size _ rfl ?_; intro g7 cap7 w7 ho7 hg7 hat7 hlt7; have H7 : Hid (w7.ownsRow Y.heap.size 3 1 (.slice (some ⟨g7, 0, none⟩) (r.length + 1) cap7) (r.length + 1) (ints (asInts dX.row) ++ ints [(f : Int)]) ∧ Below Y.heap.size Y w7) := ⟨ho7, H6.out.2.1.grown hg7 H6.out.2.1.size (fun j hj => (ownsRow_lt H6.out.1 hj).1)⟩; clear ho7 hg7 hat7 hlt7)))
         have HMZ : Hid (RoMem w w7 gd gc gk n (.slice a7 L k7) s1.out s1.next dX.cr (.slice (some ⟨g7, 0, none⟩) (r.length + 1) cap7) (fun k => (Value.slice (some ⟨g7, 0, none⟩) (r.length + 1) cap7).ownBlock = some k) (dX.row ++ [f])) := by
          have ho : w7.ownsRow w.heap.size 3 1 (.slice (some ⟨g7, 0, none⟩) (r.length + 1) cap7) (dX.row ++ [f]).length (ints (asInts (dX.row ++ [f]))) := by
           rw [List.length_append, asInts_snoc, ← asInts_length dX.row, HR6.out.2.2]
           exact ownsRow_mono H7.out.1 HMY.out.below.size
          exact HMY.out.setRow (.ofBelow H7.out.2) (Slides.of_own ho) (fun k hk => .inr (ownsRow_lt H7.out.1 hk).1)
         go_roundg (roLeft ps s1 fu2 z)
         case measure =>
          unfold roLeft
          simp only [HEq.out.1]
          omega
         case rel => exact ⟨s1, dX.back f, fu2, z, _, rfl, rfl, by rw [HEq.out.2.2.2.2.1], HBk.out, HMZ.out⟩
        ·
         have hdb : decide (c < sz) = false := decide_eq_false hbig
         have hfit : sz ≤ c := by omega
         obtain ⟨uz, hto⟩ : ∃ uz, nw + per * sz = uz := ⟨_, rfl⟩
         have hsend := HSA.out.send HP.out.2 HQ.out.2 HK1.out.1 HK1.out.2.1 (by rw [HK1.out.2.2.2.1, HK1.out.2.2.2.2]; exact hfit)
         have hleft := HSA.out.left HP.out.2 HQ.out.2 h1 HK1.out.1 HK1.out.2.1 (by rw [HK1.out.2.2.2.1, HK1.out.2.2.2.2]; exact hfit)
         rw [HEq.out.2.2.2.2.1, HK1.out.2.2.1, hto] at hsend
         rw [HEq.out.2.2.2.2.1, HK1.out.2.2.1, hto, HNN.out] at hleft
         have HSd : Hid (RoAt per ps ns ⟨s1.out ++ [⟨(k1 : Nat), nw, uz⟩], uz, s1.next, (turnsQ ps ns).left s1.q⟩ (dX.sent (sizeAt ps) f k1 r1) 29999 1) := hsend
         have HLf : Hid (waitL ps (s1.out ++ [⟨(k1 : Nat), nw, uz⟩]) f nw n = r1) := hleft
         have hpz0 : 0 ≤ per * sz := Int.mul_nonneg (by omega) (by omega)
         have hpz1 : per * sz ≤ 1000 * 1500 := Int.mul_le_mul (by omega) hszr.2 (by omega) (by omega)
         obtain ⟨pz, hpz⟩ : ∃ pz, per * sz = pz := ⟨_, rfl⟩
         have wp : IntKind.i64.wrap (per * sz) = pz := by rw [hpz]; exact IntWalk.i64_in _ (by omega)
         rw [hpz] at hpz0 hpz1 hto
         have wto : IntKind.i64.wrap (nw + pz) = uz := by rw [hto]; exact IntWalk.i64_in _ (by omega)
         have wc : IntKind.i64.wrap (c - sz) = c - sz := IntWalk.i64_in _ (by omega)
         have HTo : Hid (nw + pz = uz) := hto
         clear hsend hleft hbig hpz
         go_wp2_with fail
         go_quiet (fail)
         obtain ⟨Y, hY⟩ : ∃ Y, w1.drewN nq = Y := ⟨_, rfl⟩
         have HMY : Hid (RoMem w Y gd gc gk n (.slice a7 L k7) s1.out s1.next dX.cr (.slice (some ⟨rb, ro + 1, none⟩) r.length (rcap - 1)) F1 dX.row) := by
          have := HM5.out.later (below_drewN (Below.refl _ w1) nq)
          rwa [hY] at this
         rw [hY]
         have cs2 := HCs.out Y HMY.out.below
         have ck2 : Y.cell? ⟨gk, f, none⟩ = some (.int .i64 c) := by rw [← HK1.out.2.2.2.2]; exact HMY.out.cred.cell f hf8
         have cf2 := HMY.out.cred.frozen f
         clear hY q0 cs1 ck1 hdb
         go_wp2_with fail
         go_region
         have HMZ0 : Hid (RoMem w (Y.setCell ⟨gk, f, none⟩ (.int .i64 (c - sz))).drew gd gc gk n (.slice a7 L k7) s1.out s1.next (put1 dX.cr f (c - sz)) (.slice (some ⟨rb, ro + 1, none⟩) r.length (rcap - 1)) F1 dX.row) := (HMY.out.setCred hf8 (c - sz)).later (Below.refl _ _).drew
         obtain ⟨Z, hZ⟩ : ∃ Z, (Y.setCell ⟨gk, f, none⟩ (.int .i64 (c - sz))).drew = Z := ⟨_, rfl⟩
         rw [hZ] at HMZ0 ⊢
         have z1 := HMZ0.out.done.cell k1 hkn1
         have z2 := HMZ0.out.done.frozen k1
         have hbz : But (fun k => k = gd) Z (Z.setCell ⟨gd, k1, none⟩ (.bool true)) := butOne Z gd k1 _
         have z3 : (Z.setCell ⟨gd, k1, none⟩ (.bool true)).cell? ⟨b2, o2 + k1 * 3 + 1, none⟩ = some (.int .i64 sz) := HCs.out _ (HMZ0.out.below.trans (hbz.below HMZ0.out.below.size fun k hk => by rw [hk]; exact HMZ0.out.new.1))
         obtain ⟨Z1, hZ1⟩ : ∃ Z1, Z.setCell ⟨gd, k1, none⟩ (.bool true) = Z1 := ⟨_, rfl⟩
         have hb12 : Below Z1.heap.size Z1 ((Z1.alloc (.cells #[.int .i64 (k1 : Int), .int .i64 nw, .int .i64 uz] 78)).alloc (.cells #[.int .i64 (k1 : Int), .int .i64 nw, .int .i64 uz] 78)) := ((Below.refl _ _).alloc (Nat.le_refl _) _).alloc (by simp) _
         have hvlt : ∀ g, (Value.slice a7 L k7).ownBlock = some g → g < Z.heap.size ∧ g ≠ gd := fun g hg => ⟨(ownsRow_lt HMZ0.out.own hg).2, fun e => HMZ0.out.vne.1 (by rw [← e]; exact hg)⟩
         have hsz1 : Z1.heap.size = Z.heap.size := by rw [← hZ1]; exact size_setCell _ _ _
         have HO3 : Hid (OwnS ((Z1.alloc (.cells #[.int .i64 (k1 : Int), .int .i64 nw, .int .i64 uz] 78)).alloc (.cells #[.int .i64 (k1 : Int), .int .i64 nw, .int .i64 uz] 78)) w.heap.size (.slice a7 L k7) s1.out) := ownsRow_of_block HMZ0.out.own (fun g hg hlt => by
          rw [hb12.block g (by rw [hsz1]; exact hlt), ← hZ1]
          exact hbz.block g hlt (hvlt g hg).2)
         have HNews : Hid (∀ j u, (cellsS [⟨k1, nw, uz⟩])[j]? = some u → ((Z1.alloc (.cells #[.int .i64 (k1 : Int), .int .i64 nw, .int .i64 uz] 78)).alloc (.cells #[.int .i64 (k1 : Int), .int .i64 nw, .int .i64 uz] 78)).cell? ((⟨Z1.heap.size + 1, 0, none⟩ : Addr).add j) = some u) := World.news_of_block (cs := #[.int .i64 (k1 : Int), .int .i64 nw, .int .i64 uz]) (t := 78) (by have := heap_alloc_new (Z1.alloc (.cells #[.int .i64 (k1 : Int), .int .i64 nw, .int .i64 uz] 78)) (.cells #[.int .i64 (k1 : Int), .int .i64 nw, .int .i64 uz] 78); simpa using this)
         have HBs : Hid (w.heap.size ≤ ((Z1.alloc (.cells #[.int .i64 (k1 : Int), .int .i64 nw, .int .i64 uz] 78)).alloc (.cells #[.int .i64 (k1 : Int), .int .i64 nw, .int .i64 uz] 78)).heap.size ∧ Z1.heap.size < ((Z1.alloc (.cells #[.int .i64 (k1 : Int), .int .i64 nw, .int .i64 uz] 78)).alloc (.cells #[.int .i64 (k1 : Int), .int .i64 nw, .int .i64 uz] 78)).heap.size) := ⟨Nat.le_trans (by rw [hsz1]; exact HMZ0.out.below.size) hb12.size, by simp; omega⟩
         have HNe : Hid (some Z1.heap.size ≠ (Value.slice a7 L k7).ownBlock) := fun e => by
          have := (hvlt _ e.symm).1
          omega
         have HCel : Hid (((Z1.alloc (.cells #[.int .i64 (k1 : Int), .int .i64 nw, .int .i64 uz] 78)).alloc (.cells #[.int .i64 (k1 : Int), .int .i64 nw, .int .i64 uz] 78)).cell? ⟨Z1.heap.size, 2, none⟩ = some (.int .i64 uz)) := cell_later ((Below.refl _ _).alloc (Nat.le_refl _) _) (by simp)
         have HZ1 : Hid (Z1 = Z.setCell ⟨gd, k1, none⟩ (.bool true) ∧ Below Z1.heap.size Z1 ((Z1.alloc (.cells #[.int .i64 (k1 : Int), .int .i64 nw, .int .i64 uz] 78)).alloc (.cells #[.int .i64 (k1 : Int), .int .i64 nw, .int .i64 uz] 78))) := ⟨hZ1.symm, hb12⟩
         have HGx : Hid (Z1.heap.size ≠ gk) := fun e => by have := HMZ0.out.cred.lt; omega
         rw [hZ1] at z3
         have hx0 : (Z1.alloc (.cells #[.int .i64 (k1 : Int), .int .i64 nw, .int .i64 uz] 78)).cell? ⟨Z1.heap.size, 0, none⟩ = some (.int .i64 (k1 : Int)) := by simp
         have hx1 : (Z1.alloc (.cells #[.int .i64 (k1 : Int), .int .i64 nw, .int .i64 uz] 78)).cell? ⟨Z1.heap.size, 1, none⟩ = some (.int .i64 nw) := by simp
         have hx2 : (Z1.alloc (.cells #[.int .i64 (k1 : Int), .int .i64 nw, .int .i64 uz] 78)).cell? ⟨Z1.heap.size, 2, none⟩ = some (.int .i64 uz) := by simp
         clear hZ hb12 hvlt hsz1 hbz cs2 ck2 cf2
         have HL7 : Hid (s1.out.length = L) := HEq.out.2.2.2.2.2.1
         go_wp2_with (at_builtin; go_must (refine wpList_append_lies _ rfl _ _ 45 rfl w.heap.size 78 iS (.agg #[.int .i64 0, .int .i64 0, .int .i64 0]) 3 24 Tryz.underlying45 hiS hzS0 hzS1 hzS2 rfl (by decide) (.slice a7 L k7) L (cellsS s1.out) rfl (by have := HO3.out; unfold OwnS at this; rwa [HL7.out] at this) ⟨Z1.heap.size + 1, 0, none⟩ 1 1 (cellsS [⟨k1, nw, uz⟩]) rfl rfl HNews.out (cellsS_one _) (by decide) (by unfold maxLen; omega) (by omega) HBs.out.1 _ rfl ?_; intro g8 cap8 w8 ho8 hg8 hat8 hlt8; have c8 : w8.cell? ⟨Z1.heap.size, 2, none⟩ = some (.int .i64 uz) := (hg8.cell_far ⟨Z1.heap.size, 2, none⟩ HBs.out.2 HNe.out).trans HCel.out; have H8 : Hid (RoMem w w8 gd gc gk n (.slice (some ⟨g8, 0, none⟩) (L + 1) cap8) (s1.out ++ [⟨k1, nw, uz⟩]) s1.next (put1 dX.cr f (c - sz)) (.slice (some ⟨rb, ro + 1, none⟩) r.length (rcap - 1)) F1 dX.row) := (by have h := HMZ0.out.setDone k1 hkn1 (f := nw) (t := uz) (g' := g8) (cap := cap8) Z1 HZ1.out.1 HZ1.out.2 (by rw [HL7.out]; exact ho8) hg8 hat8; rwa [HL7.out] at h); clear ho8 hg8 hat8 hlt8))
         have HCw2 : Hid (Calls Tryz.prog 143 #[.slice (some ⟨b2, o2, none⟩) n pcap, .slice (some ⟨gd, 0, none⟩) n n, .int .i64 (f : Int), .int .i64 nw] w8 fun e w' => ∃ v, e = .returned v ∧ OwnQ w' w8.heap.size v r1 ∧ Below w8.heap.size w8 w') := by
          have := HWt'.out w8 gd f nw (s1.out ++ [⟨k1, nw, uz⟩]) H8.out.below H8.out.done
          rwa [HLf.out] at this
         refine HCw2.out.mono ?_
         rintro e9 w9 ⟨v9, rfl, hq9, hb9⟩
         have H9 : Hid (RoMem w w9 gd gc gk n (.slice (some ⟨g8, 0, none⟩) (L + 1) cap8) (s1.out ++ [⟨k1, nw, uz⟩]) s1.next (put1 dX.cr f (c - sz)) (.slice (some ⟨rb, ro + 1, none⟩) r.length (rcap - 1)) F1 dX.row) := H8.out.later hb9
         have c9 := cell_later hb9 c8
         unfold OwnQ at hq9
         rw [← asInts_length] at hq9
         obtain ⟨ao9, cap9, rfl, hl9, hm9⟩ := own_open hq9
         rw [asInts_length] at hl9 ⊢
         unfold maxLen at hm9
         clear hq9 hb9 c8 z1 z2 z3 hx0 hx1 hx2 hZ1
         by_cases hr1 : r1 = []
         ·
          subst hr1
          have u1 := H9.out.cred.cell f hf8
          have u2 := H9.out.cred.frozen f
          have HMf : Hid (RoMem w (w9.setCell ⟨gk, f, none⟩ (.int .i64 0)) gd gc gk n (.slice (some ⟨g8, 0, none⟩) (L + 1) cap8) (s1.out ++ [⟨k1, nw, uz⟩]) s1.next (dX.sent (sizeAt ps) f k1 []).cr (.slice (some ⟨rb, ro + 1, none⟩) r.length (rcap - 1)) F1 (dX.sent (sizeAt ps) f k1 []).row) := by
           have h := H9.out.setCred hf8 0
           rw [put1_put1] at h
           exact h
          have u3 : (w9.setCell ⟨gk, f, none⟩ (.int .i64 0)).cell? ⟨Z1.heap.size, 2, none⟩ = some (.int .i64 uz) := (World.cell?_setCell_other _ _ _ _ (fun e => HGx.out (by injection e with e1; exact e1.symm))).trans c9
          have HSr : Hid (srvInt (dX.sent (sizeAt ps) f k1 []).srv = -1) := rfl
          simp only [List.length_nil] at hl9 ⊢
          go_wp2_with fail
          go_roundg (roLeft ps ⟨s1.out ++ [⟨(k1 : Nat), nw, uz⟩], uz, s1.next, (turnsQ ps ns).left s1.q⟩ 29999 1)
          case measure =>
           unfold roLeft
           simp only [HEq.out.1, List.length_append, List.length_cons, List.length_nil, HNw.out.2.1, HNN.out]
           omega
          case rel => exact ⟨_, dX.sent (sizeAt ps) f k1 [], 29999, 1, F1, rfl, by rw [HSr.out], rfl, HSd.out, HMf.out⟩
         ·
          have hrl0 : 0 < r1.length := List.length_pos_iff.2 hr1
          have HMf : Hid (RoMem w w9 gd gc gk n (.slice (some ⟨g8, 0, none⟩) (L + 1) cap8) (s1.out ++ [⟨k1, nw, uz⟩]) s1.next (dX.sent (sizeAt ps) f k1 r1).cr (.slice (some ⟨rb, ro + 1, none⟩) r.length (rcap - 1)) F1 (dX.sent (sizeAt ps) f k1 r1).row) := by
           have e : dX.sent (sizeAt ps) f k1 r1 = { dX with qs := put1 dX.qs f r1, cr := put1 dX.cr f (c - sz) } := by
            unfold Drr.sent
            rw [if_neg hr1, HK1.out.2.2.2.1, HK1.out.2.2.2.2]
           show RoMem _ _ _ _ _ _ _ _ _ _ _ _ _
           rw [e]
           exact H9.out
          have HSr : Hid (srvInt (dX.sent (sizeAt ps) f k1 r1).srv = (f : Int)) := by
           have e : (dX.sent (sizeAt ps) f k1 r1).srv = dX.srv := by
            unfold Drr.sent
            rw [if_neg hr1]
           show _ = _
           rw [e, HSA.out.srv]
           rfl
          obtain ⟨m9, hm9e⟩ : ∃ m9, r1.length = m9 := ⟨_, rfl⟩
          rw [hm9e] at hl9 hrl0 ⊢
          have hmd9 : ((m9 : Int) == 0) = false := by simp; omega
          clear hm9e
          go_wp2_with fail
          go_roundg (roLeft ps ⟨s1.out ++ [⟨(k1 : Nat), nw, uz⟩], uz, s1.next, (turnsQ ps ns).left s1.q⟩ 29999 1)
          case measure =>
           unfold roLeft
           simp only [HEq.out.1, List.length_append, List.length_cons, List.length_nil, HNw.out.2.1, HNN.out]
           omega
          case rel => exact ⟨_, dX.sent (sizeAt ps) f k1 r1, 29999, 1, F1, rfl, by rw [HSr.out], rfl, HSd.out, HMf.out⟩
       ·
        obtain rfl : rcap = 1 := by omega
        obtain ⟨hr0, hsl⟩ := t2 rfl
        subst hr0
        have HMr : Hid (RoMem w W2 gd gc gk n (.slice a7 L k7) s1.out s1.next d1.cr (.slice (some ⟨rb, ro, none⟩) 0 0) F1 []) := HM2.out.setRow (But.refl _ _) hsl (fun k hk => .inl hk)
        have HX0 : Hid (RoMem w (W2.setCell ⟨gk, f, none⟩ (.int .i64 (c + x))).drew gd gc gk n (.slice a7 L k7) s1.out s1.next (put1 d1.cr f (c + x)) (.slice (some ⟨rb, ro, none⟩) 0 0) F1 []) := (HMr.out.setCred hf8 (c + x)).later (Below.refl _ _).drew
        have ck : W2.cell? ⟨gk, f, none⟩ = some (.int .i64 c) := by rw [← hce]; exact HM2.out.cred.cell f hf8
        have cf := HM2.out.cred.frozen f
        obtain ⟨dX, hdX⟩ : ∃ dX, d1.turn (quOf ns) f [] = dX := ⟨_, rfl⟩
        have HSA : Hid (ServeAt per ps ns s1 dX f fu1 z) := by rw [← hdX]; exact hsa
        have hdc : dX.cr = put1 d1.cr f (c + x) := by rw [← hdX, ← hce, ← hxq]; rfl
        have hdr : dX.row = [] := by rw [← hdX]; rfl
        rw [← hdc] at HX0
        have hfi0 : (f : Int) < 8 := by omega
        have HCr0 : Hid (dX.row = []) := hdr
        clear t1 t2 hsl hdX hdc hdr hsa hce hxq hs hr hlt'
        go_wp2_with fail
        go_region
        obtain ⟨X, hX⟩ : ∃ X, (W2.setCell ⟨gk, f, none⟩ (.int .i64 (c + x))).drew = X := ⟨_, rfl⟩
        rw [hX] at HX0 ⊢
        have HMX : Hid (RoMem w X gd gc gk n (.slice a7 L k7) s1.out s1.next dX.cr (.slice (some ⟨rb, ro, none⟩) 0 0) F1 dX.row) := by
         show RoMem _ _ _ _ _ _ _ _ _ _ _ _ _
         rw [HCr0.out]
         exact HX0.out
        clear hX HX0 ck cf crf wcx cx hcr0 hxr
        obtain ⟨k1, r1, hk1, hw1, hkl, -, hdn, hkf, hlen⟩ := HSA.out.head HP.out.2 HQ.out.2 h1
        have hkn1 : k1 < n := by rw [← HNN.out]; exact hkl
        obtain ⟨p, hpk, -⟩ := get_some ps k1 hkl
        obtain ⟨b2, o2, rfl, -, hc2⟩ := HP.out.1.place (by omega)
        obtain ⟨sz, hsz⟩ : ∃ sz, p.size = sz := ⟨_, rfl⟩
        have HCs : Hid (∀ W, Below w.heap.size w W → W.cell? ⟨b2, o2 + k1 * 3 + 1, none⟩ = some (.int .i64 sz)) := fun W hb => by rw [← hsz]; exact cell_later hb (hc2 k1 _ hpk).2.1
        have hszr : 1 ≤ sz ∧ sz ≤ 1500 := by have := okPk_true (HP.out.2.each _ p hpk).1; omega
        have hsza : sizeAt ps k1 = sz := by rw [sizeAt_get hpk]; exact hsz
        have hcrr := HSA.out.ok.cr_in HQ.out.2 f
        have hqur := (quOf_in HQ.out.1.each (by omega) f).2
        obtain ⟨c, hcr⟩ : ∃ c, dX.cr f = c := ⟨_, rfl⟩
        rw [hcr] at hcrr
        have HK1 : Hid (dX.qs f = k1 :: r1 ∧ ps[k1]? = some p ∧ p.size = sz ∧ sizeAt ps k1 = sz ∧ dX.cr f = c) := ⟨hk1, hpk, hsz, hsza, hcr⟩
        have hcb : 0 ≤ c ∧ c ≤ 1000000 := by omega
        have HWl : Hid (waitL ps s1.out f nw n = k1 :: r1) := by rw [← HNN.out, ← HEq.out.2.2.2.2.1]; exact hw1
        have HCw : Hid (Calls Tryz.prog 143 #[.slice (some ⟨b2, o2, none⟩) n pcap, .slice (some ⟨gd, 0, none⟩) n n, .int .i64 (f : Int), .int .i64 nw] X fun e w' => ∃ v, e = .returned v ∧ OwnQ w' X.heap.size v (k1 :: r1) ∧ Below X.heap.size X w') := by
         have := HWt'.out X gd f nw s1.out HMX.out.below HMX.out.done
         rwa [HWl.out] at this
        have HLen : Hid ((k1 :: r1).length ≤ 300) := hlen
        clear hk1 hw1 hkl hdn hkf hlen hpk hc2 hsz hsza hcrr hqur hcr
        go_wp2_with fail
        refine HCw.out.mono ?_
        rintro e5 w1 ⟨v5, rfl, hq5, hb5⟩
        have HM5 : Hid (RoMem w w1 gd gc gk n (.slice a7 L k7) s1.out s1.next dX.cr (.slice (some ⟨rb, ro, none⟩) 0 0) F1 dX.row) := HMX.out.later hb5
        unfold OwnQ at hq5
        rw [← asInts_length] at hq5
        obtain ⟨g5, cap5, rfl, hl5, hm5, hc5⟩ := own_some hq5 (by rw [asInts_length]; simp)
        have q0 : w1.cell? ⟨g5, 0, none⟩ = some (.int .i64 (k1 : Int)) := hc5 0 _ rfl
        obtain ⟨m5, hm5e⟩ : ∃ m5, (asInts (k1 :: r1)).length = m5 := ⟨_, rfl⟩
        have hm50 : 0 < m5 := by rw [← hm5e, asInts_length]; simp
        rw [hm5e] at hl5 ⊢
        unfold maxLen at hm5
        have cs1 := HCs.out w1 HM5.out.below
        have ck1 : w1.cell? ⟨gk, f, none⟩ = some (.int .i64 c) := by rw [← HK1.out.2.2.2.2]; exact HM5.out.cred.cell f hf8
        have hfi : (f : Int) < 8 := by omega
        clear hq5 hb5 hc5 hm5e
        by_cases hbig : c < sz
        ·
         have hdb : decide (c < sz) = true := decide_eq_true hbig
         obtain ⟨fu2, hfu2, hback⟩ := HSA.out.back HK1.out.1 (by rw [HK1.out.2.2.2.1, HK1.out.2.2.2.2]; exact hbig)
         have HBk : Hid (RoAt per ps ns s1 (dX.back f) fu2 z) := hback
         clear hback hbig
         go_wp2_with fail
         go_quiet (fail)
         obtain ⟨Y, hY⟩ : ∃ Y, w1.drewN nq = Y := ⟨_, rfl⟩
         have HMY : Hid (RoMem w Y gd gc gk n (.slice a7 L k7) s1.out s1.next dX.cr (.slice (some ⟨rb, ro, none⟩) 0 0) F1 dX.row) := by
          have := HM5.out.later (below_drewN (Below.refl _ w1) nq)
          rwa [hY] at this
         rw [hY]
         obtain ⟨ra6, rcap6, hrv6, -, -, hrn6, hrl6, -⟩ := HMY.out.row.cells
         injection hrv6 with hr61 hr62 hr63
         have HR6 : Hid ((ra6 = none → asInts dX.row = [] ∧ rcap6 = 0) ∧ LiesN Y ra6 (asInts dX.row) ∧ (asInts dX.row).length = 0) := ⟨fun e => ⟨by rw [(hrn6 e).1]; rfl, (hrn6 e).2⟩, hrl6, by rw [asInts_length]; exact hr62.symm⟩
         rw [← hr61, ← hr63] at HR6
         clear hY hrn6 hrl6 hr61 hr62 hr63 q0 cs1 ck1 hdb
         go_wp2_with (first
          | (at_builtin; (refine wpList_append_copy _ rfl _ _ 23 rfl 3 iI (.int .i64 0) Tryz.underlying23 hiI hzI0 hzI1 hzI2 rfl (some ⟨rb, ro, none⟩) 0 (0) (asInts dX.row) HR6.out.2.2 rfl rfl HR6.out.2.1 HR6.out.1 (by omega) ?_; rintro v6 w6 ⟨ho6, hb6⟩; have H6 : Hid ((w6.alloc (.cells #[.int .i64 (f : Int)] 3)).ownsRow Y.heap.size 3 1 v6 (0) (ints (asInts dX.row)) ∧ Below Y.heap.size Y (w6.alloc (.cells #[.int .i64 (f : Int)] 3)) ∧ (∀ j u, (ints [(f : Int)])[j]? = some u → (w6.alloc (.cells #[.int .i64 (f : Int)] 3)).cell? (Addr.add ⟨w6.heap.size, 0, none⟩ j) = some u)) := ⟨ownsRow_of_block ho6 (fun g' _ hg' => Below.heap_alloc w6 _ g' hg'), hb6.alloc hb6.size _, World.news_of_block (cs := #[.int .i64 (f : Int)]) (t := 3) (heap_alloc_new w6 _)⟩; clear ho6 hb6))
          | (at_builtin; go_must (refine wpList_append_lies _ rfl _ _ 23 rfl Y.heap.size 3 iI (.int .i64 0) 1 8 Tryz.underlying23 hiI hzI0 hzI1 hzI2 rfl (by decide) v6 (0) (ints (asInts dX.row)) rfl H6.out.1 ⟨w6.heap.size, 0, none⟩ 1 1 (ints [(f : Int)]) rfl rfl H6.out.2.2 (ints_one _) (by decide) (by unfold maxLen; omega) (by omega) H6.out.2.1.size _ rfl ?_; intro g7 cap7 w7 ho7 hg7 hat7 hlt7; have H7 : Hid (w7.ownsRow Y.heap.size 3 1 (.slice (some ⟨g7, 0, none⟩) (0 + 1) cap7) (0 + 1) (ints (asInts dX.row) ++ ints [(f : Int)]) ∧ Below Y.heap.size Y w7) := ⟨ho7, H6.out.2.1.grown hg7 H6.out.2.1.size (fun j hj => (ownsRow_lt H6.out.1 hj).1)⟩; clear ho7 hg7 hat7 hlt7)))
         have HMZ : Hid (RoMem w w7 gd gc gk n (.slice a7 L k7) s1.out s1.next dX.cr (.slice (some ⟨g7, 0, none⟩) (0 + 1) cap7) (fun k => (Value.slice (some ⟨g7, 0, none⟩) (0 + 1) cap7).ownBlock = some k) (dX.row ++ [f])) := by
          have ho : w7.ownsRow w.heap.size 3 1 (.slice (some ⟨g7, 0, none⟩) (0 + 1) cap7) (dX.row ++ [f]).length (ints (asInts (dX.row ++ [f]))) := by
           rw [List.length_append, asInts_snoc, ← asInts_length dX.row, HR6.out.2.2]
           exact ownsRow_mono H7.out.1 HMY.out.below.size
          exact HMY.out.setRow (.ofBelow H7.out.2) (Slides.of_own ho) (fun k hk => .inr (ownsRow_lt H7.out.1 hk).1)
         go_roundg (roLeft ps s1 fu2 z)
         case measure =>
          unfold roLeft
          simp only [HEq.out.1]
          omega
         case rel => exact ⟨s1, dX.back f, fu2, z, _, rfl, rfl, by rw [HEq.out.2.2.2.2.1], HBk.out, HMZ.out⟩
        ·
         have hdb : decide (c < sz) = false := decide_eq_false hbig
         have hfit : sz ≤ c := by omega
         obtain ⟨uz, hto⟩ : ∃ uz, nw + per * sz = uz := ⟨_, rfl⟩
         have hsend := HSA.out.send HP.out.2 HQ.out.2 HK1.out.1 HK1.out.2.1 (by rw [HK1.out.2.2.2.1, HK1.out.2.2.2.2]; exact hfit)
         have hleft := HSA.out.left HP.out.2 HQ.out.2 h1 HK1.out.1 HK1.out.2.1 (by rw [HK1.out.2.2.2.1, HK1.out.2.2.2.2]; exact hfit)
         rw [HEq.out.2.2.2.2.1, HK1.out.2.2.1, hto] at hsend
         rw [HEq.out.2.2.2.2.1, HK1.out.2.2.1, hto, HNN.out] at hleft
         have HSd : Hid (RoAt per ps ns ⟨s1.out ++ [⟨(k1 : Nat), nw, uz⟩], uz, s1.next, (turnsQ ps ns).left s1.q⟩ (dX.sent (sizeAt ps) f k1 r1) 29999 1) := hsend
         have HLf : Hid (waitL ps (s1.out ++ [⟨(k1 : Nat), nw, uz⟩]) f nw n = r1) := hleft
         have hpz0 : 0 ≤ per * sz := Int.mul_nonneg (by omega) (by omega)
         have hpz1 : per * sz ≤ 1000 * 1500 := Int.mul_le_mul (by omega) hszr.2 (by omega) (by omega)
         obtain ⟨pz, hpz⟩ : ∃ pz, per * sz = pz := ⟨_, rfl⟩
         have wp : IntKind.i64.wrap (per * sz) = pz := by rw [hpz]; exact IntWalk.i64_in _ (by omega)
         rw [hpz] at hpz0 hpz1 hto
         have wto : IntKind.i64.wrap (nw + pz) = uz := by rw [hto]; exact IntWalk.i64_in _ (by omega)
         have wc : IntKind.i64.wrap (c - sz) = c - sz := IntWalk.i64_in _ (by omega)
         have HTo : Hid (nw + pz = uz) := hto
         clear hsend hleft hbig hpz
         go_wp2_with fail
         go_quiet (fail)
         obtain ⟨Y, hY⟩ : ∃ Y, w1.drewN nq = Y := ⟨_, rfl⟩
         have HMY : Hid (RoMem w Y gd gc gk n (.slice a7 L k7) s1.out s1.next dX.cr (.slice (some ⟨rb, ro, none⟩) 0 0) F1 dX.row) := by
          have := HM5.out.later (below_drewN (Below.refl _ w1) nq)
          rwa [hY] at this
         rw [hY]
         have cs2 := HCs.out Y HMY.out.below
         have ck2 : Y.cell? ⟨gk, f, none⟩ = some (.int .i64 c) := by rw [← HK1.out.2.2.2.2]; exact HMY.out.cred.cell f hf8
         have cf2 := HMY.out.cred.frozen f
         clear hY q0 cs1 ck1 hdb
         go_wp2_with fail
         go_region
         have HMZ0 : Hid (RoMem w (Y.setCell ⟨gk, f, none⟩ (.int .i64 (c - sz))).drew gd gc gk n (.slice a7 L k7) s1.out s1.next (put1 dX.cr f (c - sz)) (.slice (some ⟨rb, ro, none⟩) 0 0) F1 dX.row) := (HMY.out.setCred hf8 (c - sz)).later (Below.refl _ _).drew
         obtain ⟨Z, hZ⟩ : ∃ Z, (Y.setCell ⟨gk, f, none⟩ (.int .i64 (c - sz))).drew = Z := ⟨_, rfl⟩
         rw [hZ] at HMZ0 ⊢
         have z1 := HMZ0.out.done.cell k1 hkn1
         have z2 := HMZ0.out.done.frozen k1
         have hbz : But (fun k => k = gd) Z (Z.setCell ⟨gd, k1, none⟩ (.bool true)) := butOne Z gd k1 _
         have z3 : (Z.setCell ⟨gd, k1, none⟩ (.bool true)).cell? ⟨b2, o2 + k1 * 3 + 1, none⟩ = some (.int .i64 sz) := HCs.out _ (HMZ0.out.below.trans (hbz.below HMZ0.out.below.size fun k hk => by rw [hk]; exact HMZ0.out.new.1))
         obtain ⟨Z1, hZ1⟩ : ∃ Z1, Z.setCell ⟨gd, k1, none⟩ (.bool true) = Z1 := ⟨_, rfl⟩
         have hb12 : Below Z1.heap.size Z1 ((Z1.alloc (.cells #[.int .i64 (k1 : Int), .int .i64 nw, .int .i64 uz] 78)).alloc (.cells #[.int .i64 (k1 : Int), .int .i64 nw, .int .i64 uz] 78)) := ((Below.refl _ _).alloc (Nat.le_refl _) _).alloc (by simp) _
         have hvlt : ∀ g, (Value.slice a7 L k7).ownBlock = some g → g < Z.heap.size ∧ g ≠ gd := fun g hg => ⟨(ownsRow_lt HMZ0.out.own hg).2, fun e => HMZ0.out.vne.1 (by rw [← e]; exact hg)⟩
         have hsz1 : Z1.heap.size = Z.heap.size := by rw [← hZ1]; exact size_setCell _ _ _
         have HO3 : Hid (OwnS ((Z1.alloc (.cells #[.int .i64 (k1 : Int), .int .i64 nw, .int .i64 uz] 78)).alloc (.cells #[.int .i64 (k1 : Int), .int .i64 nw, .int .i64 uz] 78)) w.heap.size (.slice a7 L k7) s1.out) := ownsRow_of_block HMZ0.out.own (fun g hg hlt => by
          rw [hb12.block g (by rw [hsz1]; exact hlt), ← hZ1]
          exact hbz.block g hlt (hvlt g hg).2)
         have HNews : Hid (∀ j u, (cellsS [⟨k1, nw, uz⟩])[j]? = some u → ((Z1.alloc (.cells #[.int .i64 (k1 : Int), .int .i64 nw, .int .i64 uz] 78)).alloc (.cells #[.int .i64 (k1 : Int), .int .i64 nw, .int .i64 uz] 78)).cell? ((⟨Z1.heap.size + 1, 0, none⟩ : Addr).add j) = some u) := World.news_of_block (cs := #[.int .i64 (k1 : Int), .int .i64 nw, .int .i64 uz]) (t := 78) (by have := heap_alloc_new (Z1.alloc (.cells #[.int .i64 (k1 : Int), .int .i64 nw, .int .i64 uz] 78)) (.cells #[.int .i64 (k1 : Int), .int .i64 nw, .int .i64 uz] 78); simpa using this)
         have HBs : Hid (w.heap.size ≤ ((Z1.alloc (.cells #[.int .i64 (k1 : Int), .int .i64 nw, .int .i64 uz] 78)).alloc (.cells #[.int .i64 (k1 : Int), .int .i64 nw, .int .i64 uz] 78)).heap.size ∧ Z1.heap.size < ((Z1.alloc (.cells #[.int .i64 (k1 : Int), .int .i64 nw, .int .i64 uz] 78)).alloc (.cells #[.int .i64 (k1 : Int), .int .i64 nw, .int .i64 uz] 78)).heap.size) := ⟨Nat.le_trans (by rw [hsz1]; exact HMZ0.out.below.size) hb12.size, by simp; omega⟩
         have HNe : Hid (some Z1.heap.size ≠ (Value.slice a7 L k7).ownBlock) := fun e => by
          have := (hvlt _ e.symm).1
          omega
         have HCel : Hid (((Z1.alloc (.cells #[.int .i64 (k1 : Int), .int .i64 nw, .int .i64 uz] 78)).alloc (.cells #[.int .i64 (k1 : Int), .int .i64 nw, .int .i64 uz] 78)).cell? ⟨Z1.heap.size, 2, none⟩ = some (.int .i64 uz)) := cell_later ((Below.refl _ _).alloc (Nat.le_refl _) _) (by simp)
         have HZ1 : Hid (Z1 = Z.setCell ⟨gd, k1, none⟩ (.bool true) ∧ Below Z1.heap.size Z1 ((Z1.alloc (.cells #[.int .i64 (k1 : Int), .int .i64 nw, .int .i64 uz] 78)).alloc (.cells #[.int .i64 (k1 : Int), .int .i64 nw, .int .i64 uz] 78))) := ⟨hZ1.symm, hb12⟩
         have HGx : Hid (Z1.heap.size ≠ gk) := fun e => by have := HMZ0.out.cred.lt; omega
         rw [hZ1] at z3
         have hx0 : (Z1.alloc (.cells #[.int .i64 (k1 : Int), .int .i64 nw, .int .i64 uz] 78)).cell? ⟨Z1.heap.size, 0, none⟩ = some (.int .i64 (k1 : Int)) := by simp
         have hx1 : (Z1.alloc (.cells #[.int .i64 (k1 : Int), .int .i64 nw, .int .i64 uz] 78)).cell? ⟨Z1.heap.size, 1, none⟩ = some (.int .i64 nw) := by simp
         have hx2 : (Z1.alloc (.cells #[.int .i64 (k1 : Int), .int .i64 nw, .int .i64 uz] 78)).cell? ⟨Z1.heap.size, 2, none⟩ = some (.int .i64 uz) := by simp
         clear hZ hb12 hvlt hsz1 hbz cs2 ck2 cf2
         have HL7 : Hid (s1.out.length = L) := HEq.out.2.2.2.2.2.1
         go_wp2_with (at_builtin; go_must (refine wpList_append_lies _ rfl _ _ 45 rfl w.heap.size 78 iS (.agg #[.int .i64 0, .int .i64 0, .int .i64 0]) 3 24 Tryz.underlying45 hiS hzS0 hzS1 hzS2 rfl (by decide) (.slice a7 L k7) L (cellsS s1.out) rfl (by have := HO3.out; unfold OwnS at this; rwa [HL7.out] at this) ⟨Z1.heap.size + 1, 0, none⟩ 1 1 (cellsS [⟨k1, nw, uz⟩]) rfl rfl HNews.out (cellsS_one _) (by decide) (by unfold maxLen; omega) (by omega) HBs.out.1 _ rfl ?_; intro g8 cap8 w8 ho8 hg8 hat8 hlt8; have c8 : w8.cell? ⟨Z1.heap.size, 2, none⟩ = some (.int .i64 uz) := (hg8.cell_far ⟨Z1.heap.size, 2, none⟩ HBs.out.2 HNe.out).trans HCel.out; have H8 : Hid (RoMem w w8 gd gc gk n (.slice (some ⟨g8, 0, none⟩) (L + 1) cap8) (s1.out ++ [⟨k1, nw, uz⟩]) s1.next (put1 dX.cr f (c - sz)) (.slice (some ⟨rb, ro, none⟩) 0 0) F1 dX.row) := (by have h := HMZ0.out.setDone k1 hkn1 (f := nw) (t := uz) (g' := g8) (cap := cap8) Z1 HZ1.out.1 HZ1.out.2 (by rw [HL7.out]; exact ho8) hg8 hat8; rwa [HL7.out] at h); clear ho8 hg8 hat8 hlt8))
         have HCw2 : Hid (Calls Tryz.prog 143 #[.slice (some ⟨b2, o2, none⟩) n pcap, .slice (some ⟨gd, 0, none⟩) n n, .int .i64 (f : Int), .int .i64 nw] w8 fun e w' => ∃ v, e = .returned v ∧ OwnQ w' w8.heap.size v r1 ∧ Below w8.heap.size w8 w') := by
          have := HWt'.out w8 gd f nw (s1.out ++ [⟨k1, nw, uz⟩]) H8.out.below H8.out.done
          rwa [HLf.out] at this
         refine HCw2.out.mono ?_
         rintro e9 w9 ⟨v9, rfl, hq9, hb9⟩
         have H9 : Hid (RoMem w w9 gd gc gk n (.slice (some ⟨g8, 0, none⟩) (L + 1) cap8) (s1.out ++ [⟨k1, nw, uz⟩]) s1.next (put1 dX.cr f (c - sz)) (.slice (some ⟨rb, ro, none⟩) 0 0) F1 dX.row) := H8.out.later hb9
         have c9 := cell_later hb9 c8
         unfold OwnQ at hq9
         rw [← asInts_length] at hq9
         obtain ⟨ao9, cap9, rfl, hl9, hm9⟩ := own_open hq9
         rw [asInts_length] at hl9 ⊢
         unfold maxLen at hm9
         clear hq9 hb9 c8 z1 z2 z3 hx0 hx1 hx2 hZ1
         by_cases hr1 : r1 = []
         ·
          subst hr1
          have u1 := H9.out.cred.cell f hf8
          have u2 := H9.out.cred.frozen f
          have HMf : Hid (RoMem w (w9.setCell ⟨gk, f, none⟩ (.int .i64 0)) gd gc gk n (.slice (some ⟨g8, 0, none⟩) (L + 1) cap8) (s1.out ++ [⟨k1, nw, uz⟩]) s1.next (dX.sent (sizeAt ps) f k1 []).cr (.slice (some ⟨rb, ro, none⟩) 0 0) F1 (dX.sent (sizeAt ps) f k1 []).row) := by
           have h := H9.out.setCred hf8 0
           rw [put1_put1] at h
           exact h
          have u3 : (w9.setCell ⟨gk, f, none⟩ (.int .i64 0)).cell? ⟨Z1.heap.size, 2, none⟩ = some (.int .i64 uz) := (World.cell?_setCell_other _ _ _ _ (fun e => HGx.out (by injection e with e1; exact e1.symm))).trans c9
          have HSr : Hid (srvInt (dX.sent (sizeAt ps) f k1 []).srv = -1) := rfl
          simp only [List.length_nil] at hl9 ⊢
          go_wp2_with fail
          go_roundg (roLeft ps ⟨s1.out ++ [⟨(k1 : Nat), nw, uz⟩], uz, s1.next, (turnsQ ps ns).left s1.q⟩ 29999 1)
          case measure =>
           unfold roLeft
           simp only [HEq.out.1, List.length_append, List.length_cons, List.length_nil, HNw.out.2.1, HNN.out]
           omega
          case rel => exact ⟨_, dX.sent (sizeAt ps) f k1 [], 29999, 1, F1, rfl, by rw [HSr.out], rfl, HSd.out, HMf.out⟩
         ·
          have hrl0 : 0 < r1.length := List.length_pos_iff.2 hr1
          have HMf : Hid (RoMem w w9 gd gc gk n (.slice (some ⟨g8, 0, none⟩) (L + 1) cap8) (s1.out ++ [⟨k1, nw, uz⟩]) s1.next (dX.sent (sizeAt ps) f k1 r1).cr (.slice (some ⟨rb, ro, none⟩) 0 0) F1 (dX.sent (sizeAt ps) f k1 r1).row) := by
           have e : dX.sent (sizeAt ps) f k1 r1 = { dX with qs := put1 dX.qs f r1, cr := put1 dX.cr f (c - sz) } := by
            unfold Drr.sent
            rw [if_neg hr1, HK1.out.2.2.2.1, HK1.out.2.2.2.2]
           show RoMem _ _ _ _ _ _ _ _ _ _ _ _ _
           rw [e]
           exact H9.out
          have HSr : Hid (srvInt (dX.sent (sizeAt ps) f k1 r1).srv = (f : Int)) := by
           have e : (dX.sent (sizeAt ps) f k1 r1).srv = dX.srv := by
            unfold Drr.sent
            rw [if_neg hr1]
           show _ = _
           rw [e, HSA.out.srv]
           rfl
          obtain ⟨m9, hm9e⟩ : ∃ m9, r1.length = m9 := ⟨_, rfl⟩
          rw [hm9e] at hl9 hrl0 ⊢
          have hmd9 : ((m9 : Int) == 0) = false := by simp; omega
          clear hm9e
          go_wp2_with fail
          go_roundg (roLeft ps ⟨s1.out ++ [⟨(k1 : Nat), nw, uz⟩], uz, s1.next, (turnsQ ps ns).left s1.q⟩ 29999 1)
          case measure =>
           unfold roLeft
           simp only [HEq.out.1, List.length_append, List.length_cons, List.length_nil, HNw.out.2.1, HNN.out]
           omega
          case rel => exact ⟨_, dX.sent (sizeAt ps) f k1 r1, 29999, 1, F1, rfl, by rw [HSr.out], rfl, HSd.out, HMf.out⟩
     | some f =>
      have hsv : sv = (f : Int) := by rw [← HEq.out.2.2.2.2.2.2, hs]; rfl
      subst hsv
      have hf8 : f < 8 := HRow.out f (by unfold Drr.line; rw [hs]; exact List.mem_cons_self ..)
      obtain ⟨fu1, hfu1, hsa⟩ := HR.out.stays HP.out.2 HQ.out.2 HNo.out hs
      obtain ⟨dX, hdX⟩ : ∃ dX, d1 = dX := ⟨_, rfl⟩
      have HSA : Hid (ServeAt per ps ns s1 dX f fu1 z) := by rw [← hdX]; exact hsa
      have HMX : Hid (RoMem w W2 gd gc gk n (.slice a7 L k7) s1.out s1.next dX.cr (.slice ra rl rcap) F1 dX.row) := by rw [← hdX]; exact HM2.out
      clear hsa hdX hlt' hs
      obtain ⟨k1, r1, hk1, hw1, hkl, -, hdn, hkf, hlen⟩ := HSA.out.head HP.out.2 HQ.out.2 h1
      have hkn1 : k1 < n := by rw [← HNN.out]; exact hkl
      obtain ⟨p, hpk, -⟩ := get_some ps k1 hkl
      obtain ⟨b2, o2, rfl, -, hc2⟩ := HP.out.1.place (by omega)
      obtain ⟨sz, hsz⟩ : ∃ sz, p.size = sz := ⟨_, rfl⟩
      have HCs : Hid (∀ W, Below w.heap.size w W → W.cell? ⟨b2, o2 + k1 * 3 + 1, none⟩ = some (.int .i64 sz)) := fun W hb => by rw [← hsz]; exact cell_later hb (hc2 k1 _ hpk).2.1
      have hszr : 1 ≤ sz ∧ sz ≤ 1500 := by have := okPk_true (HP.out.2.each _ p hpk).1; omega
      have hsza : sizeAt ps k1 = sz := by rw [sizeAt_get hpk]; exact hsz
      have hcrr := HSA.out.ok.cr_in HQ.out.2 f
      have hqur := (quOf_in HQ.out.1.each (by omega) f).2
      obtain ⟨c, hcr⟩ : ∃ c, dX.cr f = c := ⟨_, rfl⟩
      rw [hcr] at hcrr
      have HK1 : Hid (dX.qs f = k1 :: r1 ∧ ps[k1]? = some p ∧ p.size = sz ∧ sizeAt ps k1 = sz ∧ dX.cr f = c) := ⟨hk1, hpk, hsz, hsza, hcr⟩
      have hcb : 0 ≤ c ∧ c ≤ 1000000 := by omega
      have HWl : Hid (waitL ps s1.out f nw n = k1 :: r1) := by rw [← HNN.out, ← HEq.out.2.2.2.2.1]; exact hw1
      have HCw : Hid (Calls Tryz.prog 143 #[.slice (some ⟨b2, o2, none⟩) n pcap, .slice (some ⟨gd, 0, none⟩) n n, .int .i64 (f : Int), .int .i64 nw] W2 fun e w' => ∃ v, e = .returned v ∧ OwnQ w' W2.heap.size v (k1 :: r1) ∧ Below W2.heap.size W2 w') := by
       have := HWt'.out W2 gd f nw s1.out HMX.out.below HMX.out.done
       rwa [HWl.out] at this
      have HLen : Hid ((k1 :: r1).length ≤ 300) := hlen
      clear hk1 hw1 hkl hdn hkf hlen hpk hc2 hsz hsza hcrr hqur hcr
      go_wp2_with fail
      refine HCw.out.mono ?_
      rintro e5 w1 ⟨v5, rfl, hq5, hb5⟩
      have HM5 : Hid (RoMem w w1 gd gc gk n (.slice a7 L k7) s1.out s1.next dX.cr (.slice ra rl rcap) F1 dX.row) := HMX.out.later hb5
      unfold OwnQ at hq5
      rw [← asInts_length] at hq5
      obtain ⟨g5, cap5, rfl, hl5, hm5, hc5⟩ := own_some hq5 (by rw [asInts_length]; simp)
      have q0 : w1.cell? ⟨g5, 0, none⟩ = some (.int .i64 (k1 : Int)) := hc5 0 _ rfl
      obtain ⟨m5, hm5e⟩ : ∃ m5, (asInts (k1 :: r1)).length = m5 := ⟨_, rfl⟩
      have hm50 : 0 < m5 := by rw [← hm5e, asInts_length]; simp
      rw [hm5e] at hl5 ⊢
      unfold maxLen at hm5
      have cs1 := HCs.out w1 HM5.out.below
      have ck1 : w1.cell? ⟨gk, f, none⟩ = some (.int .i64 c) := by rw [← HK1.out.2.2.2.2]; exact HM5.out.cred.cell f hf8
      have hfi : (f : Int) < 8 := by omega
      clear hq5 hb5 hc5 hm5e
      by_cases hbig : c < sz
      ·
       have hdb : decide (c < sz) = true := decide_eq_true hbig
       obtain ⟨fu2, hfu2, hback⟩ := HSA.out.back HK1.out.1 (by rw [HK1.out.2.2.2.1, HK1.out.2.2.2.2]; exact hbig)
       have HBk : Hid (RoAt per ps ns s1 (dX.back f) fu2 z) := hback
       clear hback hbig
       go_wp2_with fail
       go_quiet (fail)
       obtain ⟨Y, hY⟩ : ∃ Y, w1.drewN nq = Y := ⟨_, rfl⟩
       have HMY : Hid (RoMem w Y gd gc gk n (.slice a7 L k7) s1.out s1.next dX.cr (.slice ra rl rcap) F1 dX.row) := by
        have := HM5.out.later (below_drewN (Below.refl _ w1) nq)
        rwa [hY] at this
       rw [hY]
       obtain ⟨ra6, rcap6, hrv6, -, -, hrn6, hrl6, -⟩ := HMY.out.row.cells
       injection hrv6 with hr61 hr62 hr63
       have HR6 : Hid ((ra6 = none → asInts dX.row = [] ∧ rcap6 = 0) ∧ LiesN Y ra6 (asInts dX.row) ∧ (asInts dX.row).length = rl) := ⟨fun e => ⟨by rw [(hrn6 e).1]; rfl, (hrn6 e).2⟩, hrl6, by rw [asInts_length]; exact hr62.symm⟩
       rw [← hr61, ← hr63] at HR6
       clear hY hrn6 hrl6 hr61 hr62 hr63 q0 cs1 ck1 hdb
       go_wp2_with (first
        | (at_builtin; (refine wpList_append_copy _ rfl _ _ 23 rfl 3 iI (.int .i64 0) Tryz.underlying23 hiI hzI0 hzI1 hzI2 rfl ra rcap (rl) (asInts dX.row) HR6.out.2.2 rfl rfl HR6.out.2.1 HR6.out.1 (by omega) ?_; rintro v6 w6 ⟨ho6, hb6⟩; have H6 : Hid ((w6.alloc (.cells #[.int .i64 (f : Int)] 3)).ownsRow Y.heap.size 3 1 v6 (rl) (ints (asInts dX.row)) ∧ Below Y.heap.size Y (w6.alloc (.cells #[.int .i64 (f : Int)] 3)) ∧ (∀ j u, (ints [(f : Int)])[j]? = some u → (w6.alloc (.cells #[.int .i64 (f : Int)] 3)).cell? (Addr.add ⟨w6.heap.size, 0, none⟩ j) = some u)) := ⟨ownsRow_of_block ho6 (fun g' _ hg' => Below.heap_alloc w6 _ g' hg'), hb6.alloc hb6.size _, World.news_of_block (cs := #[.int .i64 (f : Int)]) (t := 3) (heap_alloc_new w6 _)⟩; clear ho6 hb6))
        | (at_builtin; go_must (refine wpList_append_lies _ rfl _ _ 23 rfl Y.heap.size 3 iI (.int .i64 0) 1 8 Tryz.underlying23 hiI hzI0 hzI1 hzI2 rfl (by decide) v6 (rl) (ints (asInts dX.row)) rfl H6.out.1 ⟨w6.heap.size, 0, none⟩ 1 1 (ints [(f : Int)]) rfl rfl H6.out.2.2 (ints_one _) (by decide) (by unfold maxLen; omega) (by omega) H6.out.2.1.size _ rfl ?_; intro g7 cap7 w7 ho7 hg7 hat7 hlt7; have H7 : Hid (w7.ownsRow Y.heap.size 3 1 (.slice (some ⟨g7, 0, none⟩) (rl + 1) cap7) (rl + 1) (ints (asInts dX.row) ++ ints [(f : Int)]) ∧ Below Y.heap.size Y w7) := ⟨ho7, H6.out.2.1.grown hg7 H6.out.2.1.size (fun j hj => (ownsRow_lt H6.out.1 hj).1)⟩; clear ho7 hg7 hat7 hlt7)))
       have HMZ : Hid (RoMem w w7 gd gc gk n (.slice a7 L k7) s1.out s1.next dX.cr (.slice (some ⟨g7, 0, none⟩) (rl + 1) cap7) (fun k => (Value.slice (some ⟨g7, 0, none⟩) (rl + 1) cap7).ownBlock = some k) (dX.row ++ [f])) := by
        have ho : w7.ownsRow w.heap.size 3 1 (.slice (some ⟨g7, 0, none⟩) (rl + 1) cap7) (dX.row ++ [f]).length (ints (asInts (dX.row ++ [f]))) := by
         rw [List.length_append, asInts_snoc, ← asInts_length dX.row, HR6.out.2.2]
         exact ownsRow_mono H7.out.1 HMY.out.below.size
        exact HMY.out.setRow (.ofBelow H7.out.2) (Slides.of_own ho) (fun k hk => .inr (ownsRow_lt H7.out.1 hk).1)
       go_roundg (roLeft ps s1 fu2 z)
       case measure =>
        unfold roLeft
        simp only [HEq.out.1]
        omega
       case rel => exact ⟨s1, dX.back f, fu2, z, _, rfl, rfl, by rw [HEq.out.2.2.2.2.1], HBk.out, HMZ.out⟩
      ·
       have hdb : decide (c < sz) = false := decide_eq_false hbig
       have hfit : sz ≤ c := by omega
       obtain ⟨uz, hto⟩ : ∃ uz, nw + per * sz = uz := ⟨_, rfl⟩
       have hsend := HSA.out.send HP.out.2 HQ.out.2 HK1.out.1 HK1.out.2.1 (by rw [HK1.out.2.2.2.1, HK1.out.2.2.2.2]; exact hfit)
       have hleft := HSA.out.left HP.out.2 HQ.out.2 h1 HK1.out.1 HK1.out.2.1 (by rw [HK1.out.2.2.2.1, HK1.out.2.2.2.2]; exact hfit)
       rw [HEq.out.2.2.2.2.1, HK1.out.2.2.1, hto] at hsend
       rw [HEq.out.2.2.2.2.1, HK1.out.2.2.1, hto, HNN.out] at hleft
       have HSd : Hid (RoAt per ps ns ⟨s1.out ++ [⟨(k1 : Nat), nw, uz⟩], uz, s1.next, (turnsQ ps ns).left s1.q⟩ (dX.sent (sizeAt ps) f k1 r1) 29999 1) := hsend
       have HLf : Hid (waitL ps (s1.out ++ [⟨(k1 : Nat), nw, uz⟩]) f nw n = r1) := hleft
       have hpz0 : 0 ≤ per * sz := Int.mul_nonneg (by omega) (by omega)
       have hpz1 : per * sz ≤ 1000 * 1500 := Int.mul_le_mul (by omega) hszr.2 (by omega) (by omega)
       obtain ⟨pz, hpz⟩ : ∃ pz, per * sz = pz := ⟨_, rfl⟩
       have wp : IntKind.i64.wrap (per * sz) = pz := by rw [hpz]; exact IntWalk.i64_in _ (by omega)
       rw [hpz] at hpz0 hpz1 hto
       have wto : IntKind.i64.wrap (nw + pz) = uz := by rw [hto]; exact IntWalk.i64_in _ (by omega)
       have wc : IntKind.i64.wrap (c - sz) = c - sz := IntWalk.i64_in _ (by omega)
       have HTo : Hid (nw + pz = uz) := hto
       clear hsend hleft hbig hpz
       go_wp2_with fail
       go_quiet (fail)
       obtain ⟨Y, hY⟩ : ∃ Y, w1.drewN nq = Y := ⟨_, rfl⟩
       have HMY : Hid (RoMem w Y gd gc gk n (.slice a7 L k7) s1.out s1.next dX.cr (.slice ra rl rcap) F1 dX.row) := by
        have := HM5.out.later (below_drewN (Below.refl _ w1) nq)
        rwa [hY] at this
       rw [hY]
       have cs2 := HCs.out Y HMY.out.below
       have ck2 : Y.cell? ⟨gk, f, none⟩ = some (.int .i64 c) := by rw [← HK1.out.2.2.2.2]; exact HMY.out.cred.cell f hf8
       have cf2 := HMY.out.cred.frozen f
       clear hY q0 cs1 ck1 hdb
       go_wp2_with fail
       go_region
       have HMZ0 : Hid (RoMem w (Y.setCell ⟨gk, f, none⟩ (.int .i64 (c - sz))).drew gd gc gk n (.slice a7 L k7) s1.out s1.next (put1 dX.cr f (c - sz)) (.slice ra rl rcap) F1 dX.row) := (HMY.out.setCred hf8 (c - sz)).later (Below.refl _ _).drew
       obtain ⟨Z, hZ⟩ : ∃ Z, (Y.setCell ⟨gk, f, none⟩ (.int .i64 (c - sz))).drew = Z := ⟨_, rfl⟩
       rw [hZ] at HMZ0 ⊢
       have z1 := HMZ0.out.done.cell k1 hkn1
       have z2 := HMZ0.out.done.frozen k1
       have hbz : But (fun k => k = gd) Z (Z.setCell ⟨gd, k1, none⟩ (.bool true)) := butOne Z gd k1 _
       have z3 : (Z.setCell ⟨gd, k1, none⟩ (.bool true)).cell? ⟨b2, o2 + k1 * 3 + 1, none⟩ = some (.int .i64 sz) := HCs.out _ (HMZ0.out.below.trans (hbz.below HMZ0.out.below.size fun k hk => by rw [hk]; exact HMZ0.out.new.1))
       obtain ⟨Z1, hZ1⟩ : ∃ Z1, Z.setCell ⟨gd, k1, none⟩ (.bool true) = Z1 := ⟨_, rfl⟩
       have hb12 : Below Z1.heap.size Z1 ((Z1.alloc (.cells #[.int .i64 (k1 : Int), .int .i64 nw, .int .i64 uz] 78)).alloc (.cells #[.int .i64 (k1 : Int), .int .i64 nw, .int .i64 uz] 78)) := ((Below.refl _ _).alloc (Nat.le_refl _) _).alloc (by simp) _
       have hvlt : ∀ g, (Value.slice a7 L k7).ownBlock = some g → g < Z.heap.size ∧ g ≠ gd := fun g hg => ⟨(ownsRow_lt HMZ0.out.own hg).2, fun e => HMZ0.out.vne.1 (by rw [← e]; exact hg)⟩
       have hsz1 : Z1.heap.size = Z.heap.size := by rw [← hZ1]; exact size_setCell _ _ _
       have HO3 : Hid (OwnS ((Z1.alloc (.cells #[.int .i64 (k1 : Int), .int .i64 nw, .int .i64 uz] 78)).alloc (.cells #[.int .i64 (k1 : Int), .int .i64 nw, .int .i64 uz] 78)) w.heap.size (.slice a7 L k7) s1.out) := ownsRow_of_block HMZ0.out.own (fun g hg hlt => by
        rw [hb12.block g (by rw [hsz1]; exact hlt), ← hZ1]
        exact hbz.block g hlt (hvlt g hg).2)
       have HNews : Hid (∀ j u, (cellsS [⟨k1, nw, uz⟩])[j]? = some u → ((Z1.alloc (.cells #[.int .i64 (k1 : Int), .int .i64 nw, .int .i64 uz] 78)).alloc (.cells #[.int .i64 (k1 : Int), .int .i64 nw, .int .i64 uz] 78)).cell? ((⟨Z1.heap.size + 1, 0, none⟩ : Addr).add j) = some u) := World.news_of_block (cs := #[.int .i64 (k1 : Int), .int .i64 nw, .int .i64 uz]) (t := 78) (by have := heap_alloc_new (Z1.alloc (.cells #[.int .i64 (k1 : Int), .int .i64 nw, .int .i64 uz] 78)) (.cells #[.int .i64 (k1 : Int), .int .i64 nw, .int .i64 uz] 78); simpa using this)
       have HBs : Hid (w.heap.size ≤ ((Z1.alloc (.cells #[.int .i64 (k1 : Int), .int .i64 nw, .int .i64 uz] 78)).alloc (.cells #[.int .i64 (k1 : Int), .int .i64 nw, .int .i64 uz] 78)).heap.size ∧ Z1.heap.size < ((Z1.alloc (.cells #[.int .i64 (k1 : Int), .int .i64 nw, .int .i64 uz] 78)).alloc (.cells #[.int .i64 (k1 : Int), .int .i64 nw, .int .i64 uz] 78)).heap.size) := ⟨Nat.le_trans (by rw [hsz1]; exact HMZ0.out.below.size) hb12.size, by simp; omega⟩
       have HNe : Hid (some Z1.heap.size ≠ (Value.slice a7 L k7).ownBlock) := fun e => by
        have := (hvlt _ e.symm).1
        omega
       have HCel : Hid (((Z1.alloc (.cells #[.int .i64 (k1 : Int), .int .i64 nw, .int .i64 uz] 78)).alloc (.cells #[.int .i64 (k1 : Int), .int .i64 nw, .int .i64 uz] 78)).cell? ⟨Z1.heap.size, 2, none⟩ = some (.int .i64 uz)) := cell_later ((Below.refl _ _).alloc (Nat.le_refl _) _) (by simp)
       have HZ1 : Hid (Z1 = Z.setCell ⟨gd, k1, none⟩ (.bool true) ∧ Below Z1.heap.size Z1 ((Z1.alloc (.cells #[.int .i64 (k1 : Int), .int .i64 nw, .int .i64 uz] 78)).alloc (.cells #[.int .i64 (k1 : Int), .int .i64 nw, .int .i64 uz] 78))) := ⟨hZ1.symm, hb12⟩
       have HGx : Hid (Z1.heap.size ≠ gk) := fun e => by have := HMZ0.out.cred.lt; omega
       rw [hZ1] at z3
       have hx0 : (Z1.alloc (.cells #[.int .i64 (k1 : Int), .int .i64 nw, .int .i64 uz] 78)).cell? ⟨Z1.heap.size, 0, none⟩ = some (.int .i64 (k1 : Int)) := by simp
       have hx1 : (Z1.alloc (.cells #[.int .i64 (k1 : Int), .int .i64 nw, .int .i64 uz] 78)).cell? ⟨Z1.heap.size, 1, none⟩ = some (.int .i64 nw) := by simp
       have hx2 : (Z1.alloc (.cells #[.int .i64 (k1 : Int), .int .i64 nw, .int .i64 uz] 78)).cell? ⟨Z1.heap.size, 2, none⟩ = some (.int .i64 uz) := by simp
       clear hZ hb12 hvlt hsz1 hbz cs2 ck2 cf2
       have HL7 : Hid (s1.out.length = L) := HEq.out.2.2.2.2.2.1
       go_wp2_with (at_builtin; go_must (refine wpList_append_lies _ rfl _ _ 45 rfl w.heap.size 78 iS (.agg #[.int .i64 0, .int .i64 0, .int .i64 0]) 3 24 Tryz.underlying45 hiS hzS0 hzS1 hzS2 rfl (by decide) (.slice a7 L k7) L (cellsS s1.out) rfl (by have := HO3.out; unfold OwnS at this; rwa [HL7.out] at this) ⟨Z1.heap.size + 1, 0, none⟩ 1 1 (cellsS [⟨k1, nw, uz⟩]) rfl rfl HNews.out (cellsS_one _) (by decide) (by unfold maxLen; omega) (by omega) HBs.out.1 _ rfl ?_; intro g8 cap8 w8 ho8 hg8 hat8 hlt8; have c8 : w8.cell? ⟨Z1.heap.size, 2, none⟩ = some (.int .i64 uz) := (hg8.cell_far ⟨Z1.heap.size, 2, none⟩ HBs.out.2 HNe.out).trans HCel.out; have H8 : Hid (RoMem w w8 gd gc gk n (.slice (some ⟨g8, 0, none⟩) (L + 1) cap8) (s1.out ++ [⟨k1, nw, uz⟩]) s1.next (put1 dX.cr f (c - sz)) (.slice ra rl rcap) F1 dX.row) := (by have h := HMZ0.out.setDone k1 hkn1 (f := nw) (t := uz) (g' := g8) (cap := cap8) Z1 HZ1.out.1 HZ1.out.2 (by rw [HL7.out]; exact ho8) hg8 hat8; rwa [HL7.out] at h); clear ho8 hg8 hat8 hlt8))
       have HCw2 : Hid (Calls Tryz.prog 143 #[.slice (some ⟨b2, o2, none⟩) n pcap, .slice (some ⟨gd, 0, none⟩) n n, .int .i64 (f : Int), .int .i64 nw] w8 fun e w' => ∃ v, e = .returned v ∧ OwnQ w' w8.heap.size v r1 ∧ Below w8.heap.size w8 w') := by
        have := HWt'.out w8 gd f nw (s1.out ++ [⟨k1, nw, uz⟩]) H8.out.below H8.out.done
        rwa [HLf.out] at this
       refine HCw2.out.mono ?_
       rintro e9 w9 ⟨v9, rfl, hq9, hb9⟩
       have H9 : Hid (RoMem w w9 gd gc gk n (.slice (some ⟨g8, 0, none⟩) (L + 1) cap8) (s1.out ++ [⟨k1, nw, uz⟩]) s1.next (put1 dX.cr f (c - sz)) (.slice ra rl rcap) F1 dX.row) := H8.out.later hb9
       have c9 := cell_later hb9 c8
       unfold OwnQ at hq9
       rw [← asInts_length] at hq9
       obtain ⟨ao9, cap9, rfl, hl9, hm9⟩ := own_open hq9
       rw [asInts_length] at hl9 ⊢
       unfold maxLen at hm9
       clear hq9 hb9 c8 z1 z2 z3 hx0 hx1 hx2 hZ1
       by_cases hr1 : r1 = []
       ·
        subst hr1
        have u1 := H9.out.cred.cell f hf8
        have u2 := H9.out.cred.frozen f
        have HMf : Hid (RoMem w (w9.setCell ⟨gk, f, none⟩ (.int .i64 0)) gd gc gk n (.slice (some ⟨g8, 0, none⟩) (L + 1) cap8) (s1.out ++ [⟨k1, nw, uz⟩]) s1.next (dX.sent (sizeAt ps) f k1 []).cr (.slice ra rl rcap) F1 (dX.sent (sizeAt ps) f k1 []).row) := by
         have h := H9.out.setCred hf8 0
         rw [put1_put1] at h
         exact h
        have u3 : (w9.setCell ⟨gk, f, none⟩ (.int .i64 0)).cell? ⟨Z1.heap.size, 2, none⟩ = some (.int .i64 uz) := (World.cell?_setCell_other _ _ _ _ (fun e => HGx.out (by injection e with e1; exact e1.symm))).trans c9
        have HSr : Hid (srvInt (dX.sent (sizeAt ps) f k1 []).srv = -1) := rfl
        simp only [List.length_nil] at hl9 ⊢
        go_wp2_with fail
        go_roundg (roLeft ps ⟨s1.out ++ [⟨(k1 : Nat), nw, uz⟩], uz, s1.next, (turnsQ ps ns).left s1.q⟩ 29999 1)
        case measure =>
         unfold roLeft
         simp only [HEq.out.1, List.length_append, List.length_cons, List.length_nil, HNw.out.2.1, HNN.out]
         omega
        case rel => exact ⟨_, dX.sent (sizeAt ps) f k1 [], 29999, 1, F1, rfl, by rw [HSr.out], rfl, HSd.out, HMf.out⟩
       ·
        have hrl0 : 0 < r1.length := List.length_pos_iff.2 hr1
        have HMf : Hid (RoMem w w9 gd gc gk n (.slice (some ⟨g8, 0, none⟩) (L + 1) cap8) (s1.out ++ [⟨k1, nw, uz⟩]) s1.next (dX.sent (sizeAt ps) f k1 r1).cr (.slice ra rl rcap) F1 (dX.sent (sizeAt ps) f k1 r1).row) := by
         have e : dX.sent (sizeAt ps) f k1 r1 = { dX with qs := put1 dX.qs f r1, cr := put1 dX.cr f (c - sz) } := by
          unfold Drr.sent
          rw [if_neg hr1, HK1.out.2.2.2.1, HK1.out.2.2.2.2]
         show RoMem _ _ _ _ _ _ _ _ _ _ _ _ _
         rw [e]
         exact H9.out
        have HSr : Hid (srvInt (dX.sent (sizeAt ps) f k1 r1).srv = (f : Int)) := by
         have e : (dX.sent (sizeAt ps) f k1 r1).srv = dX.srv := by
          unfold Drr.sent
          rw [if_neg hr1]
         show _ = _
         rw [e, HSA.out.srv]
         rfl
        obtain ⟨m9, hm9e⟩ : ∃ m9, r1.length = m9 := ⟨_, rfl⟩
        rw [hm9e] at hl9 hrl0 ⊢
        have hmd9 : ((m9 : Int) == 0) = false := by simp; omega
        clear hm9e
        go_wp2_with fail
        go_roundg (roLeft ps ⟨s1.out ++ [⟨(k1 : Nat), nw, uz⟩], uz, s1.next, (turnsQ ps ns).left s1.q⟩ 29999 1)
        case measure =>
         unfold roLeft
         simp only [HEq.out.1, List.length_append, List.length_cons, List.length_nil, HNw.out.2.1, HNN.out]
         omega
        case rel => exact ⟨_, dX.sent (sizeAt ps) f k1 r1, 29999, 1, F1, rfl, by rw [HSr.out], rfl, HSd.out, HMf.out⟩
  ·
   have HEnd : Hid (RoundEnd per ps ns w (.returned (.slice a7 L k7)) W0) := ⟨_, s.out, rfl, HM.out.own, HR0.out.end_ HP.out.2 HQ.out.2 (by rw [HNw.out.2.1, HNN.out]; exact hlt), HM.out.below⟩
   go_wp2_with fail
   go_ret
   exact HEnd.out
end Go.Proofs.YtibhkijaafdkoaaGreatDoor
