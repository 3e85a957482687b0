/- Own facts, put together: no statement of its own. -/
import Derived.Deep.AppendLies
import Derived.Test.YtibhkijaafdkoaaGreatDoorK29
import Derived.Maps.OwnOps
import Derived.Maps.Views
import Derived.Maps.OwnSet
import Derived.Test.YtibhkijaafdkoaaGreatDoorK01
import Derived.Test.YtibhkijaafdkoaaGreatDoorK14
namespace Go.Proofs.YtibhkijaafdkoaaGreatDoor
open Go.RowKit
theorem turnsTake (B g : Nat) (pa : Option Addr) (pcap : Nat) (qv : Value) (ps : List Pk) (vq : Nat → Value) (F : Nat → Nat → Prop) (rv : Value) (d : Drr) (n : Nat) (w : World) (h : TurnsAt B g (.slice pa ps.length pcap) qv w vq F rv d (n + 1)) (hl : LiesP w pa ps) (hpB : ∀ ad, pa = some ad → 0 < ps.length → ad.block < B) (ho : OkPks ps) (f k : Nat) (r : List Nat) (p : Pk) (hs : d.srv = some f) (hf : f < 8) (hk : d.qs f = k :: r) (hp : ps[k]? = some p) (hc1 : d.cr f ≤ 1000000) (hy : p.size ≤ d.cr f) (hn : n ≤ 1000) (hr3 : (d.qs f).length ≤ 300) (hB : B ≤ w.heap.size) :
  Calls Tryz.prog 140 #[.pointer (some ⟨g, 0, none⟩)] w fun e w' => e = .returned (.int .i64 (k : Int)) ∧ ComeEnd B g (.slice pa ps.length pcap) qv w w' F rv (d.sent (sizeAt ps) f k r) n := by
 have hkl := lt_of_get hp
 obtain ⟨pb, off, rfl, hlt, hc⟩ := hl.place (by omega)
 have hblt : pb < B := hpB ⟨pb, off, none⟩ rfl (by omega)
 have hcp : ∀ W, Below B w W → W.cell? ⟨pb, off + k * 3 + 1, none⟩ = some (.int .i64 p.size) := fun W hb => by
  rw [hb.cell (p := ⟨pb, off + k * 3 + 1, none⟩) hblt]; exact (hc k p hp).2.1
 obtain ⟨-, -, z1, -, -, -⟩ := okPk_true (ho.each _ p hp).1
 have hsl := h.queue f hf
 rw [hk] at hsl
 obtain ⟨qb, qo, cap, hv, hcap, hmx, ck, -, s1, s2⟩ := hsl.first
 rw [hk, List.length_cons] at hr3
 have hsz := sizeAt_get hp
 by_cases hr : r = []
 ·
  subst hr
  have e : d.sent (sizeAt ps) f k [] = { d with qs := put1 d.qs f [], cr := put1 d.cr f 0, srv := none } := if_pos rfl
  rw [e]
  by_cases hc1' : 1 < cap
  · exact turnsTake_last B g k pb off pcap ps.length qv vq F rv d n w h p.size hcp (by omega) hkl f hs hf (by omega) hc1 hy hn (by simp) hB qb qo cap hv hmx ck hc1' (s1 hc1')
  ·
   obtain ⟨-, s3⟩ := s2 (by omega)
   exact turnsTake_one B g k pb off pcap ps.length qv vq F rv d n w h p.size hcp (by omega) hkl f hs hf (by omega) hc1 hy hn (by simp) hB qb qo cap hv hcap hmx ck (by omega) s3
 ·
  have e : d.sent (sizeAt ps) f k r = { d with qs := put1 d.qs f r, cr := put1 d.cr f (d.cr f - p.size) } := by rw [← hsz]; exact if_neg hr
  rw [e]
  have hrl : 0 < r.length := List.length_pos_iff.2 hr
  exact turnsTake_more B g k pb off pcap ps.length qv vq F rv d n w h p.size hcp (by omega) hkl f r hs hf (by omega) hc1 hy hn (by omega) hB qb qo cap hv hmx ck (by omega) (s1 (by omega)) hr
theorem ComeEnd.foot {B g : Nat} {pv qv : Value} {w w' : World} {F : Nat → Nat → Prop} {rv : Value} {d : Drr} {n : Nat} (h : ComeEnd B g pv qv w w' F rv d n) (hB : B ≤ w.heap.size) (hF : ∀ k, turnFoot g F rv k → B ≤ k) : Below B w w' := h.but.below hB hF
theorem ComeEnd.step {B g : Nat} {pv qv : Value} {w w1 w2 : World} {F F1 : Nat → Nat → Prop} {rv rv1 : Value} {d2 : Drr} {n2 : Nat} (hbut : But (turnFoot g F rv) w w1) (hfoot : ∀ k, turnFoot g F1 rv1 k → turnFoot g F rv k ∨ w.heap.size ≤ k) (h : ComeEnd B g pv qv w1 w2 F1 rv1 d2 n2) : ComeEnd B g pv qv w w2 F rv d2 n2 := by
 obtain ⟨vq2, F2, rv2, k1, k2⟩ := h.at_
 refine ⟨⟨vq2, F2, rv2, k1, fun k hk => ?_⟩, ?_⟩
 ·
  rcases k2 k hk with h' | h'
  · exact hfoot k h'
  · have := hbut.size; exact .inr (by omega)
 ·
  refine ⟨h.but.os.trans hbut.os, h.but.tape.trans hbut.tape, h.but.output.trans hbut.output, Nat.le_trans hbut.size h.but.size, fun j hj hn => ?_⟩
  rw [h.but.block j (Nat.lt_of_lt_of_le hj hbut.size) (fun hD => ?_)]
  · exact hbut.block j hj hn
  ·
   rcases hfoot j hD with h' | h'
   · exact hn h'
   · omega
theorem row_few' {fl : Nat → Nat} {sz qu : Nat → Int} {M : Int} {d : Drr} (h : DrrOk fl sz qu M d) (hfew : ∀ f, 8 ≤ f → d.qs f = []) : d.row.length ≤ 8 ∧ ∀ f, f ∈ d.line → f < 8 := by
 have h8 : ∀ f, f ∈ d.line → f < 8 := fun f hf => by
  rcases Nat.lt_or_ge f 8 with h' | h'
  · exact h'
  · exact absurd (hfew f h') ((h.active f).1 hf)
 have h1 := sum_le (fun _ => 1) 1 8 d.line h.nodup h8 (fun _ => Nat.le_refl _)
 have h2 : (d.line.map fun _ => 1).sum = d.line.length := by
  generalize d.line = l
  induction l with
  | nil => rfl
  | cons a r ih => simp only [List.map_cons, List.sum_cons, List.length_cons, ih]; omega
 have h3 : d.row.length ≤ d.line.length := by
  unfold Drr.line
  cases d.srv <;> simp
 exact ⟨by omega, h8⟩
structure PickAt (B g : Nat) (pv qv : Value) (ps : List Pk) (ns : List Int) (w wr : World) (F : Nat → Nat → Prop) (rv : Value) (n : Nat) (Q : Nat → List Nat) (x : Nat × Drr) (fu : Nat) (d : Drr) : Prop where
 ok : DrrOk (flowOf ps) (sizeAt ps) (quOf ns) 1500 d
 qs : d.qs = Q
 go : Drr.go (sizeAt ps) (quOf ns) fu d = some x
 end_ : ComeEnd B g pv qv w wr F rv d (n + 1)
theorem liesN_bel {w w' : World} {B : Nat} {a : Option Addr} {xs : List Int} (h : LiesN w a xs) (ha : ∀ ad, a = some ad → ad.block < B) (hb : Below B w w') : LiesN w' a xs := by
 rcases h with rfl | ⟨b, off, rfl, hlt, hc⟩
 · exact .inl rfl
 ·
  have hB : b < B := ha ⟨b, off, none⟩ rfl
  refine .inr ⟨b, off, rfl, Nat.lt_of_lt_of_le hlt hb.size, fun i x hi => ?_⟩
  rw [hb.cell (p := ⟨b, off + i, none⟩) hB]
  exact hc i x hi
set_option maxRecDepth 100000 in
set_option maxHeartbeats 8000000 in
theorem turnsPick (B g : Nat) (pa : Option Addr) (pcap : Nat) (qa : Option Addr) (qcap : Nat) (ps : List Pk) (ns : List Int) (vq : Nat → Value) (F : Nat → Nat → Prop) (rv : Value) (d0 : Drr) (n : Nat) (w : World) (h : TurnsAt B g (.slice pa ps.length pcap) (.slice qa ns.length qcap) w vq F rv d0 (n + 1)) (hl : LiesP w pa ps) (hpB : ∀ ad, pa = some ad → 0 < ps.length → ad.block < B) (hq : LiesN w qa ns) (hqB : ∀ ad, qa = some ad → ad.block < B) (ho : OkPks ps) (hns : NumsOk 1 3000 ns) (hok : DrrOk (flowOf ps) (sizeAt ps) (quOf ns) 1500 d0) (hfew : ∀ f, 8 ≤ f → d0.qs f = []) (hq3 : ∀ f, (d0.qs f).length ≤ 300 ∧ ∀ k, k ∈ d0.qs f → k < ps.length) (hn : n ≤ 1000) (hB : B ≤ w.heap.size) (fu : Nat) (k : Nat) (e : Drr) (hgo : Drr.go (sizeAt ps) (quOf ns) fu d0 = some (k, e)) :
  Calls Tryz.prog 101 #[.pointer (some ⟨g, 0, none⟩)] w fun e' w' => e' = .returned (.int .i64 (k : Int)) ∧ ComeEnd B g (.slice pa ps.length pcap) (.slice qa ns.length qcap) w w' F rv e n := by
 obtain ⟨i0, hi, hz0, hz1, hz2⟩ := info_parts Tryz.infoInt
 have hqu : ∀ f, 1 ≤ quOf ns f := fun f => (quOf_in hns.each (by omega) f).1
 have HS0 : Hid (PickAt B g (.slice pa ps.length pcap) (.slice qa ns.length qcap) ps ns w w F rv n d0.qs (k, e) fu d0) := ⟨hok, rfl, hgo, ⟨vq, F, rv, h, fun k hk => .inl hk⟩, But.refl _ _⟩
 have HB : Hid (B ≤ w.heap.size ∧ ∀ k, turnFoot g F rv k → B ≤ k) := ⟨hB, fun k hk => (h.foot k hk).1⟩
 have HL : Hid (∀ W, Below B w W → LiesP W pa ps ∧ LiesN W qa ns) := fun W hb => ⟨hl.bel hpB hb, liesN_bel hq hqB hb⟩
 have HQ : Hid (OkPks ps ∧ NumsOk 1 3000 ns ∧ (∀ f, 1 ≤ quOf ns f) ∧ (∀ f, 8 ≤ f → d0.qs f = []) ∧ (∀ f, (d0.qs f).length ≤ 300 ∧ ∀ k, k ∈ d0.qs f → k < ps.length) ∧ (∀ ad, pa = some ad → 0 < ps.length → ad.block < B) ∧ (∀ ad, qa = some ad → ad.block < B)) := ⟨ho, hns, hqu, hfew, hq3, hpB, hqB⟩
 clear h hl hpB hq hqB ho hns hok hfew hq3 hB hgo hqu
 go_enter Tryz.func101, Tryz.ntmps101
 go_wp2_with fail
 go_loopg [2] fu (fun gk r2 wr => r2 = .int .i64 0 ∧ ∃ d, PickAt B g (.slice pa ps.length pcap) (.slice qa ns.length qcap) ps ns w wr F rv n d0.qs (k, e) gk d)
 case atStart => exact ⟨rfl, d0, HS0.out⟩
 case round =>
  obtain ⟨rfl, d, hat⟩ := hrel
  have HA : Hid (PickAt B g (.slice pa ps.length pcap) (.slice qa ns.length qcap) ps ns w wr F rv n d0.qs (k, e) gk d) := hat
  obtain ⟨vq1, F1, rv1, hT1, hF1⟩ := hat.end_.at_
  have HT1 : Hid (TurnsAt B g (.slice pa ps.length pcap) (.slice qa ns.length qcap) wr vq1 F1 rv1 d (n + 1)) := hT1
  have HF1 : Hid (∀ k, turnFoot g F1 rv1 k → turnFoot g F rv k ∨ w.heap.size ≤ k) := hF1
  have HBr : Hid (Below B w wr) := hat.end_.foot HB.out.1 HB.out.2
  have c19 := hT1.cells.cs
  have hgo := hat.go
  have HW : Hid (B ≤ wr.heap.size) := Nat.le_trans HB.out.1 HBr.out.size
  have hfew' : ∀ f, 8 ≤ f → d.qs f = [] := fun f hf => by rw [hat.qs]; exact HQ.out.2.2.2.1 f hf
  have hrow := row_few' hat.ok hfew'
  clear hat hT1 hF1 hfew'
  cases gk with
  | zero => simp [Drr.go] at hgo
  | succ fu1 =>
   cases hs : d.srv with
   | none =>
    rw [Drr.go, hs] at hgo
    simp only at hgo
    cases hr : d.row with
    | nil => rw [hr] at hgo; cases hgo
    | cons f r =>
     rw [hr] at hgo
     simp only at hgo
     rw [hs] at c19
     have c19' : wr.cell? ⟨g, 19, none⟩ = some (.int .i64 (-1)) := c19
     have hf8 : f < 8 := hrow.2 f (by unfold Drr.line; rw [hs]; simp only; rw [hr]; exact List.mem_cons_self ..)
     have hcr := HA.out.ok.cr_in HQ.out.2.2.1 f
     have hqf := (quOf_in HQ.out.2.1.each (by omega) f).2
     have HSv : Hid (Calls Tryz.prog 138 #[.pointer (some ⟨g, 0, none⟩)] wr fun e w' => e = .returned (.tuple #[]) ∧ ComeEnd B g (.slice pa ps.length pcap) (.slice qa ns.length qcap) wr w' F1 rv1 (d.turn (quOf ns) f r) (n + 1)) := turnsServe B g _ qa qcap ns vq1 F1 rv1 d (n + 1) wr HT1.out (HL.out wr HBr.out).2 HQ.out.2.1 f r hr hf8 (HA.out.ok.low f) (by omega) hrow.1 HW.out HQ.out.2.2.2.2.2.2
     have HOk : Hid (DrrOk (flowOf ps) (sizeAt ps) (quOf ns) 1500 (d.turn (quOf ns) f r) ∧ (d.turn (quOf ns) f r).qs = d0.qs ∧ Drr.go (sizeAt ps) (quOf ns) fu1 (d.turn (quOf ns) f r) = some (k, e) ∧ (d.turn (quOf ns) f r).srv = some f) := ⟨HA.out.ok.turn HQ.out.2.2.1 hs hr, HA.out.qs, hgo, rfl⟩
     obtain ⟨dX, hdX⟩ : ∃ dX, d.turn (quOf ns) f r = dX := ⟨_, rfl⟩
     rw [hdX] at HSv HOk
     clear hgo c19 hs hr hrow hcr hqf hdX
     go_wp2_with fail
     refine HSv.out.mono ?_
     rintro e1 X ⟨rfl, hE⟩
     have HE : Hid (ComeEnd B g (.slice pa ps.length pcap) (.slice qa ns.length qcap) w X F rv dX (n + 1)) := ComeEnd.step HA.out.end_.but HF1.out hE
     have HFu : Hid (fu1 ≤ fu1 + 1) := Nat.le_succ _
     clear hE c19'
     obtain ⟨vqX, FX, rvX, hTX, hFX⟩ := HE.out.at_
     have HX : Hid (TurnsAt B g (.slice pa ps.length pcap) (.slice qa ns.length qcap) X vqX FX rvX dX (n + 1)) := hTX
     have HFX : Hid (∀ k, turnFoot g FX rvX k → turnFoot g F rv k ∨ w.heap.size ≤ k) := hFX
     have HBX : Hid (Below B w X) := HE.out.foot HB.out.1 HB.out.2
     clear hTX hFX
     have hrowX := row_few' HOk.out.1 (fun f hf => by rw [HOk.out.2.1]; exact HQ.out.2.2.2.1 f hf)
     have hlX : dX.line = f :: dX.row := by unfold Drr.line; rw [HOk.out.2.2.2]
     have hneX := (HOk.out.1.active f).1 (by rw [hlX]; exact List.mem_cons_self ..)
     obtain ⟨k1, r1, hk1⟩ : ∃ k1 r1, dX.qs f = k1 :: r1 := by
      cases hq : dX.qs f with
      | nil => exact absurd hq hneX
      | cons a b => exact ⟨a, b, rfl⟩
     have HK1 : Hid (dX.qs f = k1 :: r1) := hk1
     have hk1l : k1 < ps.length := (HQ.out.2.2.2.2.1 f).2 k1 (by rw [← HOk.out.2.1, hk1]; exact List.mem_cons_self ..)
     obtain ⟨p1, hp1, -⟩ := get_some ps k1 hk1l
     have HP1 : Hid (ps[k1]? = some p1) := hp1
     have hcrX := HOk.out.1.cr_in HQ.out.2.2.1 f
     have hqX := (quOf_in HQ.out.2.1.each (by omega) f).2
     have HCrX : Hid (dX.cr f ≤ 1000000) := by show dX.cr f ≤ 1000000; omega
     have HRl : Hid (dX.row.length ≤ 8) := hrowX.1
     obtain ⟨b, hb⟩ : ∃ b, decide (p1.size ≤ dX.cr f) = b := ⟨_, rfl⟩
     have HCan : Hid (Calls Tryz.prog 139 #[.pointer (some ⟨g, 0, none⟩)] X fun e w' => e = .returned (.bool b) ∧ ∃ m, w' = X.drewN m) := turnsCan B g pa pcap _ ps vqX FX rvX dX (n + 1) X HX.out (HL.out X HBX.out).1 HQ.out.1.few f k1 r1 p1 HOk.out.2.2.2 hf8 hk1 hp1 b hb
     have HBd : Hid (decide (p1.size ≤ dX.cr f) = b) := hb
     clear hrowX hlX hneX hk1 hp1 hcrX hqX hb
     go_wp2_with fail
     refine HCan.out.mono ?_
     rintro e2 Y ⟨rfl, m, hY⟩
     have hbY : Below X.heap.size X Y := by rw [hY]; exact below_drewN (Below.refl _ _) _
     have HY : Hid (TurnsAt B g (.slice pa ps.length pcap) (.slice qa ns.length qcap) Y vqX FX rvX dX (n + 1)) := HX.out.later hbY
     have HBY : Hid (Below B w Y ∧ B ≤ Y.heap.size) := ⟨HBX.out.trans (hbY.mono (Nat.le_trans HB.out.1 HBX.out.size)), Nat.le_trans (Nat.le_trans HB.out.1 HBX.out.size) hbY.size⟩
     have HBut : Hid (But (turnFoot g F rv) w Y) := HE.out.but.trans (.ofBelow hbY)
     clear hY hbY
     cases b with
     | true =>
      have hfit : p1.size ≤ dX.cr f := of_decide_eq_true HBd.out
      have hxx : (k1, dX.sent (sizeAt ps) f k1 r1) = (k, e) := by
       have hg := HOk.out.2.2.1
       cases fu1 with
       | zero => simp [Drr.go] at hg
       | succ fu2 =>
        rw [Drr.go, HOk.out.2.2.2] at hg
        simp only [HK1.out, if_pos (show sizeAt ps k1 ≤ dX.cr f by rw [sizeAt_get HP1.out]; exact hfit)] at hg
        exact Option.some.inj hg
      obtain ⟨rfl, rfl⟩ := Prod.mk.inj hxx
      have HTk : Hid (Calls Tryz.prog 140 #[.pointer (some ⟨g, 0, none⟩)] Y fun e w' => e = .returned (.int .i64 (k1 : Int)) ∧ ComeEnd B g (.slice pa ps.length pcap) (.slice qa ns.length qcap) Y w' FX rvX (dX.sent (sizeAt ps) f k1 r1) n) := turnsTake B g pa pcap _ ps vqX FX rvX dX n Y HY.out (HL.out Y HBY.out.1).1 HQ.out.2.2.2.2.2.1 HQ.out.1 f k1 r1 p1 HOk.out.2.2.2 hf8 HK1.out HP1.out HCrX.out hfit hn (by rw [HOk.out.2.1]; exact (HQ.out.2.2.2.2.1 f).1) HBY.out.2
      clear hfit hxx
      go_wp2_with fail
      refine HTk.out.mono ?_
      rintro e3 Z ⟨rfl, hZ⟩
      have HZ : Hid (ComeEnd B g (.slice pa ps.length pcap) (.slice qa ns.length qcap) w Z F rv (dX.sent (sizeAt ps) f k1 r1) n) := ComeEnd.step HBut.out HFX.out hZ
      clear hZ
      go_wp2_with fail
      go_ret
      exact ⟨rfl, HZ.out⟩
     | false =>
      have hbig : ¬ p1.size ≤ dX.cr f := of_decide_eq_false HBd.out
      have HNx : Hid (∃ fu2, fu2 < (fu1 + 1) ∧ DrrOk (flowOf ps) (sizeAt ps) (quOf ns) 1500 (dX.back f) ∧ Drr.go (sizeAt ps) (quOf ns) fu2 (dX.back f) = some (k, e)) := by
       have hg := HOk.out.2.2.1
       have hok2 := HOk.out.1.back HOk.out.2.2.2 HK1.out (by rw [sizeAt_get HP1.out]; omega)
       cases fu1 with
       | zero => simp [Drr.go] at hg
       | succ fu2 =>
        rw [Drr.go, HOk.out.2.2.2] at hg
        simp only [HK1.out, if_neg (show ¬ sizeAt ps k1 ≤ dX.cr f by rw [sizeAt_get HP1.out]; exact hbig)] at hg
        exact ⟨fu2, by omega, hok2, hg⟩
      have c18 := HY.out.cells.cr_
      have c19 : Y.cell? ⟨g, 19, none⟩ = some (.int .i64 (f : Int)) := by have := HY.out.cells.cs; rw [HOk.out.2.2.2] at this; exact this
      have hb0 : Below Y.heap.size Y (Y.drew.alloc (.cells #[.int .i64 (f : Int)] 3)) := (Below.refl _ _).drew.alloc (Nat.le_refl _) _
      have HTa : Hid (TurnsAt B g (.slice pa ps.length pcap) (.slice qa ns.length qcap) (Y.drew.alloc (.cells #[.int .i64 (f : Int)] 3)) vqX FX rvX dX (n + 1)) := HY.out.later hb0
      have HNew : Hid (∀ j u, (ints [(f : Int)])[j]? = some u → (Y.drew.alloc (.cells #[.int .i64 (f : Int)] 3)).cell? (Addr.add ⟨Y.heap.size, 0, none⟩ j) = some u) := World.news_of_block (cs := #[.int .i64 (f : Int)]) (t := 3) (heap_alloc_new Y.drew _)
      have HBs : Hid (B ≤ (Y.drew.alloc (.cells #[.int .i64 (f : Int)] 3)).heap.size) := Nat.le_trans HBY.out.2 hb0.size
      obtain ⟨rl, hrle⟩ : ∃ rl, dX.row.length = rl := ⟨_, rfl⟩
      have HRe : Hid (dX.row.length = rl) := hrle
      have hrl8 := HRl.out
      rw [hrle] at hrl8
      have c18a : (Y.alloc (.cells #[.int .i64 (f : Int)] 3)).cell? ⟨g, 18, none⟩ = some rvX := cell_later ((Below.refl _ _).alloc (Nat.le_refl _) _) c18
      clear hb0 hrle hbig
      go_wp2_with fail
      go_region_law
       (first
        | (refine step_append_lies _ rfl _ _ 23 rfl B 3 i0 (.int .i64 0) 1 8 Tryz.underlying23 hi hz0 hz1 hz2 rfl (by decide) rvX rl (ints (asInts dX.row)) rfl (by have := HTa.out.row; rwa [HRe.out] at this) ⟨Y.heap.size, 0, none⟩ 1 1 (ints [(f : Int)]) rfl rfl HNew.out (ints_one _) (by decide) (by unfold maxLen; omega) (by omega) HBs.out _ rfl ?_
           intro g5 cap5 w5 ho5 hg5 hat5 hlt5
           have hbut : But (fun k => rvX.ownBlock = some k) (Y.drew.alloc (.cells #[.int .i64 (f : Int)] 3)) w5 := ⟨hg5.os, hg5.tape, hg5.output, hg5.size, fun k hk hn => hg5.block k hk (fun e => hn e.symm)⟩
           have HT5 := HTa.out.cells.but hbut (fun e => HTa.out.rowg e)
           have y1 := HT5.cr_
           have y2 := HT5.free 18
           have H5 : Hid (w5.ownsRow B 3 1 (.slice (some ⟨g5, 0, none⟩) (rl + 1) cap5) (rl + 1) (ints (asInts dX.row) ++ ints [(f : Int)]) ∧ But (fun k => rvX.ownBlock = some k) (Y.drew.alloc (.cells #[.int .i64 (f : Int)] 3)) w5 ∧ (rvX.ownBlock = some g5 ∨ g5 = (Y.drew.alloc (.cells #[.int .i64 (f : Int)] 3)).heap.size)) := ⟨ho5, hbut, hat5⟩
           clear ho5 hg5 hat5 hlt5 hbut HT5)
        | fail)
      all_goals
       have HNw : Hid (∀ k, (Value.slice (some ⟨g5, 0, none⟩) (rl + 1) cap5).ownBlock = some k → rvX.ownBlock = some k ∨ (Y.drew.alloc (.cells #[.int .i64 (f : Int)] 3)).heap.size ≤ k) := fun j hj => by
        have e : g5 = j := Option.some.inj hj
        rcases H5.out.2.2 with h' | h'
        · exact .inl (by rw [← e]; exact h')
        · exact .inr (by rw [← e, h']; exact Nat.le_refl _)
       have HT6 : Hid (TurnsAt B g (.slice pa ps.length pcap) (.slice qa ns.length qcap) (w5.setCell ⟨g, 18, none⟩ (.slice (some ⟨g5, 0, none⟩) (rl + 1) cap5)) vqX FX (.slice (some ⟨g5, 0, none⟩) (rl + 1) cap5) { dX with row := dX.row ++ [f] } (n + 1)) := HTa.out.setR H5.out.2.1 (by rw [List.length_append, asInts_snoc, HRe.out]; exact H5.out.1) HNw.out
       have z1 := HT6.out.cells.cs
       have z2 := HT6.out.cells.free 19
       have HBt : Hid (But (turnFoot g FX rvX) Y (w5.setCell ⟨g, 18, none⟩ (.slice (some ⟨g5, 0, none⟩) (rl + 1) cap5))) := ((But.ofBelow ((Below.refl _ _).drew.alloc (Nat.le_refl _) _)).trans (H5.out.2.1.mono fun j hj => .inr (.inr hj))).trans ((butG _ _ _ _).mono fun j hj => .inl hj)
       clear y1 y2
       go_wp2_with fail
       obtain ⟨fu2, hfu2, hok2, hgo2⟩ := HNx.out
       go_roundg fu2
       case measure => omega
       case rel =>
        refine ⟨rfl, dX.back f, hok2, HOk.out.2.1, hgo2, ComeEnd.step HBut.out HFX.out ⟨⟨vqX, FX, _, HT6.out.setS none rfl, fun j hj => ?_⟩, HBt.out.trans ((butG _ _ _ _).mono fun j hj => .inl hj)⟩⟩
        rcases foot_setR HNw.out hj with h' | h'
        · exact .inl h'
        · exact .inr (Nat.le_trans (by simp) h')
   | some f =>
    rw [hs] at c19
    have c19' : wr.cell? ⟨g, 19, none⟩ = some (.int .i64 (f : Int)) := c19
    have hf8 : f < 8 := hrow.2 f (by unfold Drr.line; rw [hs]; exact List.mem_cons_self ..)
    have hfm : ((f : Int) == -1) = false := by simp
    have HOk : Hid (DrrOk (flowOf ps) (sizeAt ps) (quOf ns) 1500 d ∧ d.qs = d0.qs ∧ Drr.go (sizeAt ps) (quOf ns) (fu1 + 1) d = some (k, e) ∧ d.srv = some f) := ⟨HA.out.ok, HA.out.qs, hgo, hs⟩
    obtain ⟨dX, hdX⟩ : ∃ dX, d = dX := ⟨_, rfl⟩
    obtain ⟨X, hX⟩ : ∃ X, wr = X := ⟨_, rfl⟩
    have HE : Hid (ComeEnd B g (.slice pa ps.length pcap) (.slice qa ns.length qcap) w X F rv dX (n + 1)) := by rw [← hX, ← hdX]; exact HA.out.end_
    rw [hdX] at HOk
    rw [hX] at c19' ⊢
    clear hgo c19 hs hrow hdX hX HA HT1 HF1 HBr HW
    obtain ⟨vqX, FX, rvX, hTX, hFX⟩ := HE.out.at_
    have HX : Hid (TurnsAt B g (.slice pa ps.length pcap) (.slice qa ns.length qcap) X vqX FX rvX dX (n + 1)) := hTX
    have HFX : Hid (∀ k, turnFoot g FX rvX k → turnFoot g F rv k ∨ w.heap.size ≤ k) := hFX
    have HBX : Hid (Below B w X) := HE.out.foot HB.out.1 HB.out.2
    clear hTX hFX
    have hrowX := row_few' HOk.out.1 (fun f hf => by rw [HOk.out.2.1]; exact HQ.out.2.2.2.1 f hf)
    have hlX : dX.line = f :: dX.row := by unfold Drr.line; rw [HOk.out.2.2.2]
    have hneX := (HOk.out.1.active f).1 (by rw [hlX]; exact List.mem_cons_self ..)
    obtain ⟨k1, r1, hk1⟩ : ∃ k1 r1, dX.qs f = k1 :: r1 := by
     cases hq : dX.qs f with
     | nil => exact absurd hq hneX
     | cons a b => exact ⟨a, b, rfl⟩
    have HK1 : Hid (dX.qs f = k1 :: r1) := hk1
    have hk1l : k1 < ps.length := (HQ.out.2.2.2.2.1 f).2 k1 (by rw [← HOk.out.2.1, hk1]; exact List.mem_cons_self ..)
    obtain ⟨p1, hp1, -⟩ := get_some ps k1 hk1l
    have HP1 : Hid (ps[k1]? = some p1) := hp1
    have hcrX := HOk.out.1.cr_in HQ.out.2.2.1 f
    have hqX := (quOf_in HQ.out.2.1.each (by omega) f).2
    have HCrX : Hid (dX.cr f ≤ 1000000) := by show dX.cr f ≤ 1000000; omega
    have HRl : Hid (dX.row.length ≤ 8) := hrowX.1
    obtain ⟨b, hb⟩ : ∃ b, decide (p1.size ≤ dX.cr f) = b := ⟨_, rfl⟩
    have HCan : Hid (Calls Tryz.prog 139 #[.pointer (some ⟨g, 0, none⟩)] X fun e w' => e = .returned (.bool b) ∧ ∃ m, w' = X.drewN m) := turnsCan B g pa pcap _ ps vqX FX rvX dX (n + 1) X HX.out (HL.out X HBX.out).1 HQ.out.1.few f k1 r1 p1 HOk.out.2.2.2 hf8 hk1 hp1 b hb
    have HBd : Hid (decide (p1.size ≤ dX.cr f) = b) := hb
    clear hrowX hlX hneX hk1 hp1 hcrX hqX hb
    go_wp2_with fail
    refine HCan.out.mono ?_
    rintro e2 Y ⟨rfl, m, hY⟩
    have hbY : Below X.heap.size X Y := by rw [hY]; exact below_drewN (Below.refl _ _) _
    have HY : Hid (TurnsAt B g (.slice pa ps.length pcap) (.slice qa ns.length qcap) Y vqX FX rvX dX (n + 1)) := HX.out.later hbY
    have HBY : Hid (Below B w Y ∧ B ≤ Y.heap.size) := ⟨HBX.out.trans (hbY.mono (Nat.le_trans HB.out.1 HBX.out.size)), Nat.le_trans (Nat.le_trans HB.out.1 HBX.out.size) hbY.size⟩
    have HBut : Hid (But (turnFoot g F rv) w Y) := HE.out.but.trans (.ofBelow hbY)
    clear hY hbY
    cases b with
    | true =>
     have hfit : p1.size ≤ dX.cr f := of_decide_eq_true HBd.out
     have hxx : (k1, dX.sent (sizeAt ps) f k1 r1) = (k, e) := by
      have hg := HOk.out.2.2.1
      rw [Drr.go, HOk.out.2.2.2] at hg
      simp only [HK1.out, if_pos (show sizeAt ps k1 ≤ dX.cr f by rw [sizeAt_get HP1.out]; exact hfit)] at hg
      exact Option.some.inj hg
     obtain ⟨rfl, rfl⟩ := Prod.mk.inj hxx
     have HTk : Hid (Calls Tryz.prog 140 #[.pointer (some ⟨g, 0, none⟩)] Y fun e w' => e = .returned (.int .i64 (k1 : Int)) ∧ ComeEnd B g (.slice pa ps.length pcap) (.slice qa ns.length qcap) Y w' FX rvX (dX.sent (sizeAt ps) f k1 r1) n) := turnsTake B g pa pcap _ ps vqX FX rvX dX n Y HY.out (HL.out Y HBY.out.1).1 HQ.out.2.2.2.2.2.1 HQ.out.1 f k1 r1 p1 HOk.out.2.2.2 hf8 HK1.out HP1.out HCrX.out hfit hn (by rw [HOk.out.2.1]; exact (HQ.out.2.2.2.2.1 f).1) HBY.out.2
     clear hfit hxx
     go_wp2_with fail
     refine HTk.out.mono ?_
     rintro e3 Z ⟨rfl, hZ⟩
     have HZ : Hid (ComeEnd B g (.slice pa ps.length pcap) (.slice qa ns.length qcap) w Z F rv (dX.sent (sizeAt ps) f k1 r1) n) := ComeEnd.step HBut.out HFX.out hZ
     clear hZ
     go_wp2_with fail
     go_ret
     exact ⟨rfl, HZ.out⟩
    | false =>
     have hbig : ¬ p1.size ≤ dX.cr f := of_decide_eq_false HBd.out
     have HNx : Hid (∃ fu2, fu2 < (fu1 + 1) ∧ DrrOk (flowOf ps) (sizeAt ps) (quOf ns) 1500 (dX.back f) ∧ Drr.go (sizeAt ps) (quOf ns) fu2 (dX.back f) = some (k, e)) := by
      have hg := HOk.out.2.2.1
      have hok2 := HOk.out.1.back HOk.out.2.2.2 HK1.out (by rw [sizeAt_get HP1.out]; omega)
      rw [Drr.go, HOk.out.2.2.2] at hg
      simp only [HK1.out, if_neg (show ¬ sizeAt ps k1 ≤ dX.cr f by rw [sizeAt_get HP1.out]; exact hbig)] at hg
      exact ⟨fu1, by omega, hok2, hg⟩
     have c18 := HY.out.cells.cr_
     have c19 : Y.cell? ⟨g, 19, none⟩ = some (.int .i64 (f : Int)) := by have := HY.out.cells.cs; rw [HOk.out.2.2.2] at this; exact this
     have hb0 : Below Y.heap.size Y (Y.drew.alloc (.cells #[.int .i64 (f : Int)] 3)) := (Below.refl _ _).drew.alloc (Nat.le_refl _) _
     have HTa : Hid (TurnsAt B g (.slice pa ps.length pcap) (.slice qa ns.length qcap) (Y.drew.alloc (.cells #[.int .i64 (f : Int)] 3)) vqX FX rvX dX (n + 1)) := HY.out.later hb0
     have HNew : Hid (∀ j u, (ints [(f : Int)])[j]? = some u → (Y.drew.alloc (.cells #[.int .i64 (f : Int)] 3)).cell? (Addr.add ⟨Y.heap.size, 0, none⟩ j) = some u) := World.news_of_block (cs := #[.int .i64 (f : Int)]) (t := 3) (heap_alloc_new Y.drew _)
     have HBs : Hid (B ≤ (Y.drew.alloc (.cells #[.int .i64 (f : Int)] 3)).heap.size) := Nat.le_trans HBY.out.2 hb0.size
     obtain ⟨rl, hrle⟩ : ∃ rl, dX.row.length = rl := ⟨_, rfl⟩
     have HRe : Hid (dX.row.length = rl) := hrle
     have hrl8 := HRl.out
     rw [hrle] at hrl8
     have c18a : (Y.alloc (.cells #[.int .i64 (f : Int)] 3)).cell? ⟨g, 18, none⟩ = some rvX := cell_later ((Below.refl _ _).alloc (Nat.le_refl _) _) c18
     clear hb0 hrle hbig
     go_wp2_with fail
     go_region_law
      (first
       | (refine step_append_lies _ rfl _ _ 23 rfl B 3 i0 (.int .i64 0) 1 8 Tryz.underlying23 hi hz0 hz1 hz2 rfl (by decide) rvX rl (ints (asInts dX.row)) rfl (by have := HTa.out.row; rwa [HRe.out] at this) ⟨Y.heap.size, 0, none⟩ 1 1 (ints [(f : Int)]) rfl rfl HNew.out (ints_one _) (by decide) (by unfold maxLen; omega) (by omega) HBs.out _ rfl ?_
          intro g5 cap5 w5 ho5 hg5 hat5 hlt5
          have hbut : But (fun k => rvX.ownBlock = some k) (Y.drew.alloc (.cells #[.int .i64 (f : Int)] 3)) w5 := ⟨hg5.os, hg5.tape, hg5.output, hg5.size, fun k hk hn => hg5.block k hk (fun e => hn e.symm)⟩
          have HT5 := HTa.out.cells.but hbut (fun e => HTa.out.rowg e)
          have y1 := HT5.cr_
          have y2 := HT5.free 18
          have H5 : Hid (w5.ownsRow B 3 1 (.slice (some ⟨g5, 0, none⟩) (rl + 1) cap5) (rl + 1) (ints (asInts dX.row) ++ ints [(f : Int)]) ∧ But (fun k => rvX.ownBlock = some k) (Y.drew.alloc (.cells #[.int .i64 (f : Int)] 3)) w5 ∧ (rvX.ownBlock = some g5 ∨ g5 = (Y.drew.alloc (.cells #[.int .i64 (f : Int)] 3)).heap.size)) := ⟨ho5, hbut, hat5⟩
          clear ho5 hg5 hat5 hlt5 hbut HT5)
       | fail)
     all_goals
      have HNw : Hid (∀ k, (Value.slice (some ⟨g5, 0, none⟩) (rl + 1) cap5).ownBlock = some k → rvX.ownBlock = some k ∨ (Y.drew.alloc (.cells #[.int .i64 (f : Int)] 3)).heap.size ≤ k) := fun j hj => by
       have e : g5 = j := Option.some.inj hj
       rcases H5.out.2.2 with h' | h'
       · exact .inl (by rw [← e]; exact h')
       · exact .inr (by rw [← e, h']; exact Nat.le_refl _)
      have HT6 : Hid (TurnsAt B g (.slice pa ps.length pcap) (.slice qa ns.length qcap) (w5.setCell ⟨g, 18, none⟩ (.slice (some ⟨g5, 0, none⟩) (rl + 1) cap5)) vqX FX (.slice (some ⟨g5, 0, none⟩) (rl + 1) cap5) { dX with row := dX.row ++ [f] } (n + 1)) := HTa.out.setR H5.out.2.1 (by rw [List.length_append, asInts_snoc, HRe.out]; exact H5.out.1) HNw.out
      have z1 := HT6.out.cells.cs
      have z2 := HT6.out.cells.free 19
      have HBt : Hid (But (turnFoot g FX rvX) Y (w5.setCell ⟨g, 18, none⟩ (.slice (some ⟨g5, 0, none⟩) (rl + 1) cap5))) := ((But.ofBelow ((Below.refl _ _).drew.alloc (Nat.le_refl _) _)).trans (H5.out.2.1.mono fun j hj => .inr (.inr hj))).trans ((butG _ _ _ _).mono fun j hj => .inl hj)
      clear y1 y2
      go_wp2_with fail
      obtain ⟨fu2, hfu2, hok2, hgo2⟩ := HNx.out
      go_roundg fu2
      case measure => omega
      case rel =>
       refine ⟨rfl, dX.back f, hok2, HOk.out.2.1, hgo2, ComeEnd.step HBut.out HFX.out ⟨⟨vqX, FX, _, HT6.out.setS none rfl, fun j hj => ?_⟩, HBt.out.trans ((butG _ _ _ _).mono fun j hj => .inl hj)⟩⟩
       rcases foot_setR HNw.out hj with h' | h'
       · exact .inl h'
       · exact .inr (Nat.le_trans (by simp) h')
end Go.Proofs.YtibhkijaafdkoaaGreatDoor

namespace Go.Proofs.YtibhkijaafdkoaaGreatDoor
open Go.Maps (Keyed)
open Go.WideElems (Fit)
def noFlow : Lit → Bool
 | .int .i64 x => !(decide (0 ≤ x) && decide (x < 8))
 | _ => true
def flowAt : Lit → Nat
 | .int _ x => x.toNat
 | _ => 0
theorem noFlow_of {y : Lit} (h : noFlow y = false) : ∃ x : Nat, x < 8 ∧ y = .int .i64 (x : Int) := by
 cases y with
 | int q x =>
  cases q <;> simp only [noFlow] at h <;> try cases h
  have h1 : 0 ≤ x ∧ x < 8 := by simpa using h
  exact ⟨x.toNat, by omega, by rw [Int.toNat_of_nonneg h1.1]⟩
 | _ => cases h
theorem noFlow_not {x : Nat} (h : x < 8) : noFlow (.int .i64 (x : Int)) = false := by simp [noFlow]; omega
theorem few_below : ∀ (n : Nat) (l : List Nat), l.Nodup → (∀ x, x ∈ l → x < n) → l.length ≤ n
 | 0, [], _, _ => Nat.le_refl _
 | 0, a :: l, _, h => absurd (h a (List.mem_cons_self ..)) (Nat.not_lt_zero _)
 | n + 1, l, hn, h => by
  by_cases hm : n ∈ l
  ·
   have := few_below n (l.erase n) (hn.erase n) (fun x hx => by
    have h1 := hn.mem_erase_iff.1 hx
    have := h x h1.2
    omega)
   rw [List.length_erase_of_mem hm] at this
   omega
  ·
   have := few_below n l hn (fun x hx => by
    have h1 := h x hx
    have : x ≠ n := fun e => hm (by rw [← e]; exact hx)
    omega)
   omega
theorem keys_few {H : Type} {es : List (Lit × DataW H)} (h1 : es.Pairwise fun p q => p.1 ≠ q.1) (h2 : es.any (fun p => noFlow p.1) = false) : es.length ≤ 8 := by
 have h3 : ∀ p, p ∈ es → ∃ x : Nat, x < 8 ∧ p.1 = .int .i64 (x : Int) := fun p hp => noFlow_of (by simpa using List.any_eq_false.1 h2 p hp)
 have hn : (es.map fun p => flowAt p.1).Nodup := by
  refine List.pairwise_map.2 (List.pairwise_iff_getElem.2 fun i j hi hj hij e => List.pairwise_iff_getElem.1 h1 i j hi hj hij ?_)
  obtain ⟨x, -, hx⟩ := h3 _ (List.getElem_mem hi)
  obtain ⟨y, -, hy⟩ := h3 _ (List.getElem_mem hj)
  rw [hx, hy] at e ⊢
  have : x = y := by simpa [flowAt] using e
  rw [this]
 have := few_below 8 _ hn (fun a ha => by
  obtain ⟨p, hp, rfl⟩ := List.mem_map.1 ha
  obtain ⟨x, hx, e⟩ := h3 p hp
  rw [e]
  simpa [flowAt] using hx)
 simpa using this
def Tells (P : Program) (k e : TypeId) (w : World) (b : Nat) (f : Nat → Int) : Prop :=
 ∃ es : List (Lit × DataW Unit), w.ownsMap P k (plainElem P e) b 8 (.map es) ∧ es.any (fun p => noFlow p.1) = false ∧ ∀ x : Nat, (DataW.map es).atKey (.int .i64 (x : Int)) (.lit (.int .i64 0)) = .lit (.int .i64 (f x))
section
variable {P : Program} {k e t : TypeId} {w w' : World} {b : Nat} {f : Nat → Int}
theorem tells_made (w : World) (P : Program) (k e : TypeId) : Tells P k e (w.alloc (.map #[] 0)) w.heap.size fun _ => 0 :=
 ⟨[], (World.ownsMap_made w P k _).mono (Nat.zero_le _), rfl, fun _ => rfl⟩
theorem Tells.lt (h : Tells P k e w b f) : b < w.heap.size := by
 obtain ⟨D, h1, -, -⟩ := h
 exact h1.lt
theorem Tells.but {S : Nat → Prop} (h : Tells P k e w b f) (hb : But S w w') (hs : ¬ S b) : Tells P k e w' b f := by
 have hlt := h.lt
 obtain ⟨D, ⟨es, clock, g1, g2, g3, g4⟩, h2, h3⟩ := h
 exact ⟨D, ⟨es, clock, (hb.block b hlt hs).trans g1, g2, g3, g4⟩, h2, h3⟩
theorem Tells.look (h : Tells P k e w b f) (K : Keyed P k) (ht : P.underlying t = some (.map k e)) (he : P.underlying e = some (.int .i64)) (hz : (zeroValue e).run P w = .ok (.int .i64 0) w) {x : Nat} (hkey : keyOf P k (.int .i64 (x : Int)) = some (.int .i64 (x : Int))) :
  (Instr.lookup t (.map (some b)) (.int .i64 (x : Int)) false).run P w = .ok (.int .i64 (f x)) w := by
 obtain ⟨es, h1, h2, h3⟩ := h
 obtain ⟨c, hrun, hat, -⟩ := h1.lookup_int K ht he hz hkey
 rw [h3 x] at hat
 injection hat with hat
 injection hat with _ hat
 rw [hrun, hat]
theorem Tells.store (h : Tells P k e w b f) (K : Keyed P k) (ht : P.underlying t = some (.map k e)) (he : P.underlying e = some (.int .i64)) {x : Nat} (hx8 : x < 8) (hkey : keyOf P k (.int .i64 (x : Int)) = some (.int .i64 (x : Int))) {v : Int} (hv : (Lit.int .i64 v).wf = true) :
  ∃ w', (Instr.mapUpdate t (.map (some b)) (.int .i64 (x : Int)) (.int .i64 v)).run P w = .ok () w' ∧ Tells P k e w' b (put1 f x v) ∧ w.grownBy w' (some b) := by
 obtain ⟨es, h1, h2, h3⟩ := h
 obtain ⟨w', hrun, g1, g2⟩ := h1.update K ht (by decide) hkey (plainElem_int he hv)
 have e1 : (DataW.map es).put (.int .i64 (x : Int)) (.lit (.int .i64 v)) = .map (DataW.insert (.int .i64 (x : Int), .lit (.int .i64 v)) (es.filter fun p => !p.1.sameKey (.int .i64 (x : Int)))) := rfl
 have hk : (DataW.insert (.int .i64 (x : Int), .lit (.int .i64 v)) (es.filter fun p => !p.1.sameKey (.int .i64 (x : Int)))).any (fun p => noFlow p.1) = false := by
  rw [Maps.any_insert, noFlow_not hx8, Bool.false_or]
  exact List.any_eq_false.2 fun p hp => List.any_eq_false.1 h2 p (List.mem_filter.1 hp).1
 have ht2 := g1.tidy K
 rw [e1] at g1 ht2
 refine ⟨w', hrun, ⟨_, ?_, hk, fun y => ?_⟩, g2⟩
 ·
  obtain ⟨es', he', hp⟩ := ht2
  injection he' with he'
  rw [← he'] at hp
  have hl := keys_few hp hk
  obtain ⟨ms, clock, k1, k2, k3, k4⟩ := g1
  refine ⟨ms, clock, k1, k2, ?_, k4⟩
  injection k4 with k4
  rw [k4, length_sorted] at hl
  simpa using hl
 ·
  rw [← e1]
  by_cases hy : y = x
  ·
   subst hy
   rw [put1_same]
   exact Maps.atKey_put_same (k := .int .i64 (y : Int)) ⟨es, rfl⟩ trivial _ _
  ·
   rw [put1_other _ _ hy, Maps.atKey_put_other (fun e => hy (by injection e with _ e; omega))]
   exact h3 y
theorem Tells.cleared (h : Tells P k e w b f) (ht : P.underlying t = some (.map k e)) (ty : TypeId) :
  ∃ w', (Builtin.clear_ #[t] ty #[.map (some b)]).run P w = .ok (.tuple #[]) w' ∧ Tells P k e w' b (fun _ => 0) ∧ w.grownBy w' (some b) := by
 obtain ⟨D, ⟨es, clock, g1, g2, g3, g4⟩, h2, h3⟩ := h
 refine ⟨ChangeMaps.setBlock w b (.map #[] clock), ?_, ⟨[], ⟨#[], clock, ChangeMaps.heap_setBlock_same g1 _, ⟨by simp, MapKept.stamped_empty _, by simp⟩, Nat.zero_le _, rfl⟩, rfl, fun _ => rfl⟩, ⟨rfl, rfl, rfl, by simp [ChangeMaps.setBlock], fun i _ hi => ChangeMaps.heap_setBlock_other g1 _ (fun e => hi (by rw [e]))⟩⟩
 simp [Builtin.clear_, run_underlying ht, MapKept.run_getObj_map g1, MapKept.run_setObj_map _ g1, Result.andThen, ChangeMaps.setBlock]
end
end Go.Proofs.YtibhkijaafdkoaaGreatDoor
