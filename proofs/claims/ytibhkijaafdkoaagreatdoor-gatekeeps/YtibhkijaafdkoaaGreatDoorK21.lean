/- Own facts, put together: no statement of its own. -/
import Derived.Test.YtibhkijaafdkoaaGreatDoorK20
import Derived.Test.YtibhkijaafdkoaaGreatDoorK01
import Derived.Laws.StructEq
import Derived.BigQuiet
import Derived.Test.YtibhkijaafdkoaaGreatDoorK17
import Derived.Test.YtibhkijaafdkoaaGreatDoorK19
import Derived.Test.YtibhkijaafdkoaaGreatDoorK18
import Derived.Test.YtibhkijaafdkoaaGreatDoorK09
import Derived.Deep.AppendLies
namespace Go.Proofs.YtibhkijaafdkoaaGreatDoor
open Go.RowKit
def OutAt (w : World) (D : Nat) (q : List Pk) : Prop := ∀ (i : Nat) p, q[i]? = some p → w.cell? ⟨D, i * 3, none⟩ = some (.int .i64 p.flow) ∧ w.cell? ⟨D, i * 3 + 1, none⟩ = some (.int .i64 p.size) ∧ w.cell? ⟨D, i * 3 + 2, none⟩ = some (.int .i64 p.tick)
theorem OutAt.but {S : Nat → Prop} {w w' : World} {D : Nat} {q : List Pk} (h : OutAt w D q) (hb : But S w w') (hD : D < w.heap.size) (hs : ¬ S D) : OutAt w' D q := fun i p hi => by
 have := h i p hi
 exact ⟨by rw [hb.cell (p := ⟨D, i * 3, none⟩) hD hs]; exact this.1, by rw [hb.cell (p := ⟨D, i * 3 + 1, none⟩) hD hs]; exact this.2.1, by rw [hb.cell (p := ⟨D, i * 3 + 2, none⟩) hD hs]; exact this.2.2⟩
theorem OutAt.step {w : World} {D n : Nat} {q : List Pk} (h : OutAt w D q) (hr : Room w D n) (k : Nat) (hk : q.length = k) (hn : k * 3 + 2 < n) (x y z : Int) :
  OutAt (((w.setCell ⟨D, k * 3, none⟩ (.int .i64 x)).setCell ⟨D, k * 3 + 1, none⟩ (.int .i64 y)).setCell ⟨D, k * 3 + 2, none⟩ (.int .i64 z)) D (q ++ [⟨x, y, z⟩]) := by
 intro i p hi
 rcases get_snoc hi with ⟨h1, h2⟩ | ⟨h1, h2⟩
 ·
  have := h i p h2
  refine ⟨?_, ?_, ?_⟩
  · rw [World.cell?_setCell_other _ _ _ _ (by simp <;> omega), World.cell?_setCell_other _ _ _ _ (by simp <;> omega), World.cell?_setCell_other _ _ _ _ (by simp <;> omega)]; exact this.1
  · rw [World.cell?_setCell_other _ _ _ _ (by simp <;> omega), World.cell?_setCell_other _ _ _ _ (by simp <;> omega), World.cell?_setCell_other _ _ _ _ (by simp <;> omega)]; exact this.2.1
  · rw [World.cell?_setCell_other _ _ _ _ (by simp <;> omega), World.cell?_setCell_other _ _ _ _ (by simp <;> omega), World.cell?_setCell_other _ _ _ _ (by simp <;> omega)]; exact this.2.2
 ·
  rw [h1, h2, hk]
  obtain ⟨u0, hu0⟩ := hr.cell (k * 3) (by omega)
  obtain ⟨u1, hu1⟩ := (hr.set (k * 3) (.int .i64 x)).cell (k * 3 + 1) (by omega)
  obtain ⟨u2, hu2⟩ := ((hr.set (k * 3) (.int .i64 x)).set (k * 3 + 1) (.int .i64 y)).cell (k * 3 + 2) (by omega)
  refine ⟨?_, ?_, ?_⟩
  ·
   rw [World.cell?_setCell_other _ _ _ _ (by simp), World.cell?_setCell_other _ _ _ _ (by simp)]
   exact World.cell?_setCell_same _ _ _ hu0
  ·
   rw [World.cell?_setCell_other _ _ _ _ (by simp)]
   exact World.cell?_setCell_same _ _ _ hu1
  · exact World.cell?_setCell_same _ _ _ hu2
def ShapeEnd (ls : List (Int × Int)) (ps : List Pk) (ad : Nat → Addr) (w : World) (e : Ending) (w' : World) : Prop :=
 Below w.heap.size w w' ∧
 ((∃ s D, shape ls ps = some s ∧ e = .returned (.tuple #[.slice (some ⟨D, 0, none⟩) ps.length ps.length, .nilIface]) ∧ w.heap.size ≤ D ∧ LiesP w' (some ⟨D, 0, none⟩) s.out) ∨
  (∃ (j : Nat) (p : Pk) (s : Sh) (F : Nat), ps[j]? = some p ∧ shape ls (ps.take j) = some s ∧ shStep s p = none ∧ e = .returned (.tuple #[.slice none 0 0, .iface 110 (.pointer (some ⟨F, 0, none⟩))]) ∧ w'.cell? ⟨F, 0, none⟩ = some (.int .i64 j) ∧ w'.cell? ⟨F, 1, none⟩ = some (.iface 271 (.pointer (some (ad 3))))))
structure Work (ls : List (Int × Int)) (ps : List Pk) (w wr : World) (B D : Nat) (gs : List Nat) (n k : Nat) (s : Sh) : Prop where
 run : shape ls (ps.take k) = some s
 sh : ShAt wr B gs s.bs
 room : Room wr D (n * 3)
 out : OutAt wr D s.out
 below : Below w.heap.size w wr
 dlt : D < wr.heap.size
structure Laid (w : World) (B D : Nat) (gs : List Nat) : Prop where
 b0 : w.heap.size ≤ B
 bd : B < D
 gd : ∀ g, g ∈ gs → B < g ∧ g < D
set_option maxRecDepth 100000 in
set_option maxHeartbeats 2000000 in
theorem shape_any (la : Option Addr) (lcap : Nat) (ls : List (Int × Int)) (pa : Option Addr) (cap : Nat) (ps : List Pk) (w : World) (ad : Nat → Addr) (he : Errs4 w ad) (hl : Lies w la ls) (hk : okCurve ls) (hp : LiesP w pa ps) (ho : OkPks ps) :
  Calls Tryz.prog 126 #[.slice la ls.length lcap, .slice pa ps.length cap] w fun e w' => ShapeEnd ls ps ad w e w' := by
 have HP : Hid (LiesP w pa ps ∧ OkPks ps) := ⟨hp, ho⟩
 have HL : Hid (Lies w la ls ∧ okCurve ls) := ⟨hl, hk⟩
 have HE : Hid (Errs4 w ad) := he
 have hn300 : ps.length ≤ 300 := ho.few
 clear hl hk hp ho he
 obtain ⟨n, hn⟩ : ∃ n, ps.length = n := ⟨_, rfl⟩
 have HN : Hid (ps.length = n) := hn
 have HCB : Hid (Calls Tryz.prog 148 #[.slice la ls.length lcap, .slice pa n cap] w fun e w' => e = .returned .nilIface ∧ Below w.heap.size w w') := by
  have := checkBoth_ok la lcap ls pa cap ps w HL.out.1 HL.out.2 HP.out.1 HP.out.2
  rwa [hn] at this
 rw [hn] at hn300 ⊢
 clear hn
 obtain ⟨i0, hi, hz0, hz1, hz2⟩ := info_parts Tryz.infoPkt
 have hmk : ∀ w' : World, (Instr.makeSlice 43 (.int .i64 n) (.int .i64 n)).run Tryz.prog w' = .ok (.slice (some ⟨w'.heap.size, 0, none⟩) n n) (w'.alloc (.cells (madeCells #[.int .i64 0, .int .i64 0, .int .i64 0] (n * 3)) 52)) := fun w' => by
  have := run_make (P := Tryz.prog) w' 43 52 i0 (.agg #[.int .i64 0, .int .i64 0, .int .i64 0]) Tryz.underlying43 hi hz0 .i64 .i64 n n (by omega) (by omega) (by rw [hz2]; omega) (by omega)
  simpa [hz1, Value.cells] using this
 clear hi hz0 hz1 hz2
 go_enter Tryz.func126, Tryz.ntmps126
 go_wp2_with fail
 refine HCB.out.mono ?_
 rintro e w1 ⟨rfl, hb1⟩
 have HB1 : Hid (Below w.heap.size w w1) := hb1
 clear hb1
 go_wp2_with fail
 refine (fullShaper_ok la lcap ls _ (HL.out.1.below HB1.out) HL.out.2).mono ?_
 rintro e w2 ⟨gs, rfl, hsh2, hb2⟩
 have HSh2 : Hid (ShAt w2 w1.heap.size gs (ls.map bkOf)) := hsh2
 have HB2 : Hid (Below w.heap.size w w2) := HB1.out.trans (hb2.mono HB1.out.size)
 have hB2 : w1.heap.size < w2.heap.size := by
  obtain ⟨g, hg, -⟩ := get_some gs 0 (by rw [hsh2.len, List.length_map]; exact HL.out.2.1)
  exact cell_lt (hsh2.ptr 0 g hg)
 have hgd : ∀ g, g ∈ gs → w1.heap.size < g ∧ g < w2.heap.size := fun g hg => by
  refine ⟨hsh2.new g hg, ?_⟩
  obtain ⟨i, hi⟩ := List.mem_iff_getElem?.1 hg
  have hil : i < (ls.map bkOf).length := by
   rw [← hsh2.len]
   rcases Nat.lt_or_ge i gs.length with h | h
   · exact h
   · simp [List.getElem?_eq_none h] at hi
  exact (hsh2.bk i g _ hi (List.getElem?_eq_getElem hil)).lt
 have HLaid : Hid (Laid w w1.heap.size w2.heap.size gs) := ⟨HB1.out.size, hB2, hgd⟩
 have hal : Below w2.heap.size w2 (w2.alloc (.cells (madeCells #[.int .i64 0, .int .i64 0, .int .i64 0] (n * 3)) 52)) := (Below.refl _ _).alloc (Nat.le_refl _) _
 have HWork : Hid (Work ls ps w (w2.alloc (.cells (madeCells #[.int .i64 0, .int .i64 0, .int .i64 0] (n * 3)) 52)) w1.heap.size w2.heap.size gs n 0 ⟨ls.map bkOf, 0, []⟩) :=
  ⟨by simp [shape], hsh2.below hal hB2, room_made w2 _ (n * 3) 52, (fun i p h => by simp at h), HB2.out.trans (hal.mono HB2.out.size), by simp⟩
 clear hsh2 hb2 hB2 hgd hal
 go_wp2_with fail
 generalize w2.alloc (.cells (madeCells #[.int .i64 0, .int .i64 0, .int .i64 0] (n * 3)) 52) = w3 at *
 generalize w1.heap.size = B at *
 generalize w2.heap.size = D at *
 clear hmk
 go_loopw [9, 27] (fun l i wr => ∃ k : Nat, k ≤ n ∧ i = .int .i64 k ∧ ∃ s, l = .int .i64 s.left ∧ Work ls ps w wr B D gs n k s) (fun _ i _ => n - (intOf i).toNat)
 case atStart => exact ⟨0, Nat.zero_le _, rfl, _, rfl, HWork.out⟩
 case round =>
  obtain ⟨k, hk, rfl, s, rfl, hwk⟩ := hrel
  have HWk : Hid (Work ls ps w wr B D gs n k s) := hwk
  have hok' : OkPks (ps.take k) := by
   refine ⟨by have := HP.out.2.few; simp; omega, fun i p hi => ?_⟩
   have hik : i < k := by
    rcases Nat.lt_or_ge i k with h | h
    · exact h
    · rw [List.getElem?_take, if_neg (by omega)] at hi; cases hi
   rw [List.getElem?_take_of_lt hik] at hi
   have := HP.out.2.each i p hi
   refine ⟨this.1, ?_⟩
   have e : ahead (ps.take k) i = ahead ps i := by
    cases i with
    | zero => rfl
    | succ i => simp only [ahead]; rw [List.getElem?_take_of_lt (by omega)]
   rw [e]; exact this.2
  have HGood : Hid (ShGood ls (ps.take k) s) := shape_good HL.out.2 _ _ hok' hwk.run
  clear hok'
  by_cases hkn : k < n
  ·
   obtain ⟨⟨x, y, z⟩, hp, -⟩ := get_some ps k (by rw [HN.out]; exact hkn)
   obtain ⟨b, off, rfl, -, hc⟩ := (HP.out.1.below hwk.below).place (by rw [HN.out]; omega)
   obtain ⟨c1, c2, c3⟩ := hc k _ hp
   simp only at c1 c2 c3
   have o := okPk_true (HP.out.2.each k _ hp).1
   simp only at o
   obtain ⟨-, -, y1, y2, z1, z2⟩ := o
   have hleft := HGood.out.okOut.final
   rw [← HGood.out.left] at hleft
   have HPk : Hid (ps[k]? = some ⟨x, y, z⟩) := hp
   have hal : Below wr.heap.size wr (wr.alloc (.cells #[.int .i64 x, .int .i64 y, .int .i64 z] 52)) := (Below.refl _ _).alloc (Nat.le_refl _) _
   have hBl : B < wr.heap.size := Nat.lt_trans HLaid.out.bd hwk.dlt
   have HPass : Hid (Calls Tryz.prog 150 #[.slice (some ⟨B, 0, none⟩) ls.length ls.length, .int .i64 (max z s.left), .int .i64 y] (wr.alloc (.cells #[.int .i64 x, .int .i64 y, .int .i64 z] 52)) fun e w' => e = .returned (whenVal ad (passT s.bs (max z s.left) y)) ∧ (∀ T, passT s.bs (max z s.left) y = some T → ShAt w' B gs (s.bs.map fun b => b.take T y)) ∧ But (fun k => k ∈ gs) (wr.alloc (.cells #[.int .i64 x, .int .i64 y, .int .i64 z] 52)) w') :=
    pass_any B gs s.bs (max z s.left) y ls.length w _ ad HE.out (hwk.below.trans (hal.mono hwk.below.size)) HLaid.out.b0 (by simp; omega) (hwk.sh.below hal hBl) HGood.out.few HL.out.2.2.1
     (fun b hb => ⟨(HGood.out.ok b hb).1, by rw [(HGood.out.ok b hb).2]; omega⟩) (by omega) (by omega) y1 y2
   have HTk : Hid (ps.take (k + 1) = ps.take k ++ [⟨x, y, z⟩]) := by show _ = _; rw [List.take_add_one, hp]; rfl
   have HGn : Hid (∀ g, g ∈ gs → g ≠ wr.heap.size) := fun g hg => by have := (HLaid.out.gd g hg).2; have := hwk.dlt; omega
   clear hp hc hal hBl
   have HDl : Hid (D < wr.heap.size) := hwk.dlt
   have HLf : Hid (s.left = s.left) := rfl
   clear hwk
   generalize hLf : s.left = L at *
   have HLeft : Hid (s.left = L) := hLf
   clear hLf HLf
   obtain ⟨M, hM⟩ : ∃ M, max z L = M := ⟨_, rfl⟩
   rw [hM] at HPass
   have HM : Hid (max z L = M) := hM
   obtain ⟨Q, hQ⟩ : ∃ Q, passT s.bs M y = Q := ⟨_, rfl⟩
   rw [hQ] at HPass
   have HQ : Hid (passT s.bs M y = Q) := hQ
   have hMc : (L ≤ z ∧ M = z) ∨ (z < L ∧ M = L) := by omega
   clear hM hQ
   cases Q with
   | none =>
    change Hid (Calls Tryz.prog 150 #[.slice (some ⟨B, 0, none⟩) ls.length ls.length, .int .i64 M, .int .i64 y] (wr.alloc (.cells #[.int .i64 x, .int .i64 y, .int .i64 z] 52)) fun e w' => e = .returned (.tuple #[.int .i64 0, .iface 271 (.pointer (some (ad 3)))]) ∧ (∀ T, none = some T → ShAt w' B gs (s.bs.map fun b => b.take T y)) ∧ But (fun k => k ∈ gs) (wr.alloc (.cells #[.int .i64 x, .int .i64 y, .int .i64 z] 52)) w') at HPass
    have HNo : Hid (shStep s ⟨x, y, z⟩ = none) := by
     show _ = _
     unfold shStep
     simp only
     rw [HLeft.out, HM.out, HQ.out]
    rcases hMc with ⟨h1, h2⟩ | ⟨h1, h2⟩
    all_goals
     rw [h2] at HPass
     have H2 : Hid (max z L = _) := HM.out.trans h2
     clear h2
     go_wp2_with fail
     try rw [H2.out]
     refine HPass.out.mono ?_
     rintro e w5 ⟨rfl, -, hb5⟩
     have HB5 : Hid (Below w.heap.size w w5) := by
      have hwb := HWk.out.below
      have h1 : Below w.heap.size w (wr.alloc (.cells #[.int .i64 x, .int .i64 y, .int .i64 z] 52)) := hwb.alloc hwb.size _
      exact h1.trans (hb5.below h1.size fun g hg => by have h2 := (HLaid.out.gd g hg).1; have h3 := HLaid.out.b0; omega)
     clear hb5
     go_wp2_with fail
     go_ret2
     exact ⟨HB5.out.alloc HB5.out.size _, .inr ⟨k, ⟨x, y, z⟩, s, w5.heap.size, HPk.out, HWk.out.run, HNo.out, rfl, by simp, by simp⟩⟩
   | some T =>
    change Hid (Calls Tryz.prog 150 #[.slice (some ⟨B, 0, none⟩) ls.length ls.length, .int .i64 M, .int .i64 y] (wr.alloc (.cells #[.int .i64 x, .int .i64 y, .int .i64 z] 52)) fun e w' => e = .returned (.tuple #[.int .i64 T, .nilIface]) ∧ (∀ T', some T = some T' → ShAt w' B gs (s.bs.map fun b => b.take T' y)) ∧ But (fun k => k ∈ gs) (wr.alloc (.cells #[.int .i64 x, .int .i64 y, .int .i64 z] 52)) w') at HPass
    have HYes : Hid (shStep s ⟨x, y, z⟩ = some ⟨s.bs.map fun b => b.take T y, T, s.out ++ [⟨x, y, T⟩]⟩) := by
     show _ = _
     unfold shStep
     simp only
     rw [HLeft.out, HM.out, HQ.out]
    have HOl : Hid (s.out.length = k) := by
     show _ = _
     rw [HGood.out.len, List.length_take, HN.out]; omega
    rcases hMc with ⟨h1, h2⟩ | ⟨h1, h2⟩
    all_goals
     rw [h2] at HPass
     have H2 : Hid (max z L = _) := HM.out.trans h2
     clear h2
     go_wp2_with fail
     try rw [H2.out]
     refine HPass.out.mono ?_
     rintro e w5 ⟨rfl, hsh5, hb5⟩
     have HSh5 : Hid (ShAt w5 B gs (s.bs.map fun b => b.take T y)) := hsh5 T rfl
     have hDg : ¬ D ∈ gs := fun h => by have := (HLaid.out.gd D h).2; omega
     have hCg : ¬ wr.heap.size ∈ gs := fun h => HGn.out _ h rfl
     have hal : Below wr.heap.size wr (wr.alloc (.cells #[.int .i64 x, .int .i64 y, .int .i64 z] 52)) := (Below.refl _ _).alloc (Nat.le_refl _) _
     have HB5 : Hid (Below w.heap.size w w5) := by
      have hwb := HWk.out.below
      have h1 : Below w.heap.size w (wr.alloc (.cells #[.int .i64 x, .int .i64 y, .int .i64 z] 52)) := hwb.trans (hal.mono hwb.size)
      exact h1.trans (hb5.below h1.size fun g hg => by have h2 := (HLaid.out.gd g hg).1; have h3 := HLaid.out.b0; omega)
     have hlt5 : wr.heap.size < (wr.alloc (.cells #[.int .i64 x, .int .i64 y, .int .i64 z] 52)).heap.size := by simp
     have hDl := HDl.out
     have hDl5 : D < (wr.alloc (.cells #[.int .i64 x, .int .i64 y, .int .i64 z] 52)).heap.size := Nat.lt_trans hDl hlt5
     have HSz5 : Hid (wr.heap.size < w5.heap.size) := Nat.lt_of_lt_of_le hlt5 hb5.size
     have e0 : w5.cell? ⟨wr.heap.size, 0, none⟩ = some (.int .i64 x) := by rw [hb5.cell (p := ⟨wr.heap.size, 0, none⟩) hlt5 hCg]; simp
     have e1 : w5.cell? ⟨wr.heap.size, 1, none⟩ = some (.int .i64 y) := by rw [hb5.cell (p := ⟨wr.heap.size, 1, none⟩) hlt5 hCg]; simp
     have e2 : w5.cell? ⟨wr.heap.size, 2, none⟩ = some (.int .i64 z) := by rw [hb5.cell (p := ⟨wr.heap.size, 2, none⟩) hlt5 hCg]; simp
     have f2 : w5.frozen? ⟨wr.heap.size, 2, none⟩ = false := by rw [hb5.frozen (p := ⟨wr.heap.size, 2, none⟩) hlt5 hCg]; simp
     have hroom5 := (HWk.out.room.below hal hDl).but hb5 hDl5 hDg
     have HRoom5 : Hid (Room w5 D (n * 3)) := hroom5
     have HOut5 : Hid (OutAt w5 D s.out) := (HWk.out.out.but (S := fun _ => False) (.ofBelow hal) hDl id).but hb5 hDl5 hDg
     obtain ⟨u0, g0⟩ := hroom5.cell (k * 3) (by omega)
     obtain ⟨u1, g1⟩ := hroom5.cell (k * 3 + 1) (by omega)
     obtain ⟨u2, g2⟩ := hroom5.cell (k * 3 + 2) (by omega)
     have k0 := hroom5.frozen (k * 3)
     have k1 := hroom5.frozen (k * 3 + 1)
     have k2 := hroom5.frozen (k * 3 + 2)
     have hne : ¬ wr.heap.size = D := by omega
     have hne' : ¬ D = wr.heap.size := by omega
     clear hsh5 hb5 hDg hal hlt5 hDl5 hroom5 hCg
     generalize wr.heap.size = C at *
     go_wp2_with fail
     go_roundw
     case rel =>
      refine ⟨k + 1, by omega, by go_num, ⟨s.bs.map fun b => b.take T y, T, s.out ++ [⟨x, y, T⟩]⟩, rfl, ?_⟩
      have hf1 : But (fun q => q = C) w5 (w5.setCell ⟨C, 2, none⟩ (.int .i64 T)) := But.setCell (S := fun q => q = C) (But.refl _ _) rfl _
      have hr1 := HRoom5.out.but hf1 (Nat.lt_trans HDl.out HSz5.out) hne'
      have ho1 := HOut5.out.but hf1 (Nat.lt_trans HDl.out HSz5.out) hne'
      have hf2 : But (fun q => q = C ∨ q = D) w5 ((((w5.setCell ⟨C, 2, none⟩ (.int .i64 T)).setCell ⟨D, k * 3, none⟩ (.int .i64 x)).setCell ⟨D, k * 3 + 1, none⟩ (.int .i64 y)).setCell ⟨D, k * 3 + 2, none⟩ (.int .i64 T)) :=
       But.setCell (S := fun q => q = C ∨ q = D) (But.setCell (S := fun q => q = C ∨ q = D) (But.setCell (S := fun q => q = C ∨ q = D) (But.setCell (S := fun q => q = C ∨ q = D) (But.refl _ _) (.inl rfl) _) (.inr rfl) _) (.inr rfl) _) (.inr rfl) _
      have hb0 := HLaid.out.b0
      have hbd := HLaid.out.bd
      have hDC := HDl.out
      refine ⟨?_, HSh5.out.but hf2 (by omega) (fun g hg h => ?_) (by have := HSz5.out; omega), ((hr1.set _ _).set _ _).set _ _, ho1.step hr1 k HOl.out (by omega) x y T, HB5.out.trans (hf2.below HB5.out.size (fun q hq => by omega)), Nat.lt_of_lt_of_le (Nat.lt_trans HDl.out HSz5.out) hf2.size⟩
      ·
       rw [HTk.out, shape_snoc, HWk.out.run]
       exact HYes.out
      ·
       have h1 := HLaid.out.gd g hg
       have h2 := HGn.out g hg
       omega
     case measure => simp [intOf]; omega
  ·
   clear hwk
   go_wp2_with fail
   go_ret2
   obtain rfl : k = n := by omega
   have h1 := HWk.out
   refine ⟨h1.below, .inl ⟨s, D, by have := h1.run; rwa [List.take_of_length_le (by rw [HN.out]; omega)] at this, by have e := HN.out; rw [e]; rfl, Nat.le_trans HLaid.out.b0 (Nat.le_of_lt HLaid.out.bd), ?_⟩⟩
   exact .inr ⟨D, 0, rfl, h1.dlt, fun i p hi => by
    have := h1.out i p hi
    simpa using this⟩
end Go.Proofs.YtibhkijaafdkoaaGreatDoor

namespace Go.Proofs.YtibhkijaafdkoaaGreatDoor
open Go.RowKit
set_option maxHeartbeats 1000000 in
theorem fitPkts_yes (a : Option Addr) (n cap : Nat) (m : Int) (w : World) (hm : n ≤ maxLen) (h : (n : Int) ≤ m ∨ n = 301) :
  Calls Tryz.prog 19 #[.slice a n cap, .int .i64 m] w fun e w' => e = .returned (.bool true) ∧ w' = w := by
 unfold maxLen at hm
 by_cases h1 : (n : Int) ≤ m
 ·
  clear h
  go_enter Tryz.func19, Tryz.ntmps19
  go_wp2
  go_ret
  exact ⟨rfl, rfl⟩
 ·
  obtain rfl : n = 301 := by omega
  go_enter Tryz.func19, Tryz.ntmps19
  go_wp2
  go_ret
  exact ⟨rfl, rfl⟩
set_option maxHeartbeats 1000000 in
theorem fitPkts_no (a : Option Addr) (n cap : Nat) (m : Int) (w : World) (h1 : ¬ (n : Int) ≤ m) (h2 : n ≠ 301) :
  Calls Tryz.prog 19 #[.slice a n cap, .int .i64 m] w fun e w' => e = .returned (.bool false) ∧ w' = w := by
 have h3 : ((n : Int) == 301) = false := by simp; omega
 have h4 : (n == 301) = false := by simpa using h2
 go_enter Tryz.func19, Tryz.ntmps19
 go_wp2
 go_ret
 exact ⟨rfl, rfl⟩
end Go.Proofs.YtibhkijaafdkoaaGreatDoor

namespace Go.Proofs.YtibhkijaafdkoaaGreatDoor
open Go.RowKit
theorem foldl_none (l : List Pk) : l.foldl (fun (s : Option Sh) p => s.bind fun s => shStep s p) none = none := by
 induction l with
 | nil => rfl
 | cons a r ih => exact ih
theorem shape_stuck {ls : List (Int × Int)} {ps : List Pk} {j : Nat} {p : Pk} {s : Sh} (h1 : ps[j]? = some p) (h2 : shape ls (ps.take j) = some s) (h3 : shStep s p = none) : shape ls ps = none := by
 have e : ps = ps.take j ++ p :: ps.drop (j + 1) := by rw [← drop_cons h1, List.take_append_drop]
 have h2' : (ps.take j).foldl (fun (s : Option Sh) p => s.bind fun s => shStep s p) (some ⟨ls.map bkOf, 0, []⟩) = some s := h2
 rw [e]
 unfold shape
 rw [List.foldl_append, h2', List.foldl_cons]
 show List.foldl _ (shStep s p) _ = none
 rw [h3]
 exact foldl_none _
end Go.Proofs.YtibhkijaafdkoaaGreatDoor

namespace Go.Proofs.YtibhkijaafdkoaaGreatDoor
open Go.RowKit
structure Slim (cs : List (List (Int × Int))) (ns : List Int) : Prop where
 curves : cs.length ≤ 20
 nums : ns.length ≤ 30
 each : ∀ (i : Nat) ls, cs[i]? = some ls → ls.length ≤ 20
def WideEnd (cs : List (List (Int × Int))) (ns : List Int) (w : World) (e : Ending) (w' : World) : Prop := (e = .returned (.bool true) ∨ (e = .returned (.bool false) ∧ Slim cs ns)) ∧ Below w.heap.size w w'
set_option maxRecDepth 100000 in
set_option maxHeartbeats 4000000 in
theorem wide_any (ca : Option Addr) (ccap : Nat) (cs : List (List (Int × Int))) (kb : ByteArray) (per : Int) (na : Option Addr) (ncap : Nat) (ns : List Int) (w : World) (hc : LiesC w ca cs) (hcc : cs.length ≤ ccap) (hcm : ccap ≤ maxLen) (hnc : ns.length ≤ ncap) (hnm : ncap ≤ maxLen) :
  Calls Tryz.prog 10 #[.agg #[.slice ca cs.length ccap, .string kb, .int .i64 per, .slice na ns.length ncap]] w fun e w' => WideEnd cs ns w e w' := by
 have HC : Hid (LiesC w ca cs) := hc
 have hm1 : cs.length ≤ 9223372036854775807 := Nat.le_trans hcc (Nat.le_trans hcm (by unfold maxLen; omega))
 have hr1 : ns.length ≤ 9223372036854775807 := Nat.le_trans hnc (Nat.le_trans hnm (by unfold maxLen; omega))
 obtain ⟨m, hm⟩ : ∃ m, cs.length = m := ⟨_, rfl⟩
 obtain ⟨r, hr⟩ : ∃ r, ns.length = r := ⟨_, rfl⟩
 have HM : Hid (cs.length = m ∧ ns.length = r) := ⟨hm, hr⟩
 rw [hm] at hm1 ⊢
 rw [hr] at hr1 ⊢
 have hb1 : Below w.heap.size w (w.alloc (.cells #[.slice ca m ccap, .string kb, .int .i64 per, .slice na r ncap] 25)) := (Below.refl _ _).alloc (Nat.le_refl _) _
 have hga := gateAt_new w (.slice ca m ccap) kb per (.slice na r ncap) 25
 obtain ⟨V, hV⟩ : ∃ V, w.alloc (.cells #[.slice ca m ccap, .string kb, .int .i64 per, .slice na r ncap] 25) = V := ⟨_, rfl⟩
 rw [hV] at hb1 hga
 have HV : Hid (Below w.heap.size w V ∧ GateAt V w.heap.size (.slice ca m ccap) kb per (.slice na r ncap)) := ⟨hb1, hga⟩
 obtain ⟨x0, x1, x2, x3⟩ := hga
 clear hc hcc hcm hnc hnm hm hr hb1
 by_cases h1 : 20 < m
 ·
  go_enter Tryz.func10, Tryz.ntmps10
  go_wp2_with fail
  go_ret
  exact ⟨.inl rfl, HV.out.1⟩
 ·
  by_cases h2 : 30 < r
  ·
   go_enter Tryz.func10, Tryz.ntmps10
   go_wp2_with fail
   go_ret
   exact ⟨.inl rfl, HV.out.1⟩
  ·
   by_cases h3 : 60 < kb.size
   ·
    go_enter Tryz.func10, Tryz.ntmps10
    go_wp2_with fail
    go_ret
    exact ⟨.inl rfl, HV.out.1⟩
   ·
    go_enter Tryz.func10, Tryz.ntmps10
    go_wp2_with fail
    go_loopg [3] m (fun gk iv wr => ∃ i : Nat, gk + i = m ∧ iv = .int .i64 i ∧ (∀ (j : Nat) ls, j < i → cs[j]? = some ls → ls.length ≤ 20) ∧ Below V.heap.size V wr)
    case atStart => exact ⟨0, by omega, rfl, fun j ls h => by omega, Below.refl _ _⟩
    case round =>
     obtain ⟨i, hi, rfl, hall, hb⟩ := hrel
     have HR : Hid ((∀ (j : Nat) ls, j < i → cs[j]? = some ls → ls.length ≤ 20) ∧ Below V.heap.size V wr ∧ Below w.heap.size w wr) := ⟨hall, hb, HV.out.1.trans (hb.mono HV.out.1.size)⟩
     have y0 := cell_later hb x0
     clear hall hb
     by_cases him : i < m
     ·
      obtain ⟨ls, hls, -⟩ := get_some cs i (by rw [HM.out.1]; exact him)
      obtain ⟨cb, co, rfl, -, hcc⟩ := HC.out.place (by rw [HM.out.1]; omega)
      obtain ⟨a', cap, cj, -, hlc, hlm, -⟩ := hcc i ls hls
      have cj' := cell_later HR.out.2.2 cj
      have hll : ls.length ≤ 9223372036854775807 := Nat.le_trans hlc (Nat.le_trans hlm (by unfold maxLen; omega))
      have HLs : Hid (cs[i]? = some ls) := hls
      obtain ⟨q, hq⟩ : ∃ q, ls.length = q := ⟨_, rfl⟩
      have HQ : Hid (ls.length = q) := hq
      rw [hq] at cj' hll
      clear hcc cj hlc hlm hls hq
      by_cases hq20 : 20 < q
      ·
       go_wp2_with fail
       go_ret
       exact ⟨.inl rfl, HR.out.2.2⟩
      ·
       go_wp2_with fail
       go_roundg (gk - 1)
       case measure => omega
       case rel =>
        refine ⟨i + 1, by omega, by go_num, fun j l hj hl => ?_, HR.out.2.1⟩
        rcases Nat.lt_or_ge j i with h | h
        · exact HR.out.1 j l h hl
        ·
         obtain rfl : j = i := by omega
         obtain rfl := Option.some.inj (HLs.out.symm.trans hl)
         rw [HQ.out]
         omega
     ·
      go_wp2_with fail
      go_ret
      exact ⟨.inr ⟨rfl, by have := HM.out.1; omega, by have := HM.out.2; omega, fun j l hl => HR.out.1 j l (by have := lt_of_get hl; have := HM.out.1; omega) hl⟩, HR.out.2.2⟩
theorem lies_but {S : Nat → Prop} {w w' : World} {a : Option Addr} {ls : List (Int × Int)} (h : Lies w a ls) (hb : But S w w') (hs : ∀ ad, a = some ad → ¬ S ad.block) : Lies w' a ls := by
 rcases h with rfl | ⟨b, off, rfl, hlt, hc⟩
 · exact .inl rfl
 ·
  have hn : ¬ S b := hs _ rfl
  refine .inr ⟨b, off, rfl, Nat.lt_of_lt_of_le hlt hb.size, fun i x y hi => ?_⟩
  have := hc i x y hi
  exact ⟨by rw [hb.cell (p := ⟨b, off + i * 2, none⟩) hlt hn]; exact this.1, by rw [hb.cell (p := ⟨b, off + i * 2 + 1, none⟩) hlt hn]; exact this.2⟩
structure OwnC (w : World) (B : Nat) (v : Value) (cs : List (List (Int × Int))) (xs : List Value) : Prop where
 row : w.ownsRow B 38 1 v cs.length xs
 each : ∀ (i : Nat) ls, cs[i]? = some ls → ∃ a cap, xs[i]? = some (.slice a ls.length cap) ∧ Lies w a ls ∧ ls.length ≤ cap ∧ cap ≤ maxLen ∧ (a = none → ls = [] ∧ cap = 0) ∧ ∀ ad, a = some ad → B ≤ ad.block ∧ ad.block < w.heap.size ∧ v.ownBlock ≠ some ad.block
theorem ownC_nil (w : World) (B : Nat) : OwnC w B (.slice none 0 0) [] [] := ⟨World.ownsRow_nil _ _ _ _, fun i ls h => by simp at h⟩
theorem OwnC.open {w : World} {B : Nat} {v : Value} {cs : List (List (Int × Int))} {xs : List Value} (h : OwnC w B v cs xs) : ∃ a cap, v = .slice a cs.length cap ∧ cs.length ≤ cap ∧ cap ≤ maxLen ∧ LiesC w a cs ∧ (a = none → cs = [] ∧ cap = 0) := by
 have hh := h.row
 obtain ⟨h1, ⟨rfl, h0⟩ | ⟨g, cap, cur, rfl, hB, hg, hn, hm, hc, ht⟩⟩ := h.row
 · exact ⟨none, 0, by rw [h0], by omega, by simp [maxLen], .inl (List.length_eq_zero_iff.1 h0), fun _ => ⟨List.length_eq_zero_iff.1 h0, rfl⟩⟩
 ·
  refine ⟨_, cap, rfl, hn, hm, .inr ⟨g, 0, rfl, lt_of_block hg, fun i ls hi => ?_⟩, fun e => by cases e⟩
  obtain ⟨a', cap', e1, e2, e3, e4, e5, -⟩ := h.each i ls hi
  refine ⟨a', cap', ?_, e2, e3, e4, e5⟩
  rw [Nat.zero_add, hh.cellAt i (by have := lt_of_get hi; omega)]
  exact e1
theorem OwnC.but {S : Nat → Prop} {w w' : World} {B : Nat} {v : Value} {cs : List (List (Int × Int))} {xs : List Value} (h : OwnC w B v cs xs) (hb : But S w w') (hs : ∀ k, S k → k < B) : OwnC w' B v cs xs := by
 refine ⟨ownsRow_of_block h.row fun g hg hlt => hb.block g hlt fun hS => ?_, fun i ls hi => ?_⟩
 ·
  have := hs g hS
  have := (ownsRow_lt h.row hg).1
  omega
 ·
  obtain ⟨a', cap', e1, e2, e3, e4, e5, e6⟩ := h.each i ls hi
  refine ⟨a', cap', e1, lies_but e2 hb fun ad had hS => ?_, e3, e4, e5, fun ad had => ⟨(e6 ad had).1, Nat.lt_of_lt_of_le (e6 ad had).2.1 hb.size, (e6 ad had).2.2⟩⟩
  have := hs _ hS
  have := (e6 ad had).1
  omega
theorem OwnC.grown {w w' : World} {B : Nat} {v : Value} {cs : List (List (Int × Int))} {xs : List Value} (h : OwnC w B v cs xs) {ls : List (Int × Int)} {a : Option Addr} {cap : Nat} (hl : Lies w a ls) (h1 : ls.length ≤ cap) (h2 : cap ≤ maxLen) (h3 : a = none → ls = [] ∧ cap = 0) (h4 : ∀ ad, a = some ad → B ≤ ad.block ∧ ad.block < w.heap.size ∧ v.ownBlock ≠ some ad.block) {g cap' : Nat}
  (ho : w'.ownsRow B 38 1 (.slice (some ⟨g, 0, none⟩) (cs.length + 1) cap') (cs.length + 1) (xs ++ [.slice a ls.length cap])) (hg : w.grownBy w' v.ownBlock) (hat : v.ownBlock = some g ∨ g = w.heap.size) : OwnC w' B (.slice (some ⟨g, 0, none⟩) (cs.length + 1) cap') (cs ++ [ls]) (xs ++ [.slice a ls.length cap]) := by
 have hbut : But (fun k => v.ownBlock = some k) w w' := ⟨hg.os, hg.tape, hg.output, hg.size, fun k hk hn => hg.block k hk (fun e => hn e.symm)⟩
 have hxl : xs.length = cs.length := by have := h.row.1; simpa using this
 have ap : ∀ ad : Addr, ad.block < w.heap.size → v.ownBlock ≠ some ad.block → (Value.slice (some ⟨g, 0, none⟩) (cs.length + 1) cap').ownBlock ≠ some ad.block := fun ad hlt hne e => by
  obtain rfl : g = ad.block := Option.some.inj e
  rcases hat with hat | hat
  · exact hne hat
  · omega
 refine ⟨by rw [List.length_append]; exact ho, fun i l hi => ?_⟩
 rcases Nat.lt_or_ge i cs.length with hlt | hge
 ·
  rw [List.getElem?_append_left hlt] at hi
  obtain ⟨a', cap2, e1, e2, e3, e4, e5, e6⟩ := h.each i l hi
  exact ⟨a', cap2, by rw [List.getElem?_append_left (by omega)]; exact e1, lies_but e2 hbut fun ad had => (e6 ad had).2.2, e3, e4, e5, fun ad had => ⟨(e6 ad had).1, Nat.lt_of_lt_of_le (e6 ad had).2.1 hg.size, ap ad (e6 ad had).2.1 (e6 ad had).2.2⟩⟩
 ·
  have hi' : i = cs.length := by
   have := lt_of_get hi
   simp at this
   omega
  subst hi'
  obtain rfl : ls = l := by simpa using hi
  exact ⟨a, cap, by rw [← hxl]; simp, lies_but hl hbut fun ad had => (h4 ad had).2.2, h1, h2, h3, fun ad had => ⟨(h4 ad had).1, Nat.lt_of_lt_of_le (h4 ad had).2.1 hg.size, ap ad (h4 ad had).2.1 (h4 ad had).2.2⟩⟩
theorem Tryz.infoLines : (Tryz.prog.info? 38).map (fun i => (i.zero, i.size, i.bytes)) = some (some (.slice none 0 0), 1, 24) := by kernel_rfl
theorem run_append_nums {P : Program} (w : World) (t ty e : TypeId) (i : TypeInfo) (z : Value) (ht : P.underlying t = some (.slice e)) (hi : P.info? e = some i) (hz : i.zero = some z) (hsize : i.size = 1) (hby : i.bytes = 8) (hzs : z.cells.size = 1)
  (na : Option Addr) (ncap : Nat) (ns : List Int) (hl : LiesN w na ns) (hna : na = none → ns = [] ∧ ncap = 0) (hn : ns.length ≤ 1000) :
  ∃ a cap w', (Builtin.append_ #[t, t] ty #[.slice none 0 0, .slice na ns.length ncap]).run P w = .ok (.slice a ns.length cap) w' ∧ LiesN w' a ns ∧ ns.length ≤ cap ∧ cap ≤ maxLen ∧ Below w.heap.size w w' ∧ (a = none → ns = [] ∧ cap = 0) ∧ ∀ ad, a = some ad → w.heap.size ≤ ad.block := by
 cases na with
 | none =>
  obtain ⟨rfl, rfl⟩ := hna rfl
  exact ⟨none, 0, w, run_append_owned_none (P := P) w w.heap.size t ty e i 1 ht hi (.slice none 0 0) 0 [] (World.ownsRow_nil _ _ _ _), .inl rfl, Nat.le_refl _, by simp [maxLen], Below.refl _ _, fun _ => ⟨rfl, rfl⟩, fun ad h => by cases h⟩
 | some ad =>
  have hnews : ∀ j u, (ints ns)[j]? = some u → w.cell? (ad.add j) = some u := by
   intro j u hu
   rcases hl with rfl | ⟨b, off, e', -, hc⟩
   · simp [ints] at hu
   ·
    cases e'
    rw [Addr.add_lit]
    simp only [ints, List.getElem?_map] at hu
    cases hx : ns[j]? with
    | none => rw [hx] at hu; cases hu
    | some x =>
     rw [hx] at hu
     rw [hc j x hx]
     simpa using hu
  obtain ⟨v', w', hrun, h1, h2, h3⟩ := run_append_own (P := P) w w.heap.size t ty e i z 1 8 ht hi hz hsize hby hzs (by decide) (.slice none 0 0) 0 [] (World.ownsRow_nil _ _ _ _) ad ns.length ncap (ints ns) (by rw [ints_length, Nat.mul_one]) hnews (ints_one _) (by unfold maxLen; omega) (by omega) (Nat.le_refl _)
  rw [Nat.zero_add, List.nil_append] at h1
  have hlt := fun g (hg : v'.ownBlock = some g) => (ownsRow_lt h1 hg).1
  have hno : v' = .slice none 0 0 → ns = [] := fun e => List.length_eq_zero_iff.1 (h3.1 e).2
  obtain ⟨a, cap, rfl, g1, g2, g3⟩ := own_lies h1
  refine ⟨a, cap, w', hrun, g3, g1, g2, (Below.refl _ _).grown h2 (Nat.le_refl _) (fun k hk => by cases hk), fun e => ?_, fun ad h => ?_⟩
  ·
   subst e
   obtain ⟨-, ⟨e, h0⟩ | ⟨g, c', cur, e, -⟩⟩ := h1
   ·
    injection e with e1 e2 e3
    exact ⟨List.length_eq_zero_iff.1 h0, e3⟩
   · cases e
  ·
   subst h
   exact hlt ad.block rfl
theorem wpList_append_nums {P : Program} (w : World) {ops : Array Oper} {rest : List Oper} {o : Oper} {a : Act} {Q : Exit → Act → World → Prop} (hgd : o.guard = none) (s x : Operand) (t : TypeId)
  (ho : o.op = .call { callee := .builtin .append, args := #[s, x], argTypes := #[t, t] })
  (e : TypeId) (i : TypeInfo) (z : Value) (ht : P.underlying t = some (.slice e)) (hi : P.info? e = some i) (hz : i.zero = some z) (hsize : i.size = 1) (hby : i.bytes = 8) (hzs : z.cells.size = 1)
  (na : Option Addr) (ncap n : Nat) (ns : List Int) (hnn : ns.length = n) (hs : a.eval s = .slice none 0 0) (hx : a.eval x = .slice na n ncap) (hl : LiesN w na ns) (hna : na = none → ns = [] ∧ ncap = 0) (hn : n ≤ 1000)
  (hK : ∀ a' cap' w', LiesN w' a' ns ∧ n ≤ cap' ∧ cap' ≤ maxLen ∧ Below w.heap.size w w' ∧ (a' = none → ns = [] ∧ cap' = 0) ∧ (∀ ad, a' = some ad → w.heap.size ≤ ad.block) → wpList P ops Q rest (a.put o.dst (.slice a' n cap')) w') : wpList P ops Q (o :: rest) a w := by
 subst hnn
 refine wpList_plain hgd fun K hK' => ?_
 obtain ⟨ao, cap, w', hrun, g⟩ := run_append_nums (P := P) w t o.type e i z ht hi hz hsize hby hzs na ncap ns hl hna hn
 unfold Oper.wp
 simp [execOp, ho, resolve, invoke, builtin, hs, hx, hrun, Result.andThen]
 exact hK' _ _ (hK ao cap w' g)
theorem liesN_but {S : Nat → Prop} {w w' : World} {a : Option Addr} {ns : List Int} (h : LiesN w a ns) (hb : But S w w') (hs : ∀ ad, a = some ad → ¬ S ad.block) : LiesN w' a ns := by
 rcases h with rfl | ⟨b, off, rfl, hlt, hc⟩
 · exact .inl rfl
 ·
  have hn : ¬ S b := hs _ rfl
  exact .inr ⟨b, off, rfl, Nat.lt_of_lt_of_le hlt hb.size, fun i x hi => by rw [hb.cell (p := ⟨b, off + i, none⟩) hlt hn]; exact hc i x hi⟩
end Go.Proofs.YtibhkijaafdkoaaGreatDoor
