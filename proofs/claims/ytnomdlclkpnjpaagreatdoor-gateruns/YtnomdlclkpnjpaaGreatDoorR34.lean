/- Own facts, put together: no statement of its own. -/
import Derived.Deep.RegionHeldLaw
import Derived.Test.YtnomdlclkpnjpaaGreatDoorR33
import Derived.Test.YtnomdlclkpnjpaaGreatDoorR16
import Derived.Test.YtnomdlclkpnjpaaGreatDoorR12
namespace Go.Proofs.YtnomdlclkpnjpaaGreatDoor
open Go.RowKit
theorem liesN_of_own {w : World} {B : Nat} {v : Value} {zs : List Int} (h : w.ownsRow B 3 1 v zs.length (ints zs)) : ∃ a cap, v = .slice a zs.length cap ∧ zs.length ≤ cap ∧ cap ≤ maxLen ∧ LiesN w a zs ∧ (a = none → zs = [] ∧ cap = 0) := by
 have hh := h
 obtain ⟨h1, ⟨rfl, h0⟩ | ⟨g, cap, cur, rfl, hB, hg, hn, hm, hc, ht⟩⟩ := h
 ·
  have e : zs = [] := List.length_eq_zero_iff.1 h0
  exact ⟨none, 0, by rw [h0], by omega, by simp [maxLen], .inl e, fun _ => ⟨e, rfl⟩⟩
 ·
  refine ⟨_, cap, rfl, hn, hm, .inr ⟨g, 0, rfl, lt_of_block hg, fun i x hx => ?_⟩, fun e => by cases e⟩
  rw [Nat.zero_add, hh.cellAt i (by have := (List.getElem?_eq_some_iff.1 hx).1; omega)]
  exact ints_get hx
def KeysTo (w wr : World) (v : Value) (keys : List Int) (k : Nat) : Prop := wr.ownsRow w.heap.size 3 1 v k (ints (keys.take k)) ∧ Below w.heap.size w wr
theorem KeysTo.next {w wr w2 : World} {v v' : Value} {keys : List Int} {k : Nat} {x : Int} (h : KeysTo w wr v keys k) (hx : keys[k]? = some x) (o : Obj) (h1 : w2.ownsRow w.heap.size 3 1 v' (k + 1) (ints (keys.take k) ++ ints [x])) (h2 : (wr.alloc o).grownBy w2 v.ownBlock) : KeysTo w w2 v' keys (k + 1) := by
 refine ⟨?_, (h.2.alloc h.2.size _).grown h2 (Nat.le_trans h.2.size (by simp)) (fun j hj => (ownsRow_lt h.1 hj).1)⟩
 rw [List.take_add_one, hx, ints_append]
 exact h1
set_option maxRecDepth 100000 in
set_option maxHeartbeats 4000000 in
theorem rankOf_any (a : Option Addr) (cap : Nat) (ps : List Pk) (per : Int) (na : Option Addr) (ncap : Nat) (ns : List Int) (w : World) (hl : LiesP w a ps) (hn : LiesN w na ns) (ho : OkPks ps) (h8 : ns.length = 8) (h1 : 1 ≤ per) (h2 : per ≤ 1000) :
  Calls Tryz.prog 101 #[.slice a ps.length cap, .int .i64 per, .slice na ns.length ncap] w fun e w' => LeastEnd per ps (rankKeys ps ns) w e w' := by
 obtain ⟨i0, hi, hz0, hz1, hz2⟩ := info_parts Tryz.infoInt
 have HP : Hid (LiesP w a ps ∧ OkPks ps) := ⟨hl, ho⟩
 have HN : Hid (LiesN w na ns ∧ ns.length = 8) := ⟨hn, h8⟩
 have hfew := ho.few
 have HLeast : Hid (∀ W v, KeysTo w W v (rankKeys ps ns) ps.length → Calls Tryz.prog 137 #[.slice a ps.length cap, .int .i64 per, v] W fun e w' => LeastEnd per ps (rankKeys ps ns) w e w') := fun W v hK => by
  have ek : (rankKeys ps ns).take ps.length = rankKeys ps ns := List.take_of_length_le (by rw [rankKeys_length]; exact Nat.le_refl _)
  have hown := hK.1
  rw [ek, ← rankKeys_length ps ns] at hown
  obtain ⟨ka, kcap, rfl, -, -, hlk, -⟩ := liesN_of_own hown
  rw [rankKeys_length]
  refine (leastOf_any a cap ps per ka kcap (rankKeys ps ns) W (hl.below hK.2) hlk (rankKeys_length _ _) ho h1 h2).mono ?_
  rintro e w' ⟨v, l, rfl, g1, g2, g3, g4⟩
  exact ⟨v, l, rfl, ownsRow_mono g1 hK.2.size, g2, g3, hK.2.trans (g4.mono hK.2.size)⟩
 clear hl hn ho
 obtain ⟨n, hnn⟩ : ∃ n, ps.length = n := ⟨_, rfl⟩
 have HNN : Hid (ps.length = n) := hnn
 rw [hnn] at hfew HLeast ⊢
 rw [h8]
 clear hnn h8
 go_enter Tryz.func101, Tryz.ntmps101
 go_wp2_with fail
 go_loopg [7, 8] n (fun gk v i wr => ∃ k : Nat, gk + k = n ∧ i = .int .i64 k ∧ KeysTo w wr v (rankKeys ps ns) k)
 case atStart => exact ⟨0, by omega, rfl, World.ownsRow_nil _ _ _ _, Below.refl _ _⟩
 case round =>
  obtain ⟨k, hgk, rfl, hK⟩ := hrel
  have HK : Hid (KeysTo w wr u7 (rankKeys ps ns) k) := hK
  clear hK
  by_cases hkn : k < n
  ·
   obtain ⟨p, hpk, -⟩ := get_some ps k (by rw [HNN.out]; exact hkn)
   obtain ⟨fl, hfl, hf, hfo⟩ := flow_at HP.out.2 hpk
   obtain ⟨du, hdu, hdud⟩ := nums_at HN.out.2 hfl
   obtain ⟨b2, o2, rfl, -, hc2⟩ := HP.out.1.place (by rw [HNN.out]; omega)
   obtain ⟨b3, o3, rfl, -, hc3⟩ := HN.out.1.place (by have := HN.out.2; omega)
   have e1 : wr.cell? ⟨b2, o2 + k * 3, none⟩ = some (.int .i64 fl) := by rw [← hf]; exact cell_later HK.out.2 (hc2 k _ hpk).1
   have d2 : wr.cell? ⟨b3, o3 + fl, none⟩ = some (.int .i64 du) := cell_later HK.out.2 (hc3 fl du hdu)
   have HX : Hid ((rankKeys ps ns)[k]? = some du) := by
    show _ = _
    rw [List.getElem?_eq_getElem (by rw [rankKeys_length, HNN.out]; exact hkn), ← getD_lt (d := 0), rankKeys_get (by rw [HNN.out]; exact hkn), ofFlow, hfo, hdud]
   have HOw : Hid ((wr.alloc (.cells #[.int .i64 du] 3)).ownsRow w.heap.size 3 1 u7 k (ints ((rankKeys ps ns).take k))) := ownsRow_of_block HK.out.1 (fun g' _ hg' => ((Below.refl _ _).alloc (Nat.le_refl _) _ : Below wr.heap.size wr _).block g' hg')
   have HNew : Hid (∀ j u, (ints [du])[j]? = some u → (wr.alloc (.cells #[.int .i64 du] 3)).cell? (Addr.add ⟨wr.heap.size, 0, none⟩ j) = some u) := by
    intro j u hu
    cases j with
    | zero => simp [ints] at hu; subst hu; simp [Addr.add]
    | succ j => simp [ints] at hu
   have HBs : Hid (w.heap.size ≤ (wr.alloc (.cells #[.int .i64 du] 3)).heap.size) := Nat.le_trans HK.out.2.size (by simp)
   clear hc2 hc3 hpk hf hfo hdu hdud
   go_wp2_with (at_builtin; go_must (refine wpList_append_lies _ rfl _ _ 23 rfl w.heap.size 3 i0 (.int .i64 0) 1 8 Tryz.underlying23 hi hz0 hz1 hz2 rfl (by decide) u7 k (ints ((rankKeys ps ns).take k)) rfl HOw.out ⟨wr.heap.size, 0, none⟩ 1 1 (ints [du]) rfl rfl HNew.out (ints_one _) (by decide) (by unfold maxLen; omega) (by omega) HBs.out _ rfl ?_; intro g5 cap5 w5 ho5 hg5 hat5 hlt5; have H5 : Hid (KeysTo w w5 (.slice (some ⟨g5, 0, none⟩) (k + 1) cap5) (rankKeys ps ns) (k + 1)) := HK.out.next HX.out _ ho5 hg5; clear ho5 hg5 hat5 hlt5))
   go_roundg (gk - 1)
   case measure => omega
   case rel => exact ⟨k + 1, by omega, by go_num, H5.out⟩
  ·
   obtain rfl : k = n := by omega
   have HC : Hid (Calls Tryz.prog 137 #[.slice a k cap, .int .i64 per, u7] wr fun e w' => LeastEnd per ps (rankKeys ps ns) w e w') := HLeast.out wr u7 HK.out
   go_wp2_with fail
   refine HC.out.mono ?_
   rintro e w1 ⟨v, l, rfl, g1, g2, g3, g4⟩
   have HE : Hid (LeastEnd per ps (rankKeys ps ns) w (.returned v) w1) := ⟨v, l, rfl, g1, g2, g3, g4⟩
   clear g1 g2 g3 g4
   go_wp2_with fail
   go_ret
   exact HE.out
set_option maxRecDepth 100000 in
set_option maxHeartbeats 4000000 in
theorem duesOf_any (a : Option Addr) (cap : Nat) (ps : List Pk) (per : Int) (na : Option Addr) (ncap : Nat) (ns : List Int) (w : World) (hl : LiesP w a ps) (hn : LiesN w na ns) (ho : OkPks ps) (hk8 : NumsOk 0 1099511627776 ns) (h1 : 1 ≤ per) (h2 : per ≤ 1000) :
  Calls Tryz.prog 102 #[.slice a ps.length cap, .int .i64 per, .slice na ns.length ncap] w fun e w' => LeastEnd per ps (dueKeys ps ns) w e w' := by
 obtain ⟨i0, hi, hz0, hz1, hz2⟩ := info_parts Tryz.infoInt
 have HP : Hid (LiesP w a ps ∧ OkPks ps) := ⟨hl, ho⟩
 have h8 := hk8.len
 have HN : Hid (LiesN w na ns ∧ NumsOk 0 1099511627776 ns) := ⟨hn, hk8⟩
 have hfew := ho.few
 have HLeast : Hid (∀ W v, KeysTo w W v (dueKeys ps ns) ps.length → Calls Tryz.prog 137 #[.slice a ps.length cap, .int .i64 per, v] W fun e w' => LeastEnd per ps (dueKeys ps ns) w e w') := fun W v hK => by
  have ek : (dueKeys ps ns).take ps.length = dueKeys ps ns := List.take_of_length_le (by rw [dueKeys_length]; exact Nat.le_refl _)
  have hown := hK.1
  rw [ek, ← dueKeys_length ps ns] at hown
  obtain ⟨ka, kcap, rfl, -, -, hlk, -⟩ := liesN_of_own hown
  rw [dueKeys_length]
  refine (leastOf_any a cap ps per ka kcap (dueKeys ps ns) W (hl.below hK.2) hlk (dueKeys_length _ _) ho h1 h2).mono ?_
  rintro e w' ⟨v, l, rfl, g1, g2, g3, g4⟩
  exact ⟨v, l, rfl, ownsRow_mono g1 hK.2.size, g2, g3, hK.2.trans (g4.mono hK.2.size)⟩
 clear hl hn ho hk8
 obtain ⟨n, hnn⟩ : ∃ n, ps.length = n := ⟨_, rfl⟩
 have HNN : Hid (ps.length = n) := hnn
 rw [hnn] at hfew HLeast ⊢
 rw [h8]
 clear hnn h8
 go_enter Tryz.func102, Tryz.ntmps102
 go_wp2_with fail
 go_loopg [7, 8] n (fun gk v i wr => ∃ k : Nat, gk + k = n ∧ i = .int .i64 k ∧ KeysTo w wr v (dueKeys ps ns) k)
 case atStart => exact ⟨0, by omega, rfl, World.ownsRow_nil _ _ _ _, Below.refl _ _⟩
 case round =>
  obtain ⟨k, hgk, rfl, hK⟩ := hrel
  have HK : Hid (KeysTo w wr u7 (dueKeys ps ns) k) := hK
  clear hK
  by_cases hkn : k < n
  ·
   obtain ⟨p, hpk, -⟩ := get_some ps k (by rw [HNN.out]; exact hkn)
   obtain ⟨fl, hfl, hf, hfo⟩ := flow_at HP.out.2 hpk
   obtain ⟨du, hdu, hdud⟩ := nums_at HN.out.2.len hfl
   obtain ⟨b2, o2, rfl, -, hc2⟩ := HP.out.1.place (by rw [HNN.out]; omega)
   obtain ⟨b3, o3, rfl, -, hc3⟩ := HN.out.1.place (by have := HN.out.2.len; omega)
   have e1 : wr.cell? ⟨b2, o2 + k * 3, none⟩ = some (.int .i64 fl) := by rw [← hf]; exact cell_later HK.out.2 (hc2 k _ hpk).1
   have d2 : wr.cell? ⟨b3, o3 + fl, none⟩ = some (.int .i64 du) := cell_later HK.out.2 (hc3 fl du hdu)
   obtain ⟨tk, htk⟩ : ∃ tk, p.tick = tk := ⟨_, rfl⟩
   have e3 : wr.cell? ⟨b2, o2 + k * 3 + 2, none⟩ = some (.int .i64 tk) := by rw [← htk]; exact cell_later HK.out.2 (hc2 k _ hpk).2.2
   have hdr := HN.out.2.each fl du hdu
   have htr : 0 ≤ tk ∧ tk ≤ 1099511627776 := by have := okPk_true (HP.out.2.each _ p hpk).1; omega
   obtain ⟨kv, hkv⟩ : ∃ kv, tk + du = kv := ⟨_, rfl⟩
   have hw : IntKind.i64.wrap (tk + du) = kv := by rw [← hkv]; exact IntWalk.i64_in _ (by omega)
   have HX : Hid ((dueKeys ps ns)[k]? = some kv) := by
    show _ = _
    rw [List.getElem?_eq_getElem (by rw [dueKeys_length, HNN.out]; exact hkn), ← getD_lt (d := 0), dueKeys_get (by rw [HNN.out]; exact hkn), ofFlow, hfo, hdud, tickOf_get hpk, htk, hkv]
   have HOw : Hid ((wr.drew.alloc (.cells #[.int .i64 kv] 3)).ownsRow w.heap.size 3 1 u7 k (ints ((dueKeys ps ns).take k))) := ownsRow_of_block HK.out.1 (fun g' _ hg' => ((Below.refl _ _).drew.alloc (Nat.le_refl _) _ : Below wr.heap.size wr (wr.drew.alloc _)).block g' hg')
   have HNew : Hid (∀ j u, (ints [kv])[j]? = some u → (wr.drew.alloc (.cells #[.int .i64 kv] 3)).cell? (Addr.add ⟨wr.heap.size, 0, none⟩ j) = some u) := World.news_of_block (cs := #[.int .i64 kv]) (t := 3) (heap_alloc_new wr.drew _)
   have HBs : Hid (w.heap.size ≤ (wr.drew.alloc (.cells #[.int .i64 kv] 3)).heap.size) := Nat.le_trans HK.out.2.size (by simp)
   have HKd : Hid (KeysTo w wr.drew u7 (dueKeys ps ns) k) := ⟨ownsRow_of_block HK.out.1 (fun g' _ hg' => rfl), HK.out.2.drew⟩
   have HCw : Hid (w.cell? ⟨b2, o2 + k * 3, none⟩ = some (.int .i64 fl) ∧ w.cell? ⟨b2, o2 + k * 3 + 2, none⟩ = some (.int .i64 tk) ∧ w.cell? ⟨b3, o3 + fl, none⟩ = some (.int .i64 du)) := ⟨by rw [← hf]; exact (hc2 k _ hpk).1, by rw [← htk]; exact (hc2 k _ hpk).2.2, hc3 fl du hdu⟩
   clear hc2 hc3 hpk hf hfo hdu hdud htk hkv
   go_wp2_with fail
   go_region_held_law (fun w' => w'.cell? ⟨b2, o2 + k * 3, none⟩ = some (.int .i64 fl) ∧ w'.cell? ⟨b2, o2 + k * 3 + 2, none⟩ = some (.int .i64 tk) ∧ w'.cell? ⟨b3, o3 + fl, none⟩ = some (.int .i64 du)) (go_keep)
    (first
     | (refine step_append_lies _ rfl _ _ 23 rfl w.heap.size 3 i0 (.int .i64 0) 1 8 Tryz.underlying23 hi hz0 hz1 hz2 rfl (by decide) u7 k (ints ((dueKeys ps ns).take k)) rfl HOw.out ⟨wr.heap.size, 0, none⟩ 1 1 (ints [kv]) rfl rfl HNew.out (ints_one _) (by decide) (by unfold maxLen; omega) (by omega) HBs.out _ rfl ?_
        intro g5 cap5 w5 ho5 hg5 hat5 hlt5
        have H5 : Hid (KeysTo w w5 (.slice (some ⟨g5, 0, none⟩) (k + 1) cap5) (dueKeys ps ns) (k + 1)) := HKd.out.next HX.out _ ho5 hg5
        have y1 := cell_later H5.out.2 HCw.out.1
        have y2 := cell_later H5.out.2 HCw.out.2.1
        have y3 := cell_later H5.out.2 HCw.out.2.2
        clear ho5 hg5 hat5 hlt5)
     | fail)
   all_goals
    go_wp2_with fail
    go_roundg (gk - 1)
    case measure => omega
    case rel => exact ⟨k + 1, by omega, by go_num, H5.out⟩
  ·
   obtain rfl : k = n := by omega
   have HC : Hid (Calls Tryz.prog 137 #[.slice a k cap, .int .i64 per, u7] wr fun e w' => LeastEnd per ps (dueKeys ps ns) w e w') := HLeast.out wr u7 HK.out
   go_wp2_with fail
   refine HC.out.mono ?_
   rintro e w1 ⟨v, l, rfl, g1, g2, g3, g4⟩
   have HE : Hid (LeastEnd per ps (dueKeys ps ns) w (.returned v) w1) := ⟨v, l, rfl, g1, g2, g3, g4⟩
   clear g1 g2 g3 g4
   go_wp2_with fail
   go_ret
   exact HE.out
end Go.Proofs.YtnomdlclkpnjpaaGreatDoor
