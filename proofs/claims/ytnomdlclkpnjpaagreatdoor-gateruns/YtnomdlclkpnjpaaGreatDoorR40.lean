/- Own facts, put together: no statement of its own. -/
import Derived.Test.YtnomdlclkpnjpaaGreatDoorR38
import Derived.Test.YtnomdlclkpnjpaaGreatDoorR39
import Derived.Test.YtnomdlclkpnjpaaGreatDoorR35
import Derived.Test.YtnomdlclkpnjpaaGreatDoorR05
import Derived.Test.YtnomdlclkpnjpaaGreatDoorR26
namespace Go.Proofs.YtnomdlclkpnjpaaGreatDoor
open Go.RowKit
theorem symMerge_ok (w0 : World) (b off n cap : Nat) (pk : Nat → Pk) (hn : n ≤ 1000) : ∀ (d : Nat) (f : Nat → Nat) (x m y : Nat) (w : World), y - x ≤ d → StaAt w0 b off n pk f w → x < m → m < y → y ≤ n → Rises (tickBy pk) f x m → Rises (tickBy pk) f m y → Lower f x m y →
  Calls Tryz.prog 147 #[.slice (some ⟨b, off, none⟩) n cap, .int .i64 (x : Int), .int .i64 (m : Int), .int .i64 (y : Int), .func (.func 77) #[] #[]] w fun e w' => e = .returned (.tuple #[]) ∧ ∃ g, Merged (tickBy pk) f g x y ∧ StaAt w0 b off n pk g w'
 | 0, f, x, m, y, w, hd, h, h1, h2, h3, r1, r2, l => by omega
 | d + 1, f, x, m, y, w, hd, h, h1, h2, h3, r1, r2, l => by
  by_cases hf : m = x + 1
  · exact symFirst_ok w0 b off n cap pk f x m y w h hf h2 h3 hn r1 r2 l
  ·
   by_cases hl : y = m + 1
   · exact symLast_ok w0 b off n cap pk f x m y w h (by omega) hl h3 hn r1 r2 l
   ·
    have IH : ∀ (g : Nat → Nat) (x' m' y' : Nat) (W : World), y' - x' < y - x → StaAt w0 b off n pk g W → x' < m' → m' < y' → y' ≤ n → Rises (tickBy pk) g x' m' → Rises (tickBy pk) g m' y' → Lower g x' m' y' → Calls Tryz.prog 147 #[.slice (some ⟨b, off, none⟩) n cap, .int .i64 (x' : Int), .int .i64 (m' : Int), .int .i64 (y' : Int), .func (.func 77) #[] #[]] W fun e w' => e = .returned (.tuple #[]) ∧ ∃ g', Merged (tickBy pk) g g' x' y' ∧ StaAt w0 b off n pk g' w' := fun g x' m' y' W k1 k2 k3 k4 k5 k6 k7 k8 => symMerge_ok w0 b off n cap pk hn d g x' m' y' W (by omega) k2 k3 k4 k5 k6 k7 k8
    by_cases hm : m ≤ (x + y) / 2
    · exact symMidA_ok w0 b off n cap pk f x m y w h (by omega) (by omega) _ rfl hm IH h3 hn r1 r2 l
    · exact symMidB_ok w0 b off n cap pk f x m y w h (by omega) (by omega) _ rfl (by omega) IH h3 hn r1 r2 l
set_option maxRecDepth 100000 in
set_option maxHeartbeats 4000000 in
theorem stable_ok (w0 : World) (b off n cap : Nat) (pk : Nat → Pk) (w : World) (h : StaAt w0 b off n pk (fun i => i) w) (hn : n ≤ 1000) :
  Calls Tryz.prog 122 #[.slice (some ⟨b, off, none⟩) n cap, .int .i64 (n : Int), .func (.func 77) #[] #[]] w fun e w' => e = .returned (.tuple #[]) ∧ ∃ g, IsOrder (tickBy pk) n ((List.range n).map g) ∧ StaAt w0 b off n pk g w' := by
 have HIns : Hid (∀ (f : Nat → Nat) (x y : Nat) (W : World), StaAt w0 b off n pk f W → x ≤ y → y ≤ n → (∀ i, x ≤ i → f i = i) → Calls Tryz.prog 146 #[.slice (some ⟨b, off, none⟩) n cap, .int .i64 (x : Int), .int .i64 (y : Int), .func (.func 77) #[] #[]] W fun e w' => e = .returned (.tuple #[]) ∧ ∃ g, Merged (tickBy pk) f g x y ∧ StaAt w0 b off n pk g w') := fun f x y W h1 h2 h3 h4 => insertion_ok w0 b off n cap pk f x y W h1 h2 h3 hn (fun i j k1 k2 k3 => by rw [h4 i k1, h4 j (by omega)]; exact k2)
 have HSym : Hid (∀ (f : Nat → Nat) (x m y : Nat) (W : World), StaAt w0 b off n pk f W → x < m → m < y → y ≤ n → OwnRow (tickBy pk) f x m → OwnRow (tickBy pk) f m y → Calls Tryz.prog 147 #[.slice (some ⟨b, off, none⟩) n cap, .int .i64 (x : Int), .int .i64 (m : Int), .int .i64 (y : Int), .func (.func 77) #[] #[]] W fun e w' => e = .returned (.tuple #[]) ∧ ∃ g, Merged (tickBy pk) f g x y ∧ OwnRow (tickBy pk) g x y ∧ StaAt w0 b off n pk g w') := fun f x m y W h1 h2 h3 h4 h5 h6 => (symMerge_ok w0 b off n cap pk hn (y - x) f x m y W (Nat.le_refl _) h1 h2 h3 h4 h5.rises h6.rises (h5.lower h6)).mono fun _ _ ⟨e1, g, e2, e3⟩ => ⟨e1, g, e2, h5.merged (by omega) (by omega) h6 e2, e3⟩
 have H0 : Hid (StaAt w0 b off n pk (fun i => i) w) := h
 clear h
 go_enter Tryz.func122, Tryz.ntmps122
 go_wp2_with fail
 go_loopg [7, 8] n (fun gk av bv wr => ∃ (x : Nat) (g : Nat → Nat), av = .int .i64 (x : Int) ∧ bv = .int .i64 ((x + 20 : Nat) : Int) ∧ x ≤ n ∧ n - x ≤ gk ∧ Hid (∀ i, x ≤ i → g i = i) ∧ Hid (RowsTo (tickBy pk) g 20 n x) ∧ Hid (StaAt w0 b off n pk g wr))
 case atStart => exact ⟨0, fun i => i, rfl, rfl, Nat.zero_le _, Nat.le_refl _, fun i _ => rfl, RowsTo.start _ _ _, H0⟩
 case round =>
  clear H0
  obtain ⟨x, g, rfl, rfl, hxn, hgk, HId, HRo, H⟩ := hrel
  obtain ⟨y, hy⟩ : ∃ y, x + 20 = y := ⟨_, rfl⟩
  have HY : Hid (x + 20 = y) := hy
  rw [hy]
  by_cases hle : y ≤ n
  ·
   have hlez : (y : Int) ≤ (n : Int) := by omega
   have HC := HIns.out g x y wr H.out (by omega) hle HId.out
   have HC' : Hid (Calls Tryz.prog 146 #[.slice (some ⟨b, off, none⟩) n cap, .int .i64 (x : Int), .int .i64 (y : Int), .func (.func 77) #[] #[]] wr fun e w' => e = .returned (.tuple #[]) ∧ ∃ g', Merged (tickBy pk) g g' x y ∧ StaAt w0 b off n pk g' w') := HC
   obtain ⟨z, hz⟩ : ∃ z, y + 20 = z := ⟨_, rfl⟩
   have wy : (y : Int) + 20 = (z : Int) := by omega
   have HZ : Hid (y + 20 = z) := hz
   clear hz
   clear HC H hy
   go_wp2_with fail
   refine HC'.out.mono ?_
   rintro _ w1 ⟨rfl, g', hM, h1⟩
   have H1 : Hid (StaAt w0 b off n pk g' w1) := h1
   have HId' : Hid (∀ i, y ≤ i → g' i = i) := fun i hi => by rw [hM.1.out i (.inr hi)]; exact HId.out i (by have := HY.out; omega)
   have HRo' : Hid (RowsTo (tickBy pk) g' 20 n y) := by
    have e := HY.out
    show RowsTo _ _ _ _ _
    rw [← e]
    refine HRo.out.on (fun i hi => hM.1.out i (.inl hi)) ?_
    rw [show min (x + 20) n = y by omega]
    exact OwnRow.start (fun i h2 _ => HId.out i h2) hM
   clear h1 hM HC'
   go_wp2_with fail
   go_roundg (n - y)
   case measure => have := HY.out; omega
   case rel => exact ⟨y, g', rfl, by rw [HZ.out], hle, Nat.le_refl _, HId', HRo', H1⟩
  ·
   have hlez : ¬ (y : Int) ≤ (n : Int) := by omega
   have HC := HIns.out g x n wr H.out hxn (Nat.le_refl _) HId.out
   have HC' : Hid (Calls Tryz.prog 146 #[.slice (some ⟨b, off, none⟩) n cap, .int .i64 (x : Int), .int .i64 (n : Int), .func (.func 77) #[] #[]] wr fun e w' => e = .returned (.tuple #[]) ∧ ∃ g', Merged (tickBy pk) g g' x n ∧ StaAt w0 b off n pk g' w') := HC
   clear HC H hy
   go_wp2_with fail
   refine HC'.out.mono ?_
   rintro _ w1 ⟨rfl, g', hM, h1⟩
   have H1 : Hid (StaAt w0 b off n pk g' w1) := h1
   have HIn : Hid (InRows (tickBy pk) g' 20 n 0) := HRo.out.last (fun i hi => hM.1.out i (.inl hi)) (by have := HY.out; omega) (fun _ => OwnRow.start (fun i h2 _ => HId.out i h2) hM)
   clear h1 hM HC' HRo HId HIns
   go_wp2_with fail
   obtain ⟨gO, hgO⟩ : ∃ z, z = gk := ⟨_, rfl⟩
   subst hgO
   go_loopg [6, 7, 8, 9] n (fun gk2 sv av bv mv wr => ∃ (B : Nat) (g : Nat → Nat), sv = .int .i64 (B : Int) ∧ 20 ≤ B ∧ B ≤ 2000 ∧ n - B ≤ gk2 ∧ Hid (InRows (tickBy pk) g B n 0) ∧ Hid (StaAt w0 b off n pk g wr))
   case atStart => exact ⟨20, g', rfl, Nat.le_refl _, by omega, by omega, HIn, H1⟩
   case round =>
    clear HIn H1
    obtain ⟨B, g, rfl, hB20, hB2, hgk2, HIn, H⟩ := hrel
    by_cases hBn : B < n
    ·
     have hBz : (B : Int) < (n : Int) := by omega
     have wB : 2 * (B : Int) = ((2 * B : Nat) : Int) := by omega
     obtain ⟨C, hC⟩ : ∃ C, 2 * B = C := ⟨_, rfl⟩
     have HCB : Hid (2 * B = C) := hC
     rw [hC] at wB
     clear hC
     go_wp2_with fail
     obtain ⟨gP, hgP⟩ : ∃ z, z = gk := ⟨_, rfl⟩
     subst hgP
     obtain ⟨W0, hW0⟩ : ∃ W, W = wr := ⟨_, rfl⟩
     subst hW0
     go_loopg [7, 8] n (fun gk3 av bv wr => ∃ (x : Nat) (g : Nat → Nat), av = .int .i64 (x : Int) ∧ bv = .int .i64 ((x + C : Nat) : Int) ∧ x ≤ n ∧ n - x ≤ gk3 ∧ Hid (InRows (tickBy pk) g B n x) ∧ Hid (RowsTo (tickBy pk) g C n x) ∧ Hid (StaAt w0 b off n pk g wr))
     case atStart => exact ⟨0, g, rfl, by rw [Nat.zero_add], Nat.zero_le _, Nat.le_refl _, HIn, RowsTo.start _ _ _, H⟩
     case round =>
      clear H HIn
      obtain ⟨x, g, rfl, rfl, hxn, hgk3, HIn, HRo, H⟩ := hrel
      obtain ⟨y, hy⟩ : ∃ y, x + C = y := ⟨_, rfl⟩
      obtain ⟨m, hm⟩ : ∃ m, x + B = m := ⟨_, rfl⟩
      have HY : Hid (x + C = y ∧ x + B = m ∧ m + B = y) := ⟨hy, hm, by have := HCB.out; omega⟩
      have wm : (x : Int) + (B : Int) = (m : Int) := by omega
      rw [hy]
      by_cases hle : y ≤ n
      ·
       have hlez : (y : Int) ≤ (n : Int) := by omega
       have o1 : OwnRow (tickBy pk) g x m := by
        have := HIn.out.first (by have := HCB.out; omega)
        rwa [show min (x + B) n = m by have := HCB.out; omega] at this
       have o2 : OwnRow (tickBy pk) g m y := by
        have := HIn.out.rest.first (by have := HCB.out; omega)
        rwa [show min (x + B + B) n = y by have := HCB.out; omega, hm] at this
       have HC := HSym.out g x m y wr H.out (by have := HCB.out; omega) (by have := HCB.out; omega) hle o1 o2
       have HC' : Hid (Calls Tryz.prog 147 #[.slice (some ⟨b, off, none⟩) n cap, .int .i64 (x : Int), .int .i64 (m : Int), .int .i64 (y : Int), .func (.func 77) #[] #[]] wr fun e w' => e = .returned (.tuple #[]) ∧ ∃ g', Merged (tickBy pk) g g' x y ∧ OwnRow (tickBy pk) g' x y ∧ StaAt w0 b off n pk g' w') := HC
       obtain ⟨z, hz⟩ : ∃ z, y + C = z := ⟨_, rfl⟩
       have wy : (y : Int) + (C : Int) = (z : Int) := by omega
       have HZ : Hid (y + C = z) := hz
       clear hz
       clear HC H hy hm o1 o2
       go_wp2_with fail
       refine HC'.out.mono ?_
       rintro _ w2 ⟨rfl, g', hM, ho, h1⟩
       have H1 : Hid (StaAt w0 b off n pk g' w2) := h1
       have HIn' : Hid (InRows (tickBy pk) g' B n y) := by
        have h2 := HIn.out.rest.rest
        rw [show x + B + B = y by have := HY.out; omega] at h2
        exact h2.congr fun i hi => hM.1.out i (.inr hi)
       have HRo' : Hid (RowsTo (tickBy pk) g' C n y) := by
        have e := HY.out.1
        show RowsTo _ _ _ _ _
        rw [← e]
        refine HRo.out.on (fun i hi => hM.1.out i (.inl hi)) ?_
        rw [show min (x + C) n = y by omega]
        exact ho
       clear h1 hM ho HC' HIn HRo
       go_wp2_with fail
       go_roundg (n - y)
       case measure => have := HY.out; have := HCB.out; omega
       case rel => exact ⟨y, g', rfl, by rw [HZ.out], hle, Nat.le_refl _, HIn', HRo', H1⟩
      ·
       have hlez : ¬ (y : Int) ≤ (n : Int) := by omega
       have wC : (B : Int) * 2 = (C : Int) := by have := HCB.out; omega
       by_cases hmn : m < n
       ·
        have hmz : (m : Int) < (n : Int) := by omega
        have o1 : OwnRow (tickBy pk) g x m := by
         have := HIn.out.first (by have := HCB.out; omega)
         rwa [show min (x + B) n = m by have := HCB.out; omega] at this
        have o2 : OwnRow (tickBy pk) g m n := by
         have := HIn.out.rest.first (by have := HCB.out; omega)
         rwa [show min (x + B + B) n = n by have := HCB.out; omega, hm] at this
        have HC := HSym.out g x m n wr H.out (by have := HCB.out; omega) hmn (Nat.le_refl _) o1 o2
        have HC' : Hid (Calls Tryz.prog 147 #[.slice (some ⟨b, off, none⟩) n cap, .int .i64 (x : Int), .int .i64 (m : Int), .int .i64 (n : Int), .func (.func 77) #[] #[]] wr fun e w' => e = .returned (.tuple #[]) ∧ ∃ g', Merged (tickBy pk) g g' x n ∧ OwnRow (tickBy pk) g' x n ∧ StaAt w0 b off n pk g' w') := HC
        clear HC H hy hm o1 o2
        go_wp2_with fail
        refine HC'.out.mono ?_
        rintro _ w2 ⟨rfl, g', hM, ho, h1⟩
        have H1 : Hid (StaAt w0 b off n pk g' w2) := h1
        have HIn' : Hid (InRows (tickBy pk) g' C n 0) := HRo.out.last (fun i hi => hM.1.out i (.inl hi)) (by have := HY.out; omega) (fun _ => ho)
        clear h1 hM ho HC' HIn HRo
        go_wp2_with fail
        go_roundg (n - C)
        case measure => have := HCB.out; omega
        case rel => exact ⟨C, g', by go_num, by have := HCB.out; omega, by have := HCB.out; omega, Nat.le_refl _, HIn', H1⟩
       ·
        have hmz : ¬ (m : Int) < (n : Int) := by omega
        have HIn' : Hid (InRows (tickBy pk) g C n 0) := HRo.out.last (fun i _ => rfl) (by have := HY.out; omega) (fun hx => by
         have := HIn.out.first hx
         rwa [show min (x + B) n = n by have := HY.out; omega] at this)
        clear hy hm HIn HRo
        go_wp2_with fail
        go_roundg (n - C)
        case measure => have := HCB.out; omega
        case rel => exact ⟨C, g, by go_num, by have := HCB.out; omega, by have := HCB.out; omega, Nat.le_refl _, HIn', H⟩
    ·
     have hBz : ¬ (B : Int) < (n : Int) := by omega
     have HO : Hid (IsOrder (tickBy pk) n ((List.range n).map g)) := HIn.out.order (by omega)
     clear HIn
     go_wp2_with fail
     go_end0
     exact ⟨rfl, g, HO.out, H.out⟩
set_option maxRecDepth 100000 in
theorem sortStable_ok (w0 : World) (b off n cap : Nat) (pk : Nat → Pk) (w : World) (h : StaAt w0 b off n pk (fun i => i) w) (hn : n ≤ 1000) :
  Calls Tryz.prog 76 #[.slice (some ⟨b, off, none⟩) n cap, .func (.func 77) #[] #[]] w fun e w' => e = .returned (.tuple #[]) ∧ ∃ g, IsOrder (tickBy pk) n ((List.range n).map g) ∧ StaAt w0 b off n pk g w' := by
 have HC : Hid (Calls Tryz.prog 122 #[.slice (some ⟨b, off, none⟩) n cap, .int .i64 (n : Int), .func (.func 77) #[] #[]] w fun e w' => e = .returned (.tuple #[]) ∧ ∃ g, IsOrder (tickBy pk) n ((List.range n).map g) ∧ StaAt w0 b off n pk g w') := stable_ok w0 b off n cap pk w h hn
 clear h
 go_enter Tryz.func76, Tryz.ntmps76
 go_wp2_with fail
 refine HC.out.mono ?_
 rintro _ w1 ⟨rfl, g, h1, h2⟩
 have HE : Hid (IsOrder (tickBy pk) n ((List.range n).map g) ∧ StaAt w0 b off n pk g w1) := ⟨h1, h2⟩
 clear h1 h2
 go_wp2_with fail
 go_end0
 exact ⟨rfl, g, HE.out⟩
end Go.Proofs.YtnomdlclkpnjpaaGreatDoor

namespace Go.Proofs.YtnomdlclkpnjpaaGreatDoor
open Go.RowKit
theorem numbersOf_none (pa : Option Addr) (pcap : Nat) (f : Int) (w : World) : Calls Tryz.prog 120 #[.slice pa 0 pcap, .int .i64 f] w fun e w' => e = .returned (.slice none 0 0) ∧ w' = w := by
 go_enter Tryz.func120, Tryz.ntmps120
 go_wp2_with fail
 refine wp_loop_rounds 1 ?_
 rw [rounds_succ]
 go_wp2_with fail
 go_ret
 exact ⟨rfl, rfl⟩
set_option maxRecDepth 100000 in
set_option maxHeartbeats 1000000 in
theorem insertion_none (pa : Option Addr) (pcap : Nat) (fv : Value) (w : World) : Calls Tryz.prog 146 #[.slice pa 0 pcap, .int .i64 0, .int .i64 0, fv] w fun e w' => e = .returned (.tuple #[]) ∧ w' = w := by
 go_enter Tryz.func146, Tryz.ntmps146
 go_wp2_with fail
 refine wp_loop_rounds 1 ?_
 rw [rounds_succ]
 go_wp2_with fail
 go_end0
 exact ⟨rfl, rfl⟩
set_option maxRecDepth 100000 in
set_option maxHeartbeats 1000000 in
theorem stable_none (pa : Option Addr) (pcap : Nat) (fv : Value) (w : World) : Calls Tryz.prog 122 #[.slice pa 0 pcap, .int .i64 0, fv] w fun e w' => e = .returned (.tuple #[]) ∧ w' = w := by
 have HI : Hid (∀ W, Calls Tryz.prog 146 #[.slice pa 0 pcap, .int .i64 0, .int .i64 0, fv] W fun e w' => e = .returned (.tuple #[]) ∧ w' = W) := fun W => insertion_none pa pcap fv W
 go_enter Tryz.func122, Tryz.ntmps122
 go_wp2_with fail
 refine wp_loop_rounds 1 ?_
 rw [rounds_succ]
 go_wp2_with fail
 refine (HI.out _).mono ?_
 rintro e w1 ⟨rfl, rfl⟩
 go_wp2_with fail
 refine wp_loop_rounds 1 ?_
 rw [rounds_succ]
 go_wp2_with fail
 go_end0
 exact ⟨rfl, rfl⟩
theorem sortStable_none (pa : Option Addr) (pcap : Nat) (fv : Value) (w : World) : Calls Tryz.prog 76 #[.slice pa 0 pcap, fv] w fun e w' => e = .returned (.tuple #[]) ∧ w' = w := by
 have HI : Hid (∀ W, Calls Tryz.prog 122 #[.slice pa 0 pcap, .int .i64 0, fv] W fun e w' => e = .returned (.tuple #[]) ∧ w' = W) := fun W => stable_none pa pcap fv W
 go_enter Tryz.func76, Tryz.ntmps76
 go_wp2_with fail
 refine (HI.out _).mono ?_
 rintro e w1 ⟨rfl, rfl⟩
 go_wp2_with fail
 go_end0
 exact ⟨rfl, rfl⟩
set_option maxRecDepth 100000 in
set_option maxHeartbeats 1000000 in
theorem shapeFlow_none (la : Option Addr) (lcap : Nat) (ls : List (Int × Int)) (pa : Option Addr) (pcap : Nat) (f : Int) (w : World) (ad : Nat → Addr) (he : Errs9 w ad) (hl : Lies w la ls) (hk : okCurve ls) :
  Calls Tryz.prog 75 #[.slice la ls.length lcap, .slice pa 0 pcap, .int .i64 f] w fun e w' => e = .returned (.int .i64 0) ∧ Below w.heap.size w w' := by
 have HNu : Hid (∀ W, Calls Tryz.prog 120 #[.slice pa 0 pcap, .int .i64 f] W fun e w' => e = .returned (.slice none 0 0) ∧ w' = W) := fun W => numbersOf_none pa pcap f W
 have hmk := make_pkts 0 (by omega)
 have hb0 : Below w.heap.size w (w.alloc (.cells (madeCells #[.int .i64 0, .int .i64 0, .int .i64 0] (0 * 3)) 52)) := (Below.refl _ _).alloc (Nat.le_refl _) _
 have HB0 : Hid (Below w.heap.size w (w.alloc (.cells (madeCells #[.int .i64 0, .int .i64 0, .int .i64 0] (0 * 3)) 52))) := hb0
 have HSh : Hid (Calls Tryz.prog 121 #[.slice la ls.length lcap, .slice (some ⟨w.heap.size, 0, none⟩) 0 0] (w.alloc (.cells (madeCells #[.int .i64 0, .int .i64 0, .int .i64 0] (0 * 3)) 52)) fun e w' => ShapeEnd ls [] ad (w.alloc (.cells (madeCells #[.int .i64 0, .int .i64 0, .int .i64 0] (0 * 3)) 52)) e w') := shape_any la lcap ls (some ⟨w.heap.size, 0, none⟩) 0 [] _ ad (he.below hb0).four (hl.below hb0) hk (.inl rfl) okPks_none
 clear he hl hk hb0
 simp only [Int.ofNat_zero, Nat.zero_mul] at hmk HB0 HSh
 go_enter Tryz.func75, Tryz.ntmps75
 go_wp2_with fail
 refine (HNu.out _).mono ?_
 rintro e w1 ⟨rfl, rfl⟩
 go_wp2_with fail
 refine wp_loop_rounds 1 ?_
 rw [rounds_succ]
 go_wp2_with fail
 refine HSh.out.mono ?_
 rintro e w3 ⟨hb3, ⟨s, D, -, rfl, -, -⟩ | ⟨j, p, s, F, hj, -⟩⟩
 ·
  have HB3 : Hid (Below w1.heap.size w1 (w3.alloc (.cells #[.pointer none] 103))) := by
   have h3 := HB0.out.trans (hb3.mono HB0.out.size)
   exact h3.alloc h3.size _
  have HAs : Hid (∀ W, Calls Tryz.prog 65 #[.nilIface, .iface 126 (.pointer (some ⟨w3.heap.size, 0, none⟩))] W fun ev w' => ev = .returned (.bool false) ∧ w' = W) := fun W => as_nil _ W
  clear hb3 HSh
  go_wp2_with fail
  refine (HAs.out _).mono ?_
  rintro e w5 ⟨rfl, rfl⟩
  go_wp2_with fail
  refine wp_loop_rounds 1 ?_
  rw [rounds_succ]
  go_wp2_with fail
  go_ret
  exact ⟨rfl, HB3.out⟩
 · simp at hj
end Go.Proofs.YtnomdlclkpnjpaaGreatDoor

namespace Go.Proofs.YtnomdlclkpnjpaaGreatDoor
structure Rb where
 burst : Int
 rate : Int
 has : Int
 tick : Int
 last : Int
def Rb.hasAt (m : Rb) (t : Int) : Int := if m.rate = 0 ∨ m.has = 1000 * m.burst then m.has else if (1000 * m.burst - m.has) / m.rate < t - m.tick then 1000 * m.burst else m.has + (t - m.tick) * m.rate
def Rb.take (m : Rb) (t n : Int) : Rb := if m.hasAt t < 1000 * n then ⟨m.burst, m.rate, m.has, m.tick, t⟩ else ⟨m.burst, m.rate, m.hasAt t - 1000 * n, t, t⟩
def Rb.when (m : Rb) (t n : Int) : Int :=
 if m.burst < n then -1
 else if 1000 * n - m.hasAt t ≤ 0 then t
 else if m.rate = 0 then -1
 else if 1099511627776 < t + (if (1000 * n - m.hasAt t) / m.rate * m.rate < 1000 * n - m.hasAt t then (1000 * n - m.hasAt t) / m.rate + 1 else (1000 * n - m.hasAt t) / m.rate) then -1
 else t + (if (1000 * n - m.hasAt t) / m.rate * m.rate < 1000 * n - m.hasAt t then (1000 * n - m.hasAt t) / m.rate + 1 else (1000 * n - m.hasAt t) / m.rate)
def rbOf (p : Int × Int) : Rb := ⟨p.1, p.2, 1000 * p.1, 0, 0⟩
structure RelB (b : Bk) (m : Rb) : Prop where
 most : b.most = 1000 * m.burst
 rate : b.rate = m.rate
 last : m.last = b.last
 t0 : 0 ≤ m.tick
 t1 : m.tick ≤ m.last
 h0 : 0 ≤ m.has
 h1 : m.has ≤ 1000 * m.burst
 has : b.has = min b.most (m.has + m.rate * (m.last - m.tick))
theorem relB_new (p : Int × Int) (h : okLine p.1 p.2 = true) : RelB (bkOf p) (rbOf p) := by
 obtain ⟨a, b, c, d⟩ := okLine_true h
 constructor <;> simp [bkOf, rbOf] <;> omega
theorem RelB.hasAt {b : Bk} {m : Rb} (h : RelB b m) (hb : b.Ok) {t : Int} (ht : b.last ≤ t) : m.hasAt t = b.lev t := by
 have e1 := h.most; have e2 := h.rate; have e3 := h.last; have e4 := h.has; have t1 := h.t1; have h1 := h.h1
 have r0 := hb.r0
 have s1 := mul_split m.rate t m.last m.tick
 have s2 := Int.mul_nonneg (show 0 ≤ m.rate by omega) (show 0 ≤ t - m.last by omega)
 have s3 := Int.mul_nonneg (show 0 ≤ m.rate by omega) (show 0 ≤ m.last - m.tick by omega)
 have hl : b.lev t = min b.most (m.has + m.rate * (t - m.tick)) := by
  unfold Bk.lev; rw [e2, ← e3]; omega
 rw [hl]
 unfold Rb.hasAt
 split
 ·
  rename_i hz
  rcases hz with hz | hz
  · rw [hz]; omega
  · omega
 ·
  rename_i hz
  have hr : 0 < m.rate := by omega
  have d1 := Int.mul_ediv_add_emod (1000 * m.burst - m.has) m.rate
  have d2 := Int.emod_nonneg (1000 * m.burst - m.has) (show m.rate ≠ 0 by omega)
  have d3 := Int.emod_lt_of_pos (1000 * m.burst - m.has) hr
  generalize (1000 * m.burst - m.has) / m.rate = k at *
  split
  ·
   rename_i hk
   have := Int.mul_le_mul_of_nonneg_left (show k + 1 ≤ t - m.tick by omega) (show 0 ≤ m.rate by omega)
   rw [Int.mul_add] at this
   omega
  ·
   rename_i hk
   have := Int.mul_le_mul_of_nonneg_left (show t - m.tick ≤ k by omega) (show 0 ≤ m.rate by omega)
   rw [Int.mul_comm (t - m.tick) m.rate]
   omega
theorem RelB.take {b : Bk} {m : Rb} (h : RelB b m) (hb : b.Ok) {t n : Int} (ht : b.last ≤ t) (hn : 1 ≤ n) : RelB (b.take t n) (m.take t n) := by
 have e := h.hasAt hb ht
 have e1 := h.most; have e2 := h.rate; have e3 := h.last; have t1 := h.t1; have l0 := hb.l0; have bd := hb.lev_bd ht
 have e4 := h.has
 unfold Rb.take Bk.take
 rw [e]
 by_cases hc : n * 1000 ≤ b.lev t
 ·
  rw [if_pos hc, if_neg (by omega)]
  exact ⟨e1, e2, rfl, by simp; omega, Int.le_refl _, by simp; omega, by simp; omega, by simp; omega⟩
 ·
  rw [if_neg hc, if_pos (by omega)]
  refine ⟨e1, e2, rfl, h.t0, by simp; omega, h.h0, h.h1, ?_⟩
  show b.lev t = min b.most (m.has + m.rate * (t - m.tick))
  have r0 := hb.r0
  have s1 := mul_split m.rate t m.last m.tick
  have s2 := Int.mul_nonneg (show 0 ≤ m.rate by omega) (show 0 ≤ t - m.last by omega)
  unfold Bk.lev; rw [e2, ← e3]; omega
theorem div_two {r x : Int} (hr : 0 < r) : (if x / r * r < x then x / r + 1 else x / r) = (x + r - 1) / r := by
 have hd := div_up (r := r) (x := x) hr
 have d1 := Int.mul_ediv_add_emod x r
 have d2 := Int.emod_nonneg x (show r ≠ 0 by omega)
 have d3 := Int.emod_lt_of_pos x hr
 rw [Int.mul_comm (x / r) r]
 generalize x / r = k at *
 generalize (x + r - 1) / r = u at *
 have up : ∀ a c : Int, a < c → r * a + r ≤ r * c := fun a c h => by
  have := Int.mul_le_mul_of_nonneg_left (show a + 1 ≤ c by omega) (show 0 ≤ r by omega)
  rwa [Int.mul_add, Int.mul_one] at this
 split
 ·
  by_cases h1 : u < k + 1
  ·
   have := up u (k + 1) h1
   rw [Int.mul_add, Int.mul_one] at this
   omega
  ·
   by_cases h2 : k + 1 < u
   ·
    have := up (k + 1) u h2
    rw [Int.mul_add, Int.mul_one] at this
    omega
   · omega
 ·
  by_cases h1 : u < k
  ·
   have := up u k h1
   omega
  ·
   by_cases h2 : k < u
   ·
    have := up k u h2
    omega
   · omega
theorem RelB.when {b : Bk} {m : Rb} (h : RelB b m) (hb : b.Ok) {t n : Int} (ht : b.last ≤ t) : m.when t n = match b.when t n with | some T => T | none => -1 := by
 have e := h.hasAt hb ht
 have bd := hb.lev_bd ht
 have e1 := h.most; have e2 := h.rate
 unfold Rb.when Bk.when
 rw [e]
 by_cases h1 : n * 1000 ≤ b.lev t
 · rw [if_neg (by omega), if_pos (by omega), if_pos h1]
 ·
  rw [if_neg h1]
  by_cases h2 : m.burst < n
  · rw [if_pos h2, if_pos (.inl (by omega))]
  ·
   rw [if_neg h2, if_neg (by omega)]
   by_cases h3 : m.rate = 0
   · rw [if_pos h3, if_pos (.inr (by omega))]
   ·
    rw [if_neg h3, div_two (by have := hb.r0; omega), if_neg (show ¬ (b.most < n * 1000 ∨ b.rate = 0) by omega), ← e2, Int.mul_comm n 1000]
    by_cases h4 : 1099511627776 - t < (1000 * n - b.lev t + b.rate - 1) / b.rate
    · rw [if_pos h4, if_pos (by omega)]
    · rw [if_neg h4, if_neg (by omega)]
end Go.Proofs.YtnomdlclkpnjpaaGreatDoor

namespace Go.Proofs.YtnomdlclkpnjpaaGreatDoor
open Go.RowKit
structure RbAt (w : World) (g : Nat) (m : Rb) : Prop where
 c0 : w.cell? ⟨g, 0, none⟩ = some (.int .i64 m.burst)
 c1 : w.cell? ⟨g, 1, none⟩ = some (.int .i64 m.rate)
 c2 : w.cell? ⟨g, 2, none⟩ = some (.int .i64 m.has)
 c3 : w.cell? ⟨g, 3, none⟩ = some (.int .i64 m.tick)
 c4 : w.cell? ⟨g, 4, none⟩ = some (.int .i64 m.last)
 f2 : w.frozen? ⟨g, 2, none⟩ = false
 f3 : w.frozen? ⟨g, 3, none⟩ = false
 f4 : w.frozen? ⟨g, 4, none⟩ = false
theorem RbAt.lt {w : World} {g : Nat} {m : Rb} (h : RbAt w g m) : g < w.heap.size := cell_lt h.c0
theorem RbAt.but {S : Nat → Prop} {w w' : World} {g : Nat} {m : Rb} (h : RbAt w g m) (hb : But S w w') (hs : ¬ S g) : RbAt w' g m :=
 have l := h.lt
 ⟨by rw [hb.cell (p := ⟨g, 0, none⟩) l hs]; exact h.c0, by rw [hb.cell (p := ⟨g, 1, none⟩) l hs]; exact h.c1, by rw [hb.cell (p := ⟨g, 2, none⟩) l hs]; exact h.c2, by rw [hb.cell (p := ⟨g, 3, none⟩) l hs]; exact h.c3, by rw [hb.cell (p := ⟨g, 4, none⟩) l hs]; exact h.c4,
  by rw [hb.frozen (p := ⟨g, 2, none⟩) l hs]; exact h.f2, by rw [hb.frozen (p := ⟨g, 3, none⟩) l hs]; exact h.f3, by rw [hb.frozen (p := ⟨g, 4, none⟩) l hs]; exact h.f4⟩
theorem RbAt.below {w w' : World} {g : Nat} {m : Rb} (h : RbAt w g m) (hb : Below w.heap.size w w') : RbAt w' g m := h.but (S := fun _ => False) (.ofBelow hb) id
set_option maxRecDepth 100000 in
set_option maxHeartbeats 1000000 in
theorem rhasAt_core (g : Nat) (B r h k t : Int) (w : World) (c0 : w.cell? ⟨g, 0, none⟩ = some (.int .i64 B)) (c1 : w.cell? ⟨g, 1, none⟩ = some (.int .i64 r)) (c2 : w.cell? ⟨g, 2, none⟩ = some (.int .i64 h)) (c3 : w.cell? ⟨g, 3, none⟩ = some (.int .i64 k))
  (B0 : 1 ≤ B) (B1 : B ≤ 20000) (r0 : 0 ≤ r) (r1 : r ≤ 100000) (h0 : 0 ≤ h) (h1 : h ≤ 1000 * B) (k0 : 0 ≤ k) (k1 : k ≤ t) (t1 : t ≤ 1099511627776) (v : Int)
  (hv : v = if r = 0 ∨ h = 1000 * B then h else if (1000 * B - h) / r < t - k then 1000 * B else h + (t - k) * r) :
  Calls Tryz.prog 136 #[.pointer (some ⟨g, 0, none⟩), .int .i64 t] w fun e w' => e = .returned (.int .i64 v) ∧ Below w.heap.size w w' := by
 by_cases hr : r = 0
 ·
  rw [if_pos (.inl hr)] at hv
  subst hr hv
  go_enter Tryz.func136, Tryz.ntmps136
  go_wp2
  go_ret
  exact ⟨rfl, Below.refl _ _⟩
 ·
  have hrb : (r == 0) = false := by simpa using hr
  by_cases hh : h = 1000 * B
  ·
   rw [if_pos (.inr hh)] at hv
   subst hh hv
   go_enter Tryz.func136, Tryz.ntmps136
   go_wp2
   go_ret
   exact ⟨rfl, Below.refl _ _⟩
  ·
   have hhb : (h == 1000 * B) = false := by simpa using hh
   rw [if_neg (by simp [hr, hh])] at hv
   have hr1 : 1 ≤ r := by omega
   by_cases hq : (1000 * B - h) / r < t - k
   ·
    rw [if_pos hq] at hv
    subst hv
    go_enter Tryz.func136, Tryz.ntmps136
    go_wp2
    go_ret
    exact ⟨rfl, Below.refl _ _⟩
   ·
    rw [if_neg hq] at hv
    obtain ⟨m0, m1⟩ := mul_bd r0 r1 (show 0 ≤ t - k by omega) (show t - k ≤ 1099511627776 by omega)
    rw [Int.mul_comm] at m0 m1
    subst hv
    go_enter Tryz.func136, Tryz.ntmps136
    go_wp2
    go_quiet (fail)
    go_wp2
    go_ret
    exact ⟨rfl, below_drewN (Below.refl _ _) _⟩
theorem rhasAt_ok (g : Nat) (b : Bk) (m : Rb) (t : Int) (w : World) (hm : RbAt w g m) (hk : b.Ok) (hr : RelB b m) (ht : b.last ≤ t) (t1 : t ≤ 1099511627776) :
  Calls Tryz.prog 136 #[.pointer (some ⟨g, 0, none⟩), .int .i64 t] w fun e w' => e = .returned (.int .i64 (m.hasAt t)) ∧ Below w.heap.size w w' := by
 have e1 := hr.most; have e2 := hr.rate; have e3 := hr.last; have e4 := hr.t1
 have m0 := hk.m0; have m1 := hk.m1; have r0 := hk.r0; have r1 := hk.r1
 exact rhasAt_core g m.burst m.rate m.has m.tick t w hm.c0 hm.c1 hm.c2 hm.c3 (by omega) (by omega) (by omega) (by omega) hr.h0 hr.h1 hr.t0 (by omega) t1 _ rfl
end Go.Proofs.YtnomdlclkpnjpaaGreatDoor
