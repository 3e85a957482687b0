/- Own facts, put together: no statement of its own. -/
import Derived.Test.YtibhkijaafdkoaaGreatDoorK43
import Derived.Test.YtibhkijaafdkoaaGreatDoorK44
import Derived.Test.YtibhkijaafdkoaaGreatDoorK40
import Derived.Test.YtibhkijaafdkoaaGreatDoorK31
namespace Go.Proofs.YtibhkijaafdkoaaGreatDoor
open Go.RowKit
theorem symMerge_ok (w0 : World) (b off n cap : Nat) (pk : Nat → Pk) (hn : n ≤ 1000) : ∀ (d : Nat) (f : Nat → Nat) (x m y : Nat) (w : World), y - x ≤ d → StaAt w0 b off n pk f w → x < m → m < y → y ≤ n → Rises (tickBy pk) f x m → Rises (tickBy pk) f m y → Lower f x m y →
  Calls Tryz.prog 152 #[.slice (some ⟨b, off, none⟩) n cap, .int .i64 (x : Int), .int .i64 (m : Int), .int .i64 (y : Int), .func (.func 82) #[] #[]] w fun e w' => e = .returned (.tuple #[]) ∧ ∃ g, Merged (tickBy pk) f g x y ∧ StaAt w0 b off n pk g w'
 | 0, f, x, m, y, w, hd, h, h1, h2, h3, r1, r2, l => by omega
 | d + 1, f, x, m, y, w, hd, h, h1, h2, h3, r1, r2, l => by
  by_cases hf : m = x + 1
  · exact symFirst_ok w0 b off n cap pk f x m y w h hf h2 h3 hn r1 r2 l
  ·
   by_cases hl : y = m + 1
   · exact symLast_ok w0 b off n cap pk f x m y w h (by omega) hl h3 hn r1 r2 l
   ·
    have IH : ∀ (g : Nat → Nat) (x' m' y' : Nat) (W : World), y' - x' < y - x → StaAt w0 b off n pk g W → x' < m' → m' < y' → y' ≤ n → Rises (tickBy pk) g x' m' → Rises (tickBy pk) g m' y' → Lower g x' m' y' → Calls Tryz.prog 152 #[.slice (some ⟨b, off, none⟩) n cap, .int .i64 (x' : Int), .int .i64 (m' : Int), .int .i64 (y' : Int), .func (.func 82) #[] #[]] W fun e w' => e = .returned (.tuple #[]) ∧ ∃ g', Merged (tickBy pk) g g' x' y' ∧ StaAt w0 b off n pk g' w' := fun g x' m' y' W k1 k2 k3 k4 k5 k6 k7 k8 => symMerge_ok w0 b off n cap pk hn d g x' m' y' W (by omega) k2 k3 k4 k5 k6 k7 k8
    by_cases hm : m ≤ (x + y) / 2
    · exact symMidA_ok w0 b off n cap pk f x m y w h (by omega) (by omega) _ rfl hm IH h3 hn r1 r2 l
    · exact symMidB_ok w0 b off n cap pk f x m y w h (by omega) (by omega) _ rfl (by omega) IH h3 hn r1 r2 l
set_option maxRecDepth 100000 in
set_option maxHeartbeats 4000000 in
theorem stable_ok (w0 : World) (b off n cap : Nat) (pk : Nat → Pk) (w : World) (h : StaAt w0 b off n pk (fun i => i) w) (hn : n ≤ 1000) :
  Calls Tryz.prog 127 #[.slice (some ⟨b, off, none⟩) n cap, .int .i64 (n : Int), .func (.func 82) #[] #[]] w fun e w' => e = .returned (.tuple #[]) ∧ ∃ g, IsOrder (tickBy pk) n ((List.range n).map g) ∧ StaAt w0 b off n pk g w' := by
 have HIns : Hid (∀ (f : Nat → Nat) (x y : Nat) (W : World), StaAt w0 b off n pk f W → x ≤ y → y ≤ n → (∀ i, x ≤ i → f i = i) → Calls Tryz.prog 151 #[.slice (some ⟨b, off, none⟩) n cap, .int .i64 (x : Int), .int .i64 (y : Int), .func (.func 82) #[] #[]] W fun e w' => e = .returned (.tuple #[]) ∧ ∃ g, Merged (tickBy pk) f g x y ∧ StaAt w0 b off n pk g w') := fun f x y W h1 h2 h3 h4 => insertion_ok w0 b off n cap pk f x y W h1 h2 h3 hn (fun i j k1 k2 k3 => by rw [h4 i k1, h4 j (by omega)]; exact k2)
 have HSym : Hid (∀ (f : Nat → Nat) (x m y : Nat) (W : World), StaAt w0 b off n pk f W → x < m → m < y → y ≤ n → OwnRow (tickBy pk) f x m → OwnRow (tickBy pk) f m y → Calls Tryz.prog 152 #[.slice (some ⟨b, off, none⟩) n cap, .int .i64 (x : Int), .int .i64 (m : Int), .int .i64 (y : Int), .func (.func 82) #[] #[]] W fun e w' => e = .returned (.tuple #[]) ∧ ∃ g, Merged (tickBy pk) f g x y ∧ OwnRow (tickBy pk) g x y ∧ StaAt w0 b off n pk g w') := fun f x m y W h1 h2 h3 h4 h5 h6 => (symMerge_ok w0 b off n cap pk hn (y - x) f x m y W (Nat.le_refl _) h1 h2 h3 h4 h5.rises h6.rises (h5.lower h6)).mono fun _ _ ⟨e1, g, e2, e3⟩ => ⟨e1, g, e2, h5.merged (by omega) (by omega) h6 e2, e3⟩
 have H0 : Hid (StaAt w0 b off n pk (fun i => i) w) := h
 clear h
 go_enter Tryz.func127, Tryz.ntmps127
 go_wp2_with fail
 go_loopg [7, 8] n (fun gk av bv wr => ∃ (x : Nat) (g : Nat → Nat), av = .int .i64 (x : Int) ∧ bv = .int .i64 ((x + 20 : Nat) : Int) ∧ x ≤ n ∧ n - x ≤ gk ∧ Hid (∀ i, x ≤ i → g i = i) ∧ Hid (RowsTo (tickBy pk) g 20 n x) ∧ Hid (StaAt w0 b off n pk g wr))
 case atStart => exact ⟨0, fun i => i, rfl, rfl, Nat.zero_le _, Nat.le_refl _, fun i _ => rfl, RowsTo.start _ _ _, H0⟩
 case round =>
  clear H0
  obtain ⟨x, g, rfl, rfl, hxn, hgk, HId, HRo, H⟩ := hrel
  obtain ⟨y, hy⟩ : ∃ y, x + 20 = y := ⟨_, rfl⟩
  have HY : Hid (x + 20 = y) := hy
  rw [hy]
  by_cases hle : y ≤ n
  ·
   have hlez : (y : Int) ≤ (n : Int) := by omega
   have HC := HIns.out g x y wr H.out (by omega) hle HId.out
   have HC' : Hid (Calls Tryz.prog 151 #[.slice (some ⟨b, off, none⟩) n cap, .int .i64 (x : Int), .int .i64 (y : Int), .func (.func 82) #[] #[]] wr fun e w' => e = .returned (.tuple #[]) ∧ ∃ g', Merged (tickBy pk) g g' x y ∧ StaAt w0 b off n pk g' w') := HC
   obtain ⟨z, hz⟩ : ∃ z, y + 20 = z := ⟨_, rfl⟩
   have wy : (y : Int) + 20 = (z : Int) := by omega
   have HZ : Hid (y + 20 = z) := hz
   clear hz
   clear HC H hy
   go_wp2_with fail
   refine HC'.out.mono ?_
   rintro _ w1 ⟨rfl, g', hM, h1⟩
   have H1 : Hid (StaAt w0 b off n pk g' w1) := h1
   have HId' : Hid (∀ i, y ≤ i → g' i = i) := fun i hi => by rw [hM.1.out i (.inr hi)]; exact HId.out i (by have := HY.out; omega)
   have HRo' : Hid (RowsTo (tickBy pk) g' 20 n y) := by
    have e := HY.out
    show RowsTo _ _ _ _ _
    rw [← e]
    refine HRo.out.on (fun i hi => hM.1.out i (.inl hi)) ?_
    rw [show min (x + 20) n = y by omega]
    exact OwnRow.start (fun i h2 _ => HId.out i h2) hM
   clear h1 hM HC'
   go_wp2_with fail
   go_roundg (n - y)
   case measure => have := HY.out; omega
   case rel => exact ⟨y, g', rfl, by rw [HZ.out], hle, Nat.le_refl _, HId', HRo', H1⟩
  ·
   have hlez : ¬ (y : Int) ≤ (n : Int) := by omega
   have HC := HIns.out g x n wr H.out hxn (Nat.le_refl _) HId.out
   have HC' : Hid (Calls Tryz.prog 151 #[.slice (some ⟨b, off, none⟩) n cap, .int .i64 (x : Int), .int .i64 (n : Int), .func (.func 82) #[] #[]] wr fun e w' => e = .returned (.tuple #[]) ∧ ∃ g', Merged (tickBy pk) g g' x n ∧ StaAt w0 b off n pk g' w') := HC
   clear HC H hy
   go_wp2_with fail
   refine HC'.out.mono ?_
   rintro _ w1 ⟨rfl, g', hM, h1⟩
   have H1 : Hid (StaAt w0 b off n pk g' w1) := h1
   have HIn : Hid (InRows (tickBy pk) g' 20 n 0) := HRo.out.last (fun i hi => hM.1.out i (.inl hi)) (by have := HY.out; omega) (fun _ => OwnRow.start (fun i h2 _ => HId.out i h2) hM)
   clear h1 hM HC' HRo HId HIns
   go_wp2_with fail
   obtain ⟨gO, hgO⟩ : ∃ z, z = gk := ⟨_, rfl⟩
   subst hgO
   go_loopg [6, 7, 8, 9] n (fun gk2 sv av bv mv wr => ∃ (B : Nat) (g : Nat → Nat), sv = .int .i64 (B : Int) ∧ 20 ≤ B ∧ B ≤ 2000 ∧ n - B ≤ gk2 ∧ Hid (InRows (tickBy pk) g B n 0) ∧ Hid (StaAt w0 b off n pk g wr))
   case atStart => exact ⟨20, g', rfl, Nat.le_refl _, by omega, by omega, HIn, H1⟩
   case round =>
    clear HIn H1
    obtain ⟨B, g, rfl, hB20, hB2, hgk2, HIn, H⟩ := hrel
    by_cases hBn : B < n
    ·
     have hBz : (B : Int) < (n : Int) := by omega
     have wB : 2 * (B : Int) = ((2 * B : Nat) : Int) := by omega
     obtain ⟨C, hC⟩ : ∃ C, 2 * B = C := ⟨_, rfl⟩
     have HCB : Hid (2 * B = C) := hC
     rw [hC] at wB
     clear hC
     go_wp2_with fail
     obtain ⟨gP, hgP⟩ : ∃ z, z = gk := ⟨_, rfl⟩
     subst hgP
     obtain ⟨W0, hW0⟩ : ∃ W, W = wr := ⟨_, rfl⟩
     subst hW0
     go_loopg [7, 8] n (fun gk3 av bv wr => ∃ (x : Nat) (g : Nat → Nat), av = .int .i64 (x : Int) ∧ bv = .int .i64 ((x + C : Nat) : Int) ∧ x ≤ n ∧ n - x ≤ gk3 ∧ Hid (InRows (tickBy pk) g B n x) ∧ Hid (RowsTo (tickBy pk) g C n x) ∧ Hid (StaAt w0 b off n pk g wr))
     case atStart => exact ⟨0, g, rfl, by rw [Nat.zero_add], Nat.zero_le _, Nat.le_refl _, HIn, RowsTo.start _ _ _, H⟩
     case round =>
      clear H HIn
      obtain ⟨x, g, rfl, rfl, hxn, hgk3, HIn, HRo, H⟩ := hrel
      obtain ⟨y, hy⟩ : ∃ y, x + C = y := ⟨_, rfl⟩
      obtain ⟨m, hm⟩ : ∃ m, x + B = m := ⟨_, rfl⟩
      have HY : Hid (x + C = y ∧ x + B = m ∧ m + B = y) := ⟨hy, hm, by have := HCB.out; omega⟩
      have wm : (x : Int) + (B : Int) = (m : Int) := by omega
      rw [hy]
      by_cases hle : y ≤ n
      ·
       have hlez : (y : Int) ≤ (n : Int) := by omega
       have o1 : OwnRow (tickBy pk) g x m := by
        have := HIn.out.first (by have := HCB.out; omega)
        rwa [show min (x + B) n = m by have := HCB.out; omega] at this
       have o2 : OwnRow (tickBy pk) g m y := by
        have := HIn.out.rest.first (by have := HCB.out; omega)
        rwa [show min (x + B + B) n = y by have := HCB.out; omega, hm] at this
       have HC := HSym.out g x m y wr H.out (by have := HCB.out; omega) (by have := HCB.out; omega) hle o1 o2
       have HC' : Hid (Calls Tryz.prog 152 #[.slice (some ⟨b, off, none⟩) n cap, .int .i64 (x : Int), .int .i64 (m : Int), .int .i64 (y : Int), .func (.func 82) #[] #[]] wr fun e w' => e = .returned (.tuple #[]) ∧ ∃ g', Merged (tickBy pk) g g' x y ∧ OwnRow (tickBy pk) g' x y ∧ StaAt w0 b off n pk g' w') := HC
       obtain ⟨z, hz⟩ : ∃ z, y + C = z := ⟨_, rfl⟩
       have wy : (y : Int) + (C : Int) = (z : Int) := by omega
       have HZ : Hid (y + C = z) := hz
       clear hz
       clear HC H hy hm o1 o2
       go_wp2_with fail
       refine HC'.out.mono ?_
       rintro _ w2 ⟨rfl, g', hM, ho, h1⟩
       have H1 : Hid (StaAt w0 b off n pk g' w2) := h1
       have HIn' : Hid (InRows (tickBy pk) g' B n y) := by
        have h2 := HIn.out.rest.rest
        rw [show x + B + B = y by have := HY.out; omega] at h2
        exact h2.congr fun i hi => hM.1.out i (.inr hi)
       have HRo' : Hid (RowsTo (tickBy pk) g' C n y) := by
        have e := HY.out.1
        show RowsTo _ _ _ _ _
        rw [← e]
        refine HRo.out.on (fun i hi => hM.1.out i (.inl hi)) ?_
        rw [show min (x + C) n = y by omega]
        exact ho
       clear h1 hM ho HC' HIn HRo
       go_wp2_with fail
       go_roundg (n - y)
       case measure => have := HY.out; have := HCB.out; omega
       case rel => exact ⟨y, g', rfl, by rw [HZ.out], hle, Nat.le_refl _, HIn', HRo', H1⟩
      ·
       have hlez : ¬ (y : Int) ≤ (n : Int) := by omega
       have wC : (B : Int) * 2 = (C : Int) := by have := HCB.out; omega
       by_cases hmn : m < n
       ·
        have hmz : (m : Int) < (n : Int) := by omega
        have o1 : OwnRow (tickBy pk) g x m := by
         have := HIn.out.first (by have := HCB.out; omega)
         rwa [show min (x + B) n = m by have := HCB.out; omega] at this
        have o2 : OwnRow (tickBy pk) g m n := by
         have := HIn.out.rest.first (by have := HCB.out; omega)
         rwa [show min (x + B + B) n = n by have := HCB.out; omega, hm] at this
        have HC := HSym.out g x m n wr H.out (by have := HCB.out; omega) hmn (Nat.le_refl _) o1 o2
        have HC' : Hid (Calls Tryz.prog 152 #[.slice (some ⟨b, off, none⟩) n cap, .int .i64 (x : Int), .int .i64 (m : Int), .int .i64 (n : Int), .func (.func 82) #[] #[]] wr fun e w' => e = .returned (.tuple #[]) ∧ ∃ g', Merged (tickBy pk) g g' x n ∧ OwnRow (tickBy pk) g' x n ∧ StaAt w0 b off n pk g' w') := HC
        clear HC H hy hm o1 o2
        go_wp2_with fail
        refine HC'.out.mono ?_
        rintro _ w2 ⟨rfl, g', hM, ho, h1⟩
        have H1 : Hid (StaAt w0 b off n pk g' w2) := h1
        have HIn' : Hid (InRows (tickBy pk) g' C n 0) := HRo.out.last (fun i hi => hM.1.out i (.inl hi)) (by have := HY.out; omega) (fun _ => ho)
        clear h1 hM ho HC' HIn HRo
        go_wp2_with fail
        go_roundg (n - C)
        case measure => have := HCB.out; omega
        case rel => exact ⟨C, g', by go_num, by have := HCB.out; omega, by have := HCB.out; omega, Nat.le_refl _, HIn', H1⟩
       ·
        have hmz : ¬ (m : Int) < (n : Int) := by omega
        have HIn' : Hid (InRows (tickBy pk) g C n 0) := HRo.out.last (fun i _ => rfl) (by have := HY.out; omega) (fun hx => by
         have := HIn.out.first hx
         rwa [show min (x + B) n = n by have := HY.out; omega] at this)
        clear hy hm HIn HRo
        go_wp2_with fail
        go_roundg (n - C)
        case measure => have := HCB.out; omega
        case rel => exact ⟨C, g, by go_num, by have := HCB.out; omega, by have := HCB.out; omega, Nat.le_refl _, HIn', H⟩
    ·
     have hBz : ¬ (B : Int) < (n : Int) := by omega
     have HO : Hid (IsOrder (tickBy pk) n ((List.range n).map g)) := HIn.out.order (by omega)
     clear HIn
     go_wp2_with fail
     go_end0
     exact ⟨rfl, g, HO.out, H.out⟩
set_option maxRecDepth 100000 in
theorem sortStable_ok (w0 : World) (b off n cap : Nat) (pk : Nat → Pk) (w : World) (h : StaAt w0 b off n pk (fun i => i) w) (hn : n ≤ 1000) :
  Calls Tryz.prog 81 #[.slice (some ⟨b, off, none⟩) n cap, .func (.func 82) #[] #[]] w fun e w' => e = .returned (.tuple #[]) ∧ ∃ g, IsOrder (tickBy pk) n ((List.range n).map g) ∧ StaAt w0 b off n pk g w' := by
 have HC : Hid (Calls Tryz.prog 127 #[.slice (some ⟨b, off, none⟩) n cap, .int .i64 (n : Int), .func (.func 82) #[] #[]] w fun e w' => e = .returned (.tuple #[]) ∧ ∃ g, IsOrder (tickBy pk) n ((List.range n).map g) ∧ StaAt w0 b off n pk g w') := stable_ok w0 b off n cap pk w h hn
 clear h
 go_enter Tryz.func81, Tryz.ntmps81
 go_wp2_with fail
 refine HC.out.mono ?_
 rintro _ w1 ⟨rfl, g, h1, h2⟩
 have HE : Hid (IsOrder (tickBy pk) n ((List.range n).map g) ∧ StaAt w0 b off n pk g w1) := ⟨h1, h2⟩
 clear h1 h2
 go_wp2_with fail
 go_end0
 exact ⟨rfl, g, HE.out⟩
end Go.Proofs.YtibhkijaafdkoaaGreatDoor

namespace Go.Proofs.YtibhkijaafdkoaaGreatDoor
open Go.RowKit
theorem numbersOf_none (pa : Option Addr) (pcap : Nat) (f : Int) (w : World) : Calls Tryz.prog 125 #[.slice pa 0 pcap, .int .i64 f] w fun e w' => e = .returned (.slice none 0 0) ∧ w' = w := by
 go_enter Tryz.func125, Tryz.ntmps125
 go_wp2_with fail
 refine wp_loop_rounds 1 ?_
 rw [rounds_succ]
 go_wp2_with fail
 go_ret
 exact ⟨rfl, rfl⟩
set_option maxRecDepth 100000 in
set_option maxHeartbeats 1000000 in
theorem insertion_none (pa : Option Addr) (pcap : Nat) (fv : Value) (w : World) : Calls Tryz.prog 151 #[.slice pa 0 pcap, .int .i64 0, .int .i64 0, fv] w fun e w' => e = .returned (.tuple #[]) ∧ w' = w := by
 go_enter Tryz.func151, Tryz.ntmps151
 go_wp2_with fail
 refine wp_loop_rounds 1 ?_
 rw [rounds_succ]
 go_wp2_with fail
 go_end0
 exact ⟨rfl, rfl⟩
set_option maxRecDepth 100000 in
set_option maxHeartbeats 1000000 in
theorem stable_none (pa : Option Addr) (pcap : Nat) (fv : Value) (w : World) : Calls Tryz.prog 127 #[.slice pa 0 pcap, .int .i64 0, fv] w fun e w' => e = .returned (.tuple #[]) ∧ w' = w := by
 have HI : Hid (∀ W, Calls Tryz.prog 151 #[.slice pa 0 pcap, .int .i64 0, .int .i64 0, fv] W fun e w' => e = .returned (.tuple #[]) ∧ w' = W) := fun W => insertion_none pa pcap fv W
 go_enter Tryz.func127, Tryz.ntmps127
 go_wp2_with fail
 refine wp_loop_rounds 1 ?_
 rw [rounds_succ]
 go_wp2_with fail
 refine (HI.out _).mono ?_
 rintro e w1 ⟨rfl, rfl⟩
 go_wp2_with fail
 refine wp_loop_rounds 1 ?_
 rw [rounds_succ]
 go_wp2_with fail
 go_end0
 exact ⟨rfl, rfl⟩
theorem sortStable_none (pa : Option Addr) (pcap : Nat) (fv : Value) (w : World) : Calls Tryz.prog 81 #[.slice pa 0 pcap, fv] w fun e w' => e = .returned (.tuple #[]) ∧ w' = w := by
 have HI : Hid (∀ W, Calls Tryz.prog 127 #[.slice pa 0 pcap, .int .i64 0, fv] W fun e w' => e = .returned (.tuple #[]) ∧ w' = W) := fun W => stable_none pa pcap fv W
 go_enter Tryz.func81, Tryz.ntmps81
 go_wp2_with fail
 refine (HI.out _).mono ?_
 rintro e w1 ⟨rfl, rfl⟩
 go_wp2_with fail
 go_end0
 exact ⟨rfl, rfl⟩
set_option maxRecDepth 100000 in
set_option maxHeartbeats 1000000 in
theorem shapeFlow_none (la : Option Addr) (lcap : Nat) (ls : List (Int × Int)) (pa : Option Addr) (pcap : Nat) (f : Int) (w : World) (ad : Nat → Addr) (he : Errs9 w ad) (hl : Lies w la ls) (hk : okCurve ls) :
  Calls Tryz.prog 80 #[.slice la ls.length lcap, .slice pa 0 pcap, .int .i64 f] w fun e w' => e = .returned (.int .i64 0) ∧ Below w.heap.size w w' := by
 have HNu : Hid (∀ W, Calls Tryz.prog 125 #[.slice pa 0 pcap, .int .i64 f] W fun e w' => e = .returned (.slice none 0 0) ∧ w' = W) := fun W => numbersOf_none pa pcap f W
 have hmk := make_pkts 0 (by omega)
 have hb0 : Below w.heap.size w (w.alloc (.cells (madeCells #[.int .i64 0, .int .i64 0, .int .i64 0] (0 * 3)) 52)) := (Below.refl _ _).alloc (Nat.le_refl _) _
 have HB0 : Hid (Below w.heap.size w (w.alloc (.cells (madeCells #[.int .i64 0, .int .i64 0, .int .i64 0] (0 * 3)) 52))) := hb0
 have HSh : Hid (Calls Tryz.prog 126 #[.slice la ls.length lcap, .slice (some ⟨w.heap.size, 0, none⟩) 0 0] (w.alloc (.cells (madeCells #[.int .i64 0, .int .i64 0, .int .i64 0] (0 * 3)) 52)) fun e w' => ShapeEnd ls [] ad (w.alloc (.cells (madeCells #[.int .i64 0, .int .i64 0, .int .i64 0] (0 * 3)) 52)) e w') := shape_any la lcap ls (some ⟨w.heap.size, 0, none⟩) 0 [] _ ad (he.below hb0).four (hl.below hb0) hk (.inl rfl) okPks_none
 clear he hl hk hb0
 simp only [Int.ofNat_zero, Nat.zero_mul] at hmk HB0 HSh
 go_enter Tryz.func80, Tryz.ntmps80
 go_wp2_with fail
 refine (HNu.out _).mono ?_
 rintro e w1 ⟨rfl, rfl⟩
 go_wp2_with fail
 refine wp_loop_rounds 1 ?_
 rw [rounds_succ]
 go_wp2_with fail
 refine HSh.out.mono ?_
 rintro e w3 ⟨hb3, ⟨s, D, -, rfl, -, -⟩ | ⟨j, p, s, F, hj, -⟩⟩
 ·
  have HB3 : Hid (Below w1.heap.size w1 (w3.alloc (.cells #[.pointer none] 110))) := by
   have h3 := HB0.out.trans (hb3.mono HB0.out.size)
   exact h3.alloc h3.size _
  have HAs : Hid (∀ W, Calls Tryz.prog 70 #[.nilIface, .iface 135 (.pointer (some ⟨w3.heap.size, 0, none⟩))] W fun ev w' => ev = .returned (.bool false) ∧ w' = W) := fun W => as_nil _ W
  clear hb3 HSh
  go_wp2_with fail
  refine (HAs.out _).mono ?_
  rintro e w5 ⟨rfl, rfl⟩
  go_wp2_with fail
  refine wp_loop_rounds 1 ?_
  rw [rounds_succ]
  go_wp2_with fail
  go_ret
  exact ⟨rfl, HB3.out⟩
 · simp at hj
end Go.Proofs.YtibhkijaafdkoaaGreatDoor

namespace Go.Proofs.YtibhkijaafdkoaaGreatDoor
open Go.RowKit
def ShapeAllEnd (cs : List (List (Int × Int))) (ps : List Pk) (ad : Nat → Addr) (w : World) (e : Ending) (w' : World) : Prop :=
 Below w.heap.size w w' ∧ ((∃ (i F : Nat), NeverAt (curveFl cs) ps i ∧ (∀ j, j < i → ¬ NeverAt (curveFl cs) ps j) ∧ e = .returned (.tuple #[.slice none 0 0, .iface 110 (.pointer (some ⟨F, 0, none⟩))]) ∧ w'.cell? ⟨F, 0, none⟩ = some (.int .i64 (i : Int)) ∧ w'.cell? ⟨F, 1, none⟩ = some (.iface 271 (.pointer (some (ad 3))))) ∨
  (∃ qa qcap at_ L, (∀ i, ¬ NeverAt (curveFl cs) ps i) ∧ Shaped (curveFl cs) ps at_ ∧ IsOrder at_ ps.length L ∧ e = .returned (.tuple #[.slice qa (gatePks ps at_ L).length qcap, .nilIface]) ∧ PksLie w' qa qcap (gatePks ps at_ L)))
structure FlowsAt (ps : List Pk) (f : Nat) (xs : Nat → Pk) : Prop where
 flow : ∀ i p, ps[i]? = some p → (xs i).flow = p.flow ∧ (xs i).size = p.size
 left : ∀ i p, ps[i]? = some p → f ≤ flowOf ps i → xs i = p
def tickAt (n : Nat) (xs : Nat → Pk) (i : Nat) : Int := if i < n then (xs i).tick else 0
section
variable {cs : Nat → List (Int × Int)} {ps : List Pk} {f : Nat} {z : Int} {xs ys : Nat → Pk}
theorem FlowsAt.nums (ho : OkPks ps) (h : FlowsAt ps f xs) : ∀ i, i < ps.length → ((xs i).flow == (f : Int)) = (flowOf ps i == f) := fun i hi => by
 have e : ps[i]? = some ps[i] := List.getElem?_eq_getElem hi
 rw [(h.flow i _ e).1]
 have := flow_is ho e f
 by_cases hf : flowOf ps i = f
 · rw [beq_iff_eq.2 (this.2 hf), beq_iff_eq.2 hf]
 · rw [beq_eq_false_iff_ne.2 (fun h' => hf (this.1 h')), beq_eq_false_iff_ne.2 hf]
theorem FlowsAt.own (ho : OkPks ps) (h : FlowsAt ps f xs) : ∀ (r i : Nat), (numTo ps f ps.length)[r]? = some i → (ownTo ps f ps.length)[r]? = some (xs i) := fun r i hr => by
 obtain ⟨g1, g2, -, g4⟩ := (own_num ho f ps.length (Nat.le_refl _)).2 r i hr
 have e : ps[i]? = some ps[i] := List.getElem?_eq_getElem g1
 rw [g4, e, h.left i _ e (by omega)]
theorem flows_skip (ho : OkPks ps) (hc : cs f = []) (h : FlowsAt ps f xs) (hd : FlowsDone cs ps f z (tickAt ps.length xs)) : FlowsAt ps (f + 1) xs ∧ FlowsDone cs ps (f + 1) z (tickAt ps.length xs) := by
 refine ⟨⟨h.flow, fun i p hi hf => h.left i p hi (by omega)⟩, hd.shaped ho (out := ownTo ps f ps.length) (by unfold shapedFl; rw [if_pos hc]) (fun r i hr => ?_) (fun _ _ => rfl)⟩
 have hlt := ((own_num ho f ps.length (Nat.le_refl _)).2 r i hr).1
 unfold tickAt
 rw [if_pos hlt, tickOf_get (h.own ho r i hr)]
theorem flows_shape (ho : OkPks ps) (hk : okCurve (cs f)) (hne : cs f ≠ []) (h : FlowsAt ps f xs) (hd : FlowsDone cs ps f z (tickAt ps.length xs)) {s : Sh} (hs : shape (cs f) (ownTo ps f ps.length) = some s) (h1 : ∀ (r i : Nat), (numTo ps f ps.length)[r]? = some i → s.out[r]? = some (ys i)) (h2 : ∀ i, i < ps.length → i ∉ numTo ps f ps.length → ys i = xs i) : FlowsAt ps (f + 1) ys ∧ FlowsDone cs ps (f + 1) z (tickAt ps.length ys) := by
 have hown := (own_ok ho f ps.length (Nat.le_refl _)).1
 have hg := shape_good hk _ s hown hs
 refine ⟨⟨fun i p hi => ?_, fun i p hi hf => ?_⟩, hd.shaped ho (out := s.out) (by unfold shapedFl; rw [if_neg hne, hs]; rfl) (fun r i hr => ?_) (fun i hi => ?_)⟩
 ·
  by_cases hm : i ∈ numTo ps f ps.length
  ·
   obtain ⟨r, hr, e⟩ := List.getElem_of_mem hm
   have e2 : (numTo ps f ps.length)[r]? = some i := by rw [List.getElem?_eq_getElem hr, e]
   have := hg.each r _ _ (h.own ho r i e2) (h1 r i e2)
   rw [this.1, this.2.1]
   exact h.flow i p hi
  ·
   rw [h2 i (lt_of_get hi) hm]
   exact h.flow i p hi
 ·
  have hm : i ∉ numTo ps f ps.length := fun hm => by have := (num_mem.1 hm).2; omega
  rw [h2 i (lt_of_get hi) hm]
  exact h.left i p hi (by omega)
 ·
  have hlt := ((own_num ho f ps.length (Nat.le_refl _)).2 r i hr).1
  unfold tickAt
  rw [if_pos hlt, tickOf_get (h1 r i hr)]
 ·
  unfold tickAt
  by_cases hlt : i < ps.length
  · rw [if_pos hlt, if_pos hlt, h2 i hlt hi]
  · rw [if_neg hlt, if_neg hlt]
theorem flows_stuck (ho : OkPks ps) (hne : cs f ≠ []) (h : FlowsAt ps f xs) (hd : FlowsDone cs ps f z (tickAt ps.length xs)) {r i : Nat} {p : Pk} {s : Sh} (hr : (numTo ps f ps.length)[r]? = some i) (h1 : (ownTo ps f ps.length)[r]? = some p) (h2 : shape (cs f) ((ownTo ps f ps.length).take r) = some s) (h3 : shStep s p = none) : FlowsAt ps (f + 1) xs ∧ FlowsDone cs ps (f + 1) (if z < 0 ∨ (i : Int) < z then (i : Int) else z) (tickAt ps.length xs) := by
 obtain ⟨g1, g2⟩ := never_num ho hne hr h1 h2 h3
 exact ⟨⟨h.flow, fun j q hj hf => h.left j q hj (by omega)⟩, hd.stuck ho g1 g2⟩
end
def stuckAt (n : Nat) (z : Int) : Int := if z < 0 then (n : Int) else z
theorem gatePk_at {ps : List Pk} {xs : Nat → Pk} (h : ∀ i p, ps[i]? = some p → (xs i).flow = p.flow ∧ (xs i).size = p.size) {i : Nat} (hi : i < ps.length) : gatePk ps (tickAt ps.length xs) i = xs i := by
 have e : ps[i]? = some ps[i] := List.getElem?_eq_getElem hi
 obtain ⟨h1, h2⟩ := h i _ e
 rw [gatePk_get e, ← h1, ← h2]
 unfold tickAt
 rw [if_pos hi]
theorem liesP_row {w : World} {g off n : Nat} {pk : Nat → Pk} {h : Nat → Nat} (hr : RowP w g off n pk h) : LiesP w (some ⟨g, off, none⟩) (((List.range n).map h).map pk) := by
 refine .inr ⟨g, off, rfl, hr.lt, fun i p hi => ?_⟩
 have hin : i < n := by have := lt_of_get hi; simpa using this
 have e : pk (h i) = p := by simpa [hin] using hi
 have c0 := hr.c0 i hin
 have c1 := hr.c1 i hin
 have c2 := hr.c2 i hin
 rw [e] at c0 c1 c2
 exact ⟨c0, c1, c2⟩
theorem row_of_own {w : World} {B g cap : Nat} {ps : List Pk} (h : OwnP w B (.slice (some ⟨g, 0, none⟩) ps.length cap) ps) (hg : g < w.heap.size) : RowP w g 0 ps.length (fun i => ps.getD i ⟨0, 0, 0⟩) (fun i => i) := by
 refine ⟨hg, fun i hi => ?_, fun i hi => ?_, fun i hi => ?_, fun j => World.ownsRow.frozenAt h j⟩
 all_goals
  have e : ps[i]? = some ps[i] := List.getElem?_eq_getElem hi
  have hc := cellsP_get ps i ps[i] e
  rw [Nat.zero_add, World.ownsRow.cellAt h _ (by omega)]
  simp only [List.getD, e, Option.getD_some]
 · exact hc.1
 · exact hc.2.1
 · exact hc.2.2
end Go.Proofs.YtibhkijaafdkoaaGreatDoor
