/- Walks: lowest. -/
import Derived.Test.YtcldgpbimaoliaaDoorLow1
namespace Go.Proofs.YtcldgpbimaoliaaDoor
open Go.RowKit

theorem lowT_snoc (l : List (Int × Int)) : ∀ (T : List (Int × Int)) (x : Int × Int), lowT T (l ++ [x]) = x :: popT x (lowT T l) := by
  induction l with
  | nil => intro T x; rfl
  | cons y r ih => intro T x; exact ih _ x
theorem popT_sub (x : Int × Int) (T : List (Int × Int)) : ∀ p, p ∈ popT x T → p ∈ T := by
  induction T with
  | nil => intro p hp; exact hp
  | cons t r ih =>
    intro p hp
    unfold popT at hp
    split at hp
    · exact List.mem_cons_of_mem _ (ih p hp)
    · exact hp
theorem popT_len (x : Int × Int) (T : List (Int × Int)) : (popT x T).length ≤ T.length := by
  induction T with
  | nil => exact Nat.le_refl _
  | cons t r ih =>
    unfold popT
    split
    · simp; omega
    · exact Nat.le_refl _
theorem lowT_sub (l : List (Int × Int)) : ∀ T p, p ∈ lowT T l → p ∈ T ∨ p ∈ l := by
  induction l with
  | nil => intro T p hp; exact .inl hp
  | cons x r ih =>
    intro T p hp
    rcases ih (x :: popT x T) p hp with h | h
    · rcases List.mem_cons.1 h with rfl | h
      · exact .inr (List.mem_cons_self ..)
      · exact .inl (popT_sub x T p h)
    · exact .inr (List.mem_cons_of_mem _ h)
theorem lowT_len (l : List (Int × Int)) : ∀ T, (lowT T l).length ≤ T.length + l.length := by
  induction l with
  | nil => intro T; exact Nat.le_refl _
  | cons x r ih =>
    intro T
    have := ih (x :: popT x T)
    have := popT_len x T
    show (lowT (x :: popT x T) r).length ≤ _
    simp at *
    omega
theorem block_after {w w' : World} {b : Nat} {o : Obj} (hb : Below w.heap.size w w') (h : w.heap[b]? = some o) : w'.heap[b]? = some o := by
  rw [hb.block b ?_]; exact h
  rcases Nat.lt_or_ge b w.heap.size with h' | h'
  · exact h'
  · simp [Array.getElem?_eq_none h'] at h
theorem OwnL.later {w w' : World} {B : Nat} {v : Value} {ls : List (Int × Int)} (h : OwnL w B v ls) (hb : Below w.heap.size w w') : OwnL w' B v ls := by
  obtain ⟨h1, h2 | ⟨g, cap, cur, hv, hB, hg, r⟩⟩ := h
  · exact ⟨h1, .inl h2⟩
  · exact ⟨h1, .inr ⟨g, cap, cur, hv, hB, block_after hb hg, r⟩⟩
/-- The top is struck. -/
theorem OwnL.pop {w : World} {B g cap : Nat} {t : Int × Int} {r : List (Int × Int)} (h : OwnL w B (.slice (some ⟨g, 0, none⟩) (r.length + 1) cap) (t :: r).reverse) : OwnL w B (.slice (some ⟨g, 0, none⟩) r.length cap) r.reverse := by
  unfold OwnL at *
  rw [List.reverse_cons, cellsL_append, List.length_append, List.length_reverse] at h
  rw [List.length_reverse]
  exact ownsRow_pop (by rw [cellsL_length, List.length_reverse]) h
theorem OwnL.push {w : World} {B : Nat} {v : Value} {T : List (Int × Int)} {x y : Int} (h : w.ownsRow B 54 2 v (T.length + 1) (cellsL T.reverse ++ [.int .i64 x, .int .i64 y])) : OwnL w B v ((x, y) :: T).reverse := by
  unfold OwnL
  rw [List.reverse_cons, cellsL_append, List.length_append, List.length_reverse]
  exact h
theorem OwnL.grownT {w0 w w' : World} {v : Value} {ls : List (Int × Int)} (hB : Below w0.heap.size w0 w) (ho : OwnL w w0.heap.size v ls) (hg : w.grownBy w' v.ownBlock) : Below w0.heap.size w0 w' :=
  hB.grown hg hB.size fun k hk => (World.ownsRow.lt ho k hk).1
theorem ints_oneT (x y : Int) : ∀ u ∈ [Value.int .i64 x, .int .i64 y], u.oneCell' = true := by
  intro u hu
  simp at hu
  rcases hu with rfl | rfl <;> rfl
theorem news_newT (w : World) (x y : Int) : ∀ j u, [Value.int .i64 x, .int .i64 y][j]? = some u → (w.alloc (.cells #[.int .i64 x, .int .i64 y] 54)).cell? ((⟨w.heap.size, 0, none⟩ : Addr).add j) = some u := by
  intro j u h
  match j, h with
  | 0, h => simp at h; subst h; simp [Addr.add]
  | 1, h => simp at h; subst h; simp [Addr.add]
  | j + 2, h => simp at h

set_option maxRecDepth 100000 in
set_option maxHeartbeats 2000000 in
theorem lowest_ok (ad : Addr) (cap : Nat) (ls : List (Int × Int)) (w : World) (hl : Lies w (some ad) ls) (h1 : 1 ≤ ls.length) (hn : ls.length ≤ 500) (hok : okAll ls) :
    Calls Tryd.prog 60 #[.slice (some ad) ls.length cap] w fun e w' => ∃ v ls', e = .returned v ∧ ls'.Perm ls ∧ SortedL ls' ∧ OwnL w' w.heap.size v (lowT [] ls').reverse ∧ Below w.heap.size w w' := by
  have HC := (show Hid (Calls Tryd.prog 86 #[.slice (some ad) ls.length cap] w fun e w' => ∃ g cap' ls', e = .returned (.slice (some ⟨g, 0, none⟩) ls'.length cap') ∧ ls'.Perm ls ∧ SortedL ls' ∧ Lies w' (some ⟨g, 0, none⟩) ls' ∧ Below w.heap.size w w') from steepest_ok ad cap ls w hl h1 (by omega))
  have HO : Hid (okAll ls) := hok
  obtain ⟨i0, hi, hz0, hz1, hz2⟩ := info_parts Tryd.infoLine
  clear hl hok
  go_enter Tryd.func60, Tryd.ntmps60
  go_wp2_with fail
  refine HC.out.mono ?_
  rintro e W ⟨g, cap', ls', rfl, hp, hs, hl', hbW⟩
  have hlen : ls'.length ≤ 500 := by rw [hp.length_eq]; exact hn
  have HP : Hid (ls'.Perm ls ∧ SortedL ls' ∧ Below w.heap.size w W) := ⟨hp, hs, hbW⟩
  have HO' : Hid (okAll ls') := fun p hp' => HO.out p (hp.mem_iff.1 hp')
  have HL : Hid (Lies W (some ⟨g, 0, none⟩) ls') := hl'
  clear hp hs hl' hbW
  go_wp2_with fail
  go_loopg [3, 9] ls'.length (fun gk v i wr => ∃ k : Nat, gk + k = ls'.length ∧ i = .int .i64 k ∧ OwnL wr W.heap.size v (lowT [] (ls'.take k)).reverse ∧ Below W.heap.size W wr)
  case atStart => exact ⟨0, rfl, rfl, World.ownsRow_nil _ _ _ _, Below.refl _ _⟩
  case round =>
    obtain ⟨k, hgk, rfl, hown, hbr⟩ := hrel
    have HBR : Hid (Below W.heap.size W wr) := hbr
    by_cases hkn : k < ls'.length
    · obtain ⟨⟨x, y⟩, hp, hmem⟩ := get_some ls' k hkn
      obtain ⟨b, off, hge, hlt, hc⟩ := HL.out.some (by omega)
      injection hge with hge
      injection hge with hb1 hb2
      subst hb1 hb2
      have c1 : wr.cell? ⟨g, k * 2, none⟩ = some (.int .i64 x) := by have := cell_later hbr (hc k x y hp).1; simpa using this
      have c2 : wr.cell? ⟨g, k * 2 + 1, none⟩ = some (.int .i64 y) := by have := cell_later hbr (hc k x y hp).2; simpa using this
      have HX : Hid (okLine x y = true) := HO'.out _ hmem
      have hts : ls'.take (k + 1) = ls'.take k ++ [(x, y)] := by rw [List.take_add_one, hp]; rfl
      have HS : Hid (lowT [] (ls'.take (k + 1)) = (x, y) :: popT (x, y) (lowT [] (ls'.take k))) := by show _ = _; rw [hts]; exact lowT_snoc _ _ _
      have hTok : okAll (lowT [] (ls'.take k)) := fun p hp' => by
        rcases lowT_sub _ _ p hp' with h | h
        · cases h
        · exact HO'.out p (List.mem_of_mem_take h)
      have hTlen : (lowT [] (ls'.take k)).length ≤ 500 := by have := lowT_len (ls'.take k) []; rw [List.length_take] at this; simp at this; omega
      generalize lowT [] (ls'.take k) = T0 at *
      obtain ⟨a0, n0, k0, rfl⟩ : ∃ a0 n0 k0, u3 = .slice a0 n0 k0 := by obtain ⟨a, c, e, _⟩ := hown.open; exact ⟨_, _, _, e⟩
      have HT : Hid (okAll T0 ∧ T0.length ≤ 500) := ⟨hTok, hTlen⟩
      have hb1 : Below wr.heap.size wr (wr.alloc (.cells #[.int .i64 x, .int .i64 y] 54)) := (Below.refl _ _).alloc (Nat.le_refl _) _
      have hx1 : (wr.alloc (.cells #[.int .i64 x, .int .i64 y] 54)).cell? ⟨wr.heap.size, 0, none⟩ = some (.int .i64 x) := by simp
      have hx2 : (wr.alloc (.cells #[.int .i64 x, .int .i64 y] 54)).cell? ⟨wr.heap.size, 1, none⟩ = some (.int .i64 y) := by simp
      have hown1 := hown.later hb1
      have hbr1 : Below W.heap.size W (wr.alloc (.cells #[.int .i64 x, .int .i64 y] 54)) := hbr.trans (hb1.mono hbr.size)
      clear hc hp hmem hts hTok hTlen hown hbr
      go_wp2_with fail
      generalize wr.alloc (.cells #[.int .i64 x, .int .i64 y] 54) = W1 at *
      have HX1 : Hid (W1.cell? ⟨wr.heap.size, 0, none⟩ = some (.int .i64 x) ∧ W1.cell? ⟨wr.heap.size, 1, none⟩ = some (.int .i64 y)) := ⟨hx1, hx2⟩
      have HBR1 : Hid (Below W.heap.size W W1) := hbr1
      have HOW1 : Hid (OwnL W1 W.heap.size (.slice a0 n0 k0) T0.reverse) := hown1
      clear hx1 hx2 hbr1 hown1 hb1
      obtain ⟨GK, rfl⟩ : ∃ z, z = gk := ⟨gk, rfl⟩
      obtain ⟨wO, rfl⟩ : ∃ z, z = wr := ⟨wr, rfl⟩
      go_loopg [3] T0.length (fun gi v wr2 => ∃ T a1 k1, gi = T.length ∧ v = .slice a1 T.length k1 ∧ OwnL wr2 W.heap.size v T.reverse ∧ popT (x, y) T = popT (x, y) T0 ∧ okAll T ∧ T.length ≤ 500 ∧ Below W1.heap.size W1 wr2)
      case atStart =>
        obtain ⟨a, c, e, _⟩ := HOW1.out.open
        injection e with e1 e2 e3
        rw [List.length_reverse] at e2
        subst e2
        exact ⟨T0, a0, k0, rfl, rfl, HOW1.out, rfl, HT.out.1, HT.out.2, Below.refl _ _⟩
      case round =>
        obtain ⟨T, a1, k1, hgi, rfl, hown2, hpop, hTok, hTlen, hb2⟩ := hrel
        have HPop : Hid (popT (x, y) T = popT (x, y) T0) := hpop
        have HB12 : Hid (Below W1.heap.size W1 wr) := hb2
        have HB2 : Hid (Below W.heap.size W wr) := HBR1.out.trans (hb2.mono HBR1.out.size)
        have HTok : Hid (okAll T) := hTok
        have y1 := cell_later hb2 HX1.out.1
        have y2 := cell_later hb2 HX1.out.2
        have HOW : Hid (OwnL wr W.heap.size (.slice a1 T.length k1) T.reverse) := hown2
        clear hpop hb2 hTok hown2
        match T, hgi, hTlen, HPop, HTok, HOW with
        | [], hgi, hTlen, HPop, HTok, HOW =>
          have HOWr : Hid (wr.ownsRow W.heap.size 54 2 (.slice a1 0 k1) 0 (cellsL ([] : List (Int × Int)).reverse)) := HOW.out
          go_wp2_with (at_builtin; refine wpList_append_own _ rfl _ _ 35 rfl W.heap.size 54 i0 (.agg #[.int .i64 0, .int .i64 0]) 2 16 Tryd.underlying35 hi hz0 hz1 hz2 rfl (by decide) (.slice a1 0 k1) 0 (cellsL ([] : List (Int × Int)).reverse) rfl (HOWr.out.alloc _) ⟨wr.heap.size, 0, none⟩ 1 1 [.int .i64 x, .int .i64 y] rfl rfl (news_newT wr x y) (ints_oneT x y) (by unfold maxLen; omega) (by omega) (Nat.le_trans HB2.out.size (by simp)) ?_; intro v3 w3 hown3 hgrow3 _)
          have HB3 : Hid (Below W.heap.size W w3) := OwnL.grownT (ls := ([] : List (Int × Int)).reverse) (HB2.out.alloc HB2.out.size _) (by unfold OwnL; rw [List.length_reverse]; exact HOWr.out.alloc _) hgrow3
          have HO3 : Hid (OwnL w3 W.heap.size v3 ((x, y) :: ([] : List (Int × Int))).reverse) := OwnL.push hown3
          obtain ⟨a3, n3, k3, rfl⟩ : ∃ a3 n3 k3, v3 = .slice a3 n3 k3 := by obtain ⟨a, c, e, _⟩ := HO3.out.open; exact ⟨_, _, _, e⟩
          clear hown3 hgrow3
          go_wp2_with fail
          go_roundg (GK - 1)
          case measure => omega
          case rel => exact ⟨k + 1, by omega, by go_num, by rw [HS.out, ← HPop.out, show popT (x, y) [] = [] from rfl]; exact HO3.out, HB3.out⟩
        | t :: r, hgi, hTlen, HPop, HTok, HOW =>
          have HOWr : Hid (wr.ownsRow W.heap.size 54 2 (.slice a1 (r.length + 1) k1) (r.length + 1) (cellsL (t :: r).reverse)) := by have := HOW.out; unfold OwnL at this; rw [List.length_reverse] at this; exact this
          obtain ⟨g1, cp1, hv1, hg1, hg2⟩ := World.ownsRow.form HOWr.out (Nat.succ_pos _)
          injection hv1 with hv1 _ hv3
          subst hv1 hv3
          have hLies : Lies wr (some ⟨g1, 0, none⟩) (t :: r).reverse := (OwnL.lies HOW.out).2.2.2
          have hcapk : (t :: r).reverse.length ≤ k1 ∧ k1 ≤ maxLen := ⟨(OwnL.lies HOW.out).2.1, (OwnL.lies HOW.out).2.2.1⟩
          rw [List.length_reverse] at hcapk
          obtain ⟨hcap1, hcap2⟩ := hcapk
          simp only [List.length_cons] at hcap1 hTlen
          unfold maxLen at hcap2
          have HCv := (show Hid (Calls Tryd.prog 87 #[.slice (some ⟨g1, 0, none⟩) (r.length + 1) k1, .agg #[.int .i64 x, .int .i64 y]] wr fun e w' => e = .returned (.bool (coveredT (x, y) (t :: r))) ∧ Below wr.heap.size wr w') from covered_ok (some ⟨g1, 0, none⟩) k1 (t :: r) (x, y) wr hLies (by simp) (by simp; omega) HTok.out HX.out)
          clear hLies
          simp only [List.length_cons]
          cases hcov : coveredT (x, y) (t :: r) with
          | true =>
            have HV : Hid (coveredT (x, y) (t :: r) = true) := hcov
            clear hcov
            go_wp2_with fail
            refine HCv.out.mono ?_
            rintro e w4 ⟨rfl, hb4⟩
            rw [HV.out]
            have HB14 : Hid (Below W1.heap.size W1 w4) := HB12.out.trans (hb4.mono HB12.out.size)
            have HOW4 : Hid (OwnL w4 W.heap.size (.slice (some ⟨g1, 0, none⟩) r.length k1) r.reverse) := OwnL.pop (HOW.out.later hb4)
            clear hb4
            go_wp2_with fail
            go_roundg r.length
            case measure => simp at hgi; omega
            case rel =>
              refine ⟨r, some ⟨g1, 0, none⟩, k1, rfl, ?_, ?_, ?_, fun p hp => HTok.out p (List.mem_cons_of_mem _ hp), by omega, HB14.out⟩
              · simp
              · simpa using HOW4.out
              · rw [← HPop.out]
                show popT (x, y) r = popT (x, y) (t :: r)
                conv => rhs; unfold popT
                rw [if_pos HV.out]
          | false =>
            have HV : Hid (coveredT (x, y) (t :: r) = false) := hcov
            clear hcov
            go_wp2_with fail
            refine HCv.out.mono ?_
            rintro e w4 ⟨rfl, hb4⟩
            rw [HV.out]
            have HB4 : Hid (Below W.heap.size W w4) := HB2.out.trans (hb4.mono HB2.out.size)
            have z1 := cell_later hb4 y1
            have z2 := cell_later hb4 y2
            have HOW4 : Hid (w4.ownsRow W.heap.size 54 2 (.slice (some ⟨g1, 0, none⟩) (r.length + 1) k1) (r.length + 1) (cellsL (t :: r).reverse)) := by have := HOW.out.later hb4; unfold OwnL at this; rw [List.length_reverse] at this; exact this
            clear hb4 y1 y2
            go_wp2_with (at_builtin; refine wpList_append_own _ rfl _ _ 35 rfl W.heap.size 54 i0 (.agg #[.int .i64 0, .int .i64 0]) 2 16 Tryd.underlying35 hi hz0 hz1 hz2 rfl (by decide) (.slice (some ⟨g1, 0, none⟩) (r.length + 1) k1) (r.length + 1) (cellsL (t :: r).reverse) rfl (HOW4.out.alloc _) ⟨w4.heap.size, 0, none⟩ 1 1 [.int .i64 x, .int .i64 y] rfl rfl (news_newT w4 x y) (ints_oneT x y) (by unfold maxLen; omega) (by omega) (Nat.le_trans HB4.out.size (by simp)) ?_; intro v3 w3 hown3 hgrow3 _)
            have HB3 : Hid (Below W.heap.size W w3) := OwnL.grownT (ls := (t :: r).reverse) (HB4.out.alloc HB4.out.size _) (by unfold OwnL; rw [List.length_reverse]; exact HOW4.out.alloc _) hgrow3
            have HO3 : Hid (OwnL w3 W.heap.size v3 ((x, y) :: (t :: r)).reverse) := OwnL.push hown3
            obtain ⟨a3, n3, k3, rfl⟩ : ∃ a3 n3 k3, v3 = .slice a3 n3 k3 := by obtain ⟨a, c, e, _⟩ := HO3.out.open; exact ⟨_, _, _, e⟩
            clear hown3 hgrow3
            go_wp2_with fail
            go_roundg (GK - 1)
            case measure => omega
            case rel => exact ⟨k + 1, by omega, by go_num, by rw [HS.out, ← HPop.out, show popT (x, y) (t :: r) = t :: r by unfold popT; rw [if_neg (by rw [HV.out]; decide)]]; exact HO3.out, HB3.out⟩
    · have hk' : k = ls'.length := by omega
      subst hk'
      rw [List.take_length] at hown
      obtain ⟨a0, n0, k0, rfl⟩ : ∃ a0 n0 k0, u3 = .slice a0 n0 k0 := by obtain ⟨a, c, e, _⟩ := hown.open; exact ⟨_, _, _, e⟩
      have HOW : Hid (OwnL wr W.heap.size (.slice a0 n0 k0) (lowT [] ls').reverse) := hown
      clear hown hbr
      go_wp2_with fail
      go_ret
      exact ⟨_, ls', rfl, HP.out.1, HP.out.2.1, ownsRow_mono HOW.out HP.out.2.2.size, HP.out.2.2.trans (HBR.out.mono HP.out.2.2.size)⟩
end Go.Proofs.YtcldgpbimaoliaaDoor
