/- Own facts, put together: no statement of its own. -/
import Derived.Test.YtibhkijaafdkoaaGreatDoorK11
import Derived.Test.YtibhkijaafdkoaaGreatDoorK12
namespace Go.Proofs.YtibhkijaafdkoaaGreatDoor
theorem snoc_ind {α : Type} {P : List α → Prop} (h0 : P []) (hs : ∀ l a, P l → P (l ++ [a])) : ∀ l, P l := by
 have h : ∀ l : List α, P l.reverse := by
  intro l
  induction l with
  | nil => exact h0
  | cons a r ih => rw [List.reverse_cons]; exact hs _ _ ih
 intro l
 have := h l.reverse
 rwa [List.reverse_reverse] at this
def allHave (bs : List Bk) (T n : Int) : Prop := ∀ b, b ∈ bs → n * 1000 ≤ b.lev T
def passT : List Bk → Int → Int → Option Int
 | [], t, _ => some t
 | b :: r, t, n => match b.when t n with | none => none | some u => passT r u n
theorem passT_some {n : Int} : ∀ (bs : List Bk) (t T : Int), (∀ b, b ∈ bs → b.Ok) → t ≤ 1099511627776 → passT bs t n = some T → t ≤ T ∧ T ≤ 1099511627776 ∧ allHave bs T n ∧ ∀ s, t ≤ s → s < T → ¬ allHave bs s n := by
 intro bs
 induction bs with
 | nil => intro t T _ t1 e; cases e; exact ⟨Int.le_refl _, t1, (fun b hb => by cases hb), fun s h1 h2 => by omega⟩
 | cons b r ih =>
  intro t T hok t1 e
  unfold passT at e
  split at e
  · cases e
  ·
   rename_i u hu
   have hb := hok b (List.mem_cons_self ..)
   obtain ⟨h1, h2, h3, h4⟩ := b.when_some hb t1 hu
   obtain ⟨h5, h6, h7, h8⟩ := ih u T (fun c hc => hok c (List.mem_cons_of_mem _ hc)) h2 e
   refine ⟨by omega, h6, fun c hc => ?_, fun s h9 h10 h11 => ?_⟩
   ·
    rcases List.mem_cons.1 hc with rfl | hc
    · have := Bk.lev_mono hb.r0 h5; omega
    · exact h7 c hc
   ·
    by_cases h12 : s < u
    ·
     have := h4 s h9 h12
     have := h11 b (List.mem_cons_self ..)
     omega
    · exact h8 s (by omega) h10 (fun c hc => h11 c (List.mem_cons_of_mem _ hc))
structure Sh where
 bs : List Bk
 left : Int
 out : List Pk
def shStep (s : Sh) (p : Pk) : Option Sh := match passT s.bs (max p.tick s.left) p.size with
 | none => none
 | some T => some ⟨s.bs.map fun b => b.take T p.size, T, s.out ++ [⟨p.flow, p.size, T⟩]⟩
def shape (ls : List (Int × Int)) (ps : List Pk) : Option Sh := ps.foldl (fun s p => s.bind fun s => shStep s p) (some ⟨ls.map bkOf, 0, []⟩)
theorem shape_snoc (ls : List (Int × Int)) (ps : List Pk) (p : Pk) : shape ls (ps ++ [p]) = (shape ls ps).bind fun s => shStep s p := by simp [shape, List.foldl_append]
theorem ahead_snoc_lt (ps : List Pk) (p : Pk) (i : Nat) (h : i ≤ ps.length) : ahead (ps ++ [p]) i = ahead ps i := by
 cases i with
 | zero => rfl
 | succ i => simp only [ahead]; rw [List.getElem?_append_left (by omega)]
theorem ahead_snoc_end (ps : List Pk) (p : Pk) : ahead (ps ++ [p]) (ps.length + 1) = p.tick := by
 unfold ahead; simp
theorem okPks_snoc (ps : List Pk) (p : Pk) : OkPks (ps ++ [p]) ↔ OkPks ps ∧ ps.length < 300 ∧ okPk p = true ∧ ahead ps ps.length ≤ p.tick := by
 constructor
 ·
  rintro ⟨h1, h2⟩
  simp at h1
  refine ⟨⟨by omega, fun i q hq => ?_⟩, by omega, ?_, ?_⟩
  ·
   have hi : i < ps.length := by
    rcases Nat.lt_or_ge i ps.length with h | h
    · exact h
    · simp [List.getElem?_eq_none h] at hq
   have := h2 i q (by rw [List.getElem?_append_left hi]; exact hq)
   rwa [ahead_snoc_lt _ _ _ (by omega)] at this
  · exact (h2 ps.length p (by simp)).1
  ·
   have := (h2 ps.length p (by simp)).2
   rwa [ahead_snoc_lt _ _ _ (by omega)] at this
 ·
  rintro ⟨⟨h1, h2⟩, h3, h4, h5⟩
  refine ⟨by simp; omega, fun i q hq => ?_⟩
  by_cases hi : i < ps.length
  ·
   rw [List.getElem?_append_left hi] at hq
   rw [ahead_snoc_lt _ _ _ (by omega)]
   exact h2 i q hq
  ·
   have hl : i = ps.length := by
    rcases Nat.lt_or_ge ps.length i with h | h
    · rw [List.getElem?_eq_none (by simp; omega)] at hq; cases hq
    · omega
   subst hl
   simp at hq
   subst hq
   rw [ahead_snoc_lt _ _ _ (by omega)]
   exact ⟨h4, h5⟩
theorem OkPks.final {ps : List Pk} (h : OkPks ps) : 0 ≤ ahead ps ps.length ∧ ahead ps ps.length ≤ 1099511627776 := by
 cases hn : ps.length with
 | zero => simp [ahead]
 | succ n =>
  have hp : ps[n]? = some ps[n] := by simp [hn]
  have := okPk_true (h.each n _ hp).1
  simp only [ahead]
  rw [hp]
  exact ⟨this.2.2.2.2.1, this.2.2.2.2.2⟩
structure ShGood (ls : List (Int × Int)) (ps : List Pk) (s : Sh) : Prop where
 few : s.bs.length = ls.length
 ok : ∀ b, b ∈ s.bs → b.Ok ∧ b.last = s.left
 pass : ∀ (i : Nat) q b, ls[i]? = some q → s.bs[i]? = some b → Passed q s.out b
 left : s.left = ahead s.out s.out.length
 okOut : OkPks s.out
 len : s.out.length = ps.length
 each : ∀ (i : Nat) p q, ps[i]? = some p → s.out[i]? = some q → q.flow = p.flow ∧ q.size = p.size ∧ p.tick ≤ q.tick
 fits : fitsB ls s.out = true
theorem shGood_none {ls : List (Int × Int)} (h : okCurve ls) : ShGood ls [] ⟨ls.map bkOf, 0, []⟩ := by
 refine ⟨by simp, fun b hb => ?_, fun i q b hq hb => ?_, rfl, okPks_none, rfl, fun i p q hp => by simp at hp, rfl⟩
 ·
  obtain ⟨q, hq, rfl⟩ := List.mem_map.1 hb
  exact ⟨bkOf_ok (h.2.2 q hq), rfl⟩
 ·
  simp [hq] at hb
  subst hb
  exact passed_none q (okLine_true (h.2.2 q (List.mem_of_getElem? hq))).2.2.1
theorem ShGood.have_fits {ls : List (Int × Int)} {ps : List Pk} {s : Sh} (h : ShGood ls ps s) (hk : okCurve ls) (p : Pk) (hp : s.left ≤ p.tick) : allHave s.bs p.tick p.size ↔ lastFits ls s.out p := by
 rw [lastFits_lines ls hk.1]
 constructor
 ·
  intro H q hq
  obtain ⟨i, hi⟩ := List.mem_iff_getElem?.1 hq
  have hlt : i < s.bs.length := by
   rw [h.few]
   rcases Nat.lt_or_ge i ls.length with h | h
   · exact h
   · simp [List.getElem?_eq_none h] at hi
  have hb : s.bs[i]? = some s.bs[i] := by simp [hlt]
  have hm : s.bs[i] ∈ s.bs := List.getElem_mem hlt
  exact ((h.pass i q _ hi hb).fits p (by rw [(h.ok _ hm).2]; exact hp)).1 (H _ hm)
 ·
  intro H b hb
  obtain ⟨i, hi⟩ := List.mem_iff_getElem?.1 hb
  have hlt : i < ls.length := by
   rw [← h.few]
   rcases Nat.lt_or_ge i s.bs.length with h | h
   · exact h
   · simp [List.getElem?_eq_none h] at hi
  have hq : ls[i]? = some ls[i] := by simp [hlt]
  exact ((h.pass i _ b hq hi).fits p (by rw [(h.ok _ hb).2]; exact hp)).2 (H _ (List.getElem_mem hlt))
theorem ShGood.step {ls : List (Int × Int)} {ps : List Pk} {s s' : Sh} {p : Pk} (h : ShGood ls ps s) (hk : okCurve ls) (hp : okPk p = true) (hn : ps.length < 300) (e : shStep s p = some s') : ShGood ls (ps ++ [p]) s' := by
 have ha := h.okOut.final
 rw [← h.left] at ha
 have hpk := okPk_true hp
 unfold shStep at e
 split at e
 · cases e
 ·
  rename_i T hT
  cases e
  obtain ⟨h1, h2, h3, -⟩ := passT_some s.bs _ T (fun b hb => (h.ok b hb).1) (by omega) hT
  have hlast : s.left ≤ T := by omega
  have hT0 : 0 ≤ T := by omega
  refine ⟨by simpa using h.few, fun b hb => ?_, fun i q b hq hb => ?_, ?_, ?_, by simp [h.len], fun i a b ha' hb' => ?_, ?_⟩
  ·
   obtain ⟨c, hc, rfl⟩ := List.mem_map.1 hb
   exact ⟨(h.ok c hc).1.take (by rw [(h.ok c hc).2]; exact hlast) h2 (by omega), Bk.take_last ..⟩
  ·
   simp only [List.getElem?_map, Option.map_eq_some_iff] at hb
   obtain ⟨c, hc, rfl⟩ := hb
   have hcm := List.mem_of_getElem? hc
   exact (h.pass i q c hq hc).pass (h.ok c hcm).1.r0 ⟨p.flow, p.size, T⟩ (by rw [(h.ok c hcm).2]; exact hlast) (h3 c hcm)
  ·
   show T = ahead (s.out ++ [_]) (s.out ++ [_]).length
   rw [List.length_append, List.length_singleton, ahead_snoc_end]
  ·
   rw [okPks_snoc]
   refine ⟨h.okOut, by rw [h.len]; exact hn, okPk_mk ⟨hpk.1, hpk.2.1, hpk.2.2.1, hpk.2.2.2.1, hT0, h2⟩, by rw [← h.left]; exact hlast⟩
  ·
   by_cases hi : i < ps.length
   ·
    rw [List.getElem?_append_left hi] at ha'
    rw [List.getElem?_append_left (by rw [h.len]; exact hi)] at hb'
    exact h.each i a b ha' hb'
   ·
    have hl : i = ps.length := by
     rcases Nat.lt_or_ge ps.length i with h | h
     · rw [List.getElem?_eq_none (by simp; omega)] at ha'; cases ha'
     · omega
    subst hl
    simp at ha'
    subst ha'
    rw [← h.len] at hb'
    simp at hb'
    subst hb'
    exact ⟨rfl, rfl, by show p.tick ≤ T; omega⟩
  ·
   rw [fitsB_snoc]
   exact ⟨h.fits, (h.have_fits hk ⟨p.flow, p.size, T⟩ hlast).1 h3⟩
theorem shape_good {ls : List (Int × Int)} (hk : okCurve ls) : ∀ (ps : List Pk) (s : Sh), OkPks ps → shape ls ps = some s → ShGood ls ps s := by
 refine snoc_ind (fun s _ e => ?_) (fun ps p ih s ho e => ?_)
 · cases e; exact shGood_none hk
 ·
  rw [shape_snoc] at e
  obtain ⟨s0, h0, h1⟩ := Option.bind_eq_some_iff.1 e
  obtain ⟨o1, o2, o3, -⟩ := (okPks_snoc ps p).1 ho
  exact (ih s0 o1 h0).step hk o3 o2 h1
end Go.Proofs.YtibhkijaafdkoaaGreatDoor

namespace Go.Proofs.YtibhkijaafdkoaaGreatDoor
section
variable (ps : List Pk)
def ownTo (f k : Nat) : List Pk := (ps.take k).filter fun p => p.flow == (f : Int)
def numTo (f k : Nat) : List Nat := (List.range k).filter fun i => flowOf ps i == f
def rankIn (i : Nat) : Nat := (numTo ps (flowOf ps i) i).length
variable {ps}
theorem numTo_succ (f k : Nat) : numTo ps f (k + 1) = if flowOf ps k = f then numTo ps f k ++ [k] else numTo ps f k := by
 unfold numTo
 rw [List.range_succ, List.filter_append]
 by_cases h : flowOf ps k = f
 ·
  rw [if_pos h, List.filter_cons, if_pos (by rw [beq_iff_eq]; exact h)]
  rfl
 ·
  rw [if_neg h, List.filter_cons, if_neg (by rw [beq_iff_eq]; exact h)]
  exact List.append_nil _
theorem ownTo_succ {f k : Nat} {p : Pk} (hp : ps[k]? = some p) : ownTo ps f (k + 1) = if p.flow = (f : Int) then ownTo ps f k ++ [p] else ownTo ps f k := by
 unfold ownTo
 rw [List.take_add_one, hp, List.filter_append]
 by_cases h : p.flow = (f : Int)
 ·
  rw [if_pos h]
  congr 1
  show List.filter _ [p] = _
  rw [List.filter_cons, if_pos (by rw [beq_iff_eq]; exact h)]
  rfl
 ·
  rw [if_neg h]
  show _ ++ List.filter _ [p] = _
  rw [List.filter_cons, if_neg (by rw [beq_iff_eq]; exact h)]
  exact List.append_nil _
theorem flow_is (ho : OkPks ps) {k : Nat} {p : Pk} (hp : ps[k]? = some p) (f : Nat) : p.flow = (f : Int) ↔ flowOf ps k = f := by
 have := okPk_true (ho.each _ p hp).1
 rw [flowOf_get hp]
 omega
theorem own_num (ho : OkPks ps) (f : Nat) : ∀ k, k ≤ ps.length → (ownTo ps f k).length = (numTo ps f k).length ∧ ∀ (r i : Nat), (numTo ps f k)[r]? = some i → i < k ∧ flowOf ps i = f ∧ rankIn ps i = r ∧ (ownTo ps f k)[r]? = ps[i]?
 | 0, _ => ⟨rfl, fun r i h => by simp [numTo] at h⟩
 | k + 1, hk => by
  obtain ⟨h1, h2⟩ := own_num ho f k (by omega)
  have e : ps[k]? = some ps[k] := List.getElem?_eq_getElem (by omega)
  rw [numTo_succ, ownTo_succ e]
  by_cases h : flowOf ps k = f
  ·
   rw [if_pos h, if_pos ((flow_is ho e f).2 h)]
   refine ⟨by simp [h1], fun r i hi => ?_⟩
   rcases Nat.lt_or_ge r (numTo ps f k).length with hr | hr
   ·
    rw [List.getElem?_append_left hr] at hi
    obtain ⟨g1, g2, g3, g4⟩ := h2 r i hi
    exact ⟨by omega, g2, g3, by rw [List.getElem?_append_left (by omega)]; exact g4⟩
   ·
    rw [List.getElem?_append_right hr] at hi
    have hr0 : r = (numTo ps f k).length := by
     rcases Nat.eq_zero_or_pos (r - (numTo ps f k).length) with h' | h'
     · omega
     · rw [List.getElem?_eq_none (by simp; omega)] at hi; cases hi
    subst hr0
    rw [Nat.sub_self] at hi
    obtain rfl : k = i := by simpa using hi
    refine ⟨by omega, h, by unfold rankIn; rw [h], ?_⟩
    rw [List.getElem?_append_right (by omega), h1, Nat.sub_self, e]
    rfl
  ·
   rw [if_neg h, if_neg (fun h' => h ((flow_is ho e f).1 h'))]
   exact ⟨h1, fun r i hi => by obtain ⟨g1, g2⟩ := h2 r i hi; exact ⟨by omega, g2⟩⟩
theorem num_rises (f k : Nat) : (numTo ps f k).Pairwise (· < ·) := List.pairwise_lt_range.filter _
theorem num_mem {f k i : Nat} : i ∈ numTo ps f k ↔ i < k ∧ flowOf ps i = f := by
 unfold numTo
 rw [List.mem_filter, List.mem_range, beq_iff_eq]
theorem num_at (ho : OkPks ps) {i k : Nat} (hi : i < k) (hk : k ≤ ps.length) : (numTo ps (flowOf ps i) k)[rankIn ps i]? = some i := by
 have hm : i ∈ numTo ps (flowOf ps i) k := num_mem.2 ⟨hi, rfl⟩
 obtain ⟨r, hr, e⟩ := List.getElem_of_mem hm
 have h2 : (numTo ps (flowOf ps i) k)[r]? = some i := by rw [List.getElem?_eq_getElem hr, e]
 have := ((own_num ho (flowOf ps i) k hk).2 r i h2).2.2.1
 rw [this]
 exact h2
theorem own_ok (ho : OkPks ps) (f : Nat) : ∀ k, k ≤ ps.length → OkPks (ownTo ps f k) ∧ ahead (ownTo ps f k) (ownTo ps f k).length ≤ ahead ps k ∧ (ownTo ps f k).length ≤ k
 | 0, _ => ⟨okPks_none, Int.le_refl _, Nat.le_refl _⟩
 | k + 1, hk => by
  obtain ⟨h1, h2, h3⟩ := own_ok ho f k (by omega)
  have e : ps[k]? = some ps[k] := List.getElem?_eq_getElem (by omega)
  obtain ⟨o1, o2⟩ := ho.each k _ e
  have ea : ahead ps (k + 1) = ps[k].tick := by simp only [ahead, e]
  have hfew := ho.few
  rw [ownTo_succ e, ea]
  by_cases h : ps[k].flow = (f : Int)
  ·
   rw [if_pos h]
   refine ⟨(okPks_snoc _ _).2 ⟨h1, by omega, o1, by omega⟩, ?_, by simp; omega⟩
   rw [List.length_append, List.length_cons, List.length_nil, ahead_snoc_end]
   exact Int.le_refl _
  ·
   rw [if_neg h]
   exact ⟨h1, by omega, by omega⟩
end
end Go.Proofs.YtibhkijaafdkoaaGreatDoor

namespace Go.Proofs.YtibhkijaafdkoaaGreatDoor
theorem drop_head {qs : List Pk} {k : Nat} {p : Pk} (h : qs[k]? = some p) : qs.drop k = p :: qs.drop (k + 1) := by
 have hk : k < qs.length := by
  rcases Nat.lt_or_ge k qs.length with h' | h'
  · exact h'
  · simp [List.getElem?_eq_none h'] at h
 rw [List.drop_eq_getElem_cons hk]
 rw [List.getElem?_eq_getElem hk] at h
 rw [Option.some.inj h]
theorem fitsB_step (ls : List (Int × Int)) (ps : List Pk) (k : Nat) (p : Pk) (h : ps[k]? = some p) : fitsB ls (ps.drop k) = (startB ls p.tick 0 (ps.drop k) && fitsB ls (ps.drop (k + 1))) := by
 rw [drop_head h]
 rfl
end Go.Proofs.YtibhkijaafdkoaaGreatDoor

namespace Go.Proofs.YtibhkijaafdkoaaGreatDoor
def bytesIn (ps : List Pk) (i : Nat) : Nat → Int
 | 0 => 0
 | n + 1 => bytesIn ps i n + bytesOf ps (i + n)
def AllFits (C : Int → Int) (ps : List Pk) : Prop := ∀ i n, i + n < ps.length → bytesIn ps i (n + 1) ≤ C (tickOf ps (i + n) - tickOf ps i)
section
variable {per : Int} {ps : List Pk} {l : List Sn} {C : Int → Int}
theorem tick_low (ho : OkPks ps) {k : Nat} (hk : k < ps.length) : 0 ≤ tickOf ps k ∧ tickOf ps k ≤ 1099511627776 := by
 have e : ps[k]? = some ps[k] := List.getElem?_eq_getElem hk
 obtain ⟨-, -, -, -, t1, t2⟩ := okPk_true (ho.each _ _ e).1
 rw [tickOf_get e]
 exact ⟨t1, t2⟩
theorem lto_row {a : Nat} (ha : lto per ps a ≤ tickOf ps a) : ∀ d, (∀ m, a < m → m < a + (d + 1) → tickOf ps m ≤ lto per ps m) → lto per ps (a + (d + 1)) = tickOf ps a + per * bytesIn ps a (d + 1)
 | 0, _ => by
  rw [show a + (0 + 1) = a + 1 by omega]
  simp only [lto, bytesIn, Nat.add_zero, Int.zero_add]
  rw [show max (lto per ps a) (tickOf ps a) = tickOf ps a by omega]
 | d + 1, h => by
  have ih := lto_row ha d fun m h1 h2 => h m h1 (by omega)
  have hm := h (a + (d + 1)) (by omega) (by omega)
  rw [show a + (d + 1 + 1) = a + (d + 1) + 1 by omega, lto, bytesIn, Int.mul_add]
  omega
theorem lto_from (ho : OkPks ps) : ∀ k, k < ps.length → ∃ a d, k = a + d ∧ (a = 0 ∨ lto per ps a < tickOf ps a) ∧ ∀ m, a < m → m < a + (d + 1) → tickOf ps m ≤ lto per ps m
 | 0, _ => ⟨0, 0, rfl, .inl rfl, fun m h1 h2 => by omega⟩
 | k + 1, hk => by
  by_cases hi : lto per ps (k + 1) < tickOf ps (k + 1)
  · exact ⟨k + 1, 0, rfl, .inr hi, fun m h1 h2 => by omega⟩
  ·
   obtain ⟨a, d, e, ha, hm⟩ := lto_from ho k (by omega)
   refine ⟨a, d + 1, by omega, ha, fun m h1 h2 => ?_⟩
   rcases Nat.lt_or_ge m (a + (d + 1)) with h3 | h3
   · exact hm m h1 h3
   ·
    obtain rfl : m = k + 1 := by omega
    omega
theorem start_le (ho : OkPks ps) {a : Nat} (hl : a < ps.length) (ha : a = 0 ∨ lto per ps a < tickOf ps a) : lto per ps a ≤ tickOf ps a := by
 rcases ha with rfl | ha
 · exact (tick_low ho hl).1
 · omega
theorem fifo_cruz (ho : OkPks ps) (hper : 1 ≤ per) (hf : AllFits C ps) {D : Int} (hD : ∀ t, 0 ≤ t → t ≤ 1099511627776 → per * C t - t ≤ D) {k : Nat} (hk : k < ps.length) : lto per ps (k + 1) - tickOf ps k ≤ D := by
 obtain ⟨a, d, rfl, ha, hm⟩ := lto_from (per := per) ho k hk
 have hr := lto_row (start_le ho (by omega) ha) d hm
 rw [show a + d + 1 = a + (d + 1) by omega, hr]
 have h1 := hf a d hk
 have h2 := ticks_le ho (show a ≤ a + d by omega) hk
 have h3 := tick_low ho hk
 have h4 := tick_low ho (show a < ps.length by omega)
 have h5 := hD (tickOf ps (a + d) - tickOf ps a) (by omega) (by omega)
 have h6 : per * bytesIn ps a (d + 1) ≤ per * C (tickOf ps (a + d) - tickOf ps a) := Int.mul_le_mul_of_nonneg_left h1 (by omega)
 omega
theorem busy_cruz (ho : OkPks ps) (hper : 1 ≤ per) (hf : AllFits C ps) (hC : ∀ s t, 0 ≤ s → s ≤ t → C s ≤ C t) {B : Int} (hB : 0 ≤ B ∧ per * C B ≤ B) {a : Nat} (ha : a = 0 ∨ lto per ps a < tickOf ps a) : ∀ d, a + d < ps.length → (∀ m, a < m → m < a + (d + 1) → tickOf ps m ≤ lto per ps m) → lto per ps (a + (d + 1)) ≤ tickOf ps a + B
 | 0, hd, hm => by
  rw [lto_row (start_le ho (by omega) ha) 0 hm]
  have h1 := hf a 0 hd
  have h2 := hC 0 B (Int.le_refl _) hB.1
  rw [show a + 0 = a from rfl, show tickOf ps a - tickOf ps a = 0 by omega] at h1
  have h6 : per * bytesIn ps a (0 + 1) ≤ per * C B := Int.mul_le_mul_of_nonneg_left (by omega) (by omega)
  omega
 | d + 1, hd, hm => by
  have ih := busy_cruz ho hper hf hC hB ha d (by omega) fun m h1 h2 => hm m h1 (by omega)
  have ht := hm (a + (d + 1)) (by omega) (by omega)
  rw [lto_row (start_le ho (by omega) ha) (d + 1) hm]
  have h1 := hf a (d + 1) hd
  have h2 := ticks_le ho (show a ≤ a + (d + 1) by omega) hd
  have h3 := hC (tickOf ps (a + (d + 1)) - tickOf ps a) B (by omega) (by omega)
  have h6 : per * bytesIn ps a (d + 1 + 1) ≤ per * C B := Int.mul_le_mul_of_nonneg_left (by omega) (by omega)
  omega
theorem lto_upto (per : Int) (ps : List Pk) : ∀ n k, k + n = ps.length → 0 < n → ∃ e, k < e ∧ e ≤ ps.length ∧ (e = ps.length ∨ lto per ps e < tickOf ps e) ∧ ∀ m, k < m → m < e → tickOf ps m ≤ lto per ps m
 | 0, _, _, h => by omega
 | 1, k, hk, _ => ⟨k + 1, by omega, by omega, .inl (by omega), fun m h1 h2 => by omega⟩
 | n + 2, k, hk, _ => by
  by_cases hi : lto per ps (k + 1) < tickOf ps (k + 1)
  · exact ⟨k + 1, by omega, by omega, .inr hi, fun m h1 h2 => by omega⟩
  ·
   obtain ⟨e, e1, e2, e3, e4⟩ := lto_upto per ps (n + 1) (k + 1) (by omega) (by omega)
   refine ⟨e, by omega, e2, e3, fun m h1 h2 => ?_⟩
   rcases Nat.lt_or_ge (k + 1) m with h3 | h3
   · exact e4 m h3 h2
   ·
    obtain rfl : m = k + 1 := by omega
    omega
theorem Conv.meets (ho : OkPks ps) (hper : 1 ≤ per) (h : Conv per ps l) (hl : l.length = ps.length) {e : Nat} (he : e ≤ ps.length) (hi : e = ps.length ∨ e = 0 ∨ lto per ps e < tickOf ps e) : lastFin (l.take e) = lto per ps e ∧ ∀ j, j ∈ numsOf (l.take e) ↔ j < e := by
 obtain ⟨n1, n2, n3, -⟩ := h.nums e (by omega)
 have all : (∀ j, j ∈ numsOf (l.take e) ↔ j < e) → lastFin (l.take e) = lto per ps e ∧ ∀ j, j ∈ numsOf (l.take e) ↔ j < e := fun hall => by
  refine ⟨?_, hall⟩
  have hw := same_of (f := fun i => per * bytesOf ps i) (bytes_low ho hper) n1 (List.nodup_range (n := e)) fun a => by rw [hall, List.mem_range]
  have hb := (h.beside ho hper e (by omega)).1
  unfold lostAt workOf at hb
  omega
 rcases Nat.lt_or_ge e ps.length with h' | h'
 ·
  rcases Nat.eq_zero_or_pos e with rfl | h0
  · exact ⟨rfl, fun j => by simp [numsOf]⟩
  ·
   have hx : l[e]? = some (l[e]'(by omega)) := List.getElem?_eq_getElem _
   have hb := (h.beside ho hper (e + 1) (by omega)).2 e _ (by omega) hx
   have hlt : lto per ps e < tickOf ps e := by
    rcases hi with h1 | h1 | h1
    · omega
    · omega
    · exact h1
   exact all (h.idles ho hper hx (hb.same.2 hlt)).1
 ·
  obtain rfl : e = ps.length := by omega
  exact all (all_of n1 n2 n3)
theorem Conv.cruz (ho : OkPks ps) (hper : 1 ≤ per) (h : Conv per ps l) (hl : l.length = ps.length) (hf : AllFits C ps) (hC : ∀ s t, 0 ≤ s → s ≤ t → C s ≤ C t) {B : Int} (hB : 0 ≤ B ∧ per * C B ≤ B) {k : Nat} {x : Sn} (hx : l[k]? = some x) : x.fin - tickOf ps x.num.toNat ≤ B := by
 have hk := lt_of_get hx
 obtain ⟨a, d, e1, ha, hm⟩ := lto_from (per := per) ho k (by omega)
 obtain ⟨e, k1, k2, k3, k4⟩ := lto_upto per ps (ps.length - k) k (by omega) (by omega)
 obtain ⟨m1, -⟩ := h.meets ho hper hl k2 (by omega)
 obtain ⟨-, m2⟩ := h.meets ho hper hl (e := a) (by omega) (by omega)
 have hb := busy_cruz ho hper hf hC hB ha (e - 1 - a) (by omega) fun m h1 h2 => by
  rcases Nat.lt_or_ge m (a + (d + 1)) with h3 | h3
  · exact hm m h1 h3
  · exact k4 m (by omega) (by omega)
 rw [show a + (e - 1 - a + 1) = e by omega] at hb
 obtain ⟨-, -, s3, -, -, s6⟩ := h.step ho hper hx
 have mono := h.mono ho hper (m := k + 1) (e - (k + 1)) (by omega)
 rw [show k + 1 + (e - (k + 1)) = e by omega, s3] at mono
 obtain ⟨t, b, -, hu, -, ex⟩ := h k x hx
 have eb : x.num.toNat = b := by rw [ex]; simp
 have hge : a ≤ x.num.toNat := by
  rw [eb]
  rcases Nat.lt_or_ge b a with h3 | h3
  ·
   have hmem := (m2 b).2 h3
   obtain ⟨-, -, -, q4⟩ := h.nums a (by omega)
   obtain ⟨y, y1, y2⟩ := (q4 b).1 hmem
   refine absurd y2 (hu.2 y ?_)
   have : l.take a = (l.take k).take a := by rw [List.take_take, Nat.min_eq_left (by omega)]
   rw [this] at y1
   exact List.mem_of_mem_take y1
  · exact h3
 have := ticks_le ho hge s6
 omega
end
end Go.Proofs.YtibhkijaafdkoaaGreatDoor

namespace Go.Proofs.YtibhkijaafdkoaaGreatDoor
def bytesFl (ps : List Pk) (f i : Nat) : Nat → Int
 | 0 => 0
 | n + 1 => bytesFl ps f i n + (if flowOf ps (i + n) = f then bytesOf ps (i + n) else 0)
def FlowFits (C : Int → Int) (ps : List Pk) (f : Nat) : Prop := ∀ i n, i + n < ps.length → flowOf ps i = f → flowOf ps (i + n) = f → bytesFl ps f i (n + 1) ≤ C (tickOf ps (i + n) - tickOf ps i)
def sumTo (c : Nat → Int) : Nat → Int
 | 0 => 0
 | n + 1 => sumTo c n + c n
section
variable {ps : List Pk} {C : Int → Int} {f : Nat}
theorem bytesFl_first (ps : List Pk) (f i : Nat) : ∀ n, bytesFl ps f i (n + 1) = (if flowOf ps i = f then bytesOf ps i else 0) + bytesFl ps f (i + 1) n
 | 0 => by simp [bytesFl]
 | n + 1 => by
  rw [bytesFl, bytesFl_first ps f i n, bytesFl, show i + 1 + n = i + (n + 1) by omega]
  omega
theorem flow_window (ho : OkPks ps) (hC : ∀ s t, 0 ≤ s → s ≤ t → C s ≤ C t) (h0 : 0 ≤ C 0) (hf : FlowFits C ps f) : ∀ n i, i + n < ps.length → bytesFl ps f i (n + 1) ≤ C (tickOf ps (i + n) - tickOf ps i) := by
 have pos : ∀ t, 0 ≤ t → 0 ≤ C t := fun t ht => by have := hC 0 t (Int.le_refl _) ht; omega
 intro n
 induction n with
 | zero =>
  intro i hi
  by_cases e : flowOf ps i = f
  · exact hf i 0 hi e e
  ·
   have : bytesFl ps f i (0 + 1) = 0 := by simp [bytesFl, e]
   rw [this]
   refine pos _ ?_
   show (0 : Int) ≤ tickOf ps (i + 0) - tickOf ps i
   rw [Nat.add_zero]
   omega
 | succ n ih =>
  intro i hi
  have t1 := ticks_le ho (show i + n ≤ i + (n + 1) by omega) hi
  have t2 := ticks_le ho (show i ≤ i + n by omega) (by omega)
  have t3 := ticks_le ho (show i + 1 ≤ i + (n + 1) by omega) hi
  have t4 := ticks_le ho (show i ≤ i + 1 by omega) (by omega)
  by_cases e : flowOf ps (i + (n + 1)) = f
  ·
   by_cases e' : flowOf ps i = f
   · exact hf i (n + 1) hi e' e
   ·
    have h1 := ih (i + 1) (by omega)
    rw [show i + 1 + n = i + (n + 1) by omega] at h1
    rw [bytesFl_first, if_neg e']
    have := hC (tickOf ps (i + (n + 1)) - tickOf ps (i + 1)) (tickOf ps (i + (n + 1)) - tickOf ps i) (by omega) (by omega)
    omega
  ·
   have h1 := ih i (by omega)
   rw [bytesFl, if_neg e]
   have := hC (tickOf ps (i + n) - tickOf ps i) (tickOf ps (i + (n + 1)) - tickOf ps i) (by omega) (by omega)
   omega
theorem sumTo_add (c d : Nat → Int) : ∀ F, sumTo (fun f => c f + d f) F = sumTo c F + sumTo d F
 | 0 => rfl
 | F + 1 => by simp only [sumTo, sumTo_add c d F]; omega
theorem sumTo_le {c d : Nat → Int} : ∀ F, (∀ f, f < F → c f ≤ d f) → sumTo c F ≤ sumTo d F
 | 0, _ => Int.le_refl _
 | F + 1, h => by
  have h1 := sumTo_le F fun f hf => h f (by omega)
  have h2 := h F (by omega)
  simp only [sumTo]
  omega
theorem sumTo_zero : ∀ F, sumTo (fun _ => 0) F = 0
 | 0 => rfl
 | F + 1 => by simp only [sumTo, sumTo_zero F]; omega
theorem sumTo_one (g : Nat) (x : Int) : ∀ F, sumTo (fun f => if g = f then x else 0) F = if g < F then x else 0
 | 0 => rfl
 | F + 1 => by
  simp only [sumTo, sumTo_one g x F]
  by_cases h : g = F
  · subst h; simp
  ·
   by_cases h2 : g < F
   · rw [if_pos h2, if_neg h, if_pos (by omega)]; omega
   · rw [if_neg h2, if_neg h, if_neg (by omega)]; omega
theorem bytesIn_flows {F i : Nat} (hF : ∀ k, k < ps.length → flowOf ps k < F) : ∀ n, i + n ≤ ps.length → bytesIn ps i n = sumTo (fun f => bytesFl ps f i n) F
 | 0, _ => (sumTo_zero F).symm
 | n + 1, h => by
  have e : sumTo (fun f => bytesFl ps f i (n + 1)) F = sumTo (fun f => bytesFl ps f i n + (if flowOf ps (i + n) = f then bytesOf ps (i + n) else 0)) F := rfl
  rw [e, sumTo_add, sumTo_one, if_pos (hF (i + n) (by omega)), bytesIn, bytesIn_flows hF n (by omega)]
theorem flows_all {Cs : Nat → Int → Int} {F : Nat} (ho : OkPks ps) (hF : ∀ k, k < ps.length → flowOf ps k < F) (hC : ∀ f s t, f < F → 0 ≤ s → s ≤ t → Cs f s ≤ Cs f t) (h0 : ∀ f, f < F → 0 ≤ Cs f 0) (hf : ∀ f, f < F → FlowFits (Cs f) ps f) (hS : ∀ t, 0 ≤ t → t ≤ 1099511627776 → sumTo (fun f => Cs f t) F ≤ C t) : AllFits C ps := fun i n hi => by
 rw [bytesIn_flows hF (n + 1) (by omega)]
 have h1 := sumTo_le (c := fun f => bytesFl ps f i (n + 1)) (d := fun f => Cs f (tickOf ps (i + n) - tickOf ps i)) F fun f hf' => flow_window ho (fun s t => hC f s t hf') (h0 f hf') (hf f hf') n i hi
 have t2 := ticks_le ho (show i ≤ i + n by omega) hi
 have t3 := tick_low ho hi
 have t4 := tick_low ho (show i < ps.length by omega)
 have h2 := hS (tickOf ps (i + n) - tickOf ps i) (by omega) (by omega)
 omega
end
end Go.Proofs.YtibhkijaafdkoaaGreatDoor

namespace Go.Proofs.YtibhkijaafdkoaaGreatDoor
theorem bytesIn_shift (p : Pk) (r : List Pk) (i : Nat) : ∀ n, bytesIn (p :: r) (i + 1) n = bytesIn r i n
 | 0 => rfl
 | n + 1 => by
  simp only [bytesIn]
  rw [bytesIn_shift p r i n]
  congr 1
  unfold bytesOf
  rw [show i + 1 + n = (i + n) + 1 by omega, List.getElem?_cons_succ]
theorem bytesIn_first (ps : List Pk) (i : Nat) : ∀ n, bytesIn ps i (n + 1) = bytesOf ps i + bytesIn ps (i + 1) n
 | 0 => by simp [bytesIn]
 | n + 1 => by
  rw [bytesIn, bytesIn_first ps i n, bytesIn, show i + 1 + n = i + (n + 1) by omega]
  omega
theorem startB_at {ls : List (Int × Int)} {a : Int} : ∀ {r : List Pk} {c : Int}, startB ls a c r = true → ∀ (n : Nat) p, r[n]? = some p → c + bytesIn r 0 (n + 1) ≤ curveAt (p.tick - a) ls
 | [], _, _, n, p, hp => by simp at hp
 | q :: r, c, h, n, p, hp => by
  simp only [startB, Bool.and_eq_true, decide_eq_true_eq] at h
  obtain ⟨h1, h2⟩ := h
  have e0 : bytesOf (q :: r) 0 = q.size := rfl
  cases n with
  | zero =>
   have : q = p := by simpa using hp
   subst this
   simp only [bytesIn, e0, Nat.add_zero]
   omega
  | succ n =>
   have hp' : r[n]? = some p := by simpa using hp
   have := startB_at h2 n p hp'
   rw [bytesIn_first, e0, bytesIn_shift]
   omega
theorem bytesIn_drop (ps : List Pk) (k i : Nat) : ∀ n, bytesIn (ps.drop k) i n = bytesIn ps (k + i) n
 | 0 => rfl
 | n + 1 => by
  simp only [bytesIn]
  rw [bytesIn_drop ps k i n]
  congr 1
  unfold bytesOf
  rw [List.getElem?_drop, show k + (i + n) = k + i + n by omega]
theorem fitsB_drop {ls : List (Int × Int)} {ps : List Pk} (h : fitsB ls ps = true) : ∀ k, k ≤ ps.length → fitsB ls (ps.drop k) = true
 | 0, _ => by simpa using h
 | k + 1, hk => by
  have e : ps[k]? = some ps[k] := List.getElem?_eq_getElem (by omega)
  have := fitsB_drop h k (by omega)
  rw [fitsB_step ls ps k _ e, Bool.and_eq_true] at this
  exact this.2
theorem fits_all {ls : List (Int × Int)} {ps : List Pk} (h : fitsB ls ps = true) : AllFits (fun t => curveAt t ls) ps := fun i n hin => by
 have e : ps[i]? = some ps[i] := List.getElem?_eq_getElem (by omega)
 have e2 : ps[i + n]? = some ps[i + n] := List.getElem?_eq_getElem hin
 have h1 := fitsB_drop h i (by omega)
 rw [fitsB_step ls ps i _ e, Bool.and_eq_true] at h1
 have := startB_at h1.1 n ps[i + n] (by rw [List.getElem?_drop]; exact e2)
 rw [bytesIn_drop, Nat.add_zero, Int.zero_add] at this
 simp only
 rw [tickOf_get e, tickOf_get e2]
 exact this
section
variable {ps : List Pk} {f : Nat}
theorem bytesFl_own (ho : OkPks ps) (f : Nat) : ∀ k, k ≤ ps.length → bytesFl ps f 0 k = bytesIn (ownTo ps f ps.length) 0 (numTo ps f k).length ∧ ∃ L, numTo ps f ps.length = numTo ps f k ++ L
 | 0, _ => ⟨rfl, numTo ps f ps.length, rfl⟩
 | k + 1, hk => by
  obtain ⟨h1, L, hL⟩ := bytesFl_own ho f k (by omega)
  have e : ps[k]? = some ps[k] := List.getElem?_eq_getElem (by omega)
  have hpre : ∃ L', numTo ps f ps.length = numTo ps f (k + 1) ++ L' := by
   refine ⟨((List.range (ps.length - (k + 1))).map fun j => k + 1 + j).filter fun i => flowOf ps i == f, ?_⟩
   unfold numTo
   rw [← List.filter_append, ← List.range_add, show k + 1 + (ps.length - (k + 1)) = ps.length by omega]
  refine ⟨?_, hpre⟩
  simp only [bytesFl, Nat.zero_add]
  rw [h1, numTo_succ]
  by_cases h : flowOf ps k = f
  ·
   rw [if_pos h, if_pos h, List.length_append, List.length_cons, List.length_nil, bytesIn, Nat.zero_add]
   congr 1
   have hat := num_at ho (show k < ps.length by omega) (Nat.le_refl _)
   rw [h] at hat
   have hr : rankIn ps k = (numTo ps f k).length := by unfold rankIn; rw [h]
   rw [hr] at hat
   have := ((own_num ho f ps.length (Nat.le_refl _)).2 _ _ hat).2.2.2
   unfold bytesOf
   rw [this]
  ·
   rw [if_neg h, if_neg h]
   omega
theorem bytesFl_split (ps : List Pk) (f i : Nat) : ∀ n, bytesFl ps f 0 (i + n) = bytesFl ps f 0 i + bytesFl ps f i n
 | 0 => by simp [bytesFl]
 | n + 1 => by
  rw [← Nat.add_assoc, bytesFl, bytesFl_split ps f i n, bytesFl, Nat.zero_add]
  omega
theorem bytesIn_split (ps : List Pk) (i : Nat) : ∀ n, bytesIn ps 0 (i + n) = bytesIn ps 0 i + bytesIn ps i n
 | 0 => by simp [bytesIn]
 | n + 1 => by
  rw [← Nat.add_assoc, bytesIn, bytesIn_split ps i n, bytesIn, Nat.zero_add]
  omega
theorem own_fits {C : Int → Int} (ho : OkPks ps) (h : AllFits C (ownTo ps f ps.length)) : FlowFits C ps f := fun i n hin hi hj => by
 have hl := own_num ho f ps.length (Nat.le_refl _)
 have a1 := num_at ho (show i < ps.length by omega) (Nat.le_refl _)
 have a2 := num_at ho hin (Nat.le_refl _)
 rw [hi] at a1
 rw [hj] at a2
 have r1 : rankIn ps i = (numTo ps f i).length := by unfold rankIn; rw [hi]
 have r2 : rankIn ps (i + n) = (numTo ps f (i + n)).length := by unfold rankIn; rw [hj]
 have b0 := (bytesFl_own ho f i (by omega)).1
 have b1 := (bytesFl_own ho f (i + n + 1) (by omega)).1
 have hs := bytesFl_split ps f i (n + 1)
 have e1 : numTo ps f (i + n + 1) = numTo ps f (i + n) ++ [i + n] := by rw [numTo_succ, if_pos hj]
 rw [e1, List.length_append, List.length_cons, List.length_nil, Nat.zero_add] at b1
 have hle : (numTo ps f i).length ≤ (numTo ps f (i + n)).length := by
  unfold numTo
  rw [List.range_add, List.filter_append, List.length_append]
  omega
 obtain ⟨m, hm⟩ : ∃ m, (numTo ps f (i + n)).length = (numTo ps f i).length + m := ⟨_, (Nat.add_sub_of_le hle).symm⟩
 have hb := bytesIn_split (ownTo ps f ps.length) (numTo ps f i).length (m + 1)
 have hlen : (numTo ps f i).length + m < (ownTo ps f ps.length).length := by
  rw [hl.1, ← hm, ← r2]
  exact (List.getElem?_eq_some_iff.1 a2).1
 have hf := h (numTo ps f i).length m hlen
 have t1 : tickOf (ownTo ps f ps.length) (numTo ps f i).length = tickOf ps i := by
  have := (hl.2 _ _ a1).2.2.2
  rw [r1] at this
  unfold tickOf
  rw [this]
 have t2 : tickOf (ownTo ps f ps.length) ((numTo ps f i).length + m) = tickOf ps (i + n) := by
  have := (hl.2 _ _ a2).2.2.2
  rw [r2, hm] at this
  unfold tickOf
  rw [this]
 rw [t1, t2] at hf
 rw [hm, Nat.add_assoc, Nat.add_assoc (numTo ps f i).length m 1] at b1
 omega
end
end Go.Proofs.YtibhkijaafdkoaaGreatDoor
