/- Plain facts on shapers: what leaves fits, and what fits leaves at once. No Go text is named here. -/
import Derived.Test.YtlknljbceppedaaDoorCAllPlain
namespace Go.Proofs.YtlknljbceppedaaDoor

theorem snoc_ind {α : Type} {P : List α → Prop} (h0 : P []) (hs : ∀ l a, P l → P (l ++ [a])) : ∀ l, P l := by
  have h : ∀ l : List α, P l.reverse := by
    intro l
    induction l with
    | nil => exact h0
    | cons a r ih => rw [List.reverse_cons]; exact hs _ _ ih
  intro l
  have := h l.reverse
  rwa [List.reverse_reverse] at this

def allHave (bs : List Bk) (T n : Int) : Prop := ∀ b, b ∈ bs → n * 1000 ≤ b.lev T
/-- The first tick from t on at which all have n bytes. -/
def passT : List Bk → Int → Int → Option Int
  | [], t, _ => some t
  | b :: r, t, n => match b.when t n with | none => none | some u => passT r u n
theorem passT_some {n : Int} : ∀ (bs : List Bk) (t T : Int), (∀ b, b ∈ bs → b.Ok) → t ≤ 1099511627776 → passT bs t n = some T → t ≤ T ∧ T ≤ 1099511627776 ∧ allHave bs T n ∧ ∀ s, t ≤ s → s < T → ¬ allHave bs s n := by
  intro bs
  induction bs with
  | nil => intro t T _ t1 e; cases e; exact ⟨Int.le_refl _, t1, (fun b hb => by cases hb), fun s h1 h2 => by omega⟩
  | cons b r ih =>
    intro t T hok t1 e
    unfold passT at e
    split at e
    · cases e
    · rename_i u hu
      have hb := hok b (List.mem_cons_self ..)
      obtain ⟨h1, h2, h3, h4⟩ := b.when_some hb t1 hu
      obtain ⟨h5, h6, h7, h8⟩ := ih u T (fun c hc => hok c (List.mem_cons_of_mem _ hc)) h2 e
      refine ⟨by omega, h6, fun c hc => ?_, fun s h9 h10 h11 => ?_⟩
      · rcases List.mem_cons.1 hc with rfl | hc
        · have := Bk.lev_mono hb.r0 h5; omega
        · exact h7 c hc
      · by_cases h12 : s < u
        · have := h4 s h9 h12
          have := h11 b (List.mem_cons_self ..)
          omega
        · exact h8 s (by omega) h10 (fun c hc => h11 c (List.mem_cons_of_mem _ hc))
theorem passT_none {n : Int} : ∀ (bs : List Bk) (t : Int), (∀ b, b ∈ bs → b.Ok) → t ≤ 1099511627776 → passT bs t n = none → ∀ s, t ≤ s → s ≤ 1099511627776 → ¬ allHave bs s n := by
  intro bs
  induction bs with
  | nil => intro t _ _ e; cases e
  | cons b r ih =>
    intro t hok t1 e s hs s1 h11
    unfold passT at e
    split at e
    · rename_i hu
      have := b.when_none (hok b (List.mem_cons_self ..)) hu s hs s1
      have := h11 b (List.mem_cons_self ..)
      omega
    · rename_i u hu
      have hb := hok b (List.mem_cons_self ..)
      obtain ⟨h1, h2, h3, h4⟩ := b.when_some hb t1 hu
      by_cases h12 : s < u
      · have := h4 s hs h12
        have := h11 b (List.mem_cons_self ..)
        omega
      · exact ih u (fun c hc => hok c (List.mem_cons_of_mem _ hc)) h2 e s (by omega) s1 (fun c hc => h11 c (List.mem_cons_of_mem _ hc))
theorem passT_is {n t T : Int} {bs : List Bk} (hok : ∀ b, b ∈ bs → b.Ok) (t0 : t ≤ T) (t1 : T ≤ 1099511627776) (h : allHave bs T n) (hno : ∀ s, t ≤ s → s < T → ¬ allHave bs s n) : passT bs t n = some T := by
  cases e : passT bs t n with
  | none => exact absurd h (passT_none bs t hok (by omega) e T t0 t1)
  | some U =>
    obtain ⟨h1, h2, h3, h4⟩ := passT_some bs t U hok (by omega) e
    by_cases hlt : U < T
    · exact absurd h3 (hno U h1 hlt)
    · by_cases hgt : T < U
      · exact absurd h (h4 T t0 hgt)
      · rw [show U = T by omega]

/-- A shaper at work: its buckets, the tick of the last one that left, what has left. -/
structure Sh where
  bs : List Bk
  left : Int
  out : List Pk
def shStep (s : Sh) (p : Pk) : Option Sh := match passT s.bs (max p.tick s.left) p.size with
  | none => none
  | some T => some ⟨s.bs.map fun b => b.take T p.size, T, s.out ++ [⟨p.flow, p.size, T⟩]⟩
def shape (ls : List (Int × Int)) (ps : List Pk) : Option Sh := ps.foldl (fun s p => s.bind fun s => shStep s p) (some ⟨ls.map bkOf, 0, []⟩)
theorem shape_snoc (ls : List (Int × Int)) (ps : List Pk) (p : Pk) : shape ls (ps ++ [p]) = (shape ls ps).bind fun s => shStep s p := by simp [shape, List.foldl_append]

theorem ahead_snoc_lt (ps : List Pk) (p : Pk) (i : Nat) (h : i ≤ ps.length) : ahead (ps ++ [p]) i = ahead ps i := by
  cases i with
  | zero => rfl
  | succ i => simp only [ahead]; rw [List.getElem?_append_left (by omega)]
theorem ahead_snoc_end (ps : List Pk) (p : Pk) : ahead (ps ++ [p]) (ps.length + 1) = p.tick := by
  unfold ahead; simp
theorem okPks_snoc (ps : List Pk) (p : Pk) : OkPks (ps ++ [p]) ↔ OkPks ps ∧ ps.length < 300 ∧ okPk p = true ∧ ahead ps ps.length ≤ p.tick := by
  constructor
  · rintro ⟨h1, h2⟩
    simp at h1
    refine ⟨⟨by omega, fun i q hq => ?_⟩, by omega, ?_, ?_⟩
    · have hi : i < ps.length := by
        rcases Nat.lt_or_ge i ps.length with h | h
        · exact h
        · simp [List.getElem?_eq_none h] at hq
      have := h2 i q (by rw [List.getElem?_append_left hi]; exact hq)
      rwa [ahead_snoc_lt _ _ _ (by omega)] at this
    · exact (h2 ps.length p (by simp)).1
    · have := (h2 ps.length p (by simp)).2
      rwa [ahead_snoc_lt _ _ _ (by omega)] at this
  · rintro ⟨⟨h1, h2⟩, h3, h4, h5⟩
    refine ⟨by simp; omega, fun i q hq => ?_⟩
    by_cases hi : i < ps.length
    · rw [List.getElem?_append_left hi] at hq
      rw [ahead_snoc_lt _ _ _ (by omega)]
      exact h2 i q hq
    · have hl : i = ps.length := by
        rcases Nat.lt_or_ge ps.length i with h | h
        · rw [List.getElem?_eq_none (by simp; omega)] at hq; cases hq
        · omega
      subst hl
      simp at hq
      subst hq
      rw [ahead_snoc_lt _ _ _ (by omega)]
      exact ⟨h4, h5⟩
theorem OkPks.final {ps : List Pk} (h : OkPks ps) : 0 ≤ ahead ps ps.length ∧ ahead ps ps.length ≤ 1099511627776 := by
  cases hn : ps.length with
  | zero => simp [ahead]
  | succ n =>
    have hp : ps[n]? = some ps[n] := by simp [hn]
    have := okPk_true (h.each n _ hp).1
    simp only [ahead]
    rw [hp]
    exact ⟨this.2.2.2.2.1, this.2.2.2.2.2⟩

structure ShGood (ls : List (Int × Int)) (ps : List Pk) (s : Sh) : Prop where
  few : s.bs.length = ls.length
  ok : ∀ b, b ∈ s.bs → b.Ok ∧ b.last = s.left
  pass : ∀ (i : Nat) q b, ls[i]? = some q → s.bs[i]? = some b → Passed q s.out b
  left : s.left = ahead s.out s.out.length
  okOut : OkPks s.out
  len : s.out.length = ps.length
  each : ∀ (i : Nat) p q, ps[i]? = some p → s.out[i]? = some q → q.flow = p.flow ∧ q.size = p.size ∧ p.tick ≤ q.tick
  fits : fitsB ls s.out = true

theorem shGood_none {ls : List (Int × Int)} (h : okCurve ls) : ShGood ls [] ⟨ls.map bkOf, 0, []⟩ := by
  refine ⟨by simp, fun b hb => ?_, fun i q b hq hb => ?_, rfl, okPks_none, rfl, fun i p q hp => by simp at hp, rfl⟩
  · obtain ⟨q, hq, rfl⟩ := List.mem_map.1 hb
    exact ⟨bkOf_ok (h.2.2 q hq), rfl⟩
  · simp [hq] at hb
    subst hb
    exact passed_none q (okLine_true (h.2.2 q (List.mem_of_getElem? hq))).2.2.1

theorem ShGood.have_fits {ls : List (Int × Int)} {ps : List Pk} {s : Sh} (h : ShGood ls ps s) (hk : okCurve ls) (p : Pk) (hp : s.left ≤ p.tick) : allHave s.bs p.tick p.size ↔ lastFits ls s.out p := by
  rw [lastFits_lines ls hk.1]
  constructor
  · intro H q hq
    obtain ⟨i, hi⟩ := List.mem_iff_getElem?.1 hq
    have hlt : i < s.bs.length := by
      rw [h.few]
      rcases Nat.lt_or_ge i ls.length with h | h
      · exact h
      · simp [List.getElem?_eq_none h] at hi
    have hb : s.bs[i]? = some s.bs[i] := by simp [hlt]
    have hm : s.bs[i] ∈ s.bs := List.getElem_mem hlt
    exact ((h.pass i q _ hi hb).fits p (by rw [(h.ok _ hm).2]; exact hp)).1 (H _ hm)
  · intro H b hb
    obtain ⟨i, hi⟩ := List.mem_iff_getElem?.1 hb
    have hlt : i < ls.length := by
      rw [← h.few]
      rcases Nat.lt_or_ge i s.bs.length with h | h
      · exact h
      · simp [List.getElem?_eq_none h] at hi
    have hq : ls[i]? = some ls[i] := by simp [hlt]
    exact ((h.pass i _ b hq hi).fits p (by rw [(h.ok _ hb).2]; exact hp)).2 (H _ (List.getElem_mem hlt))

theorem ShGood.step {ls : List (Int × Int)} {ps : List Pk} {s s' : Sh} {p : Pk} (h : ShGood ls ps s) (hk : okCurve ls) (hp : okPk p = true) (hn : ps.length < 300) (e : shStep s p = some s') : ShGood ls (ps ++ [p]) s' := by
  have ha := h.okOut.final
  rw [← h.left] at ha
  have hpk := okPk_true hp
  unfold shStep at e
  split at e
  · cases e
  · rename_i T hT
    cases e
    obtain ⟨h1, h2, h3, -⟩ := passT_some s.bs _ T (fun b hb => (h.ok b hb).1) (by omega) hT
    have hlast : s.left ≤ T := by omega
    have hT0 : 0 ≤ T := by omega
    refine ⟨by simpa using h.few, fun b hb => ?_, fun i q b hq hb => ?_, ?_, ?_, by simp [h.len], fun i a b ha' hb' => ?_, ?_⟩
    · obtain ⟨c, hc, rfl⟩ := List.mem_map.1 hb
      exact ⟨(h.ok c hc).1.take (by rw [(h.ok c hc).2]; exact hlast) h2 (by omega), Bk.take_last ..⟩
    · simp only [List.getElem?_map, Option.map_eq_some_iff] at hb
      obtain ⟨c, hc, rfl⟩ := hb
      have hcm := List.mem_of_getElem? hc
      exact (h.pass i q c hq hc).pass (h.ok c hcm).1.r0 ⟨p.flow, p.size, T⟩ (by rw [(h.ok c hcm).2]; exact hlast) (h3 c hcm)
    · show T = ahead (s.out ++ [_]) (s.out ++ [_]).length
      rw [List.length_append, List.length_singleton, ahead_snoc_end]
    · rw [okPks_snoc]
      refine ⟨h.okOut, by rw [h.len]; exact hn, okPk_mk ⟨hpk.1, hpk.2.1, hpk.2.2.1, hpk.2.2.2.1, hT0, h2⟩, by rw [← h.left]; exact hlast⟩
    · by_cases hi : i < ps.length
      · rw [List.getElem?_append_left hi] at ha'
        rw [List.getElem?_append_left (by rw [h.len]; exact hi)] at hb'
        exact h.each i a b ha' hb'
      · have hl : i = ps.length := by
          rcases Nat.lt_or_ge ps.length i with h | h
          · rw [List.getElem?_eq_none (by simp; omega)] at ha'; cases ha'
          · omega
        subst hl
        simp at ha'
        subst ha'
        rw [← h.len] at hb'
        simp at hb'
        subst hb'
        exact ⟨rfl, rfl, by show p.tick ≤ T; omega⟩
    · rw [fitsB_snoc]
      exact ⟨h.fits, (h.have_fits hk ⟨p.flow, p.size, T⟩ hlast).1 h3⟩

theorem shape_good {ls : List (Int × Int)} (hk : okCurve ls) : ∀ (ps : List Pk) (s : Sh), OkPks ps → shape ls ps = some s → ShGood ls ps s := by
  refine snoc_ind (fun s _ e => ?_) (fun ps p ih s ho e => ?_)
  · cases e; exact shGood_none hk
  · rw [shape_snoc] at e
    obtain ⟨s0, h0, h1⟩ := Option.bind_eq_some_iff.1 e
    obtain ⟨o1, o2, o3, -⟩ := (okPks_snoc ps p).1 ho
    exact (ih s0 o1 h0).step hk o3 o2 h1

theorem shape_once {ls : List (Int × Int)} (hk : okCurve ls) : ∀ ps : List Pk, OkPks ps → fitsB ls ps = true → ∃ s, shape ls ps = some s ∧ s.out = ps := by
  refine snoc_ind (fun _ _ => ⟨_, rfl, rfl⟩) (fun ps p ih ho hf => ?_)
  obtain ⟨o1, o2, o3, o4⟩ := (okPks_snoc ps p).1 ho
  obtain ⟨f1, f2⟩ := (fitsB_snoc ls ps p).1 hf
  obtain ⟨s, e, eo⟩ := ih o1 f1
  have hg := shape_good hk ps s o1 e
  have hl : s.left ≤ p.tick := by rw [hg.left, eo]; exact o4
  have hpk := okPk_true o3
  have hT : passT s.bs (max p.tick s.left) p.size = some p.tick :=
    passT_is (fun b hb => (hg.ok b hb).1) (by omega) hpk.2.2.2.2.2 ((hg.have_fits hk p hl).2 (by rw [eo]; exact f2)) (fun x h1 h2 => by omega)
  refine ⟨⟨s.bs.map fun b => b.take p.tick p.size, p.tick, s.out ++ [⟨p.flow, p.size, p.tick⟩]⟩, ?_, by simp [eo]⟩
  rw [shape_snoc, e]
  show shStep s p = _
  unfold shStep
  rw [hT]

/-- Either all leave, or one is the first that never does. -/
theorem shape_split (ls : List (Int × Int)) : ∀ ps : List Pk, (∃ s, shape ls ps = some s) ∨ ∃ j p s, ps[j]? = some p ∧ shape ls (ps.take j) = some s ∧ shStep s p = none := by
  refine snoc_ind (.inl ⟨_, rfl⟩) (fun ps p ih => ?_)
  rcases ih with ⟨s, h⟩ | ⟨j, q, s, h1, h2, h3⟩
  · cases e : shStep s p with
    | none => exact .inr ⟨ps.length, p, s, by simp, by simpa using h, e⟩
    | some s' => exact .inl ⟨s', by rw [shape_snoc, h]; exact e⟩
  · have hj : j < ps.length := by
      rcases Nat.lt_or_ge j ps.length with h | h
      · exact h
      · simp [List.getElem?_eq_none h] at h1
    refine .inr ⟨j, q, s, by rw [List.getElem?_append_left hj]; exact h1, ?_, h3⟩
    rw [List.take_append_of_le_length (by omega)]
    exact h2
end Go.Proofs.YtlknljbceppedaaDoor
