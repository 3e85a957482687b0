/- Own facts, put together: no statement of its own. -/
import Derived.Test.YtibhkijaafdkoaaGreatDoorA01
namespace Go.Proofs.YtibhkijaafdkoaaGreatDoor
theorem snoc_ind {α : Type} {P : List α → Prop} (h0 : P []) (hs : ∀ l a, P l → P (l ++ [a])) : ∀ l, P l := by
 have h : ∀ l : List α, P l.reverse := by
  intro l
  induction l with
  | nil => exact h0
  | cons a r ih => rw [List.reverse_cons]; exact hs _ _ ih
 intro l
 have := h l.reverse
 rwa [List.reverse_reverse] at this
def allHave (bs : List Bk) (T n : Int) : Prop := ∀ b, b ∈ bs → n * 1000 ≤ b.lev T
def passT : List Bk → Int → Int → Option Int
 | [], t, _ => some t
 | b :: r, t, n => match b.when t n with | none => none | some u => passT r u n
theorem passT_some {n : Int} : ∀ (bs : List Bk) (t T : Int), (∀ b, b ∈ bs → b.Ok) → t ≤ 1099511627776 → passT bs t n = some T → t ≤ T ∧ T ≤ 1099511627776 ∧ allHave bs T n ∧ ∀ s, t ≤ s → s < T → ¬ allHave bs s n := by
 intro bs
 induction bs with
 | nil => intro t T _ t1 e; cases e; exact ⟨Int.le_refl _, t1, (fun b hb => by cases hb), fun s h1 h2 => by omega⟩
 | cons b r ih =>
  intro t T hok t1 e
  unfold passT at e
  split at e
  · cases e
  ·
   rename_i u hu
   have hb := hok b (List.mem_cons_self ..)
   obtain ⟨h1, h2, h3, h4⟩ := b.when_some hb t1 hu
   obtain ⟨h5, h6, h7, h8⟩ := ih u T (fun c hc => hok c (List.mem_cons_of_mem _ hc)) h2 e
   refine ⟨by omega, h6, fun c hc => ?_, fun s h9 h10 h11 => ?_⟩
   ·
    rcases List.mem_cons.1 hc with rfl | hc
    · have := Bk.lev_mono hb.r0 h5; omega
    · exact h7 c hc
   ·
    by_cases h12 : s < u
    ·
     have := h4 s h9 h12
     have := h11 b (List.mem_cons_self ..)
     omega
    · exact h8 s (by omega) h10 (fun c hc => h11 c (List.mem_cons_of_mem _ hc))
structure Sh where
 bs : List Bk
 left : Int
 out : List Pk
def shStep (s : Sh) (p : Pk) : Option Sh := match passT s.bs (max p.tick s.left) p.size with
 | none => none
 | some T => some ⟨s.bs.map fun b => b.take T p.size, T, s.out ++ [⟨p.flow, p.size, T⟩]⟩
def shape (ls : List (Int × Int)) (ps : List Pk) : Option Sh := ps.foldl (fun s p => s.bind fun s => shStep s p) (some ⟨ls.map bkOf, 0, []⟩)
theorem shape_snoc (ls : List (Int × Int)) (ps : List Pk) (p : Pk) : shape ls (ps ++ [p]) = (shape ls ps).bind fun s => shStep s p := by simp [shape, List.foldl_append]
theorem ahead_snoc_lt (ps : List Pk) (p : Pk) (i : Nat) (h : i ≤ ps.length) : ahead (ps ++ [p]) i = ahead ps i := by
 cases i with
 | zero => rfl
 | succ i => simp only [ahead]; rw [List.getElem?_append_left (by omega)]
theorem ahead_snoc_end (ps : List Pk) (p : Pk) : ahead (ps ++ [p]) (ps.length + 1) = p.tick := by
 unfold ahead; simp
theorem okPks_snoc (ps : List Pk) (p : Pk) : OkPks (ps ++ [p]) ↔ OkPks ps ∧ ps.length < 300 ∧ okPk p = true ∧ ahead ps ps.length ≤ p.tick := by
 constructor
 ·
  rintro ⟨h1, h2⟩
  simp at h1
  refine ⟨⟨by omega, fun i q hq => ?_⟩, by omega, ?_, ?_⟩
  ·
   have hi : i < ps.length := by
    rcases Nat.lt_or_ge i ps.length with h | h
    · exact h
    · simp [List.getElem?_eq_none h] at hq
   have := h2 i q (by rw [List.getElem?_append_left hi]; exact hq)
   rwa [ahead_snoc_lt _ _ _ (by omega)] at this
  · exact (h2 ps.length p (by simp)).1
  ·
   have := (h2 ps.length p (by simp)).2
   rwa [ahead_snoc_lt _ _ _ (by omega)] at this
 ·
  rintro ⟨⟨h1, h2⟩, h3, h4, h5⟩
  refine ⟨by simp; omega, fun i q hq => ?_⟩
  by_cases hi : i < ps.length
  ·
   rw [List.getElem?_append_left hi] at hq
   rw [ahead_snoc_lt _ _ _ (by omega)]
   exact h2 i q hq
  ·
   have hl : i = ps.length := by
    rcases Nat.lt_or_ge ps.length i with h | h
    · rw [List.getElem?_eq_none (by simp; omega)] at hq; cases hq
    · omega
   subst hl
   simp at hq
   subst hq
   rw [ahead_snoc_lt _ _ _ (by omega)]
   exact ⟨h4, h5⟩
theorem OkPks.final {ps : List Pk} (h : OkPks ps) : 0 ≤ ahead ps ps.length ∧ ahead ps ps.length ≤ 1099511627776 := by
 cases hn : ps.length with
 | zero => simp [ahead]
 | succ n =>
  have hp : ps[n]? = some ps[n] := by simp [hn]
  have := okPk_true (h.each n _ hp).1
  simp only [ahead]
  rw [hp]
  exact ⟨this.2.2.2.2.1, this.2.2.2.2.2⟩
structure ShGood (ls : List (Int × Int)) (ps : List Pk) (s : Sh) : Prop where
 few : s.bs.length = ls.length
 ok : ∀ b, b ∈ s.bs → b.Ok ∧ b.last = s.left
 pass : ∀ (i : Nat) q b, ls[i]? = some q → s.bs[i]? = some b → Passed q s.out b
 left : s.left = ahead s.out s.out.length
 okOut : OkPks s.out
 len : s.out.length = ps.length
 each : ∀ (i : Nat) p q, ps[i]? = some p → s.out[i]? = some q → q.flow = p.flow ∧ q.size = p.size ∧ p.tick ≤ q.tick
 fits : fitsB ls s.out = true
theorem shGood_none {ls : List (Int × Int)} (h : okCurve ls) : ShGood ls [] ⟨ls.map bkOf, 0, []⟩ := by
 refine ⟨by simp, fun b hb => ?_, fun i q b hq hb => ?_, rfl, okPks_none, rfl, fun i p q hp => by simp at hp, rfl⟩
 ·
  obtain ⟨q, hq, rfl⟩ := List.mem_map.1 hb
  exact ⟨bkOf_ok (h.2.2 q hq), rfl⟩
 ·
  simp [hq] at hb
  subst hb
  exact passed_none q (okLine_true (h.2.2 q (List.mem_of_getElem? hq))).2.2.1
theorem ShGood.have_fits {ls : List (Int × Int)} {ps : List Pk} {s : Sh} (h : ShGood ls ps s) (hk : okCurve ls) (p : Pk) (hp : s.left ≤ p.tick) : allHave s.bs p.tick p.size ↔ lastFits ls s.out p := by
 rw [lastFits_lines ls hk.1]
 constructor
 ·
  intro H q hq
  obtain ⟨i, hi⟩ := List.mem_iff_getElem?.1 hq
  have hlt : i < s.bs.length := by
   rw [h.few]
   rcases Nat.lt_or_ge i ls.length with h | h
   · exact h
   · simp [List.getElem?_eq_none h] at hi
  have hb : s.bs[i]? = some s.bs[i] := by simp [hlt]
  have hm : s.bs[i] ∈ s.bs := List.getElem_mem hlt
  exact ((h.pass i q _ hi hb).fits p (by rw [(h.ok _ hm).2]; exact hp)).1 (H _ hm)
 ·
  intro H b hb
  obtain ⟨i, hi⟩ := List.mem_iff_getElem?.1 hb
  have hlt : i < ls.length := by
   rw [← h.few]
   rcases Nat.lt_or_ge i s.bs.length with h | h
   · exact h
   · simp [List.getElem?_eq_none h] at hi
  have hq : ls[i]? = some ls[i] := by simp [hlt]
  exact ((h.pass i _ b hq hi).fits p (by rw [(h.ok _ hb).2]; exact hp)).2 (H _ (List.getElem_mem hlt))
theorem ShGood.step {ls : List (Int × Int)} {ps : List Pk} {s s' : Sh} {p : Pk} (h : ShGood ls ps s) (hk : okCurve ls) (hp : okPk p = true) (hn : ps.length < 300) (e : shStep s p = some s') : ShGood ls (ps ++ [p]) s' := by
 have ha := h.okOut.final
 rw [← h.left] at ha
 have hpk := okPk_true hp
 unfold shStep at e
 split at e
 · cases e
 ·
  rename_i T hT
  cases e
  obtain ⟨h1, h2, h3, -⟩ := passT_some s.bs _ T (fun b hb => (h.ok b hb).1) (by omega) hT
  have hlast : s.left ≤ T := by omega
  have hT0 : 0 ≤ T := by omega
  refine ⟨by simpa using h.few, fun b hb => ?_, fun i q b hq hb => ?_, ?_, ?_, by simp [h.len], fun i a b ha' hb' => ?_, ?_⟩
  ·
   obtain ⟨c, hc, rfl⟩ := List.mem_map.1 hb
   exact ⟨(h.ok c hc).1.take (by rw [(h.ok c hc).2]; exact hlast) h2 (by omega), Bk.take_last ..⟩
  ·
   simp only [List.getElem?_map, Option.map_eq_some_iff] at hb
   obtain ⟨c, hc, rfl⟩ := hb
   have hcm := List.mem_of_getElem? hc
   exact (h.pass i q c hq hc).pass (h.ok c hcm).1.r0 ⟨p.flow, p.size, T⟩ (by rw [(h.ok c hcm).2]; exact hlast) (h3 c hcm)
  ·
   show T = ahead (s.out ++ [_]) (s.out ++ [_]).length
   rw [List.length_append, List.length_singleton, ahead_snoc_end]
  ·
   rw [okPks_snoc]
   refine ⟨h.okOut, by rw [h.len]; exact hn, okPk_mk ⟨hpk.1, hpk.2.1, hpk.2.2.1, hpk.2.2.2.1, hT0, h2⟩, by rw [← h.left]; exact hlast⟩
  ·
   by_cases hi : i < ps.length
   ·
    rw [List.getElem?_append_left hi] at ha'
    rw [List.getElem?_append_left (by rw [h.len]; exact hi)] at hb'
    exact h.each i a b ha' hb'
   ·
    have hl : i = ps.length := by
     rcases Nat.lt_or_ge ps.length i with h | h
     · rw [List.getElem?_eq_none (by simp; omega)] at ha'; cases ha'
     · omega
    subst hl
    simp at ha'
    subst ha'
    rw [← h.len] at hb'
    simp at hb'
    subst hb'
    exact ⟨rfl, rfl, by show p.tick ≤ T; omega⟩
  ·
   rw [fitsB_snoc]
   exact ⟨h.fits, (h.have_fits hk ⟨p.flow, p.size, T⟩ hlast).1 h3⟩
theorem shape_good {ls : List (Int × Int)} (hk : okCurve ls) : ∀ (ps : List Pk) (s : Sh), OkPks ps → shape ls ps = some s → ShGood ls ps s := by
 refine snoc_ind (fun s _ e => ?_) (fun ps p ih s ho e => ?_)
 · cases e; exact shGood_none hk
 ·
  rw [shape_snoc] at e
  obtain ⟨s0, h0, h1⟩ := Option.bind_eq_some_iff.1 e
  obtain ⟨o1, o2, o3, -⟩ := (okPks_snoc ps p).1 ho
  exact (ih s0 o1 h0).step hk o3 o2 h1
end Go.Proofs.YtibhkijaafdkoaaGreatDoor

namespace Go.Proofs.YtibhkijaafdkoaaGreatDoor
structure Sn where
 num : Int
 beg : Int
 fin : Int
structure Que (σ : Type) where
 come : σ → Nat → σ
 pick : σ → Nat
 left : σ → σ
 rest : σ → Nat
 idle : σ → σ := fun q => q
structure St (σ : Type) where
 out : List Sn
 now : Int
 next : Nat
 q : σ
structure Steps {σ : Type} (Q : Que σ) (per : Int) (ps : List Pk) (q0 : σ) (C : St σ → Prop) : Prop where
 start : C ⟨[], 0, 0, q0⟩
 come : ∀ s p, C s → ps[s.next]? = some p → p.tick ≤ s.now → C ⟨s.out, s.now, s.next + 1, Q.come s.q s.next⟩
 send : ∀ s p, C s → (∀ r, ps[s.next]? = some r → s.now < r.tick) → 0 < Q.rest s.q → ps[Q.pick s.q]? = some p → C ⟨s.out ++ [⟨Q.pick s.q, s.now, s.now + per * p.size⟩], s.now + per * p.size, s.next, Q.left s.q⟩
 idle : ∀ s p, C s → ps[s.next]? = some p → s.now < p.tick → Q.rest s.q = 0 → C ⟨s.out, p.tick, s.next, Q.idle s.q⟩
def Reaches {σ : Type} (Q : Que σ) (per : Int) (ps : List Pk) (q0 : σ) (s : St σ) : Prop := ∀ C : St σ → Prop, Steps Q per ps q0 C → C s
section
variable {σ : Type} {Q : Que σ} {per : Int} {ps : List Pk} {q0 : σ}
theorem Reaches.start : Reaches Q per ps q0 ⟨[], 0, 0, q0⟩ := fun _ h => h.start
theorem Reaches.come (s : St σ) (p : Pk) (hs : Reaches Q per ps q0 s) (h1 : ps[s.next]? = some p) (h2 : p.tick ≤ s.now) : Reaches Q per ps q0 ⟨s.out, s.now, s.next + 1, Q.come s.q s.next⟩ :=
 fun C h => h.come s p (hs C h) h1 h2
theorem Reaches.send (s : St σ) (p : Pk) (hs : Reaches Q per ps q0 s) (h1 : ∀ r, ps[s.next]? = some r → s.now < r.tick) (h2 : 0 < Q.rest s.q) (h3 : ps[Q.pick s.q]? = some p) : Reaches Q per ps q0 ⟨s.out ++ [⟨Q.pick s.q, s.now, s.now + per * p.size⟩], s.now + per * p.size, s.next, Q.left s.q⟩ :=
 fun C h => h.send s p (hs C h) h1 h2 h3
theorem Reaches.idle (s : St σ) (p : Pk) (hs : Reaches Q per ps q0 s) (h1 : ps[s.next]? = some p) (h2 : s.now < p.tick) (h3 : Q.rest s.q = 0) : Reaches Q per ps q0 ⟨s.out, p.tick, s.next, Q.idle s.q⟩ :=
 fun C h => h.idle s p (hs C h) h1 h2 h3
theorem Reaches.by_steps {C : St σ → Prop} {s : St σ} (h : Reaches Q per ps q0 s) (h0 : C ⟨[], 0, 0, q0⟩)
  (h1 : ∀ s p, Reaches Q per ps q0 s → ps[s.next]? = some p → p.tick ≤ s.now → C s → C ⟨s.out, s.now, s.next + 1, Q.come s.q s.next⟩)
  (h2 : ∀ s p, Reaches Q per ps q0 s → (∀ r, ps[s.next]? = some r → s.now < r.tick) → 0 < Q.rest s.q → ps[Q.pick s.q]? = some p → C s → C ⟨s.out ++ [⟨Q.pick s.q, s.now, s.now + per * p.size⟩], s.now + per * p.size, s.next, Q.left s.q⟩)
  (h3 : ∀ s p, Reaches Q per ps q0 s → ps[s.next]? = some p → s.now < p.tick → Q.rest s.q = 0 → C s → C ⟨s.out, p.tick, s.next, Q.idle s.q⟩) : C s :=
 (h (fun s => Reaches Q per ps q0 s ∧ C s) ⟨⟨.start, h0⟩, fun s p hs a b => ⟨.come s p hs.1 a b, h1 s p hs.1 a b hs.2⟩, fun s p hs a b c => ⟨.send s p hs.1 a b c, h2 s p hs.1 a b c hs.2⟩, fun s p hs a b c => ⟨.idle s p hs.1 a b c, h3 s p hs.1 a b c hs.2⟩⟩).2
end
structure QueLaw {σ : Type} (Q : Que σ) (per : Int) (ps : List Pk) (q0 : σ) : Prop where
 none : Q.rest q0 = 0
 come : ∀ s, Reaches Q per ps q0 s → s.next < ps.length → Q.rest (Q.come s.q s.next) = Q.rest s.q + 1
 left : ∀ s, Reaches Q per ps q0 s → 0 < Q.rest s.q → Q.rest (Q.left s.q) + 1 = Q.rest s.q
 pick : ∀ s, Reaches Q per ps q0 s → 0 < Q.rest s.q → Q.pick s.q < s.next
 idle : ∀ s, Reaches Q per ps q0 s → Q.rest s.q = 0 → Q.rest (Q.idle s.q) = 0
def Que.asked {σ : Type} (Q : Que σ) (q : σ) : σ := if Q.rest q = 0 then Q.idle q else q
theorem asked_same {σ : Type} (Q : Que σ) (h : ∀ q, Q.idle q = q) (q : σ) : Q.asked q = q := by
 unfold Que.asked
 split
 · exact h q
 · rfl
theorem lt_of_get {α : Type} {l : List α} {k : Nat} {x : α} (h : l[k]? = some x) : k < l.length := by
 rcases Nat.lt_or_ge k l.length with h' | h'
 · exact h'
 · simp [List.getElem?_eq_none h'] at h
section
variable {σ : Type} {Q : Que σ} {per : Int} {ps : List Pk} {q0 : σ} {s : St σ}
theorem Reaches.next_le (h : Reaches Q per ps q0 s) : s.next ≤ ps.length := by
 refine h.by_steps (C := fun s => s.next ≤ ps.length) (Nat.zero_le _) ?_ ?_ ?_
 ·
  intro s p _ hp _ _
  exact lt_of_get hp
 ·
  intro s p _ _ _ _ ih
  exact ih
 ·
  intro s p _ _ _ _ ih
  exact ih
theorem Reaches.count (hq : QueLaw Q per ps q0) (h : Reaches Q per ps q0 s) : s.out.length + Q.rest s.q = s.next := by
 refine h.by_steps (C := fun s => s.out.length + Q.rest s.q = s.next) (by simp [hq.none]) ?_ ?_ ?_
 ·
  intro s p hs hp _ ih
  have := hq.come s hs (lt_of_get hp)
  simp only
  omega
 ·
  intro s p hs _ h0 _ ih
  have := hq.left s hs h0
  simp only [List.length_append, List.length_cons, List.length_nil]
  omega
 ·
  intro s p hs _ _ h0 ih
  have := hq.idle s hs h0
  simp only
  omega
theorem Reaches.now_in (hper : 1 ≤ per ∧ per ≤ 1000) (ho : OkPks ps) (h : Reaches Q per ps q0 s) : 0 ≤ s.now ∧ s.now ≤ 1099511627776 + 1500000 * s.out.length := by
 refine h.by_steps (C := fun s => 0 ≤ s.now ∧ s.now ≤ 1099511627776 + 1500000 * s.out.length) ⟨Int.le_refl _, by simp⟩ ?_ ?_ ?_
 ·
  intro s p _ _ _ ih
  exact ih
 ·
  intro s p _ _ _ hp ih
  obtain ⟨-, -, h1, h2, -, -⟩ := okPk_true (ho.each _ p hp).1
  have a1 : 0 ≤ per * p.size := Int.mul_nonneg (by omega) (by omega)
  have a2 : per * p.size ≤ 1000 * 1500 := Int.mul_le_mul (by omega) h2 (by omega) (by omega)
  simp only [List.length_append, List.length_cons, List.length_nil]
  omega
 ·
  intro s p _ hp _ _ ih
  obtain ⟨-, -, -, -, h1, h2⟩ := okPk_true (ho.each _ p hp).1
  simp only
  omega
end
def tickOf (ps : List Pk) (j : Nat) : Int := match ps[j]? with | some p => p.tick | none => 0
def bytesOf (ps : List Pk) (j : Nat) : Int := match ps[j]? with | some p => p.size | none => 0
theorem tickOf_get {ps : List Pk} {j : Nat} {p : Pk} (h : ps[j]? = some p) : tickOf ps j = p.tick := by simp [tickOf, h]
theorem bytesOf_get {ps : List Pk} {j : Nat} {p : Pk} (h : ps[j]? = some p) : bytesOf ps j = p.size := by simp [bytesOf, h]
theorem ticks_rise {ps : List Pk} (ho : OkPks ps) : ∀ (d i : Nat), i + d < ps.length → tickOf ps i ≤ tickOf ps (i + d) := by
 intro d
 induction d with
 | zero => intro i _; exact Int.le_refl _
 | succ d ih =>
  intro i h
  have h1 := ih i (by omega)
  have e1 : ps[i + d]? = some ps[i + d] := List.getElem?_eq_getElem (by omega)
  have e2 : ps[i + d + 1]? = some ps[i + d + 1] := List.getElem?_eq_getElem (by omega)
  have h2 := (ho.each (i + d + 1) _ e2).2
  simp only [ahead, e1] at h2
  rw [tickOf_get e1] at h1
  rw [show i + (d + 1) = i + d + 1 by omega, tickOf_get e2]
  omega
theorem ticks_le {ps : List Pk} (ho : OkPks ps) {i k : Nat} (h : i ≤ k) (hk : k < ps.length) : tickOf ps i ≤ tickOf ps k := by
 have := ticks_rise ho (k - i) i (by omega)
 rwa [show i + (k - i) = k by omega] at this
end Go.Proofs.YtibhkijaafdkoaaGreatDoor

namespace Go.Proofs.YtibhkijaafdkoaaGreatDoor
def lto (per : Int) (ps : List Pk) : Nat → Int
 | 0 => 0
 | j + 1 => max (lto per ps j) (tickOf ps j) + per * bytesOf ps j
def lind (per : Int) (ps : List Pk) (j : Nat) : Sn := ⟨j, max (lto per ps j) (tickOf ps j), lto per ps (j + 1)⟩
def lindAll (per : Int) (ps : List Pk) (j : Nat) : List Sn := (List.range j).map (lind per ps)
theorem lindAll_length (per : Int) (ps : List Pk) (j : Nat) : (lindAll per ps j).length = j := by simp [lindAll]
theorem lindAll_get {per : Int} {ps : List Pk} {j k : Nat} (h : k < j) : (lindAll per ps j)[k]? = some (lind per ps k) := by simp [lindAll, h]
theorem lindAll_succ (per : Int) (ps : List Pk) (j : Nat) : lindAll per ps (j + 1) = lindAll per ps j ++ [lind per ps j] := by simp [lindAll, List.range_succ]
theorem lindAll_take {per : Int} {ps : List Pk} {j k : Nat} (h : k ≤ j) : (lindAll per ps j).take k = lindAll per ps k := by
 rw [lindAll, ← List.map_take, List.take_range, Nat.min_eq_left h]; rfl
def fifoQ : Que (List Nat) := ⟨fun q k => q ++ [k], fun q => q.headD 0, fun q => q.tail, fun q => q.length, fun q => q⟩
structure InOrder (per : Int) (ps : List Pk) (s : St (List Nat)) (j : Nat) : Prop where
 le : j ≤ s.next
 q : s.q = List.range' j (s.next - j)
 out : s.out = lindAll per ps j
 came : ∀ i, i < s.next → tickOf ps i ≤ s.now
 now : max s.now (tickOf ps j) = max (lto per ps j) (tickOf ps j)
theorem fifo_order {per : Int} {ps : List Pk} {s : St (List Nat)} (hper : 0 ≤ per) (ho : OkPks ps) (h : Reaches fifoQ per ps [] s) : ∃ j, InOrder per ps s j := by
 refine h.by_steps (C := fun s => ∃ j, InOrder per ps s j) ⟨0, Nat.le_refl _, rfl, rfl, fun i h => absurd h (Nat.not_lt_zero _), rfl⟩ ?_ ?_ ?_
 ·
  intro s p hs hp ht ih
  obtain ⟨j, h1, h2, h3, h4, h5⟩ := ih
  refine ⟨j, by simp only; omega, ?_, h3, fun i hi => ?_, h5⟩
  ·
   simp only [fifoQ, h2]
   rw [show s.next + 1 - j = (s.next - j) + 1 by omega, List.range'_concat, Nat.one_mul, show j + (s.next - j) = s.next by omega]
  ·
   simp only at hi ⊢
   rcases Nat.lt_or_ge i s.next with h | h
   · exact h4 i h
   ·
    obtain rfl : i = s.next := by omega
    rw [tickOf_get hp]; exact ht
 ·
  intro s p hs hall h0 hp ih
  obtain ⟨j, h1, h2, h3, h4, h5⟩ := ih
  have hlt : j < s.next := by
   rcases Nat.lt_or_ge j s.next with h | h
   · exact h
   ·
    rw [h2, show s.next - j = 0 by omega] at h0
    simp [fifoQ] at h0
  have hr : List.range' j (s.next - j) = j :: List.range' (j + 1) (s.next - (j + 1)) := by
   rw [show s.next - j = (s.next - (j + 1)) + 1 by omega, List.range'_succ]
  have hpick : fifoQ.pick s.q = j := by rw [h2, hr]; rfl
  rw [hpick] at hp
  have e1 := tickOf_get hp
  have e2 := bytesOf_get hp
  have hn : s.now = max (lto per ps j) (tickOf ps j) := by
   have := h4 j hlt
   omega
  have hpos : 0 ≤ per * p.size := Int.mul_nonneg hper (by have := okPk_true (ho.each _ p hp).1; omega)
  refine ⟨j + 1, by simp only; omega, ?_, ?_, fun i hi => ?_, ?_⟩
  · simp only [fifoQ]; rw [h2, hr]; rfl
  ·
   simp only [hpick]
   rw [lindAll_succ, h3]
   simp only [lind, lto, e2, hn]
  ·
   have := h4 i hi
   simp only
   omega
  · simp only [lto, e2, hn]
 ·
  intro s p hs hp ht h0 ih
  obtain ⟨j, h1, h2, h3, h4, h5⟩ := ih
  have hj : j = s.next := by
   have h0' : s.q.length = 0 := h0
   rw [h2, List.length_range'] at h0'
   omega
  subst hj
  have e1 := tickOf_get hp
  refine ⟨s.next, Nat.le_refl _, h2, h3, fun i hi => ?_, ?_⟩
  ·
   have := h4 i hi
   simp only
   omega
  ·
   simp only [e1] at h5 ⊢
   omega
theorem fifo_law {per : Int} {ps : List Pk} (hper : 0 ≤ per) (ho : OkPks ps) : QueLaw fifoQ per ps [] where
 none := rfl
 come := fun s _ _ => by simp [fifoQ]
 left := fun s _ h => by
  simp only [fifoQ] at h ⊢
  rw [List.length_tail]
  omega
 pick := fun s hs h => by
  obtain ⟨j, h1, h2, -, -, -⟩ := fifo_order hper ho hs
  have h' : 0 < s.q.length := h
  rw [h2, List.length_range'] at h'
  show s.q.headD 0 < s.next
  rw [h2, show s.next - j = (s.next - (j + 1)) + 1 by omega, List.range'_succ]
  simp
  omega
 idle := fun _ _ h => h
theorem fifo_end {per : Int} {ps : List Pk} {s : St (List Nat)} (hper : 0 ≤ per) (ho : OkPks ps) (h : Reaches fifoQ per ps [] s) (hn : ¬ s.next < ps.length) (hr : fifoQ.rest s.q = 0) : s.out = lindAll per ps ps.length := by
 obtain ⟨j, h1, h2, h3, -, -⟩ := fifo_order hper ho h
 have := h.next_le
 have h' : s.q.length = 0 := hr
 rw [h2, List.length_range'] at h'
 rw [h3, show j = ps.length by omega]
end Go.Proofs.YtibhkijaafdkoaaGreatDoor
