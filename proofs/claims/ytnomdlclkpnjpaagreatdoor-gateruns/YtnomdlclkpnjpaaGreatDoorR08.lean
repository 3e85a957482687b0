/- Own facts, put together: no statement of its own. -/
import Derived.Test.YtnomdlclkpnjpaaGreatDoorR07
namespace Go.Proofs.YtnomdlclkpnjpaaGreatDoor
def waitL (ps : List Pk) (out : List Sn) (f : Nat) (now : Int) (n : Nat) : List Nat := (List.range n).filter fun i => flowOf ps i == f && !isDone out i && decide (tickOf ps i ≤ now)
def cameL (ps : List Pk) (out : List Sn) (f n : Nat) : List Nat := (List.range n).filter fun i => flowOf ps i == f && !isDone out i
theorem cameL_succ (ps : List Pk) (out : List Sn) (f n : Nat) : cameL ps out f (n + 1) = cameL ps out f n ++ if flowOf ps n = f ∧ isDone out n = false then [n] else [] := by
 unfold cameL
 rw [List.range_succ, List.filter_append]
 congr 1
 by_cases h : flowOf ps n = f ∧ isDone out n = false
 · rw [if_pos h]; simp [h.1, h.2]
 ·
  rw [if_neg h]
  simp only [List.filter_cons, List.filter_nil]
  rw [if_neg]
  intro h'
  rw [Bool.and_eq_true, beq_iff_eq, Bool.not_eq_true'] at h'
  exact h h'
theorem waitL_came {ps : List Pk} {out : List Sn} {f : Nat} {now : Int} {next : Nat} (h1 : ∀ i, i < next → tickOf ps i ≤ now) (h2 : ∀ i, next ≤ i → i < ps.length → now < tickOf ps i) (hn : next ≤ ps.length) : waitL ps out f now ps.length = cameL ps out f next := by
 have key : ∀ k, next + k ≤ ps.length → waitL ps out f now (next + k) = cameL ps out f next := by
  intro k
  induction k with
  | zero =>
   intro _
   unfold waitL cameL
   refine List.filter_congr fun i hi => ?_
   have := h1 i (List.mem_range.1 hi)
   simp [this]
  | succ k ih =>
   intro hk
   have e := ih (by omega)
   have h3 := h2 (next + k) (by omega) (by omega)
   unfold waitL at e ⊢
   rw [show next + (k + 1) = (next + k) + 1 by omega, List.range_succ, List.filter_append, e]
   simp [show ¬ tickOf ps (next + k) ≤ now by omega]
 have := key (ps.length - next) (by omega)
 rwa [show next + (ps.length - next) = ps.length by omega] at this
section
variable {ps : List Pk} {ns : List Int} {per : Int}
theorem turns_lists (ho : OkPks ps) (hq : ∀ f, 1 ≤ quOf ns f) (hper : 1 ≤ per) {s : St TQ} (hr : Reaches (turnsQ ps ns) per ps turns0 s) : (∀ i, i < s.next → tickOf ps i ≤ s.now) ∧ ∀ f, s.q.d.qs f = cameL ps s.out f s.next := by
 refine hr.by_steps (C := fun s => (∀ i, i < s.next → tickOf ps i ≤ s.now) ∧ ∀ f, s.q.d.qs f = cameL ps s.out f s.next) ⟨fun i h => absurd h (Nat.not_lt_zero _), fun f => rfl⟩ ?_ ?_ ?_
 ·
  rintro s p hs hp ht ⟨i1, i2⟩
  refine ⟨fun i hi => ?_, fun f => ?_⟩
  ·
   rcases Nat.lt_or_ge i s.next with h | h
   · exact i1 i h
   ·
    obtain rfl : i = s.next := by simp only at hi; omega
    rw [tickOf_get hp]; exact ht
  ·
   obtain ⟨H, r⟩ := turns_run (M := 1500) ho hq (by omega) (fun k => (sizeAt_in ho k).2) hs
   have hnew : isDone s.out s.next = false := by
    cases hd : isDone s.out s.next with
    | false => rfl
    | true => have := r.gone _ hd; omega
   show put1 s.q.d.qs (flowOf ps s.next) (s.q.d.qs (flowOf ps s.next) ++ [s.next]) f = cameL ps s.out f (s.next + 1)
   rw [cameL_succ]
   by_cases e : f = flowOf ps s.next
   ·
    subst e
    rw [put1_same, i2, if_pos ⟨rfl, hnew⟩]
   · rw [put1_other _ _ e, i2, if_neg (fun h => e h.1.symm), List.append_nil]
 ·
  rintro s p hs hall h0 hp ⟨i1, i2⟩
  obtain ⟨H, r⟩ := turns_run (M := 1500) ho hq (by omega) (fun k => (sizeAt_in ho k).2) hs
  obtain ⟨k, e, hx, e1, e2, f, t, c, sa⟩ := r.good.picks hq h0
  rw [e1] at hp ⊢
  obtain ⟨-, -, z1, -, -, -⟩ := okPk_true (ho.each _ p hp).1
  have a1 : 0 ≤ per * p.size := Int.mul_nonneg (by omega) (by omega)
  have hqs : e.qs = put1 s.q.d.qs f t := by rw [sa.left, sent_qs, sa.same]
  have hhead : s.q.d.qs f = k :: t := by rw [← sa.same]; exact sa.head
  have hkf : flowOf ps k = f := (r.state.size f k (by rw [hhead]; exact List.mem_cons_self ..)).1
  have hnd := r.once f
  rw [hhead] at hnd
  obtain ⟨n1, -⟩ := List.nodup_cons.1 hnd
  refine ⟨fun i hi => by have := i1 i hi; simp only; omega, fun g => ?_⟩
  rw [e2]
  show e.qs g = cameL ps (s.out ++ [(⟨(k : Nat), s.now, s.now + per * p.size⟩ : Sn)]) g s.next
  have hfil : cameL ps (s.out ++ [(⟨(k : Nat), s.now, s.now + per * p.size⟩ : Sn)]) g s.next = (s.q.d.qs g).filter fun i => !(i == k) := by
   rw [i2, cameL, cameL, List.filter_filter]
   refine List.filter_congr fun i _ => ?_
   rw [isDone_snoc]
   have e3 : (k == i) = (i == k) := by
    rw [Bool.eq_iff_iff, beq_iff_eq, beq_iff_eq]
    omega
   rw [e3]
   cases (flowOf ps i == g) <;> cases isDone s.out i <;> cases (i == k) <;> rfl
  rw [hfil, hqs]
  by_cases eg : g = f
  ·
   subst eg
   rw [put1_same, hhead, List.filter_cons, if_neg (by simp)]
   refine (List.filter_eq_self.2 fun i hi => ?_).symm
   have : i ≠ k := fun e => n1 (by rw [← e]; exact hi)
   simp [this]
  ·
   rw [put1_other _ _ eg]
   refine (List.filter_eq_self.2 fun i hi => ?_).symm
   have : i ≠ k := fun e => eg (by rw [← (r.state.size g i hi).1, e]; exact hkf)
   simp [this]
 ·
  rintro s p hs hp ht h0 ⟨i1, i2⟩
  exact ⟨fun i hi => by have := i1 i hi; simp only; omega, i2⟩
end
theorem sum_but (g : Nat → Nat) (n : Nat) : ∀ l : List Nat, l.Nodup → (l.map g).sum ≤ ((l.filter fun x => x != n).map g).sum + g n
 | [], _ => by simp
 | x :: r, h => by
  obtain ⟨h1, h2⟩ := List.nodup_cons.1 h
  have ih := sum_but g n r h2
  by_cases e : x = n
  ·
   subst e
   have : r.filter (fun y => y != x) = r := List.filter_eq_self.2 fun y hy => by
    have : y ≠ x := fun e => h1 (by rw [← e]; exact hy)
    simp [this]
   simp [this]
   omega
  ·
   simp only [List.filter_cons, bne_iff_ne, ne_eq, e, not_false_eq_true, if_true, List.map_cons, List.sum_cons]
   omega
theorem sum_le (g : Nat → Nat) (c : Nat) : ∀ (n : Nat) (l : List Nat), l.Nodup → (∀ x, x ∈ l → x < n) → (∀ x, g x ≤ c) → (l.map g).sum ≤ n * c
 | 0, l, _, hl, _ => by
  cases l with
  | nil => simp
  | cons x r => exact absurd (hl x (List.mem_cons_self ..)) (Nat.not_lt_zero _)
 | n + 1, l, hn, hl, hc => by
  have h1 := sum_but g n l hn
  have h2 := sum_le g c n (l.filter fun x => x != n) (hn.filter _) (fun x hx => by
   rw [List.mem_filter, bne_iff_ne] at hx
   have := hl x hx.1
   omega) hc
  have := hc n
  rw [Nat.add_mul, Nat.one_mul]
  omega
structure RoAt (per : Int) (ps : List Pk) (ns : List Int) (s : St TQ) (d : Drr) (fu z : Nat) : Prop where
 reach : Reaches (turnsQ ps ns) per ps turns0 s
 ok : DrrOk (flowOf ps) (sizeAt ps) (quOf ns) 1500 d
 qs : d.qs = s.q.d.qs
 path : (d = s.q.d ∧ fu = 29999) ∨ ((∀ r, ps[s.next]? = some r → s.now < r.tick) ∧ fu ≤ 29999 ∧ ∃ x, Drr.go (sizeAt ps) (quOf ns) fu d = some x ∧ goOf ps ns s.q.d = some x)
 idle : z ≤ 1 ∧ (z = 0 → d.line ≠ [] ∨ ∃ p, ps[s.next]? = some p ∧ p.tick ≤ s.now)
def roLeft (ps : List Pk) (s : St TQ) (fu z : Nat) : Nat := 30000 * (2 * (ps.length - s.out.length) + z) + fu
section
variable {ps : List Pk} {ns : List Int} {per : Int} {s : St TQ} {d : Drr} {fu z : Nat}
theorem RoAt.start (per : Int) (ps : List Pk) (ns : List Int) : RoAt per ps ns ⟨[], 0, 0, turns0⟩ turns0.d 29999 1 :=
 ⟨.start, drrOk_none (by omega), rfl, .inl ⟨rfl, rfl⟩, Nat.le_refl _, fun h => by omega⟩
theorem go_line {sz qu : Nat → Int} : ∀ {n : Nat} {d : Drr} {x : Nat × Drr}, Drr.go sz qu n d = some x → d.line ≠ []
 | 0, d, x, h => by simp [Drr.go] at h
 | n + 1, d, x, h => by
  rw [Drr.go] at h
  unfold Drr.line
  cases hs : d.srv with
  | some f => simp
  | none =>
   rw [hs] at h
   simp only at h ⊢
   intro e
   rw [e] at h
   cases h
theorem RoAt.more (h : RoAt per ps ns s d fu z) {k : Nat} {p : Pk} (ho : OkPks ps) (hb : ∀ j, j < k → tickOf ps j ≤ s.now → j < s.next) (hp : ps[k]? = some p) (ht : p.tick ≤ s.now) (hk : s.next ≤ k) :
  k = s.next ∧ d = s.q.d ∧ fu = 29999 := by
 have e : k = s.next := by
  rcases Nat.lt_or_ge s.next k with h1 | h1
  ·
   have h2 := ticks_le ho (Nat.le_of_lt h1) (lt_of_get hp)
   rw [tickOf_get hp] at h2
   have := hb s.next h1 (by omega)
   omega
  · omega
 refine ⟨e, ?_⟩
 rcases h.path with h1 | ⟨h1, -⟩
 · exact h1
 ·
  subst e
  have := h1 p hp
  omega
theorem RoAt.come (h : RoAt per ps ns s d fu z) (ho : OkPks ps) {p : Pk} (hp : ps[s.next]? = some p) (ht : p.tick ≤ s.now) (hd : d = s.q.d ∧ fu = 29999) : RoAt per ps ns ⟨s.out, s.now, s.next + 1, (turnsQ ps ns).come s.q s.next⟩ (d.come (flowOf ps) s.next) fu z := by
 obtain ⟨rfl, rfl⟩ := hd
 refine ⟨.come s p h.reach hp ht, h.ok.come _ (sizeAt_in ho _).1 (sizeAt_in ho _).2, rfl, .inl ⟨rfl, rfl⟩, h.idle.1, fun _ => .inl ?_⟩
 rw [Drr.line_come]
 split
 · next hm => intro e; rw [e] at hm; cases hm
 · simp
def NoMore (ps : List Pk) (s : St TQ) : Prop := ∀ i, s.next ≤ i → i < ps.length → s.now < tickOf ps i
theorem RoAt.fuel (h : RoAt per ps ns s d fu z) (ho : OkPks ps) (hq : ∀ f, 1 ≤ quOf ns f) (hl : d.line ≠ []) : ∃ fu' x, fu' ≤ fu ∧ Drr.go (sizeAt ps) (quOf ns) fu' d = some x ∧ goOf ps ns s.q.d = some x := by
 rcases h.path with ⟨rfl, rfl⟩ | ⟨-, -, x, h1, h2⟩
 ·
  obtain ⟨x, hx⟩ := go_ends hq (s.q.d.need (sizeAt ps)) s.q.d h.ok hl (Nat.le_refl _)
  refine ⟨fuelOf ps s.q.d, x, ?_, hx, hx⟩
  have hok := turns_ok ho hq h.reach
  have h8 : ∀ f, f ∈ s.q.d.line → f < 8 := fun f hf => by
   rcases Nat.lt_or_ge f 8 with h' | h'
   · exact h'
   · exact absurd (hok.few f h') ((hok.state.active f).1 hf)
  have hb : ∀ f, s.q.d.lack (sizeAt ps) f ≤ 1500 := fun f => by
   unfold Drr.lack
   cases hk : s.q.d.qs f with
   | nil => simp
   | cons k r =>
    simp only
    have := (sizeAt_in ho k).2
    have := h.ok.low f
    omega
  have := sum_le (s.q.d.lack (sizeAt ps)) 1500 8 s.q.d.line h.ok.nodup h8 hb
  unfold fuelOf
  have e : s.q.d.need (sizeAt ps) = (s.q.d.line.map (s.q.d.lack (sizeAt ps))).sum := rfl
  omega
 · exact ⟨fu, x, Nat.le_refl _, h1, h2⟩
theorem RoAt.rests (h : RoAt per ps ns s d fu z) (ho : OkPks ps) (hq : ∀ f, 1 ≤ quOf ns f) (hl : d.line = []) : d = s.q.d ∧ fu = 29999 ∧ (turnsQ ps ns).rest s.q = 0 := by
 rcases h.path with ⟨rfl, rfl⟩ | ⟨-, -, x, h1, h2⟩
 · exact ⟨rfl, rfl, (turns_ok ho hq h.reach).line.2 hl⟩
 · exact absurd hl (go_line h1)
theorem RoAt.undone (h : RoAt per ps ns s d fu z) (ho : OkPks ps) (hq : ∀ f, 1 ≤ quOf ns f) (h0 : (turnsQ ps ns).rest s.q = 0) : (∀ i, i < s.next → isDone s.out i = true) ∧ isDone s.out s.next = false := by
 obtain ⟨H, r⟩ := turns_run (M := 1500) ho hq (by omega) (fun k => (sizeAt_in ho k).2) h.reach
 refine ⟨fun i hi => ?_, ?_⟩
 ·
  cases hd : isDone s.out i with
  | true => rfl
  | false =>
   have hm := r.wait i hi hd
   have hz := r.good.line.1 h0
   have := (r.state.active (flowOf ps i)).2 (by intro e; rw [e] at hm; cases hm)
   rw [hz] at this
   cases this
 ·
  cases hd : isDone s.out s.next with
  | false => rfl
  | true => have := r.gone _ hd; omega
theorem RoAt.idles (h : RoAt per ps ns s d fu z) (ho : OkPks ps) (hq : ∀ f, 1 ≤ quOf ns f) (hl : d.line = []) (hno : NoMore ps s) (hlen : s.out.length < ps.length) :
  s.next < ps.length ∧ z = 1 ∧ ∀ p, ps[s.next]? = some p → RoAt per ps ns ⟨s.out, p.tick, s.next, s.q⟩ d fu 0 := by
 obtain ⟨rfl, rfl, h0⟩ := h.rests ho hq hl
 have hc := h.reach.count (turns_law ho hq)
 have hn : s.next < ps.length := by omega
 refine ⟨hn, ?_, fun p hp => ?_⟩
 ·
  rcases Nat.lt_or_ge z 1 with hz | hz
  ·
   rcases h.idle.2 (by omega) with h1 | ⟨p, h1, h2⟩
   · exact absurd hl h1
   ·
    have := hno s.next (Nat.le_refl _) hn
    rw [tickOf_get h1] at this
    omega
  · have := h.idle.1; omega
 ·
  have ht := hno s.next (Nat.le_refl _) hn
  rw [tickOf_get hp] at ht
  exact ⟨.idle s p h.reach hp ht h0, h.ok, rfl, .inl ⟨rfl, rfl⟩, by omega, fun _ => .inr ⟨p, hp, Int.le_refl _⟩⟩
structure ServeAt (per : Int) (ps : List Pk) (ns : List Int) (s : St TQ) (d : Drr) (f : Nat) (fu z : Nat) : Prop where
 reach : Reaches (turnsQ ps ns) per ps turns0 s
 more : NoMore ps s
 ok : DrrOk (flowOf ps) (sizeAt ps) (quOf ns) 1500 d
 qs : d.qs = s.q.d.qs
 srv : d.srv = some f
 lt : f < 8
 fuel : fu ≤ 29999
 ends : ∃ x, Drr.go (sizeAt ps) (quOf ns) fu d = some x ∧ goOf ps ns s.q.d = some x
 idle : z ≤ 1
theorem line_lt (ho : OkPks ps) (hq : ∀ f, 1 ≤ quOf ns f) (hr : Reaches (turnsQ ps ns) per ps turns0 s) (hok : DrrOk (flowOf ps) (sizeAt ps) (quOf ns) 1500 d) (hqs : d.qs = s.q.d.qs) {f : Nat} (hf : f ∈ d.line) : f < 8 := by
 rcases Nat.lt_or_ge f 8 with h' | h'
 · exact h'
 ·
  have := (turns_ok ho hq hr).few f h'
  rw [← hqs] at this
  exact absurd this ((hok.active f).1 hf)
theorem RoAt.turns (h : RoAt per ps ns s d fu z) (ho : OkPks ps) (hq : ∀ f, 1 ≤ quOf ns f) (hno : NoMore ps s) {f : Nat} {r : List Nat} (hs : d.srv = none) (hr : d.row = f :: r) : ∃ fu', fu' ≤ fu ∧ ServeAt per ps ns s (d.turn (quOf ns) f r) f fu' z := by
 have hl : d.line = f :: r := by unfold Drr.line; rw [hs]; exact hr
 obtain ⟨fu1, x, h1, h2, h3⟩ := h.fuel ho hq (by rw [hl]; simp)
 cases fu1 with
 | zero => simp [Drr.go] at h2
 | succ n =>
  rw [Drr.go, hs] at h2
  simp only [hr] at h2
  have hfu : fu ≤ 29999 := by
   rcases h.path with ⟨-, rfl⟩ | ⟨-, h', -⟩
   · exact Nat.le_refl _
   · exact h'
  exact ⟨n, by omega, h.reach, hno, h.ok.turn hq hs hr, h.qs, rfl, line_lt ho hq h.reach h.ok h.qs (by rw [hl]; exact List.mem_cons_self ..), by omega, ⟨x, h2, h3⟩, h.idle.1⟩
theorem RoAt.stays (h : RoAt per ps ns s d fu z) (ho : OkPks ps) (hq : ∀ f, 1 ≤ quOf ns f) (hno : NoMore ps s) {f : Nat} (hs : d.srv = some f) : ∃ fu', fu' ≤ fu ∧ ServeAt per ps ns s d f fu' z := by
 have hl : d.line = f :: d.row := by unfold Drr.line; rw [hs]
 obtain ⟨fu1, x, h1, h2, h3⟩ := h.fuel ho hq (by rw [hl]; simp)
 have hfu : fu ≤ 29999 := by
  rcases h.path with ⟨-, rfl⟩ | ⟨-, h', -⟩
  · exact Nat.le_refl _
  · exact h'
 exact ⟨fu1, h1, h.reach, hno, h.ok, h.qs, hs, line_lt ho hq h.reach h.ok h.qs (by rw [hl]; exact List.mem_cons_self ..), by omega, ⟨x, h2, h3⟩, h.idle.1⟩
theorem ServeAt.head {f : Nat} (h : ServeAt per ps ns s d f fu z) (ho : OkPks ps) (hq : ∀ f, 1 ≤ quOf ns f) (hper : 1 ≤ per) : ∃ k r, d.qs f = k :: r ∧ waitL ps s.out f s.now ps.length = k :: r ∧ k < ps.length ∧ k < s.next ∧ isDone s.out k = false ∧ flowOf ps k = f ∧ (k :: r).length ≤ 300 := by
 have hl : d.line = f :: d.row := by unfold Drr.line; rw [h.srv]
 have hne := (h.ok.active f).1 (by rw [hl]; exact List.mem_cons_self ..)
 obtain ⟨H, rr⟩ := turns_run (M := 1500) ho hq (by omega) (fun k => (sizeAt_in ho k).2) h.reach
 obtain ⟨t1, t2⟩ := turns_lists ho hq hper h.reach
 have hw := waitL_came (out := s.out) (f := f) t1 h.more h.reach.next_le
 have hfew := (turns_few ho hq h.reach f).1
 cases hk : d.qs f with
 | nil => exact absurd hk hne
 | cons k r =>
  have hk' : s.q.d.qs f = k :: r := by rw [← h.qs]; exact hk
  have hm := rr.only f k (by rw [hk']; exact List.mem_cons_self ..)
  have hf := (rr.state.size f k (by rw [hk']; exact List.mem_cons_self ..)).1
  rw [hk'] at hfew
  exact ⟨k, r, rfl, by rw [hw, ← t2, hk'], by have := h.reach.next_le; omega, hm.1, hm.2, hf, hfew⟩
theorem ServeAt.back {f : Nat} (h : ServeAt per ps ns s d f fu z) {k : Nat} {r : List Nat} (hk : d.qs f = k :: r) (hb : d.cr f < sizeAt ps k) : ∃ fu', fu' < fu ∧ RoAt per ps ns s (d.back f) fu' z := by
 obtain ⟨x, h1, h2⟩ := h.ends
 cases fu with
 | zero => simp [Drr.go] at h1
 | succ n =>
  rw [Drr.go, h.srv] at h1
  simp only [hk, if_neg (show ¬ sizeAt ps k ≤ d.cr f by omega)] at h1
  have hf := h.fuel
  exact ⟨n, Nat.lt_succ_self _, h.reach, h.ok.back h.srv hk hb, h.qs, .inr ⟨fun p hp => by have := h.more s.next (Nat.le_refl _) (lt_of_get hp); rwa [tickOf_get hp] at this, by omega, x, h1, h2⟩, h.idle, fun _ => .inl (go_line h1)⟩
theorem ServeAt.send {f : Nat} (h : ServeAt per ps ns s d f fu z) (ho : OkPks ps) (hq : ∀ f, 1 ≤ quOf ns f) {k : Nat} {r : List Nat} {p : Pk} (hk : d.qs f = k :: r) (hp : ps[k]? = some p) (hb : sizeAt ps k ≤ d.cr f) :
  RoAt per ps ns ⟨s.out ++ [⟨(k : Nat), s.now, s.now + per * p.size⟩], s.now + per * p.size, s.next, (turnsQ ps ns).left s.q⟩ (d.sent (sizeAt ps) f k r) 29999 1 := by
 obtain ⟨x, h1, h2⟩ := h.ends
 have hx : x = (k, d.sent (sizeAt ps) f k r) := by
  cases fu with
  | zero => simp [Drr.go] at h1
  | succ n =>
   rw [Drr.go, h.srv] at h1
   simp only [hk, if_pos hb] at h1
   exact (Option.some.inj h1).symm
 subst hx
 have hl : d.line = f :: d.row := by unfold Drr.line; rw [h.srv]
 have hn : 0 < s.q.n := by
  have hok := turns_ok ho hq h.reach
  rcases Nat.eq_zero_or_pos s.q.n with h0 | h0
  · exact absurd (hok.line.1 h0) (go_line h2)
  · exact h0
 have e1 : (turnsQ ps ns).pick s.q = k := by simp only [turnsQ, h2]
 have e2 : (turnsQ ps ns).left s.q = ⟨d.sent (sizeAt ps) f k r, s.q.n - 1⟩ := by simp only [turnsQ, h2]
 have hr := Reaches.send s p h.reach (fun r hr => by have := h.more s.next (Nat.le_refl _) (lt_of_get hr); rwa [tickOf_get hr] at this) hn (by rw [e1]; exact hp)
 rw [e1] at hr
 refine ⟨hr, h.ok.sent h.srv hk hb, ?_, .inl ⟨?_, rfl⟩, Nat.le_refl _, fun h => by omega⟩
 · rw [e2]
 · rw [e2]
theorem ServeAt.left {f : Nat} (h : ServeAt per ps ns s d f fu z) (ho : OkPks ps) (hq : ∀ f, 1 ≤ quOf ns f) (hper : 1 ≤ per) {k : Nat} {r : List Nat} {p : Pk} (hk : d.qs f = k :: r) (hp : ps[k]? = some p) (hb : sizeAt ps k ≤ d.cr f) :
  waitL ps (s.out ++ [⟨(k : Nat), s.now, s.now + per * p.size⟩]) f s.now ps.length = r := by
 have hs := h.send ho hq hk hp hb
 obtain ⟨t1, -⟩ := turns_lists ho hq hper h.reach
 obtain ⟨-, t2⟩ := turns_lists ho hq hper hs.reach
 have hw := waitL_came (out := s.out ++ [⟨(k : Nat), s.now, s.now + per * p.size⟩]) (f := f) t1 h.more h.reach.next_le
 have h1 := t2 f
 rw [← hs.qs, sent_qs, put1_same] at h1
 rw [hw, h1]
theorem RoAt.end_ (h : RoAt per ps ns s d fu z) (ho : OkPks ps) (hq : ∀ f, 1 ≤ quOf ns f) (hlen : ¬ s.out.length < ps.length) : RoundSent per ps ns s.out := by
 have := h.reach.count (turns_law ho hq)
 have := h.reach.next_le
 exact ⟨s, h.reach, by omega, by omega, rfl⟩
end
end Go.Proofs.YtnomdlclkpnjpaaGreatDoor

namespace Go.Proofs.YtnomdlclkpnjpaaGreatDoor
structure FQ where
 q : List Nat
 tag : Nat → Int
 v : Int
 last : Nat → Int
section
variable (fl : Nat → Nat) (inc : Nat → Int)
def FQ.come (s : FQ) (k : Nat) : FQ :=
 { q := s.q ++ [k], tag := put1 s.tag k (max s.v (s.last (fl k)) + inc k), v := s.v, last := put1 s.last (fl k) (max s.v (s.last (fl k)) + inc k) }
def FQ.left (s : FQ) (k : Nat) : FQ := { s with q := s.q.filter fun i => i != k, v := s.tag k }
def FQ.rests (s : FQ) : FQ := { s with v := 0, last := fun _ => 0 }
def FQ.of (s : FQ) (f : Nat) : List Nat := s.q.filter fun i => fl i == f
def FQ.begins (s : FQ) (f : Nat) : Int := match s.of fl f with | [] => s.v | k :: _ => s.tag k - inc k
def InChain (tag : Nat → Int) (inc : Nat → Int) : List Nat → Prop
 | [] => True
 | [_] => True
 | a :: b :: r => tag b - inc b = tag a ∧ InChain tag inc (b :: r)
def lastTag (tag : Nat → Int) (d : Int) : List Nat → Int
 | [] => d
 | [a] => tag a
 | _ :: b :: r => lastTag tag d (b :: r)
structure FQOk (s : FQ) : Prop where
 nodup : s.q.Nodup
 low : ∀ k, k ∈ s.q → s.v ≤ s.tag k
 begin : ∀ f, s.begins fl inc f ≤ s.v
 chain : ∀ f, InChain s.tag inc (s.of fl f)
 ends : ∀ f, s.of fl f ≠ [] → s.last f = lastTag s.tag 0 (s.of fl f)
 idle : ∀ f, s.of fl f = [] → s.last f ≤ s.v
variable {fl inc} {s : FQ}
theorem of_append (s : FQ) (k f : Nat) (t : Nat → Int) (v : Int) (l : Nat → Int) : (FQ.mk (s.q ++ [k]) t v l).of fl f = s.of fl f ++ if fl k = f then [k] else [] := by
 unfold FQ.of
 simp only [List.filter_append]
 congr 1
 by_cases h : fl k = f
 · simp [h]
 · simp [h]
theorem chain_congr {t u : Nat → Int} : ∀ {l : List Nat}, (∀ k, k ∈ l → t k = u k) → InChain t inc l → InChain u inc l
 | [], _, _ => trivial
 | [_], _, _ => trivial
 | a :: b :: r, h, hc => by
  obtain ⟨h1, h2⟩ := hc
  refine ⟨?_, chain_congr (fun k hk => h k (List.mem_cons_of_mem _ hk)) h2⟩
  rw [← h a (List.mem_cons_self ..), ← h b (List.mem_cons_of_mem _ (List.mem_cons_self ..))]
  exact h1
theorem lastTag_congr {t u : Nat → Int} {d : Int} : ∀ {l : List Nat}, (∀ k, k ∈ l → t k = u k) → lastTag t d l = lastTag u d l
 | [], _ => rfl
 | [a], h => h a (List.mem_cons_self ..)
 | a :: b :: r, h => by
  simp only [lastTag]
  exact lastTag_congr fun k hk => h k (List.mem_cons_of_mem _ hk)
theorem lastTag_snoc (t : Nat → Int) (d : Int) (k : Nat) : ∀ l : List Nat, lastTag t d (l ++ [k]) = t k
 | [] => rfl
 | [a] => rfl
 | a :: b :: r => by
  simp only [List.cons_append, lastTag]
  exact lastTag_snoc t d k (b :: r)
theorem chain_snoc {t : Nat → Int} {k : Nat} : ∀ {l : List Nat}, InChain t inc l → (l ≠ [] → t k - inc k = lastTag t 0 l) → InChain t inc (l ++ [k])
 | [], _, _ => trivial
 | [a], _, h => ⟨h (by simp), trivial⟩
 | a :: b :: r, hc, h => by
  obtain ⟨h1, h2⟩ := hc
  exact ⟨h1, chain_snoc h2 (fun _ => h (by simp))⟩
theorem lastTag_ge {t : Nat → Int} {v : Int} : ∀ {l : List Nat}, l ≠ [] → (∀ k, k ∈ l → v ≤ t k) → v ≤ lastTag t 0 l
 | [], h, _ => absurd rfl h
 | [a], _, h => h a (List.mem_cons_self ..)
 | a :: b :: r, _, h => by
  simp only [lastTag]
  exact lastTag_ge (by simp) fun k hk => h k (List.mem_cons_of_mem _ hk)
theorem mem_of {s : FQ} {f k : Nat} : k ∈ s.of fl f ↔ k ∈ s.q ∧ fl k = f := by
 unfold FQ.of
 rw [List.mem_filter, beq_iff_eq]
theorem FQOk.start (fl : Nat → Nat) (inc : Nat → Int) (t : Nat → Int) : FQOk fl inc ⟨[], t, 0, fun _ => 0⟩ :=
 ⟨List.nodup_nil, (fun _ h => by cases h), fun _ => Int.le_refl _, fun _ => trivial, fun _ h => absurd rfl h, fun _ _ => Int.le_refl _⟩
theorem FQOk.rests (h : FQOk fl inc s) (h0 : s.q = []) : FQOk fl inc s.rests := by
 have e : ∀ f, s.rests.of fl f = [] := fun f => by unfold FQ.of FQ.rests; simp [h0]
 refine ⟨h.nodup, fun k hk => ?_, fun f => ?_, fun f => by rw [e]; trivial, fun f hf => absurd (e f) hf, fun f _ => Int.le_refl _⟩
 ·
  have hk' : k ∈ s.q := hk
  rw [h0] at hk'
  cases hk'
 ·
  unfold FQ.begins
  rw [e]
  exact Int.le_refl _
theorem FQOk.come (h : FQOk fl inc s) {k : Nat} (hk : k ∉ s.q) (hi : 0 ≤ inc k) : FQOk fl inc (s.come fl inc k) := by
 have hne : ∀ i, i ∈ s.q → i ≠ k := fun i hi e => hk (by rw [← e]; exact hi)
 have htag : ∀ i, i ∈ s.q → s.tag i = (s.come fl inc k).tag i := fun i hi => (put1_other _ _ (hne i hi)).symm
 have htk : (s.come fl inc k).tag k = max s.v (s.last (fl k)) + inc k := put1_same _ _ _
 have hof : ∀ f, (s.come fl inc k).of fl f = s.of fl f ++ if fl k = f then [k] else [] := fun f => of_append s k f _ _ _
 have hofm : ∀ f i, i ∈ s.of fl f → s.tag i = (s.come fl inc k).tag i := fun f i hi => htag i (mem_of.1 hi).1
 have hlast : s.of fl (fl k) ≠ [] → max s.v (s.last (fl k)) = lastTag s.tag 0 (s.of fl (fl k)) := fun hn => by
  rw [h.ends _ hn]
  have := lastTag_ge hn (fun i hi => h.low i (mem_of.1 hi).1)
  omega
 refine ⟨List.nodup_append.2 ⟨h.nodup, List.nodup_cons.2 ⟨by simp, List.nodup_nil⟩, fun a ha b hb e => hk (by rw [List.mem_singleton] at hb; rw [← hb, ← e]; exact ha)⟩, fun i hi' => ?_, fun f => ?_, fun f => ?_, fun f hf => ?_, fun f hf => ?_⟩
 ·
  show s.v ≤ (s.come fl inc k).tag i
  have hi2 : i ∈ s.q ++ [k] := hi'
  rcases List.mem_append.1 hi2 with h1 | h1
  · rw [← htag i h1]; exact h.low i h1
  ·
   rw [List.mem_singleton] at h1
   rw [h1, htk]
   omega
 ·
  have hb := h.begin f
  unfold FQ.begins at hb ⊢
  rw [hof]
  cases hq : s.of fl f with
  | nil =>
   rw [List.nil_append]
   by_cases e : fl k = f
   ·
    rw [if_pos e]
    show (s.come fl inc k).tag k - inc k ≤ s.v
    rw [htk]
    have := h.idle f hq
    rw [e]
    omega
   ·
    rw [if_neg e]
    exact Int.le_refl _
  | cons a r =>
   rw [hq] at hb
   show (s.come fl inc k).tag a - inc a ≤ s.v
   rw [← hofm f a (by rw [hq]; exact List.mem_cons_self ..)]
   exact hb
 ·
  rw [hof]
  have hc := chain_congr (hofm f) (h.chain f)
  by_cases e : fl k = f
  ·
   rw [if_pos e]
   refine chain_snoc hc (fun hn => ?_)
   rw [htk, ← lastTag_congr (hofm f), ← e, ← hlast (by rw [e]; exact hn)]
   omega
  ·
   rw [if_neg e, List.append_nil]
   exact hc
 ·
  show put1 s.last (fl k) (max s.v (s.last (fl k)) + inc k) f = _
  rw [hof]
  by_cases e : fl k = f
  · rw [if_pos e, lastTag_snoc, htk, ← e, put1_same]
  ·
   rw [hof, if_neg e, List.append_nil] at hf
   rw [if_neg e, List.append_nil, put1_other _ _ (fun e' => e e'.symm), ← lastTag_congr (hofm f)]
   exact h.ends f hf
 ·
  have hf' := hf
  rw [hof] at hf'
  have e : fl k ≠ f := fun e => by rw [if_pos e] at hf'; simp at hf'
  rw [if_neg e, List.append_nil] at hf'
  show put1 s.last (fl k) _ f ≤ s.v
  rw [put1_other _ _ (fun e' => e e'.symm)]
  exact h.idle f hf'
theorem begins_come {k f : Nat} (hk : k ∉ s.q) (hf : s.of fl f ≠ []) : (s.come fl inc k).begins fl inc f = s.begins fl inc f ∧ (s.come fl inc k).of fl f ≠ [] := by
 have hof : (s.come fl inc k).of fl f = s.of fl f ++ if fl k = f then [k] else [] := of_append s k f _ _ _
 cases hq : s.of fl f with
 | nil => exact absurd hq hf
 | cons a r =>
  refine ⟨?_, by rw [hof, hq]; simp⟩
  have ha : a ∈ s.q := (mem_of (fl := fl) (f := f).1 (by rw [hq]; exact List.mem_cons_self ..)).1
  unfold FQ.begins
  rw [hof, hq]
  show (s.come fl inc k).tag a - inc a = s.tag a - inc a
  have : (s.come fl inc k).tag a = s.tag a := put1_other _ _ (fun e => hk (by rw [← e]; exact ha))
  rw [this]
def FQ.Least (s : FQ) (k : Nat) : Prop := k ∈ s.q ∧ ∀ i, i ∈ s.q → s.tag k ≤ s.tag i
theorem chain_rises {t : Nat → Int} : ∀ {l : List Nat} {a : Nat}, InChain t inc (a :: l) → (∀ k, k ∈ l → 1 ≤ inc k) → ∀ k, k ∈ l → t a < t k
 | [], _, _, _ => fun k hk => by cases hk
 | b :: r, a, hc, hi => fun k hk => by
  obtain ⟨h1, h2⟩ := hc
  have hb := hi b (List.mem_cons_self ..)
  rcases List.mem_cons.1 hk with e | hk
  · rw [e]; omega
  ·
   have := chain_rises h2 (fun k hk => hi k (List.mem_cons_of_mem _ hk)) k hk
   omega
theorem least_head (h : FQOk fl inc s) (hi : ∀ k, k ∈ s.q → 1 ≤ inc k) {k : Nat} (hk : s.Least k) : ∃ r, s.of fl (fl k) = k :: r := by
 have hm : k ∈ s.of fl (fl k) := mem_of.2 ⟨hk.1, rfl⟩
 cases hq : s.of fl (fl k) with
 | nil => rw [hq] at hm; cases hm
 | cons a r =>
  rw [hq] at hm
  rcases List.mem_cons.1 hm with e | hm
  · subst e; exact ⟨r, rfl⟩
  ·
   have hc := h.chain (fl k)
   rw [hq] at hc
   have hall : ∀ i, i ∈ a :: r → i ∈ s.q := fun i hi' => (mem_of (fl := fl) (f := fl k).1 (by rw [hq]; exact hi')).1
   have := chain_rises hc (fun i hi' => hi i (hall i (List.mem_cons_of_mem _ hi'))) k hm
   have := hk.2 a (hall a (List.mem_cons_self ..))
   omega
theorem of_left (s : FQ) (k f : Nat) : (s.left k).of fl f = (s.of fl f).filter fun i => i != k := by
 unfold FQ.of FQ.left
 simp only [List.filter_filter]
 refine List.filter_congr fun i _ => ?_
 cases (fl i == f) <;> cases (i != k) <;> rfl
theorem of_left_other {k f : Nat} (h : fl k ≠ f) : (s.left k).of fl f = s.of fl f := by
 rw [of_left]
 refine List.filter_eq_self.2 fun i hi => ?_
 have : i ≠ k := fun e => h (by rw [← e]; exact (mem_of.1 hi).2)
 simp [this]
theorem of_left_same (h : FQOk fl inc s) {k : Nat} {r : List Nat} (hr : s.of fl (fl k) = k :: r) : (s.left k).of fl (fl k) = r := by
 have hn : (s.of fl (fl k)).Nodup := h.nodup.filter _
 rw [hr] at hn
 obtain ⟨n1, -⟩ := List.nodup_cons.1 hn
 rw [of_left, hr, List.filter_cons, if_neg (by simp)]
 refine List.filter_eq_self.2 fun i hi => ?_
 have : i ≠ k := fun e => n1 (by rw [← e]; exact hi)
 simp [this]
theorem FQOk.left (h : FQOk fl inc s) (hi : ∀ k, k ∈ s.q → 1 ≤ inc k) {k : Nat} (hk : s.Least k) : FQOk fl inc (s.left k) := by
 obtain ⟨r, hr⟩ := least_head h hi hk
 have hv : s.v ≤ s.tag k := h.low k hk.1
 have hmem : ∀ i, i ∈ (s.left k).q → i ∈ s.q := fun i hi' => (List.mem_filter.1 hi').1
 refine ⟨h.nodup.filter _, fun i hi' => hk.2 i (hmem i hi'), fun f => ?_, fun f => ?_, fun f hf => ?_, fun f hf => ?_⟩
 ·
  show (s.left k).begins fl inc f ≤ s.tag k
  by_cases e : fl k = f
  ·
   subst e
   unfold FQ.begins
   rw [of_left_same h hr]
   cases r with
   | nil => exact Int.le_refl _
   | cons b r =>
    have hc := h.chain (fl k)
    rw [hr] at hc
    show s.tag b - inc b ≤ s.tag k
    have := hc.1
    omega
  ·
   have hb := h.begin f
   unfold FQ.begins at hb ⊢
   rw [of_left_other e]
   cases hq : s.of fl f with
   | nil => exact Int.le_refl _
   | cons a r =>
    rw [hq] at hb
    show s.tag a - inc a ≤ s.tag k
    simp only at hb
    omega
 ·
  by_cases e : fl k = f
  ·
   subst e
   rw [of_left_same h hr]
   have hc := h.chain (fl k)
   rw [hr] at hc
   cases r with
   | nil => trivial
   | cons b r => exact hc.2
  ·
   rw [of_left_other e]
   exact h.chain f
 ·
  by_cases e : fl k = f
  ·
   subst e
   rw [of_left_same h hr] at hf ⊢
   have := h.ends (fl k) (by rw [hr]; simp)
   rw [hr] at this
   cases r with
   | nil => exact absurd rfl hf
   | cons b r => exact this
  ·
   rw [of_left_other e] at hf ⊢
   exact h.ends f hf
 ·
  show s.last f ≤ s.tag k
  by_cases e : fl k = f
  ·
   subst e
   rw [of_left_same h hr] at hf
   subst hf
   have := h.ends (fl k) (by rw [hr]; simp)
   rw [hr] at this
   rw [this]
   exact Int.le_refl _
  ·
   rw [of_left_other e] at hf
   have := h.idle f hf
   omega
end
end Go.Proofs.YtnomdlclkpnjpaaGreatDoor
