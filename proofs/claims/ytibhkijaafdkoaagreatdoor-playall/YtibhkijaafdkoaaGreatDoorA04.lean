/- Own facts, put together: no statement of its own. -/
import Derived.Test.YtibhkijaafdkoaaGreatDoorA03
import Derived.Test.YtibhkijaafdkoaaGreatDoorA02
import Derived.Below
import Derived.Test.YtibhkijaafdkoaaGreatDoorRows
import Derived.WalkKit
import Derived.WalkSpells
import Derived.WalkLawsBesides
import Derived.BigQuiet
import Derived.Test.YtibhkijaafdkoaaGreatDoorA01
import Derived.Laws.MakeOwn
namespace Go.Proofs.YtibhkijaafdkoaaGreatDoor
def Conv (per : Int) (ps : List Pk) (l : List Sn) : Prop := ∀ (k : Nat) x, l[k]? = some x → ∃ t b, Tick ps (l.take k) t ∧ Undone ps.length (l.take k) b ∧ tickOf ps b ≤ t ∧ x = ⟨(b : Nat), t, t + per * bytesOf ps b⟩
def Turns (ps : List Pk) (l : List Sn) : Prop := ∀ (k : Nat) x, l[k]? = some x → ∀ j, j < x.num.toNat → flowOf ps j = flowOf ps x.num.toNat → ¬ Undone ps.length (l.take k) j
section
variable {per : Int} {ps : List Pk} {l : List Sn} {keys : List Int}
theorem Sched.conv (h : Sched per ps keys l) : Conv per ps l := fun k x hx => by
 obtain ⟨t, b, h1, h2, e⟩ := h k x hx
 exact ⟨t, b, h1, h2.undone, h2.came, e⟩
theorem Sched.turns (ho : OkPks ps) (hk : ∀ i j, i < j → j < ps.length → flowOf ps i = flowOf ps j → keys.getD i 0 ≤ keys.getD j 0) (h : Sched per ps keys l) : Turns ps l := fun k x hx j hj hf hu => by
 obtain ⟨t, b, h1, h2, e⟩ := h k x hx
 have eb : x.num.toNat = b := by rw [e]; simp
 rw [eb] at hj hf
 have hb := h2.undone.1
 have c := ticks_le ho (Nat.le_of_lt hj) hb
 have c1 := h2.least j hu (by have := h2.came; omega)
 have c2 := hk j b hj hb hf
 omega
theorem sum_one : ∀ L : List Nat, sumOf (fun _ => 1) L = L.length
 | [] => rfl
 | a :: L => by
  have := sum_one L
  simp only [sumOf, List.length_cons]
  omega
theorem few_of {A B : List Nat} (hA : A.Nodup) (h : ∀ a, a ∈ A → a ∈ B) : A.length ≤ B.length := by
 have := sumOf_le (f := fun _ => 1) (fun _ => by omega) A B hA h
 rw [sum_one, sum_one] at this
 omega
theorem same_of {f : Nat → Int} (hf : ∀ i, 0 ≤ f i) {A B : List Nat} (hA : A.Nodup) (hB : B.Nodup) (h : ∀ a, a ∈ A ↔ a ∈ B) : sumOf f A = sumOf f B := by
 have h1 := sumOf_le hf A B hA fun a => (h a).1
 have h2 := sumOf_le hf B A hB fun a => (h a).2
 omega
theorem all_of {A : List Nat} {k : Nat} (hA : A.Nodup) (hl : A.length = k) (h : ∀ a, a ∈ A → a < k) (j : Nat) : j ∈ A ↔ j < k := by
 refine ⟨h j, fun hj => ?_⟩
 by_cases hm : j ∈ A
 · exact hm
 ·
  have := few_of (A := j :: A) (B := List.range k) (List.nodup_cons.2 ⟨hm, hA⟩) fun a ha => by
   rcases List.mem_cons.1 ha with e | ha
   · rw [e]; exact List.mem_range.2 hj
   · exact List.mem_range.2 (h a ha)
  rw [List.length_cons, List.length_range, hl] at this
  omega
theorem nums_take1 {k : Nat} {x : Sn} (h : l[k]? = some x) : numsOf (l.take (k + 1)) = numsOf (l.take k) ++ [x.num.toNat] := by
 rw [List.take_add_one, h]
 simp [numsOf]
theorem lastFin_take {k : Nat} {x : Sn} (h : l[k]? = some x) : lastFin (l.take (k + 1)) = x.fin := by
 rw [List.take_add_one, h]
 exact lastFin_snoc _ _
theorem Conv.nums (h : Conv per ps l) : ∀ k, k ≤ l.length → (numsOf (l.take k)).Nodup ∧ (numsOf (l.take k)).length = k ∧ (∀ j, j ∈ numsOf (l.take k) → j < ps.length) ∧ ∀ j : Nat, j ∈ numsOf (l.take k) ↔ ∃ x, x ∈ l.take k ∧ x.num = j
 | 0, _ => ⟨List.nodup_nil, rfl, (fun j hj => by simp [numsOf] at hj), fun j => by simp [numsOf]⟩
 | k + 1, hk => by
  obtain ⟨i1, i2, i3, i4⟩ := Conv.nums h k (by omega)
  have hx : l[k]? = some l[k] := List.getElem?_eq_getElem (by omega)
  obtain ⟨t, b, -, hu, -, e⟩ := h k _ hx
  have eb : (l[k]).num.toNat = b := by rw [e]; simp
  have hb : b ∉ numsOf (l.take k) := fun hm => by
   obtain ⟨x, hx1, hx2⟩ := (i4 b).1 hm
   exact hu.2 x hx1 hx2
  rw [nums_take1 hx, eb]
  refine ⟨?_, by simp [i2], fun j hj => ?_, fun j => ?_⟩
  ·
   refine List.nodup_append.2 ⟨i1, List.nodup_cons.2 ⟨by simp, List.nodup_nil⟩, fun a ha c hc e => ?_⟩
   rw [List.mem_singleton] at hc
   exact hb (by rw [← hc, ← e]; exact ha)
  ·
   rcases List.mem_append.1 hj with hj | hj
   · exact i3 j hj
   · rw [List.mem_singleton] at hj; rw [hj]; exact hu.1
  ·
   rw [List.mem_append, List.mem_singleton, i4, List.take_add_one, hx]
   simp only [Option.toList_some, List.mem_append, List.mem_singleton]
   constructor
   ·
    rintro (⟨x, h1, h2⟩ | rfl)
    · exact ⟨x, .inl h1, h2⟩
    · exact ⟨_, .inr rfl, by rw [e]⟩
   ·
    rintro ⟨x, h1 | rfl, h2⟩
    · exact .inl ⟨x, h1, h2⟩
    ·
     right
     rw [e] at h2
     simp only at h2
     omega
theorem bytes_low (ho : OkPks ps) (hper : 1 ≤ per) (i : Nat) : 0 ≤ per * bytesOf ps i := by
 refine Int.mul_nonneg (by omega) ?_
 cases hx : ps[i]? with
 | none => simp [bytesOf, hx]
 | some p =>
  obtain ⟨-, -, s1, -, -, -⟩ := okPk_true (ho.each _ _ hx).1
  rw [bytesOf_get hx]
  omega
theorem Conv.step (ho : OkPks ps) (hper : 1 ≤ per) (h : Conv per ps l) {k : Nat} {x : Sn} (hx : l[k]? = some x) : lastFin (l.take k) ≤ x.beg ∧ x.beg ≤ x.fin ∧ lastFin (l.take (k + 1)) = x.fin ∧ tickOf ps x.num.toNat ≤ x.beg ∧ x.fin = x.beg + per * bytesOf ps x.num.toNat ∧ x.num.toNat < ps.length := by
 obtain ⟨t, b, ht, hu, hc, e⟩ := h k x hx
 have eb : x.num.toNat = b := by rw [e]; simp
 have := bytes_low ho hper b
 rw [lastFin_take hx, eb, e]
 refine ⟨?_, by simp only; omega, rfl, hc, rfl, hu.1⟩
 rcases ht with ⟨rfl, -⟩ | ⟨h0, i, hi, rfl, -⟩
 · exact Int.le_refl _
 · exact Int.le_of_lt (h0 i hi)
theorem Conv.mono (ho : OkPks ps) (hper : 1 ≤ per) (h : Conv per ps l) {m : Nat} : ∀ d, m + d ≤ l.length → lastFin (l.take m) ≤ lastFin (l.take (m + d))
 | 0, _ => Int.le_refl _
 | d + 1, hd => by
  have ih := Conv.mono ho hper h (m := m) d (by omega)
  have hx : l[m + d]? = some l[m + d] := List.getElem?_eq_getElem (by omega)
  obtain ⟨s1, s2, s3, -⟩ := h.step ho hper hx
  rw [← Nat.add_assoc, s3]
  omega
theorem rank_turns (ho : OkPks ps) {ns : List Int} (h : Sched per ps (rankKeys ps ns) l) : Turns ps l := by
 refine h.turns ho fun i j hij hj hf => ?_
 have e : ∀ k, k < ps.length → (rankKeys ps ns).getD k 0 = ofFlow ps ns k := fun k hk => by simp [rankKeys, List.getD, hk]
 rw [e i (by omega), e j hj]
 unfold ofFlow
 rw [hf]
 exact Int.le_refl _
theorem due_turns (ho : OkPks ps) {ns : List Int} (h : Sched per ps (dueKeys ps ns) l) : Turns ps l := by
 refine h.turns ho fun i j hij hj hf => ?_
 have e : ∀ k, k < ps.length → (dueKeys ps ns).getD k 0 = tickOf ps k + ofFlow ps ns k := fun k hk => by simp [dueKeys, List.getD, hk]
 rw [e i (by omega), e j hj]
 have := ticks_le ho (Nat.le_of_lt hij) hj
 unfold ofFlow
 rw [hf]
 omega
theorem lind_may (ho : OkPks ps) : Conv per ps (lindAll per ps ps.length) ∧ Turns ps (lindAll per ps ps.length) := by
 have h := lind_sched (per := per) ho [] (fun _ => rfl)
 exact ⟨h.conv, h.turns ho fun _ _ _ _ _ => Int.le_refl _⟩
end
end Go.Proofs.YtibhkijaafdkoaaGreatDoor

namespace Go.Proofs.YtibhkijaafdkoaaGreatDoor
def rollStep (s : List Pk × Int) (v : Int) : List Pk × Int := if v < 0 ∨ 300 ≤ s.1.length then s else (s.1 ++ [⟨v / 7 % 3, v / 21 % 300 + 1, s.2 + v % 7⟩], s.2 + v % 7)
def rollTo (zs : List Int) (k : Nat) : List Pk × Int := (zs.take k).foldl rollStep ([], 0)
def roll (zs : List Int) : List Pk := (rollTo zs zs.length).1
theorem rollTo_succ {zs : List Int} {k : Nat} {v : Int} (h : zs[k]? = some v) : rollTo zs (k + 1) = rollStep (rollTo zs k) v := by
 unfold rollTo
 rw [List.take_add_one, h, List.foldl_append]
 rfl
theorem rollStep_no {s : List Pk × Int} {v : Int} (h : v < 0 ∨ 300 ≤ s.1.length) : rollStep s v = s := if_pos h
theorem rollStep_yes {s : List Pk × Int} {v : Int} (h1 : 0 ≤ v) (h2 : s.1.length < 300) : rollStep s v = (s.1 ++ [⟨v / 7 % 3, v / 21 % 300 + 1, s.2 + v % 7⟩], s.2 + v % 7) := if_neg (by omega)
structure Rolled (s : List Pk × Int) (k : Nat) : Prop where
 ok : OkPks s.1
 len : s.1.length ≤ k
 tick : s.2 = ahead s.1 s.1.length
 low : 0 ≤ s.2
 high : s.2 ≤ 6 * (s.1.length : Int)
theorem rolled_to (zs : List Int) : ∀ k, k ≤ zs.length → Rolled (rollTo zs k) k
 | 0, _ => ⟨okPks_none, Nat.le_refl _, rfl, Int.le_refl _, Int.le_refl _⟩
 | k + 1, hk => by
  have h := rolled_to zs k (by omega)
  have e : zs[k]? = some zs[k] := List.getElem?_eq_getElem (by omega)
  rw [rollTo_succ e]
  by_cases hn : zs[k] < 0 ∨ 300 ≤ (rollTo zs k).1.length
  ·
   rw [rollStep_no hn]
   exact ⟨h.ok, by have := h.len; omega, h.tick, h.low, h.high⟩
  ·
   rw [rollStep_yes (by omega) (by omega)]
   have h1 := h.low
   have h2 := h.high
   have h3 := h.len
   have h4 := h.tick
   refine ⟨(okPks_snoc _ _).2 ⟨h.ok, by omega, ?_, ?_⟩, by simp; omega, ?_, by show 0 ≤ _ + _; omega, by simp; omega⟩
   · exact decide_eq_true (by show _ ∧ _; simp only; omega)
   ·
    show _ ≤ (rollTo zs k).2 + zs[k] % 7
    omega
   ·
    show (rollTo zs k).2 + zs[k] % 7 = _
    rw [List.length_append, List.length_cons, List.length_nil, ahead_snoc_end]
theorem roll_ok (zs : List Int) : OkPks (roll zs) := (rolled_to zs zs.length (Nat.le_refl _)).ok
theorem roll_full (zs : List Int) : ∀ k j, k ≤ j → j ≤ zs.length → 300 ≤ (rollTo zs k).1.length → rollTo zs j = rollTo zs k := fun k j hkj hj h => by
 induction j with
 | zero =>
  obtain rfl : k = 0 := by omega
  rfl
 | succ j ih =>
  rcases Nat.lt_or_ge k (j + 1) with hlt | hge
  ·
   have e : zs[j]? = some zs[j] := List.getElem?_eq_getElem (by omega)
   have hi := ih (by omega) (by omega)
   rw [rollTo_succ e, hi, rollStep_no (.inr h)]
  ·
   obtain rfl : k = j + 1 := by omega
   rfl
structure Tl where
 bytes : Int
 most : Int
 last : Int
def tlStep (ps : List Pk) (f : Int) (t : Tl) (x : Sn) : Tl := match ps[x.num.toNat]? with
 | some q => if q.flow = f then ⟨t.bytes + q.size, max t.most (x.fin - q.tick), max t.last x.fin⟩ else t
 | none => t
def tally (ps : List Pk) (l : List Sn) (f : Int) : Nat → Tl
 | 0 => ⟨0, 0, 0⟩
 | k + 1 => match l[k]? with | some x => tlStep ps f (tally ps l f k) x | none => tally ps l f k
theorem tally_succ {ps : List Pk} {l : List Sn} {f : Int} {k : Nat} {x : Sn} (hx : l[k]? = some x) : tally ps l f (k + 1) = tlStep ps f (tally ps l f k) x := by simp only [tally, hx]
theorem tlStep_in {ps : List Pk} {f : Int} {t : Tl} {x : Sn} {j : Nat} {q : Pk} (hj : x.num = j) (hq : ps[j]? = some q) (hf : q.flow = f) : tlStep ps f t x = ⟨t.bytes + q.size, max t.most (x.fin - q.tick), max t.last x.fin⟩ := by
 simp only [tlStep, hj, Int.toNat_natCast, hq]
 exact if_pos hf
theorem tlStep_out {ps : List Pk} {f : Int} {t : Tl} {x : Sn} {j : Nat} {q : Pk} (hj : x.num = j) (hq : ps[j]? = some q) (hf : q.flow ≠ f) : tlStep ps f t x = t := by
 simp only [tlStep, hj, Int.toNat_natCast, hq]
 exact if_neg hf
end Go.Proofs.YtibhkijaafdkoaaGreatDoor

namespace Go.Proofs.YtibhkijaafdkoaaGreatDoor
open Go.RowKit
structure But (S : Nat → Prop) (w w' : World) : Prop where
 os : w'.os = w.os
 tape : w'.tape = w.tape
 output : w'.output = w.output
 size : w.heap.size ≤ w'.heap.size
 block : ∀ k, k < w.heap.size → ¬ S k → w'.heap[k]? = w.heap[k]?
theorem But.refl (S : Nat → Prop) (w : World) : But S w w := ⟨rfl, rfl, rfl, Nat.le_refl _, fun _ _ _ => rfl⟩
theorem But.trans {S : Nat → Prop} {a b c : World} (h : But S a b) (k : But S b c) : But S a c :=
 ⟨k.os.trans h.os, k.tape.trans h.tape, k.output.trans h.output, Nat.le_trans h.size k.size, fun i hi hs => (k.block i (Nat.lt_of_lt_of_le hi h.size) hs).trans (h.block i hi hs)⟩
theorem But.mono {S S' : Nat → Prop} {w w' : World} (h : But S w w') (hS : ∀ k, S k → S' k) : But S' w w' := ⟨h.os, h.tape, h.output, h.size, fun k hk hs => h.block k hk fun h' => hs (hS k h')⟩
theorem But.ofBelow {S : Nat → Prop} {w w' : World} (h : Below w.heap.size w w') : But S w w' := ⟨h.os, h.tape, h.output, h.size, fun k hk _ => h.block k hk⟩
theorem But.below {S : Nat → Prop} {B : Nat} {w w' : World} (h : But S w w') (hB : B ≤ w.heap.size) (hS : ∀ k, S k → B ≤ k) : Below B w w' :=
 ⟨h.os, h.tape, h.output, h.size, fun k hk => h.block k (Nat.lt_of_lt_of_le hk hB) fun h' => by have := hS k h'; omega⟩
theorem But.alloc {S : Nat → Prop} {a w : World} (h : But S a w) (o : Obj) : But S a (w.alloc o) := h.trans (.ofBelow ((Below.refl _ _).alloc (Nat.le_refl _) o))
theorem But.drew {S : Nat → Prop} {a w : World} (h : But S a w) : But S a w.drew := ⟨h.os, h.tape, h.output, h.size, h.block⟩
theorem But.setCell {S : Nat → Prop} {a w : World} (h : But S a w) {p : Addr} (hp : S p.block) (u : Value) : But S a (w.setCell p u) :=
 h.trans ⟨rfl, rfl, rfl, by simp [World.setCell], fun k _ hs => Below.heap_setCell _ _ _ _ fun e => hs (by rw [e]; exact hp)⟩
theorem But.cell {S : Nat → Prop} {w w' : World} (h : But S w w') {p : Addr} (hp : p.block < w.heap.size) (hs : ¬ S p.block) : w'.cell? p = w.cell? p := World.cell?_of_block (w := w) (h.block p.block hp hs)
theorem But.frozen {S : Nat → Prop} {w w' : World} (h : But S w w') {p : Addr} (hp : p.block < w.heap.size) (hs : ¬ S p.block) : w'.frozen? p = w.frozen? p := World.frozen?_of_block (w := w) (h.block p.block hp hs)
end Go.Proofs.YtibhkijaafdkoaaGreatDoor

namespace Go.Proofs.YtibhkijaafdkoaaGreatDoor
open Go.RowKit
theorem get_some {α : Type} (l : List α) (k : Nat) (h : k < l.length) : ∃ p, l[k]? = some p ∧ p ∈ l := ⟨l[k], by simp [h], List.getElem_mem h⟩
theorem cell_lt {w : World} {a : Addr} {v : Value} (h : w.cell? a = some v) : a.block < w.heap.size := by
 rcases Nat.lt_or_ge a.block w.heap.size with h' | h'
 · exact h'
 · simp [World.cell?, Array.getElem?_eq_none h'] at h
theorem ownsRow_mono {w : World} {base base' : Nat} {e : TypeId} {size : Nat} {v : Value} {n : Nat} {xs : List Value} (h : w.ownsRow base e size v n xs) (hb : base' ≤ base) : w.ownsRow base' e size v n xs := by
 obtain ⟨h1, h2 | ⟨g, cap, cur, hv, hB, r⟩⟩ := h
 · exact ⟨h1, .inl h2⟩
 · exact ⟨h1, .inr ⟨g, cap, cur, hv, Nat.le_trans hb hB, r⟩⟩
structure ErrsBO (w : World) (ad : Nat → Addr) : Prop where
 c1 : w.cell? ⟨3, 0, none⟩ = some (.iface 271 (.pointer (some (ad 1))))
 c4 : w.cell? ⟨5, 0, none⟩ = some (.iface 271 (.pointer (some (ad 4))))
theorem ErrsBO.below {w w' : World} {ad : Nat → Addr} (h : ErrsBO w ad) (hb : Below w.heap.size w w') : ErrsBO w' ad :=
 ⟨cell_later hb h.c1, cell_later hb h.c4⟩
def sentOf (ad : Nat → Addr) : Nat → Value
 | 0 => .nilIface
 | k + 1 => .iface 271 (.pointer (some (ad k)))
end Go.Proofs.YtibhkijaafdkoaaGreatDoor

namespace Go.Proofs.YtibhkijaafdkoaaGreatDoor
open Go.RowKit
def LiesP (w : World) (a : Option Addr) (ps : List Pk) : Prop :=
 ps = [] ∨ ∃ b off, a = some ⟨b, off, none⟩ ∧ b < w.heap.size ∧ ∀ (i : Nat) p, ps[i]? = some p → w.cell? ⟨b, off + i * 3, none⟩ = some (.int .i64 p.flow) ∧ w.cell? ⟨b, off + i * 3 + 1, none⟩ = some (.int .i64 p.size) ∧ w.cell? ⟨b, off + i * 3 + 2, none⟩ = some (.int .i64 p.tick)
theorem LiesP.place {w : World} {a : Option Addr} {ps : List Pk} (h : LiesP w a ps) (h1 : 1 ≤ ps.length) :
  ∃ b off, a = some ⟨b, off, none⟩ ∧ b < w.heap.size ∧ ∀ (i : Nat) p, ps[i]? = some p → w.cell? ⟨b, off + i * 3, none⟩ = some (.int .i64 p.flow) ∧ w.cell? ⟨b, off + i * 3 + 1, none⟩ = some (.int .i64 p.size) ∧ w.cell? ⟨b, off + i * 3 + 2, none⟩ = some (.int .i64 p.tick) := by
 rcases h with rfl | h
 · simp at h1
 · exact h
theorem LiesP.but {S : Nat → Prop} {w w' : World} {a : Option Addr} {ps : List Pk} (h : LiesP w a ps) (hb : But S w w') (hs : ∀ ad, a = some ad → ¬ S ad.block) : LiesP w' a ps := by
 rcases h with rfl | ⟨b, off, rfl, hlt, hc⟩
 · exact .inl rfl
 ·
  have hn : ¬ S b := hs _ rfl
  refine .inr ⟨b, off, rfl, Nat.lt_of_lt_of_le hlt hb.size, fun i p hi => ?_⟩
  have := hc i p hi
  exact ⟨by rw [hb.cell (p := ⟨b, off + i * 3, none⟩) hlt hn]; exact this.1, by rw [hb.cell (p := ⟨b, off + i * 3 + 1, none⟩) hlt hn]; exact this.2.1, by rw [hb.cell (p := ⟨b, off + i * 3 + 2, none⟩) hlt hn]; exact this.2.2⟩
theorem LiesP.below {w w' : World} {a : Option Addr} {ps : List Pk} (h : LiesP w a ps) (hb : Below w.heap.size w w') : LiesP w' a ps :=
 h.but (S := fun _ => False) (.ofBelow hb) (fun _ _ h => h)
def cellsP (ps : List Pk) : List Value := ps.flatMap fun p => [.int .i64 p.flow, .int .i64 p.size, .int .i64 p.tick]
theorem cellsP_cons (p : Pk) (r : List Pk) : cellsP (p :: r) = .int .i64 p.flow :: .int .i64 p.size :: .int .i64 p.tick :: cellsP r := rfl
theorem cellsP_append (a b : List Pk) : cellsP (a ++ b) = cellsP a ++ cellsP b := by simp [cellsP]
theorem cellsP_length (ps : List Pk) : (cellsP ps).length = ps.length * 3 := by
 induction ps with
 | nil => rfl
 | cons p r ih => rw [cellsP_cons]; simp [ih]; omega
theorem cellsP_get (ps : List Pk) : ∀ (i : Nat) p, ps[i]? = some p → (cellsP ps)[i * 3]? = some (.int .i64 p.flow) ∧ (cellsP ps)[i * 3 + 1]? = some (.int .i64 p.size) ∧ (cellsP ps)[i * 3 + 2]? = some (.int .i64 p.tick) := by
 induction ps with
 | nil => intro i p h; simp at h
 | cons q r ih =>
  intro i p h
  rw [cellsP_cons]
  cases i with
  | zero => simp at h; subst h; exact ⟨rfl, rfl, rfl⟩
  | succ i =>
   have := ih i p (by simpa using h)
   rw [show (i + 1) * 3 = i * 3 + 1 + 1 + 1 by omega]
   exact ⟨by simpa using this.1, by simpa using this.2.1, by simpa using this.2.2⟩
theorem cellsP_at (ps : List Pk) : ∀ j u, (cellsP ps)[j]? = some u → ∃ (i : Nat) (p : Pk), ps[i]? = some p ∧ ((j = i * 3 ∧ u = .int .i64 p.flow) ∨ (j = i * 3 + 1 ∧ u = .int .i64 p.size) ∨ (j = i * 3 + 2 ∧ u = .int .i64 p.tick)) := by
 induction ps with
 | nil => intro j u h; simp [cellsP] at h
 | cons p r ih =>
  intro j u h
  rw [cellsP_cons] at h
  match j, h with
  | 0, h => exact ⟨0, p, rfl, .inl ⟨rfl, by simpa using h.symm⟩⟩
  | 1, h => exact ⟨0, p, rfl, .inr (.inl ⟨rfl, by simpa using h.symm⟩)⟩
  | 2, h => exact ⟨0, p, rfl, .inr (.inr ⟨rfl, by simpa using h.symm⟩)⟩
  | j + 3, h =>
   obtain ⟨i, q, hi, hj⟩ := ih j u (by simpa using h)
   refine ⟨i + 1, q, by simpa using hi, ?_⟩
   rcases hj with ⟨e, f⟩ | ⟨e, f⟩ | ⟨e, f⟩
   · exact .inl ⟨by omega, f⟩
   · exact .inr (.inl ⟨by omega, f⟩)
   · exact .inr (.inr ⟨by omega, f⟩)
theorem cellsP_one (ps : List Pk) : ∀ u ∈ cellsP ps, u.oneCell' = true := by
 intro u hu
 obtain ⟨j, hj⟩ := List.mem_iff_getElem?.1 hu
 obtain ⟨i, p, -, h⟩ := cellsP_at ps j u hj
 rcases h with ⟨-, rfl⟩ | ⟨-, rfl⟩ | ⟨-, rfl⟩ <;> rfl
def OwnP (w : World) (B : Nat) (v : Value) (ps : List Pk) : Prop := w.ownsRow B 52 3 v ps.length (cellsP ps)
theorem OwnP.open {w : World} {B : Nat} {v : Value} {ps : List Pk} (h : OwnP w B v ps) :
  ∃ a cap, v = .slice a ps.length cap ∧ ps.length ≤ cap ∧ cap ≤ maxLen ∧ LiesP w a ps ∧ (∀ ad, a = some ad → B ≤ ad.block) ∧ (a = none → ps = [] ∧ cap = 0) := by
 obtain ⟨hlen, ⟨rfl, h0⟩ | ⟨g, cap, cur, rfl, hB, hg, hn, hm, hc, ht⟩⟩ := h
 · exact ⟨none, 0, by rw [h0], by omega, by simp [maxLen], .inl (List.length_eq_zero_iff.1 h0), (fun ad e => by cases e), fun _ => ⟨List.length_eq_zero_iff.1 h0, rfl⟩⟩
 ·
  refine ⟨_, cap, rfl, hn, hm, .inr ⟨g, 0, rfl, ?_, fun i p hi => ?_⟩, (fun ad e => by cases e; exact hB), fun e => by cases e⟩
  ·
   rcases Nat.lt_or_ge g w.heap.size with h | h
   · exact h
   · simp [Array.getElem?_eq_none h] at hg
  ·
   have hh : w.ownsRow B 52 3 (.slice (some ⟨g, 0, none⟩) ps.length cap) ps.length (cellsP ps) := ⟨hlen, .inr ⟨g, cap, cur, rfl, hB, hg, hn, hm, hc, ht⟩⟩
   have hil : i < ps.length := by
    rcases Nat.lt_or_ge i ps.length with h | h
    · exact h
    · simp [List.getElem?_eq_none h] at hi
   have := cellsP_get ps i p hi
   rw [hh.cellAt _ (by omega), hh.cellAt _ (by omega), hh.cellAt _ (by omega), Nat.zero_add]
   exact this
theorem liesP_news {w : World} {ad : Addr} {ps : List Pk} (h : LiesP w (some ad) ps) : ∀ j u, (cellsP ps)[j]? = some u → w.cell? (ad.add j) = some u := by
 intro j u hj
 obtain ⟨i, p, hi, hc⟩ := cellsP_at ps j u hj
 rcases h with rfl | ⟨b, off, e, -, h⟩
 · simp at hi
 ·
  cases e
  have := h i p hi
  rw [Addr.add_lit]
  rcases hc with ⟨rfl, rfl⟩ | ⟨rfl, rfl⟩ | ⟨rfl, rfl⟩
  · exact this.1
  · exact this.2.1
  · exact this.2.2
theorem Tryz.infoPkt : (Tryz.prog.info? 52).map (fun i => (i.zero, i.size, i.bytes)) = some (some (.agg #[.int .i64 0, .int .i64 0, .int .i64 0]), 3, 24) := by kernel_rfl
end Go.Proofs.YtibhkijaafdkoaaGreatDoor

namespace Go.Proofs.YtibhkijaafdkoaaGreatDoor
open Go.RowKit
theorem ownsRow_of_block {w w' : World} {base : Nat} {e : TypeId} {size : Nat} {v : Value} {n : Nat} {xs : List Value} (h : w.ownsRow base e size v n xs) (hb : ∀ g, v.ownBlock = some g → g < w.heap.size → w'.heap[g]? = w.heap[g]?) : w'.ownsRow base e size v n xs := by
 obtain ⟨h1, h2 | ⟨g, cap, cur, rfl, hB, hg, r⟩⟩ := h
 · exact ⟨h1, .inl h2⟩
 · exact ⟨h1, .inr ⟨g, cap, cur, rfl, hB, (hb g rfl (lt_of_block hg)).trans hg, r⟩⟩
theorem ownsRow_lt {w : World} {base : Nat} {e : TypeId} {size : Nat} {v : Value} {n : Nat} {xs : List Value} (h : w.ownsRow base e size v n xs) {g : Nat} (hg : v.ownBlock = some g) : base ≤ g ∧ g < w.heap.size := by
 obtain ⟨h1, ⟨rfl, -⟩ | ⟨g', cap, cur, rfl, hB, hgc, r⟩⟩ := h
 · cases hg
 ·
  cases hg
  exact ⟨hB, lt_of_block hgc⟩
theorem Tryz.infoInt : (Tryz.prog.info? 3).map (fun i => (i.zero, i.size, i.bytes)) = some (some (.int .i64 0), 1, 8) := by kernel_rfl
theorem made_get (u : Value) (n j : Nat) (h : j < n) : (madeCells #[u] n)[j]? = some u := by
 rw [Array.getElem?_eq_getElem (by rw [size_madeCells]; exact h)]
 simp [madeCells, Nat.mod_one]
def LiesN (w : World) (a : Option Addr) (xs : List Int) : Prop :=
 xs = [] ∨ ∃ b off, a = some ⟨b, off, none⟩ ∧ b < w.heap.size ∧ ∀ (i : Nat) x, xs[i]? = some x → w.cell? ⟨b, off + i, none⟩ = some (.int .i64 x)
theorem LiesN.place {w : World} {a : Option Addr} {xs : List Int} (h : LiesN w a xs) (h1 : 1 ≤ xs.length) : ∃ b off, a = some ⟨b, off, none⟩ ∧ b < w.heap.size ∧ ∀ (i : Nat) x, xs[i]? = some x → w.cell? ⟨b, off + i, none⟩ = some (.int .i64 x) := by
 rcases h with rfl | h
 · simp at h1
 · exact h
theorem LiesN.below {w w' : World} {a : Option Addr} {xs : List Int} (h : LiesN w a xs) (hb : Below w.heap.size w w') : LiesN w' a xs := by
 rcases h with rfl | ⟨b, off, rfl, hlt, hc⟩
 · exact .inl rfl
 · exact .inr ⟨b, off, rfl, Nat.lt_of_lt_of_le hlt hb.size, fun i x hi => cell_later hb (hc i x hi)⟩
end Go.Proofs.YtibhkijaafdkoaaGreatDoor
