/- The reference's shaper in memory: a row of pointers to its buckets. -/
import Derived.Test.YtlknljbceppedaaDoorCRef2
import Derived.Test.YtlknljbceppedaaDoorCPasses1
import Derived.Test.YtlknljbceppedaaDoorCAllShapes
namespace Go.Proofs.YtlknljbceppedaaDoor
open Go.RowKit

def ptrs (hs : List Nat) : List Value := hs.map fun h => .pointer (some ⟨h, 0, none⟩)
/-- The reference's shaper, made by the call that began at w. -/
structure RsAt (w wr : World) (v : Value) (hs : List Nat) (ms : List Rb) : Prop where
  len : hs.length = ms.length
  own : wr.ownsRow w.heap.size 86 1 v hs.length (ptrs hs)
  rb : ∀ (i : Nat) h m, hs[i]? = some h → ms[i]? = some m → RbAt wr h m
  new : ∀ h, h ∈ hs → w.heap.size ≤ h ∧ v.ownBlock ≠ some h
  one : ∀ (i j : Nat) h, hs[i]? = some h → hs[j]? = some h → i = j
theorem RsAt.but {S : Nat → Prop} {w wr w' : World} {v : Value} {hs : List Nat} {ms : List Rb} (h : RsAt w wr v hs ms) (hb : But S wr w') (hv : ∀ k, v.ownBlock = some k → ¬ S k) (hh : ∀ q, q ∈ hs → ¬ S q) : RsAt w w' v hs ms :=
  ⟨h.len, ownsRow_but h.own hb hv, fun i q m hi hm => (h.rb i q m hi hm).but hb (hh q (List.mem_of_getElem? hi)), h.new, h.one⟩
theorem RsAt.below {w wr w' : World} {v : Value} {hs : List Nat} {ms : List Rb} (h : RsAt w wr v hs ms) (hb : Below wr.heap.size wr w') : RsAt w w' v hs ms :=
  h.but (S := fun _ => False) (.ofBelow hb) (fun _ _ => id) (fun _ _ => id)
theorem RsAt.lt {w wr : World} {v : Value} {hs : List Nat} {ms : List Rb} (h : RsAt w wr v hs ms) : ∀ q, q ∈ hs → q < wr.heap.size := fun q hq => by
  obtain ⟨i, hi⟩ := List.mem_iff_getElem?.1 hq
  have hil : i < ms.length := by
    rw [← h.len]
    rcases Nat.lt_or_ge i hs.length with h' | h'
    · exact h'
    · simp [List.getElem?_eq_none h'] at hi
  exact (h.rb i q _ hi (List.getElem?_eq_getElem hil)).lt
/-- One pointer of the row. -/
theorem RsAt.ptr {w wr : World} {G cap : Nat} {hs : List Nat} {ms : List Rb} (h : RsAt w wr (.slice (some ⟨G, 0, none⟩) hs.length cap) hs ms) (i q : Nat) (hi : hs[i]? = some q) : wr.cell? ⟨G, i, none⟩ = some (.pointer (some ⟨q, 0, none⟩)) := by
  have hil : i < hs.length := by
    rcases Nat.lt_or_ge i hs.length with h' | h'
    · exact h'
    · simp [List.getElem?_eq_none h'] at hi
  rw [h.own.cellAt i (by omega)]
  simp [ptrs, hi]
theorem rsAt_none (w wr : World) : RsAt w wr (.slice none 0 0) [] [] :=
  ⟨rfl, World.ownsRow_nil _ _ _ _, (fun i h m hi => by simp at hi), (fun h hh => by cases hh), (fun i j h hi => by simp at hi)⟩

theorem Tryd.infoPRBk : (Tryd.prog.info? 86).map (fun i => (i.zero, i.size, i.bytes)) = some (some (.pointer none), 1, 8) := by kernel_rfl
theorem grown_but {w w' : World} {v : Value} (hg : w.grownBy w' v.ownBlock) : But (fun j => v.ownBlock = some j) w w' := ⟨hg.os, hg.tape, hg.output, hg.size, fun j hj hs => hg.block j hj (fun e => hs e.symm)⟩
theorem rbAt_new (u : World) (x y : Int) : RbAt (u.alloc (.cells #[.int .i64 x, .int .i64 y, .int .i64 (1000 * x), .int .i64 0, .int .i64 0] 88)) u.heap.size (rbOf (x, y)) := by constructor <;> simp [rbOf]
/-- One bucket more. -/
theorem RsAt.more {w wr w' : World} {v : Value} {hs : List Nat} {ms : List Rb} (h : RsAt w wr v hs ms) (x y : Int) (g cap : Nat) (hsz : w.heap.size ≤ wr.heap.size)
    (hown : w'.ownsRow w.heap.size 86 1 (.slice (some ⟨g, 0, none⟩) (hs.length + 1) cap) (hs.length + 1) (ptrs hs ++ [.pointer (some ⟨wr.heap.size, 0, none⟩)]))
    (hg : World.grownBy ((wr.drew.alloc (.cells #[.int .i64 x, .int .i64 y, .int .i64 (1000 * x), .int .i64 0, .int .i64 0] 88)).alloc (.cells #[.pointer (some ⟨wr.heap.size, 0, none⟩)] 86)) w' v.ownBlock)
    (hat : v.ownBlock = some g ∨ g = wr.heap.size + 2) :
    RsAt w w' (.slice (some ⟨g, 0, none⟩) (hs.length + 1) cap) (hs ++ [wr.heap.size]) (ms ++ [rbOf (x, y)]) := by
  have hbt := grown_but hg
  have hal : Below wr.heap.size wr ((wr.drew.alloc (.cells #[.int .i64 x, .int .i64 y, .int .i64 (1000 * x), .int .i64 0, .int .i64 0] 88)).alloc (.cells #[.pointer (some ⟨wr.heap.size, 0, none⟩)] 86)) :=
    (((Below.refl _ _).drew).alloc (Nat.le_refl _) _).alloc (by simp) _
  have hA := h.below hal
  have hvlt : ∀ k, v.ownBlock = some k → k < wr.heap.size := fun k hk => (World.ownsRow.lt h.own k hk).2
  refine ⟨by simp [h.len], by simpa [ptrs] using hown, fun i q m hq hm => ?_, fun q hq => ?_, fun i j q hi hj => ?_⟩
  · rcases get_snoc hq with ⟨h1, h2⟩ | ⟨h1, h2⟩
    · rcases get_snoc hm with ⟨h3, h4⟩ | ⟨h3, h4⟩
      · exact (hA.rb i q m h2 h4).but hbt (fun e => (h.new q (List.mem_of_getElem? h2)).2 e)
      · rw [h.len] at h1; omega
    · rcases get_snoc hm with ⟨h3, h4⟩ | ⟨h3, h4⟩
      · rw [h.len] at h1; omega
      · rw [h2, h4]
        have hnew : RbAt ((wr.drew.alloc (.cells #[.int .i64 x, .int .i64 y, .int .i64 (1000 * x), .int .i64 0, .int .i64 0] 88)).alloc (.cells #[.pointer (some ⟨wr.heap.size, 0, none⟩)] 86)) wr.heap.size (rbOf (x, y)) := by
          have h0 := rbAt_new wr.drew x y
          exact h0.below ((Below.refl _ _).alloc (Nat.le_refl _) _)
        exact hnew.but hbt (fun e => by have := hvlt _ e; omega)
  · rcases List.mem_append.1 hq with h1 | h1
    · refine ⟨(h.new q h1).1, fun e => ?_⟩
      have e' : g = q := Option.some.inj e
      rcases hat with h2 | h2
      · exact (h.new q h1).2 (by rw [h2, e'])
      · have := h.lt q h1; omega
    · simp at h1
      subst h1
      refine ⟨hsz, fun e => ?_⟩
      have e' : g = wr.heap.size := Option.some.inj e
      rcases hat with h2 | h2
      · have := hvlt g h2; omega
      · omega
  · rcases get_snoc hi with ⟨h1, h2⟩ | ⟨h1, h2⟩ <;> rcases get_snoc hj with ⟨h3, h4⟩ | ⟨h3, h4⟩
    · exact h.one i j q h2 h4
    · have := h.lt q (List.mem_of_getElem? h2); omega
    · have := h.lt q (List.mem_of_getElem? h4); omega
    · omega

/-- The first tick for one bucket more. -/
theorem passT_more {bs : List Bk} {b : Bk} {t n u T : Int} (hok : ∀ c, c ∈ bs → c.Ok) (hb : b.Ok) (t1 : t ≤ 1099511627776) (h1 : passT bs t n = some u) (h2 : b.when t n = some T) : passT (bs ++ [b]) t n = some (if u < T then T else u) := by
  obtain ⟨a1, a2, a3, a4⟩ := passT_some bs t u hok t1 h1
  obtain ⟨c1, c2, c3, c4⟩ := b.when_some hb t1 h2
  have hok' : ∀ c, c ∈ bs ++ [b] → c.Ok := fun c hc => by
    rcases List.mem_append.1 hc with h | h
    · exact hok c h
    · simp at h; rw [h]; exact hb
  have hM : (if u < T then T else u) = max u T := max_if u T
  rw [hM]
  refine passT_is hok' (by omega) (by omega) (fun c hc => ?_) (fun s h3 h4 h5 => ?_)
  · rcases List.mem_append.1 hc with h | h
    · have := a3 c h
      have := Bk.lev_mono (hok c h).r0 (show u ≤ max u T by omega)
      omega
    · simp at h; rw [h]
      have := Bk.lev_mono hb.r0 (show T ≤ max u T by omega)
      omega
  · by_cases hs : s < u
    · exact a4 s h3 hs (fun c hc => h5 c (List.mem_append_left _ hc))
    · have := c4 s h3 (by omega)
      have := h5 b (by simp)
      omega
theorem passT_lacks {bs : List Bk} {b : Bk} {t n : Int} (hok : ∀ c, c ∈ bs → c.Ok) (hm : b ∈ bs) (t1 : t ≤ 1099511627776) (h2 : b.when t n = none) : passT bs t n = none := by
  cases e : passT bs t n with
  | none => rfl
  | some U =>
    obtain ⟨a1, a2, a3, -⟩ := passT_some bs t U hok t1 e
    have := b.when_none (hok b hm) h2 U a1 a2
    have := a3 b hm
    omega
end Go.Proofs.YtlknljbceppedaaDoor
