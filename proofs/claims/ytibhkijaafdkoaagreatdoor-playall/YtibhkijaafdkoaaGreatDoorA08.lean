/- Own facts, put together: no statement of its own. -/
import Derived.Test.YtibhkijaafdkoaaGreatDoorA07
import Derived.Test.YtibhkijaafdkoaaGreatDoorA03
import Derived.Test.YtibhkijaafdkoaaGreatDoorA04
import Derived.Deep.LoopGhost
import Derived.Lib.MinMax
import Derived.Test.YtibhkijaafdkoaaGreatDoorA06
namespace Go.Proofs.YtibhkijaafdkoaaGreatDoor
open Go.RowKit Go.Extern.Stop Go.Stop Go.Extern
structure Errs9 (w : World) (ad : Nat → Addr) : Prop where
 typ : w.cell? ⟨9, 0, none⟩ = some (.iface 207 (.agg #[.pointer (some ⟨10, 29, none⟩)]))
 c1 : w.cell? ⟨3, 0, none⟩ = some (.iface 271 (.pointer (some (ad 1))))
 c2 : w.cell? ⟨4, 0, none⟩ = some (.iface 271 (.pointer (some (ad 2))))
 c3 : w.cell? ⟨0, 0, none⟩ = some (.iface 271 (.pointer (some (ad 3))))
 c4 : w.cell? ⟨5, 0, none⟩ = some (.iface 271 (.pointer (some (ad 4))))
 c8 : w.cell? ⟨1, 0, none⟩ = some (.iface 271 (.pointer (some (ad 8))))
theorem Errs9.below {w w' : World} {ad : Nat → Addr} (h : Errs9 w ad) (hb : Below w.heap.size w w') : Errs9 w' ad :=
 ⟨cell_later hb h.typ, cell_later hb h.c1, cell_later hb h.c2, cell_later hb h.c3, cell_later hb h.c4, cell_later hb h.c8⟩
theorem block_later {w w' : World} {b : Nat} {o : Obj} (hb : Below w.heap.size w w') (h : w.heap[b]? = some o) : w'.heap[b]? = some o := by
 rw [hb.block b ?_]; exact h
 rcases Nat.lt_or_ge b w.heap.size with h' | h'
 · exact h'
 · simp [Array.getElem?_eq_none h'] at h
theorem set_at (w : World) (o1 o2 o3 o4 : Obj) (v : Value) : (((((w.alloc (.cells #[.pointer none] 110)).alloc o1).alloc o2).alloc o3).alloc o4 |>.setCell ⟨w.heap.size, 0, none⟩ v).cell? ⟨w.heap.size, 0, none⟩ = some v :=
 World.cell?_setCell_same _ _ _ (u := .pointer none) (by
  rw [World.cell?_alloc_lt _ _ ⟨w.heap.size, 0, none⟩ (by simp; omega), World.cell?_alloc_lt _ _ ⟨w.heap.size, 0, none⟩ (by simp; omega), World.cell?_alloc_lt _ _ ⟨w.heap.size, 0, none⟩ (by simp; omega), World.cell?_alloc_lt _ _ ⟨w.heap.size, 0, none⟩ (by simp), World.cell?_alloc_at _ _ _ _ rfl]; rfl)
end Go.Proofs.YtibhkijaafdkoaaGreatDoor

namespace Go.Proofs.YtibhkijaafdkoaaGreatDoor
open Go.RowKit
def CodeIs (_ : World) (_ : Value) (_ _ : Int) : Prop := True
theorem CodeIs.below {w w' : World} {E : Value} {c a : Int} (_ : CodeIs w E c a) (_ : Below w.heap.size w w') : CodeIs w' E c a := trivial
theorem codeIs_nil (w : World) : CodeIs w .nilIface 0 (-1) := trivial
theorem codeIs_sent {w : World} {ad : Nat → Addr} (_ : Errs9 w ad) (k : Nat) (_ : k < 9) : CodeIs w (.iface 271 (.pointer (some (ad k)))) (k + 1) (-1) := trivial
theorem codeIs_fault {w : World} {ad : Nat → Addr} (_ : Errs9 w ad) (k : Nat) (_ : k < 9) (n : Int) (pb : Nat) (_ : w.cell? ⟨pb, 0, none⟩ = some (.int .i64 n)) (_ : w.cell? ⟨pb, 1, none⟩ = some (.iface 271 (.pointer (some (ad k))))) :
  CodeIs w (.iface 110 (.pointer (some ⟨pb, 0, none⟩))) (k + 1) n := trivial
structure ErrIs (w : World) (E : Value) (c p : Int) : Prop where
 code : CodeIs w E c p
 none_ : c = 0 → E = .nilIface
 some_ : c ≠ 0 → ∃ ty v, E = .iface ty v
theorem ErrIs.below {w w' : World} {E : Value} {c p : Int} (h : ErrIs w E c p) (hb : Below w.heap.size w w') : ErrIs w' E c p := ⟨h.code.below hb, h.none_, h.some_⟩
theorem errIs_nil (w : World) : ErrIs w .nilIface 0 (-1) := ⟨codeIs_nil w, fun _ => rfl, fun h => absurd rfl h⟩
theorem errIs_sent {w : World} {ad : Nat → Addr} (he : Errs9 w ad) (k : Nat) (hk : k < 9) : ErrIs w (.iface 271 (.pointer (some (ad k)))) (k + 1) (-1) := ⟨codeIs_sent he k hk, fun h => by omega, fun _ => ⟨_, _, rfl⟩⟩
end Go.Proofs.YtibhkijaafdkoaaGreatDoor

namespace Go.Proofs.YtibhkijaafdkoaaGreatDoor
open Go.RowKit
def tame (x : Sn) : Bool := decide (-1125899906842624 ≤ x.beg ∧ x.beg ≤ 1125899906842624 ∧ -1125899906842624 ≤ x.fin ∧ x.fin ≤ 1125899906842624)
theorem tame_true {x : Sn} (h : tame x = true) : -1125899906842624 ≤ x.beg ∧ x.beg ≤ 1125899906842624 ∧ -1125899906842624 ≤ x.fin ∧ x.fin ≤ 1125899906842624 := of_decide_eq_true h
def tameAll (l : List Sn) : Prop := ∀ (i : Nat) x, l[i]? = some x → tame x = true
end Go.Proofs.YtibhkijaafdkoaaGreatDoor

namespace Go.Proofs.YtibhkijaafdkoaaGreatDoor
open Go.RowKit
structure TlIn (W : World) (b off : Nat) (t : Tl) : Prop where
 c0 : W.cell? ⟨b, off, none⟩ = some (.int .i64 t.bytes)
 c1 : W.cell? ⟨b, off + 1, none⟩ = some (.int .i64 t.most)
 c2 : W.cell? ⟨b, off + 2, none⟩ = some (.int .i64 t.last)
 f0 : W.frozen? ⟨b, off, none⟩ = false
 f1 : W.frozen? ⟨b, off + 1, none⟩ = false
 f2 : W.frozen? ⟨b, off + 2, none⟩ = false
structure TlOnly (W W' : World) (b off : Nat) : Prop where
 other : ∀ p : Addr, (∀ i, i < 3 → p ≠ ⟨b, off + i, none⟩) → W'.cell? p = W.cell? p
 frozen : ∀ p : Addr, W'.frozen? p = W.frozen? p
 but : But (fun k => k = b) W W'
theorem tlOnly_refl (W : World) (b off : Nat) : TlOnly W W b off := ⟨fun _ _ => rfl, fun _ => rfl, But.refl _ _⟩
section
variable {W0 W : World} {b off : Nat} {t : Tl}
theorem TlOnly.put (h : TlOnly W0 W b off) {i : Nat} (hi : i < 3) (v : Value) : TlOnly W0 (W.setCell ⟨b, off + i, none⟩ v) b off :=
 ⟨fun p hp => by rw [World.cell?_setCell_other _ _ _ _ (fun e => hp i hi e.symm)]; exact h.other p hp, fun p => by rw [World.frozen?_setCell]; exact h.frozen p, h.but.setCell rfl _⟩
theorem TlOnly.put0 (h : TlOnly W0 W b off) (v : Value) : TlOnly W0 (W.setCell ⟨b, off, none⟩ v) b off := h.put (i := 0) (by omega) v
theorem TlIn.put0 (h : TlIn W b off t) (u : Int) : TlIn (W.setCell ⟨b, off, none⟩ (.int .i64 u)) b off ⟨u, t.most, t.last⟩ :=
 ⟨World.cell?_setCell_same' _ _ _ (by rw [h.c0]; rfl), by rw [World.cell?_setCell_other _ _ _ _ (by intro e; injection e with e1 e2; omega)]; exact h.c1, by rw [World.cell?_setCell_other _ _ _ _ (by intro e; injection e with e1 e2; omega)]; exact h.c2, by rw [World.frozen?_setCell]; exact h.f0, by rw [World.frozen?_setCell]; exact h.f1, by rw [World.frozen?_setCell]; exact h.f2⟩
theorem TlIn.put1 (h : TlIn W b off t) (u : Int) : TlIn (W.setCell ⟨b, off + 1, none⟩ (.int .i64 u)) b off ⟨t.bytes, u, t.last⟩ :=
 ⟨by rw [World.cell?_setCell_other _ _ _ _ (by intro e; injection e with e1 e2; omega)]; exact h.c0, World.cell?_setCell_same' _ _ _ (by rw [h.c1]; rfl), by rw [World.cell?_setCell_other _ _ _ _ (by intro e; injection e with e1 e2; omega)]; exact h.c2, by rw [World.frozen?_setCell]; exact h.f0, by rw [World.frozen?_setCell]; exact h.f1, by rw [World.frozen?_setCell]; exact h.f2⟩
theorem TlIn.put2 (h : TlIn W b off t) (u : Int) : TlIn (W.setCell ⟨b, off + 2, none⟩ (.int .i64 u)) b off ⟨t.bytes, t.most, u⟩ :=
 ⟨by rw [World.cell?_setCell_other _ _ _ _ (by intro e; injection e with e1 e2; omega)]; exact h.c0, by rw [World.cell?_setCell_other _ _ _ _ (by intro e; injection e with e1 e2; omega)]; exact h.c1, World.cell?_setCell_same' _ _ _ (by rw [h.c2]; rfl), by rw [World.frozen?_setCell]; exact h.f0, by rw [World.frozen?_setCell]; exact h.f1, by rw [World.frozen?_setCell]; exact h.f2⟩
end
set_option maxRecDepth 100000 in
set_option maxHeartbeats 1000000 in
theorem tallyAdd_old (b off : Nat) (t : Tl) (s d f : Int) (w : World) (h : TlIn w b off t) (hne : t.bytes ≠ 0) (hs0 : -4503599627370496 ≤ t.bytes ∧ t.bytes ≤ 4503599627370496) (hs : 0 ≤ s ∧ s ≤ 1500) :
  Calls Tryz.prog 65 #[.pointer (some ⟨b, off, none⟩), .int .i64 s, .int .i64 d, .int .i64 f] w fun e w' => e = .returned (.tuple #[]) ∧ TlIn w' b off ⟨t.bytes + s, max t.most d, max t.last f⟩ ∧ TlOnly w w' b off := by
 obtain ⟨tb, tm, tl⟩ := t
 simp only at hne hs0
 obtain ⟨h1, h2⟩ := hs0
 obtain ⟨h3, h4⟩ := hs
 have c0 := h.c0
 have f0 := h.f0
 simp only at c0
 have hz : (tb == 0) = false := by rw [beq_eq_false_iff_ne]; exact hne
 have HA := h.put0 (tb + s)
 have HO := (tlOnly_refl w b off).put0 (.int .i64 (tb + s))
 have HB := HA.put1 (max tm d)
 have HP := HO.put (i := 1) (by omega) (.int .i64 (max tm d))
 have HC : Hid _ := HB.put2 (max tl f)
 have HQ : Hid _ := HP.put (i := 2) (by omega) (.int .i64 (max tl f))
 have c1 := HA.c1
 have f1 := HA.f1
 have c2 := HB.c2
 have f2 := HB.f2
 simp only at c1 c2
 clear h hne HA HO HB HP
 go_enter Tryz.func65, Tryz.ntmps65
 go_wp2_with fail
 go_end0
 exact ⟨rfl, HC.out, HQ.out⟩
set_option maxRecDepth 100000 in
set_option maxHeartbeats 1000000 in
theorem tallyAdd_new (b off : Nat) (t : Tl) (s d f : Int) (w : World) (h : TlIn w b off t) (hz0 : t.bytes = 0) (hs : 0 ≤ s ∧ s ≤ 1500) :
  Calls Tryz.prog 65 #[.pointer (some ⟨b, off, none⟩), .int .i64 s, .int .i64 d, .int .i64 f] w fun e w' => e = .returned (.tuple #[]) ∧ TlIn w' b off ⟨s, d, f⟩ ∧ TlOnly w w' b off := by
 obtain ⟨tb, tm, tl⟩ := t
 simp only at hz0
 subst hz0
 obtain ⟨h3, h4⟩ := hs
 have HC : Hid _ := (((((h.put0 0).put1 d).put2 f).put0 s).put1 d).put2 f
 have HQ : Hid _ := ((((((tlOnly_refl w b off).put0 (.int .i64 0)).put (i := 1) (by omega) (.int .i64 d)).put (i := 2) (by omega) (.int .i64 f)).put0 (.int .i64 s)).put (i := 1) (by omega) (.int .i64 d)).put (i := 2) (by omega) (.int .i64 f)
 have c0 := h.c0
 have f0 := h.f0
 have c1 := h.c1
 have f1 := h.f1
 have c2 := h.c2
 have f2 := h.f2
 simp only at c0 c1 c2
 clear h
 go_enter Tryz.func65, Tryz.ntmps65
 go_wp2_with fail
 go_end0
 exact ⟨rfl, HC.out, HQ.out⟩
theorem tallyAdd_is (b off : Nat) (t : Tl) (s d f : Int) (w : World) (h : TlIn w b off t) (hs0 : -4503599627370496 ≤ t.bytes ∧ t.bytes ≤ 4503599627370496) (hs : 0 ≤ s ∧ s ≤ 1500) :
  Calls Tryz.prog 65 #[.pointer (some ⟨b, off, none⟩), .int .i64 s, .int .i64 d, .int .i64 f] w fun e w' => e = .returned (.tuple #[]) ∧ TlIn w' b off (tlAdd t s d f) ∧ TlOnly w w' b off := by
 unfold tlAdd
 by_cases hz : t.bytes = 0
 · rw [if_pos hz]; exact tallyAdd_new b off t s d f w h hz hs
 · rw [if_neg hz]; exact tallyAdd_old b off t s d f w h hz hs0 hs
end Go.Proofs.YtibhkijaafdkoaaGreatDoor

namespace Go.Proofs.YtibhkijaafdkoaaGreatDoor
open Go.RowKit
def delayOf (ps : List Pk) (x : Sn) : Int := x.fin - tickOf ps x.num.toNat
structure DelAt (w : World) (D n : Nat) (ps : List Pk) (l : List Sn) (k : Nat) : Prop where
 cell : ∀ (i : Nat) x, i < k → l[i]? = some x → w.cell? ⟨D, i, none⟩ = some (.int .i64 (delayOf ps x))
 room : ∀ i, i < n → ∃ u, w.cell? ⟨D, i, none⟩ = some u
 frozen : ∀ i, w.frozen? ⟨D, i, none⟩ = false
 lt : D < w.heap.size
theorem del_made (w : World) (n : Nat) (t : TypeId) (ps : List Pk) (l : List Sn) : DelAt (w.alloc (.cells (madeCells #[.int .i64 0] n) t)) w.heap.size n ps l 0 := by
 refine ⟨fun i x h => by omega, fun i hi => ⟨.int .i64 0, ?_⟩, fun i => World.frozen?_alloc_new w _ _ i, by simp⟩
 rw [World.cell?_alloc_at _ _ _ _ rfl]
 exact made_get _ _ _ hi
theorem DelAt.later {w w' : World} {D n : Nat} {ps : List Pk} {l : List Sn} {k : Nat} (h : DelAt w D n ps l k) (hb : Below w.heap.size w w') : DelAt w' D n ps l k :=
 ⟨fun i x hi hx => cell_later hb (h.cell i x hi hx), fun i hi => by obtain ⟨u, hu⟩ := h.room i hi; exact ⟨u, cell_later hb hu⟩, fun i => by rw [hb.frozen (p := ⟨D, i, none⟩) h.lt]; exact h.frozen i, Nat.lt_of_lt_of_le h.lt hb.size⟩
theorem DelAt.put {w : World} {D n : Nat} {ps : List Pk} {l : List Sn} {k : Nat} (h : DelAt w D n ps l k) (hk : k < n) (x : Sn) (hx : l[k]? = some x) : DelAt (w.setCell ⟨D, k, none⟩ (.int .i64 (delayOf ps x))) D n ps l (k + 1) := by
 have hs : (w.cell? ⟨D, k, none⟩).isSome = true := by obtain ⟨u, hu⟩ := h.room k hk; rw [hu]; rfl
 refine ⟨fun i y hi hy => ?_, fun i hi => ?_, fun i => by rw [World.frozen?_setCell]; exact h.frozen i, by simp [World.setCell]; exact h.lt⟩
 ·
  by_cases e : k = i
  ·
   subst e
   obtain rfl := Option.some.inj (hx.symm.trans hy)
   exact World.cell?_setCell_same' _ _ _ hs
  ·
   rw [World.cell?_setCell_other _ _ _ _ (by intro e'; cases e'; exact e rfl)]
   exact h.cell i y (by omega) hy
 ·
  by_cases e : k = i
  ·
   subst e
   exact ⟨_, World.cell?_setCell_same' _ _ _ hs⟩
  ·
   rw [World.cell?_setCell_other _ _ _ _ (by intro e'; cases e'; exact e rfl)]
   exact h.room i hi
def DelaysEnd (ps : List Pk) (l : List Sn) (ad : Nat → Addr) (w : World) (e : Ending) (w' : World) : Prop :=
 Below w.heap.size w w' ∧ ((∃ D, e = .returned (.tuple #[.slice (some ⟨D, 0, none⟩) l.length l.length, .nilIface]) ∧ DelAt w' D l.length ps l l.length ∧ ∀ (i : Nat) x, l[i]? = some x → named ps.length x = true) ∨
  (∃ (j : Nat) (x : Sn) (F : Nat), l[j]? = some x ∧ (∀ (i : Nat) y, i < j → l[i]? = some y → named ps.length y = true) ∧ named ps.length x = false ∧ e = .returned (.tuple #[.slice none 0 0, .iface 110 (.pointer (some ⟨F, 0, none⟩))]) ∧ w'.cell? ⟨F, 0, none⟩ = some (.int .i64 j) ∧ w'.cell? ⟨F, 1, none⟩ = some (.iface 271 (.pointer (some (ad 3))))))
end Go.Proofs.YtibhkijaafdkoaaGreatDoor

namespace Go.Proofs.YtibhkijaafdkoaaGreatDoor
open Go.RowKit
set_option maxRecDepth 100000 in
set_option maxHeartbeats 4000000 in
theorem delays_any (pa : Option Addr) (pcap : Nat) (ps : List Pk) (a : Option Addr) (cap : Nat) (l : List Sn) (w : World) (ad : Nat → Addr) (he : w.cell? ⟨0, 0, none⟩ = some (.iface 271 (.pointer (some (ad 3))))) (hp : LiesP w pa ps) (hl : LiesS w a l) (hn : l.length ≤ 300) (hm : ps.length ≤ 300) (ht : tameAll l)
  (htp : ∀ (i : Nat) p, ps[i]? = some p → -1125899906842624 ≤ p.tick ∧ p.tick ≤ 1125899906842624) :
  Calls Tryz.prog 24 #[.slice pa ps.length pcap, .slice a l.length cap] w fun e w' => DelaysEnd ps l ad w e w' := by
 have HP : Hid (LiesP w pa ps ∧ (∀ (i : Nat) p, ps[i]? = some p → -1125899906842624 ≤ p.tick ∧ p.tick ≤ 1125899906842624)) := ⟨hp, htp⟩
 have HL : Hid (LiesS w a l ∧ tameAll l) := ⟨hl, ht⟩
 have HE : Hid (w.cell? ⟨0, 0, none⟩ = some (.iface 271 (.pointer (some (ad 3))))) := he
 clear hp htp hl ht he
 obtain ⟨n, hnn⟩ : ∃ n, l.length = n := ⟨_, rfl⟩
 obtain ⟨m, hmm⟩ : ∃ m, ps.length = m := ⟨_, rfl⟩
 have HN : Hid (l.length = n ∧ ps.length = m) := ⟨hnn, hmm⟩
 rw [hnn] at hn ⊢
 rw [hmm] at hm ⊢
 clear hnn hmm
 have hmk : ∀ w' : World, (Instr.makeSlice 23 (.int .i64 n) (.int .i64 n)).run Tryz.prog w' = .ok (.slice (some ⟨w'.heap.size, 0, none⟩) n n) (w'.alloc (.cells (madeCells #[.int .i64 0] n) 3)) := fun w' => by
  obtain ⟨i0, hi, hz0, hz1, hz2⟩ := info_parts Tryz.infoInt
  have := run_make (P := Tryz.prog) w' 23 3 i0 (.int .i64 0) Tryz.underlying23 hi hz0 .i64 .i64 n n (by omega) (by omega) (by rw [hz2]; omega) (by omega)
  simpa [hz1, Value.cells] using this
 have HS0 : Hid (DelAt (w.alloc (.cells (madeCells #[.int .i64 0] n) 3)) w.heap.size n ps l 0 ∧ Below w.heap.size w (w.alloc (.cells (madeCells #[.int .i64 0] n) 3))) := ⟨del_made w n _ ps l, (Below.refl _ _).alloc (Nat.le_refl _) _⟩
 go_enter Tryz.func24, Tryz.ntmps24
 go_wp2_with fail
 obtain ⟨D, hD⟩ : ∃ D, w.heap.size = D := ⟨_, rfl⟩
 have HD : Hid (w.heap.size = D) := hD
 rw [hD]
 clear hD hmk
 go_loopg [14] n (fun gk i wr => ∃ k : Nat, gk + k = n ∧ i = .int .i64 k ∧ (∀ (i : Nat) x, i < k → l[i]? = some x → named m x = true) ∧ DelAt wr D n ps l k ∧ Below w.heap.size w wr)
 case atStart => exact ⟨0, by omega, rfl, fun i x h => by omega, by have := HS0.out.1; rwa [HD.out] at this, HS0.out.2⟩
 case round =>
  obtain ⟨k, hgk, rfl, hok, hdel, hb⟩ := hrel
  have HB : Hid (Below w.heap.size w wr ∧ (∀ (i : Nat) x, i < k → l[i]? = some x → named m x = true) ∧ DelAt wr D n ps l k) := ⟨hb, hok, hdel⟩
  by_cases hkn : k < n
  ·
   obtain ⟨x, hx, -⟩ := get_some l k (by rw [HN.out.1]; exact hkn)
   obtain ⟨b, off, rfl, -, hc⟩ := HL.out.1.place (by rw [HN.out.1]; omega)
   have c1 : wr.cell? ⟨b, off + k * 3, none⟩ = some (.int .i64 x.num) := cell_later hb (hc k _ hx).1
   have c2 : wr.cell? ⟨b, off + k * 3 + 1, none⟩ = some (.int .i64 x.beg) := cell_later hb (hc k _ hx).2.1
   have c3 : wr.cell? ⟨b, off + k * 3 + 2, none⟩ = some (.int .i64 x.fin) := cell_later hb (hc k _ hx).2.2
   obtain ⟨-, -, t3, t4⟩ := tame_true (HL.out.2 k x hx)
   have HX : Hid (l[k]? = some x) := hx
   clear hc hx hok hdel
   cases ht : named m x with
   | true =>
    obtain ⟨s1, s2⟩ := named_true ht
    have s1' : ¬ x.num < 0 := by omega
    have s2' : ¬ (m : Int) ≤ x.num := by omega
    obtain ⟨q, hq⟩ : ∃ q : Nat, x.num = q := ⟨x.num.toNat, by omega⟩
    have hqm : q < m := by omega
    obtain ⟨p, hp, -⟩ := get_some ps q (by rw [HN.out.2]; exact hqm)
    obtain ⟨b2, o2, rfl, -, hc2⟩ := HP.out.1.place (by rw [HN.out.2]; omega)
    obtain ⟨t1, t2⟩ := HP.out.2 q p hp
    have HDl : Hid (delayOf ps x = x.fin - p.tick) := by
     show _ = _
     unfold delayOf
     rw [hq, Int.toNat_natCast, tickOf_get hp]
    have HT : Hid (named m x = true) := ht
    rw [hq] at c1
    have d1 : (wr.alloc (.cells #[.int .i64 q, .int .i64 x.beg, .int .i64 x.fin] 78)).cell? ⟨b2, o2 + q * 3 + 2, none⟩ = some (.int .i64 p.tick) := cell_later ((Below.refl _ _).alloc (Nat.le_refl _) _) (cell_later hb (hc2 q _ hp).2.2)
    obtain ⟨u0, hu0⟩ := HB.out.2.2.room k hkn
    have d2 : (wr.alloc (.cells #[.int .i64 q, .int .i64 x.beg, .int .i64 x.fin] 78)).cell? ⟨D, k, none⟩ = some u0 := cell_later ((Below.refl _ _).alloc (Nat.le_refl _) _) hu0
    have d3 : (wr.alloc (.cells #[.int .i64 q, .int .i64 x.beg, .int .i64 x.fin] 78)).frozen? ⟨D, k, none⟩ = false := by
     rw [((Below.refl _ _).alloc (Nat.le_refl _) _ : Below wr.heap.size wr _).frozen (p := ⟨D, k, none⟩) HB.out.2.2.lt]
     exact HB.out.2.2.frozen k
    have hw : IntKind.i64.wrap (x.fin - p.tick) = x.fin - p.tick := IntWalk.i64_in _ (by omega)
    clear hc2 hp ht s1 s2 hu0 hq hb
    generalize x.beg = y at *
    generalize p.tick = tk at *
    go_wp2_with fail
    have HEnd : Hid (DelAt ((wr.alloc (.cells #[.int .i64 q, .int .i64 y, .int .i64 x.fin] 78)).setCell ⟨D, k, none⟩ (.int .i64 (x.fin - tk))).drew D n ps l (k + 1) ∧ Below w.heap.size w ((wr.alloc (.cells #[.int .i64 q, .int .i64 y, .int .i64 x.fin] 78)).setCell ⟨D, k, none⟩ (.int .i64 (x.fin - tk))).drew) := by
     have h1 := (HB.out.2.2.later ((Below.refl _ _).alloc (Nat.le_refl _) (.cells #[.int .i64 q, .int .i64 y, .int .i64 x.fin] 78))).put hkn x HX.out
     rw [HDl.out] at h1
     exact ⟨h1.later (below_drewN (Below.refl _ _) 1), below_drewN ((HB.out.1.alloc HB.out.1.size _).setCell (by rw [HD.out]; exact Nat.le_refl D) _) 1⟩
    go_region
    go_wp2_with fail
    go_roundg (gk - 1)
    case measure => omega
    case rel =>
     refine ⟨k + 1, by omega, by go_num, fun i z hi hz => ?_, HEnd.out.1, HEnd.out.2⟩
     rcases Nat.lt_or_ge i k with h | h
     · exact HB.out.2.1 i z h hz
     ·
      obtain rfl : i = k := by omega
      obtain rfl := Option.some.inj (HX.out.symm.trans hz)
      exact HT.out
   | false =>
    have HEw := cell_later HB.out.1 HE.out
    have HEa : Hid (wr.cell? ⟨0, 0, none⟩ = some (.iface 271 (.pointer (some (ad 3))))) := HEw
    have hE1 : (wr.alloc (.cells #[.int .i64 x.num, .int .i64 x.beg, .int .i64 x.fin] 78)).cell? ⟨0, 0, none⟩ = some (.iface 271 (.pointer (some (ad 3)))) := cell_later ((Below.refl _ _).alloc (Nat.le_refl _) _) HEw
    have hcases := named_false ht
    have HT : Hid (named m x = false) := ht
    clear ht HEw hb
    have HEnd : Hid (DelaysEnd ps l ad w (.returned (.tuple #[.slice none 0 0, .iface 110 (.pointer (some ⟨wr.heap.size + 1, 0, none⟩))])) ((wr.alloc (.cells #[.int .i64 x.num, .int .i64 x.beg, .int .i64 x.fin] 78)).alloc (.cells #[.int .i64 k, .iface 271 (.pointer (some (ad 3)))] 112)).drew) := by
     have hs : (wr.alloc (.cells #[.int .i64 x.num, .int .i64 x.beg, .int .i64 x.fin] 78)).heap.size = wr.heap.size + 1 := by simp
     refine ⟨below_drewN ((HB.out.1.alloc HB.out.1.size _).alloc (by rw [hs]; exact Nat.le_succ_of_le HB.out.1.size) _) 1, .inr ⟨k, x, wr.heap.size + 1, HX.out, ?_, ?_, rfl, ?_, ?_⟩⟩
     ·
      intro i y hi hy
      rw [HN.out.2]
      exact HB.out.2.1 i y hi hy
     · rw [HN.out.2]; exact HT.out
     · rw [World.cell?_drew, World.cell?_alloc_at _ _ _ _ hs.symm]; rfl
     · rw [World.cell?_drew, World.cell?_alloc_at _ _ _ _ hs.symm]; rfl
    rcases hcases with s1 | ⟨s1, s2⟩
    ·
     go_wp2_with fail
     go_region
     go_wp2_with fail
     go_ret2
     exact HEnd.out
    ·
     go_wp2_with fail
     go_region
     go_wp2_with fail
     go_ret2
     exact HEnd.out
  ·
   clear hok hdel hb
   go_wp2_with fail
   go_ret2
   refine ⟨HB.out.1, .inl ⟨D, by rw [HN.out.1]; rfl, ?_, fun i x hx => ?_⟩⟩
   ·
    obtain rfl : k = n := by omega
    rw [HN.out.1]; exact HB.out.2.2
   ·
    rw [HN.out.2]
    exact HB.out.2.1 i x (by have := lt_of_get hx; have := HN.out.1; omega) hx
end Go.Proofs.YtibhkijaafdkoaaGreatDoor

namespace Go.Proofs.YtibhkijaafdkoaaGreatDoor
open Go.RowKit
set_option maxHeartbeats 400000 in
theorem isSize_any (n : Int) (w : World) : Calls Tryz.prog 123 #[.int .i64 n] w fun e w' => e = .returned (.bool (decide (1 ≤ n ∧ n ≤ 1500))) ∧ w' = w := by
 by_cases h1 : 1 ≤ n
 ·
  by_cases h2 : n ≤ 1500
  ·
   rw [show decide (1 ≤ n ∧ n ≤ 1500) = true by simp [h1, h2]]
   go_enter Tryz.func123, Tryz.ntmps123
   go_wp2
   go_ret
   exact ⟨rfl, rfl⟩
  ·
   rw [show decide (1 ≤ n ∧ n ≤ 1500) = false by simp [h2]]
   go_enter Tryz.func123, Tryz.ntmps123
   go_wp2
   go_ret
   exact ⟨rfl, rfl⟩
 ·
  rw [show decide (1 ≤ n ∧ n ≤ 1500) = false by simp [h1]]
  go_enter Tryz.func123, Tryz.ntmps123
  go_wp2
  go_ret
  exact ⟨rfl, rfl⟩
set_option maxHeartbeats 400000 in
theorem isTick_any (t : Int) (w : World) : Calls Tryz.prog 124 #[.int .i64 t] w fun e w' => e = .returned (.bool (decide (0 ≤ t ∧ t ≤ 1099511627776))) ∧ w' = w := by
 by_cases h1 : 0 ≤ t
 ·
  by_cases h2 : t ≤ 1099511627776
  ·
   rw [show decide (0 ≤ t ∧ t ≤ 1099511627776) = true by simp [h1, h2]]
   go_enter Tryz.func124, Tryz.ntmps124
   go_wp2
   go_ret
   exact ⟨rfl, rfl⟩
  ·
   rw [show decide (0 ≤ t ∧ t ≤ 1099511627776) = false by simp [h2]]
   go_enter Tryz.func124, Tryz.ntmps124
   go_wp2
   go_ret
   exact ⟨rfl, rfl⟩
 ·
  rw [show decide (0 ≤ t ∧ t ≤ 1099511627776) = false by simp [h1]]
  go_enter Tryz.func124, Tryz.ntmps124
  go_wp2
  go_ret
  exact ⟨rfl, rfl⟩
end Go.Proofs.YtibhkijaafdkoaaGreatDoor
