/- Own facts, put together: no statement of its own. -/
import Derived.Test.YtibhkijaafdkoaaGreatDoorK49
import Derived.Test.YtibhkijaafdkoaaGreatDoorK09
import Derived.Test.YtibhkijaafdkoaaGreatDoorK11
import Derived.Test.YtibhkijaafdkoaaGreatDoorK22
import Derived.Test.YtibhkijaafdkoaaGreatDoorK17
import Derived.Deep.LoopGhost
import Derived.Test.YtibhkijaafdkoaaGreatDoorK24
import Derived.Test.YtibhkijaafdkoaaGreatDoorK18
import Derived.Test.YtibhkijaafdkoaaGreatDoorK26
namespace Go.Proofs.YtibhkijaafdkoaaGreatDoor
open Go.RowKit
structure AuditAt (w0 w : World) (R S K P G D : Nat) (pa : Option Addr) (cap : Nat) (ps : List Pk) (per : Int) (out : List Sn) (ad : Nat → Addr) : Prop where
 send : AuSend w S K P G D pa cap ps per out
 rules : RulesAt w R S K P ad
 gf : w.frozen? ⟨G, 2, none⟩ = false
 ne : G ≠ D ∧ S ≠ G ∧ S ≠ D ∧ K ≠ G ∧ K ≠ D ∧ P ≠ G ∧ P ≠ D ∧ R ≠ G ∧ R ≠ D
 new : w0.heap.size ≤ G ∧ w0.heap.size ≤ D
 pks : LiesP w0 pa ps
 below : Below w0.heap.size w0 w
section
variable {w0 w w' : World} {R S K P G D : Nat} {pa : Option Addr} {cap : Nat} {ps : List Pk} {per : Int} {out : List Sn} {ad : Nat → Addr}
theorem AuditAt.later (h : AuditAt w0 w R S K P G D pa cap ps per out ad) (hb : Below w.heap.size w w') : AuditAt w0 w' R S K P G D pa cap ps per out ad :=
 ⟨h.send.later hb, h.rules.later hb, by rw [hb.frozen (p := ⟨G, 2, none⟩) (cell_lt h.send.g2)]; exact h.gf, h.ne, h.new, h.pks, h.below.trans (hb.mono h.below.size)⟩
theorem cell_two {a b c : Addr} {u v : Value} (h1 : a ≠ b) (h2 : a ≠ c) : ((w.setCell b u).drew.setCell c v).cell? a = w.cell? a := by
 rw [World.cell?_setCell_other _ _ _ _ (Ne.symm h2), World.cell?_drew, World.cell?_setCell_other _ _ _ _ (Ne.symm h1)]
theorem AuditAt.put (h : AuditAt w0 w R S K P G D pa cap ps per out ad) (k : Nat) (hk : k < ps.length) (beg fin : Int) : AuditAt w0 ((w.setCell ⟨D, k, none⟩ (.bool true)).drew.setCell ⟨G, 2, none⟩ (.int .i64 fin)) R S K P G D pa cap ps per (out ++ [⟨k, beg, fin⟩]) ad := by
 obtain ⟨n1, n2, n3, n4, n5, n6, n7, n8, n9⟩ := h.ne
 have hbel : Below w0.heap.size w0 ((w.setCell ⟨D, k, none⟩ (.bool true)).drew.setCell ⟨G, 2, none⟩ (.int .i64 fin)) := (below_drewN (h.below.setCell (p := ⟨D, k, none⟩) h.new.2 _) 1).setCell (p := ⟨G, 2, none⟩) h.new.1 _
 have cl : ∀ {B o : Nat} {v : Value}, B ≠ D → B ≠ G → w.cell? ⟨B, o, none⟩ = some v → ((w.setCell ⟨D, k, none⟩ (.bool true)).drew.setCell ⟨G, 2, none⟩ (.int .i64 fin)).cell? ⟨B, o, none⟩ = some v := fun {B o v} h1 h2 hv => by
  rw [cell_two (fun e => h1 (congrArg Addr.block e)) (fun e => h2 (congrArg Addr.block e))]; exact hv
 have hd := h.send.done.put k hk beg fin
 refine ⟨⟨cl n3 n2 h.send.s, cl n5 n4 h.send.k, cl n7 n6 h.send.p, ?_, ?_, ?_, h.pks.below hbel, ?_⟩, ⟨cl n9 n8 h.rules.e0, cl n9 n8 h.rules.f0, cl n9 n8 h.rules.e1, cl n9 n8 h.rules.f1, cl n9 n8 h.rules.e2, cl n9 n8 h.rules.f2, cl n9 n8 h.rules.e3, cl n9 n8 h.rules.f3, cl n9 n8 h.rules.e4, cl n9 n8 h.rules.f4⟩, ?_, h.ne, h.new, h.pks, hbel⟩
 · rw [cell_two (fun e => n1 (congrArg Addr.block e)) (fun e => by cases e)]; exact h.send.g0
 · rw [cell_two (fun e => n1 (congrArg Addr.block e)) (fun e => by cases e)]; exact h.send.g1
 ·
  rw [lastFin_snoc]
  refine World.cell?_setCell_same' _ _ _ ?_
  rw [World.cell?_drew, World.cell?_setCell_other _ _ _ _ (fun e => n1 (congrArg Addr.block e).symm), h.send.g2]
  rfl
 ·
  refine hd.of_block ?_ (by simp [World.setCell])
  exact Below.heap_setCell _ _ _ _ fun e => n1 e.symm
 · rw [World.frozen?_setCell, World.frozen?_drew, World.frozen?_setCell]; exact h.gf
end
set_option maxRecDepth 100000 in
set_option maxHeartbeats 2000000 in
theorem auGoOn (w0 w : World) (R S K P G D : Nat) (pa : Option Addr) (cap : Nat) (ps : List Pk) (per : Int) (out : List Sn) (ad : Nat → Addr) (h : AuditAt w0 w R S K P G D pa cap ps per out ad) (k : Nat) (hk : k < ps.length) (beg fin : Int) :
  Calls Tryz.prog 55 #[.pointer (some ⟨G, 0, none⟩), .agg #[.int .i64 (k : Int), .int .i64 beg, .int .i64 fin]] w fun e w' => e = .returned (.tuple #[]) ∧ AuditAt w0 w' R S K P G D pa cap ps per (out ++ [⟨k, beg, fin⟩]) ad := by
 have hb1 : Below w.heap.size w (w.alloc (.cells #[.int .i64 (k : Int), .int .i64 beg, .int .i64 fin] 78)) := (Below.refl _ _).alloc (Nat.le_refl _) _
 have e0 : (w.alloc (.cells #[.int .i64 (k : Int), .int .i64 beg, .int .i64 fin] 78)).cell? ⟨w.heap.size, 0, none⟩ = some (.int .i64 (k : Int)) := by simp
 have e2 : (w.alloc (.cells #[.int .i64 (k : Int), .int .i64 beg, .int .i64 fin] 78)).cell? ⟨w.heap.size, 2, none⟩ = some (.int .i64 fin) := by simp
 have hV := h.later hb1
 have hlt := Nat.lt_of_lt_of_le h.send.done.lt (Nat.le_refl _)
 have hne : w.heap.size ≠ D := by omega
 obtain ⟨V, hVe⟩ : ∃ V, w.alloc (.cells #[.int .i64 (k : Int), .int .i64 beg, .int .i64 fin] 78) = V := ⟨_, rfl⟩
 rw [hVe] at e0 e2 hV
 have HE : Hid (AuditAt w0 ((V.setCell ⟨D, k, none⟩ (.bool true)).drew.setCell ⟨G, 2, none⟩ (.int .i64 fin)) R S K P G D pa cap ps per (out ++ [⟨k, beg, fin⟩]) ad) := hV.put k hk beg fin
 have c1 := hV.send.g1
 have d1 := hV.send.done.cell k hk
 have f1 := hV.send.done.frozen k
 have u2 : ((V.setCell ⟨D, k, none⟩ (.bool true)).drew).cell? ⟨w.heap.size, 2, none⟩ = some (.int .i64 fin) := by
  rw [World.cell?_drew, World.cell?_setCell_other _ _ _ _ (fun e => hne (congrArg Addr.block e).symm)]; exact e2
 have u3 : ((V.setCell ⟨D, k, none⟩ (.bool true)).drew).cell? ⟨G, 2, none⟩ = some (.int .i64 (lastFin out)) := by
  rw [World.cell?_drew, World.cell?_setCell_other _ _ _ _ (fun e => hV.ne.1 (congrArg Addr.block e).symm)]; exact hV.send.g2
 have u4 : ((V.setCell ⟨D, k, none⟩ (.bool true)).drew).frozen? ⟨G, 2, none⟩ = false := by
  rw [World.frozen?_drew, World.frozen?_setCell]; exact hV.gf
 obtain ⟨n, hnn⟩ : ∃ n, ps.length = n := ⟨_, rfl⟩
 rw [hnn] at hk c1
 obtain ⟨Y, hY⟩ : ∃ Y, (V.setCell ⟨D, k, none⟩ (.bool true)).drew = Y := ⟨_, rfl⟩
 rw [hY] at HE u2 u3 u4
 clear h hb1 hV hnn hlt hne
 go_enter Tryz.func55, Tryz.ntmps55
 go_wp2_with fail
 go_region
 go_wp2_with fail
 go_end0
 exact ⟨rfl, HE.out⟩
set_option maxRecDepth 100000 in
set_option maxHeartbeats 2000000 in
theorem auRules (w : World) (G : Nat) (per : Int) (ad : Nat → Addr) (he : Errs9 w ad) :
  Calls Tryz.prog 53 #[.pointer (some ⟨G, 0, none⟩), .int .i64 per] w fun e w' => e = .returned (.slice (some ⟨w.heap.size + 3, 0, none⟩) 5 5) ∧ RulesAt w' (w.heap.size + 3) w.heap.size (w.heap.size + 2) (w.heap.size + 1) ad ∧ w'.cell? ⟨w.heap.size, 0, none⟩ = some (.pointer (some ⟨G, 0, none⟩)) ∧ w'.cell? ⟨w.heap.size + 2, 0, none⟩ = some (.func (.func 89) #[] #[.pointer (some ⟨w.heap.size, 0, none⟩)]) ∧ w'.cell? ⟨w.heap.size + 1, 0, none⟩ = some (.int .i64 per) ∧ Below w.heap.size w w' := by
 have hs1 : (w.alloc (.cells #[.pointer (some ⟨G, 0, none⟩)] 103)).heap.size = w.heap.size + 1 := by simp
 have hs2 : ((w.alloc (.cells #[.pointer (some ⟨G, 0, none⟩)] 103)).alloc (.cells #[.int .i64 per] 3)).heap.size = w.heap.size + 2 := by simp
 have hs3 : (((w.alloc (.cells #[.pointer (some ⟨G, 0, none⟩)] 103)).alloc (.cells #[.int .i64 per] 3)).alloc (.cells #[.func (.func 89) #[] #[.pointer (some ⟨w.heap.size, 0, none⟩)]] 149)).heap.size = w.heap.size + 3 := by simp
 have b1 : Below w.heap.size w (w.alloc (.cells #[.pointer (some ⟨G, 0, none⟩)] 103)) := (Below.refl _ _).alloc (Nat.le_refl _) _
 have b2 : Below (w.alloc (.cells #[.pointer (some ⟨G, 0, none⟩)] 103)).heap.size (w.alloc (.cells #[.pointer (some ⟨G, 0, none⟩)] 103)) ((w.alloc (.cells #[.pointer (some ⟨G, 0, none⟩)] 103)).alloc (.cells #[.int .i64 per] 3)) := (Below.refl _ _).alloc (Nat.le_refl _) _
 have b3 : Below ((w.alloc (.cells #[.pointer (some ⟨G, 0, none⟩)] 103)).alloc (.cells #[.int .i64 per] 3)).heap.size ((w.alloc (.cells #[.pointer (some ⟨G, 0, none⟩)] 103)).alloc (.cells #[.int .i64 per] 3)) (((w.alloc (.cells #[.pointer (some ⟨G, 0, none⟩)] 103)).alloc (.cells #[.int .i64 per] 3)).alloc (.cells #[.func (.func 89) #[] #[.pointer (some ⟨w.heap.size, 0, none⟩)]] 149)) := (Below.refl _ _).alloc (Nat.le_refl _) _
 have hb : Below w.heap.size w (((w.alloc (.cells #[.pointer (some ⟨G, 0, none⟩)] 103)).alloc (.cells #[.int .i64 per] 3)).alloc (.cells #[.func (.func 89) #[] #[.pointer (some ⟨w.heap.size, 0, none⟩)]] 149)) := (b1.trans (b2.mono b1.size)).trans (b3.mono (by rw [hs2]; omega))
 have k0 : (((w.alloc (.cells #[.pointer (some ⟨G, 0, none⟩)] 103)).alloc (.cells #[.int .i64 per] 3)).alloc (.cells #[.func (.func 89) #[] #[.pointer (some ⟨w.heap.size, 0, none⟩)]] 149)).cell? ⟨w.heap.size, 0, none⟩ = some (.pointer (some ⟨G, 0, none⟩)) := cell_later b3 (cell_later b2 (by simp))
 have k1 : (((w.alloc (.cells #[.pointer (some ⟨G, 0, none⟩)] 103)).alloc (.cells #[.int .i64 per] 3)).alloc (.cells #[.func (.func 89) #[] #[.pointer (some ⟨w.heap.size, 0, none⟩)]] 149)).cell? ⟨w.heap.size + 1, 0, none⟩ = some (.int .i64 per) := cell_later b3 (by rw [World.cell?_alloc_at _ _ _ _ hs1.symm]; rfl)
 have k2 : (((w.alloc (.cells #[.pointer (some ⟨G, 0, none⟩)] 103)).alloc (.cells #[.int .i64 per] 3)).alloc (.cells #[.func (.func 89) #[] #[.pointer (some ⟨w.heap.size, 0, none⟩)]] 149)).cell? ⟨w.heap.size + 2, 0, none⟩ = some (.func (.func 89) #[] #[.pointer (some ⟨w.heap.size, 0, none⟩)]) := by rw [World.cell?_alloc_at _ _ _ _ hs2.symm]; rfl
 have he3 := he.below hb
 have HK : Hid ((((w.alloc (.cells #[.pointer (some ⟨G, 0, none⟩)] 103)).alloc (.cells #[.int .i64 per] 3)).alloc (.cells #[.func (.func 89) #[] #[.pointer (some ⟨w.heap.size, 0, none⟩)]] 149)).heap.size = w.heap.size + 3 ∧ Below w.heap.size w (((w.alloc (.cells #[.pointer (some ⟨G, 0, none⟩)] 103)).alloc (.cells #[.int .i64 per] 3)).alloc (.cells #[.func (.func 89) #[] #[.pointer (some ⟨w.heap.size, 0, none⟩)]] 149)) ∧ (((w.alloc (.cells #[.pointer (some ⟨G, 0, none⟩)] 103)).alloc (.cells #[.int .i64 per] 3)).alloc (.cells #[.func (.func 89) #[] #[.pointer (some ⟨w.heap.size, 0, none⟩)]] 149)).cell? ⟨w.heap.size, 0, none⟩ = some (.pointer (some ⟨G, 0, none⟩)) ∧ (((w.alloc (.cells #[.pointer (some ⟨G, 0, none⟩)] 103)).alloc (.cells #[.int .i64 per] 3)).alloc (.cells #[.func (.func 89) #[] #[.pointer (some ⟨w.heap.size, 0, none⟩)]] 149)).cell? ⟨w.heap.size + 1, 0, none⟩ = some (.int .i64 per) ∧ (((w.alloc (.cells #[.pointer (some ⟨G, 0, none⟩)] 103)).alloc (.cells #[.int .i64 per] 3)).alloc (.cells #[.func (.func 89) #[] #[.pointer (some ⟨w.heap.size, 0, none⟩)]] 149)).cell? ⟨w.heap.size + 2, 0, none⟩ = some (.func (.func 89) #[] #[.pointer (some ⟨w.heap.size, 0, none⟩)])) := ⟨hs3, hb, k0, k1, k2⟩
 have n0 := he3.c3
 have n1 := he3.c4
 have n2 := he3.c2
 have n3 := he3.c6
 have n4 := he3.c7
 clear he he3 hs1 hs2 hs3 b1 b2 b3 hb k0 k1 k2
 go_enter Tryz.func53, Tryz.ntmps53
 go_wp2_with fail
 go_ret
 obtain ⟨hs3, hb, k0, k1, k2⟩ := HK.out
 clear HK n0 n1 n2 n3 n4
 generalize (((w.alloc (.cells #[.pointer (some ⟨G, 0, none⟩)] 103)).alloc (.cells #[.int .i64 per] 3)).alloc (.cells #[.func (.func 89) #[] #[.pointer (some ⟨w.heap.size, 0, none⟩)]] 149)) = V at *
 have hbV : ∀ o, Below V.heap.size V (V.alloc o) := fun o => (Below.refl _ _).alloc (Nat.le_refl _) _
 refine ⟨rfl, ⟨?_, ?_, ?_, ?_, ?_, ?_, ?_, ?_, ?_, ?_⟩, cell_later (hbV _) k0, cell_later (hbV _) k2, cell_later (hbV _) k1, hb.trans ((hbV _).mono hb.size)⟩
 all_goals (rw [World.cell?_alloc_at _ _ _ _ hs3.symm]; rfl)
set_option maxRecDepth 100000 in
set_option maxHeartbeats 2000000 in
theorem auIndex (D n : Nat) (f : Nat → Bool) (w : World) (hn : n ≤ 300) (hc : ∀ i, i < n → w.cell? ⟨D, i, none⟩ = some (.bool (f i))) (b : Bool) (hb : b = true ↔ ∃ i, i < n ∧ f i = false) :
  Calls Tryz.prog 98 #[.slice (some ⟨D, 0, none⟩) n n, .bool false] w fun e w' => (∃ z, e = .returned (.int .i64 z) ∧ b = decide (0 ≤ z) ∧ -1 ≤ z ∧ z ≤ 300) ∧ w' = w := by
 have HC : Hid (∀ i, i < n → w.cell? ⟨D, i, none⟩ = some (.bool (f i))) := hc
 have HB : Hid (b = true ↔ ∃ i, i < n ∧ f i = false) := hb
 clear hc hb
 go_enter Tryz.func98, Tryz.ntmps98
 go_wp2_with fail
 go_loop [8] (fun i => ∃ k : Nat, k ≤ n ∧ i = .int .i64 k ∧ ∀ j, j < k → f j = true) (fun i => n - (intOf i).toNat)
 case atStart => exact ⟨0, Nat.zero_le _, rfl, fun j h => by omega⟩
 case round =>
  obtain ⟨k, hk, rfl, hall⟩ := hrel
  have HR : Hid (∀ j, j < k → f j = true) := hall
  clear hall
  by_cases hkn : k < n
  ·
   have ck := HC.out k hkn
   cases hf : f k with
   | true =>
    rw [hf] at ck
    have HF : Hid (f k = true) := hf
    clear hf
    go_wp2_with fail
    go_round
    case rel =>
     refine ⟨k + 1, by omega, by go_num, fun j hj => ?_⟩
     rcases Nat.lt_or_ge j k with h | h
     · exact HR.out j h
     ·
      obtain rfl : j = k := by omega
      exact HF.out
    case measure => simp [intOf]; omega
   | false =>
    rw [hf] at ck
    have HF : Hid (b = true) := HB.out.2 ⟨k, hkn, hf⟩
    clear hf
    go_wp2_with fail
    go_ret
    exact ⟨⟨k, rfl, by rw [HF.out]; simp, by omega, by omega⟩, rfl⟩
  ·
   have HF : Hid (b = false) := Bool.eq_false_iff.2 fun hh => by
    obtain ⟨i, h1, h2⟩ := HB.out.1 hh
    rw [HR.out i (by omega)] at h2
    cases h2
   go_wp2_with fail
   go_ret
   exact ⟨⟨-1, rfl, by rw [HF.out]; rfl, by omega, by omega⟩, rfl⟩
set_option maxRecDepth 100000 in
set_option maxHeartbeats 2000000 in
theorem auHas (D n : Nat) (f : Nat → Bool) (w : World) (hn : n ≤ 300) (hc : ∀ i, i < n → w.cell? ⟨D, i, none⟩ = some (.bool (f i))) (b : Bool) (hb : b = true ↔ ∃ i, i < n ∧ f i = false) :
  Calls Tryz.prog 56 #[.slice (some ⟨D, 0, none⟩) n n, .bool false] w fun e w' => e = .returned (.bool b) ∧ w' = w := by
 have HI : Hid (Calls Tryz.prog 98 #[.slice (some ⟨D, 0, none⟩) n n, .bool false] w fun e w' => (∃ z, e = .returned (.int .i64 z) ∧ b = decide (0 ≤ z) ∧ -1 ≤ z ∧ z ≤ 300) ∧ w' = w) := auIndex D n f w hn hc b hb
 clear hc hb
 go_enter Tryz.func56, Tryz.ntmps56
 go_wp2_with fail
 refine HI.out.mono ?_
 rintro e w1 ⟨⟨z, rfl, hz, h1, h2⟩, rfl⟩
 have HZ : Hid (b = decide (0 ≤ z)) := hz
 clear hz
 go_wp2_with fail
 go_ret
 exact ⟨by rw [HZ.out]; rfl, rfl⟩
end Go.Proofs.YtibhkijaafdkoaaGreatDoor

namespace Go.Proofs.YtibhkijaafdkoaaGreatDoor
open Go.RowKit
def tame (x : Sn) : Bool := decide (-1125899906842624 ≤ x.beg ∧ x.beg ≤ 1125899906842624 ∧ -1125899906842624 ≤ x.fin ∧ x.fin ≤ 1125899906842624)
theorem tame_true {x : Sn} (h : tame x = true) : -1125899906842624 ≤ x.beg ∧ x.beg ≤ 1125899906842624 ∧ -1125899906842624 ≤ x.fin ∧ x.fin ≤ 1125899906842624 := of_decide_eq_true h
def tameAll (l : List Sn) : Prop := ∀ (i : Nat) x, l[i]? = some x → tame x = true
end Go.Proofs.YtibhkijaafdkoaaGreatDoor

namespace Go.Proofs.YtibhkijaafdkoaaGreatDoor
open Go.RowKit
def AuditAll (per : Int) (ps : List Pk) (l : List Sn) (c p : Int) : Prop := (LinkFaultIs ps per c p ∧ 0 < c) ∨ (OkPks ps ∧ 1 ≤ per ∧ per ≤ 1000 ∧ AuditIs per ps l c p)
theorem Tryz.infoFlag : (Tryz.prog.info? 4).map (fun i => (i.zero, i.size, i.bytes)) = some (some (.bool false), 1, 1) := by kernel_rfl
end Go.Proofs.YtibhkijaafdkoaaGreatDoor

namespace Go.Proofs.YtibhkijaafdkoaaGreatDoor
open Go.RowKit
theorem auErr {w : World} {ad : Nat → Addr} (he : Errs9 w ad) (k : Nat) (hk : k < 9) (n : Int) (pb : Nat) (h0 : w.cell? ⟨pb, 0, none⟩ = some (.int .i64 n)) (h1 : w.cell? ⟨pb, 1, none⟩ = some (.iface 271 (.pointer (some (ad k))))) : ErrIs w (.iface 110 (.pointer (some ⟨pb, 0, none⟩))) (k + 1) n :=
 ⟨codeIs_fault he k hk n pb h0 h1, fun h => by omega, fun _ => ⟨_, _, rfl⟩⟩
def CheckEnd (c p : Int) (w : World) (e : Ending) (w' : World) : Prop := ∃ E, e = .returned E ∧ ErrIs w' E c p ∧ Below w.heap.size w w'
set_option maxRecDepth 100000 in
set_option maxHeartbeats 2000000 in
theorem auCheck_link (pa : Option Addr) (n pcap : Nat) (per : Int) (la : Option Addr) (m lcap : Nat) (w : World) (c p : Int) (h : Calls Tryz.prog 52 #[.slice pa n pcap, .int .i64 per] w fun e w' => ∃ ty v, e = .returned (.iface ty v) ∧ (ErrIs w' (.iface ty v) c p ∧ Below w.heap.size w w')) :
  Calls Tryz.prog 22 #[.slice pa n pcap, .int .i64 per, .slice la m lcap] w fun e w' => CheckEnd c p w e w' := by
 have HC : Hid (Calls Tryz.prog 52 #[.slice pa n pcap, .int .i64 per] w fun e w' => ∃ ty v, e = .returned (.iface ty v) ∧ (ErrIs w' (.iface ty v) c p ∧ Below w.heap.size w w')) := h
 clear h
 go_enter Tryz.func22, Tryz.ntmps22
 go_wp2_with fail
 refine HC.out.mono ?_
 rintro e w1 ⟨ty, v, rfl, hR⟩
 have HR : Hid (ErrIs w1 (.iface ty v) c p ∧ Below w.heap.size w w1) := hR
 clear hR
 go_wp2_with fail
 go_ret
 exact ⟨_, rfl, HR.out.1, HR.out.2⟩
theorem auNew (w w1 : World) (pa : Option Addr) (cap : Nat) (ps : List Pk) (per : Int) (ad : Nat → Addr) (hb : Below w.heap.size w w1) (hp : LiesP w pa ps) (w3 : World) (hb3 : Below ((w1.alloc (.cells (madeCells #[.bool false] ps.length) 4)).alloc (.cells #[.slice pa ps.length cap, .slice (some ⟨w1.heap.size, 0, none⟩) ps.length ps.length, .int .i64 0] 106)).heap.size ((w1.alloc (.cells (madeCells #[.bool false] ps.length) 4)).alloc (.cells #[.slice pa ps.length cap, .slice (some ⟨w1.heap.size, 0, none⟩) ps.length ps.length, .int .i64 0] 106)) w3)
  (hr : RulesAt w3 (w1.heap.size + 2 + 3) (w1.heap.size + 2) (w1.heap.size + 2 + 2) (w1.heap.size + 2 + 1) ad) (k0 : w3.cell? ⟨w1.heap.size + 2, 0, none⟩ = some (.pointer (some ⟨w1.heap.size + 1, 0, none⟩))) (k1 : w3.cell? ⟨w1.heap.size + 2 + 2, 0, none⟩ = some (.func (.func 89) #[] #[.pointer (some ⟨w1.heap.size + 2, 0, none⟩)])) (k2 : w3.cell? ⟨w1.heap.size + 2 + 1, 0, none⟩ = some (.int .i64 per)) :
  AuditAt w w3 (w1.heap.size + 2 + 3) (w1.heap.size + 2) (w1.heap.size + 2 + 2) (w1.heap.size + 2 + 1) (w1.heap.size + 1) w1.heap.size pa cap ps per [] ad := by
 have hs : (w1.alloc (.cells (madeCells #[.bool false] ps.length) 4)).heap.size = w1.heap.size + 1 := by simp
 have b1 : Below w1.heap.size w1 (w1.alloc (.cells (madeCells #[.bool false] ps.length) 4)) := (Below.refl _ _).alloc (Nat.le_refl _) _
 have b2 : Below (w1.alloc (.cells (madeCells #[.bool false] ps.length) 4)).heap.size (w1.alloc (.cells (madeCells #[.bool false] ps.length) 4)) ((w1.alloc (.cells (madeCells #[.bool false] ps.length) 4)).alloc (.cells #[.slice pa ps.length cap, .slice (some ⟨w1.heap.size, 0, none⟩) ps.length ps.length, .int .i64 0] 106)) := (Below.refl _ _).alloc (Nat.le_refl _) _
 have hd := (done_made w1 ps.length 4).of_block (b2.block w1.heap.size (by rw [hs]; omega)) b2.size
 have hd3 := hd.of_block (hb3.block w1.heap.size hd.lt) hb3.size
 have g : ∀ (o : Nat) v, #[Value.slice pa ps.length cap, .slice (some ⟨w1.heap.size, 0, none⟩) ps.length ps.length, .int .i64 0][o]? = some v → w3.cell? ⟨w1.heap.size + 1, o, none⟩ = some v := fun o v ho => cell_later hb3 (by rw [World.cell?_alloc_at _ _ _ _ hs.symm]; exact ho)
 have hbel : Below w.heap.size w w3 := by
  have h1 := hb.trans (b1.mono hb.size)
  have h2 := h1.trans (b2.mono h1.size)
  exact h2.trans (hb3.mono h2.size)
 refine ⟨⟨k0, k1, k2, g 0 _ rfl, g 1 _ rfl, g 2 _ rfl, hp.below hbel, hd3⟩, hr, ?_, by omega, ⟨by have := hb.size; omega, hb.size⟩, hp, hbel⟩
 rw [hb3.frozen (p := ⟨w1.heap.size + 1, 2, none⟩) (by simp)]
 have := World.frozen?_alloc_new (w1.alloc (.cells (madeCells #[.bool false] ps.length) 4)) #[.slice pa ps.length cap, .slice (some ⟨w1.heap.size, 0, none⟩) ps.length ps.length, .int .i64 0] 106 2
 rwa [hs] at this
set_option maxRecDepth 100000 in
set_option maxHeartbeats 8000000 in
theorem auCheck_sent (pa : Option Addr) (pcap : Nat) (ps : List Pk) (per : Int) (la : Option Addr) (lcap : Nat) (l : List Sn) (w : World) (ad : Nat → Addr) (c p : Int) (he : Errs9 w ad) (hp : LiesP w pa ps) (ho : OkPks ps) (h1 : 1 ≤ per) (h2 : per ≤ 1000) (hl : LiesS w la l) (hll : l.length ≤ 300) (ht : tameAll l) (h : AuditIs per ps l c p) :
  Calls Tryz.prog 22 #[.slice pa ps.length pcap, .int .i64 per, .slice la l.length lcap] w fun e w' => CheckEnd c p w e w' := by
 have HF : Hid (Calls Tryz.prog 52 #[.slice pa ps.length pcap, .int .i64 per] w fun e w' => e = .returned .nilIface ∧ Below w.heap.size w w') := linkCheck_ok pa pcap ps per w hp ho h1 h2
 have HNew : Hid (∀ w1 w3, Below w.heap.size w w1 → Below ((w1.alloc (.cells (madeCells #[.bool false] ps.length) 4)).alloc (.cells #[.slice pa ps.length pcap, .slice (some ⟨w1.heap.size, 0, none⟩) ps.length ps.length, .int .i64 0] 106)).heap.size ((w1.alloc (.cells (madeCells #[.bool false] ps.length) 4)).alloc (.cells #[.slice pa ps.length pcap, .slice (some ⟨w1.heap.size, 0, none⟩) ps.length ps.length, .int .i64 0] 106)) w3 →
   RulesAt w3 (w1.heap.size + 2 + 3) (w1.heap.size + 2) (w1.heap.size + 2 + 2) (w1.heap.size + 2 + 1) ad → w3.cell? ⟨w1.heap.size + 2, 0, none⟩ = some (.pointer (some ⟨w1.heap.size + 1, 0, none⟩)) → w3.cell? ⟨w1.heap.size + 2 + 2, 0, none⟩ = some (.func (.func 89) #[] #[.pointer (some ⟨w1.heap.size + 2, 0, none⟩)]) → w3.cell? ⟨w1.heap.size + 2 + 1, 0, none⟩ = some (.int .i64 per) →
   AuditAt w w3 (w1.heap.size + 2 + 3) (w1.heap.size + 2) (w1.heap.size + 2 + 2) (w1.heap.size + 2 + 1) (w1.heap.size + 1) w1.heap.size pa pcap ps per [] ad) := fun w1 w3 hb hb3 hr k0 k1 k2 => auNew w w1 pa pcap ps per ad hb hp w3 hb3 hr k0 k1 k2
 have HFi : Hid (∀ W R S K P G D out (x : Sn) d, AuditAt w W R S K P G D pa pcap ps per out ad → tame x = true → SentIs per ps out x d → ∀ W', Below W.heap.size W W' → Calls Tryz.prog 54 #[.slice (some ⟨R, 0, none⟩) 5 5, .agg #[.int .i64 x.num, .int .i64 x.beg, .int .i64 x.fin]] W' fun e w' => e = .returned (sentOf ad d.toNat) ∧ Below W'.heap.size W' w') := fun W R S K P G D out x d hA htx hs W' hW' => by
  have := tame_true htx
  have hA' := hA.later hW'
  exact auFirst R S K P G D pa pcap ps per out ad W' x.num x.beg x.fin d hA'.send hA'.rules ho h1 h2 (by omega) hs
 have HGo : Hid (∀ W R S K P G D out (k : Nat) (beg fin : Int), AuditAt w W R S K P G D pa pcap ps per out ad → k < ps.length → Calls Tryz.prog 55 #[.pointer (some ⟨G, 0, none⟩), .agg #[.int .i64 (k : Int), .int .i64 beg, .int .i64 fin]] W fun e w' => e = .returned (.tuple #[]) ∧ AuditAt w w' R S K P G D pa pcap ps per (out ++ [⟨k, beg, fin⟩]) ad) := fun W R S K P G D out k beg fin hA hk => auGoOn w W R S K P G D pa pcap ps per out ad hA k hk beg fin
 have HE : Hid (Errs9 w ad) := he
 have HAu : Hid (AuditIs per ps l c p ∧ tameAll l ∧ LiesS w la l) := ⟨h, ht, hl⟩
 have hfew := ho.few
 obtain ⟨n, hn⟩ : ∃ n, ps.length = n := ⟨_, rfl⟩
 obtain ⟨m, hm⟩ : ∃ m, l.length = m := ⟨_, rfl⟩
 have HN : Hid (ps.length = n ∧ l.length = m) := ⟨hn, hm⟩
 rw [hn] at hfew HF HNew HGo
 rw [hm] at hll
 rw [hn, hm]
 have hmk : ∀ w' : World, (Instr.makeSlice 104 (.int .i64 n) (.int .i64 n)).run Tryz.prog w' = .ok (.slice (some ⟨w'.heap.size, 0, none⟩) n n) (w'.alloc (.cells (madeCells #[.bool false] n) 4)) := fun w' => by
  obtain ⟨i0, hi, hz0, hz1, hz2⟩ := info_parts Tryz.infoFlag
  have := run_make (P := Tryz.prog) w' 104 4 i0 (.bool false) Tryz.underlying104 hi hz0 .i64 .i64 n n (by omega) (by omega) (by rw [hz2]; omega) (by omega)
  simpa [hz1, Value.cells] using this
 clear hp ho hl ht h hn hm he
 go_enter Tryz.func22, Tryz.ntmps22
 go_wp2_with fail
 refine HF.out.mono ?_
 rintro e w1 ⟨rfl, hb1⟩
 have HB1 : Hid (Below w.heap.size w w1) := hb1
 clear hb1
 have hs2 : ((w1.alloc (.cells (madeCells #[.bool false] n) 4)).alloc (.cells #[.slice pa n pcap, .slice (some ⟨w1.heap.size, 0, none⟩) n n, .int .i64 0] 106)).heap.size = w1.heap.size + 2 := by simp
 have hb2 : Below w1.heap.size w1 ((w1.alloc (.cells (madeCells #[.bool false] n) 4)).alloc (.cells #[.slice pa n pcap, .slice (some ⟨w1.heap.size, 0, none⟩) n n, .int .i64 0] 106)) := ((Below.refl _ _).alloc (Nat.le_refl _) _).alloc (by simp) _
 have HRu : Hid (Calls Tryz.prog 53 #[.pointer (some ⟨w1.heap.size + 1, 0, none⟩), .int .i64 per] ((w1.alloc (.cells (madeCells #[.bool false] n) 4)).alloc (.cells #[.slice pa n pcap, .slice (some ⟨w1.heap.size, 0, none⟩) n n, .int .i64 0] 106)) fun e w' => e = .returned (.slice (some ⟨w1.heap.size + 2 + 3, 0, none⟩) 5 5) ∧ RulesAt w' (w1.heap.size + 2 + 3) (w1.heap.size + 2) (w1.heap.size + 2 + 2) (w1.heap.size + 2 + 1) ad ∧ w'.cell? ⟨w1.heap.size + 2, 0, none⟩ = some (.pointer (some ⟨w1.heap.size + 1, 0, none⟩)) ∧ w'.cell? ⟨w1.heap.size + 2 + 2, 0, none⟩ = some (.func (.func 89) #[] #[.pointer (some ⟨w1.heap.size + 2, 0, none⟩)]) ∧ w'.cell? ⟨w1.heap.size + 2 + 1, 0, none⟩ = some (.int .i64 per) ∧ Below (w1.heap.size + 2) ((w1.alloc (.cells (madeCells #[.bool false] n) 4)).alloc (.cells #[.slice pa n pcap, .slice (some ⟨w1.heap.size, 0, none⟩) n n, .int .i64 0] 106)) w') := by
  have := auRules ((w1.alloc (.cells (madeCells #[.bool false] n) 4)).alloc (.cells #[.slice pa n pcap, .slice (some ⟨w1.heap.size, 0, none⟩) n n, .int .i64 0] 106)) (w1.heap.size + 1) per ad (HE.out.below (HB1.out.trans (hb2.mono HB1.out.size)))
  rwa [hs2] at this
 have HS2 : Hid (((w1.alloc (.cells (madeCells #[.bool false] n) 4)).alloc (.cells #[.slice pa n pcap, .slice (some ⟨w1.heap.size, 0, none⟩) n n, .int .i64 0] 106)).heap.size = w1.heap.size + 2) := hs2
 clear hs2 hb2
 go_wp2_with fail
 refine HRu.out.mono ?_
 rintro e w3 ⟨rfl, hr, k0, k1, k2, hb3⟩
 have hA := HNew.out w1 w3 HB1.out (by rw [HS2.out]; exact hb3) hr k0 k1 k2
 clear hr k0 k1 k2 hb3 hmk HRu HS2 HNew HF
 obtain ⟨R, hR⟩ : ∃ R, w1.heap.size + 2 + 3 = R := ⟨_, rfl⟩
 obtain ⟨S, hS⟩ : ∃ R, w1.heap.size + 2 = R := ⟨_, rfl⟩
 obtain ⟨K, hK⟩ : ∃ R, w1.heap.size + 2 + 2 = R := ⟨_, rfl⟩
 obtain ⟨P, hP⟩ : ∃ R, w1.heap.size + 2 + 1 = R := ⟨_, rfl⟩
 obtain ⟨G, hG⟩ : ∃ R, w1.heap.size + 1 = R := ⟨_, rfl⟩
 obtain ⟨D, hD⟩ : ∃ R, w1.heap.size = R := ⟨_, rfl⟩
 rw [hR, hK, hP, hS, hG, hD] at hA
 rw [hR, hG, hD]
 have HA : Hid (AuditAt w w3 R S K P G D pa pcap ps per [] ad) := hA
 clear hA hR hS hK hP hG hD
 go_wp2_with fail
 go_loopw [30] (fun i wr => ∃ k : Nat, k ≤ m ∧ i = .int .i64 k ∧ (∀ (j : Nat) y, j < k → l[j]? = some y → MayOne per ps (l.take j) y) ∧ AuditAt w wr R S K P G D pa pcap ps per (l.take k) ad) (fun i _ => m - (intOf i).toNat)
 case atStart => exact ⟨0, Nat.zero_le _, rfl, fun j y hj => absurd hj (Nat.not_lt_zero _), HA.out⟩
 case round =>
  obtain ⟨i, him', rfl, hmay, hA⟩ := hrel
  have HR : Hid ((∀ (j : Nat) y, j < i → l[j]? = some y → MayOne per ps (l.take j) y) ∧ AuditAt w wr R S K P G D pa pcap ps per (l.take i) ad) := ⟨hmay, hA⟩
  clear hmay hA
  by_cases him : i < m
  ·
   obtain ⟨x, hx, -⟩ := get_some l i (by rw [HN.out.2]; exact him)
   obtain ⟨d, hd⟩ := sentIs_is per ps (l.take i) x
   have HX : Hid (l[i]? = some x ∧ SentIs per ps (l.take i) x d) := ⟨hx, hd⟩
   have hdr := hd.range
   obtain ⟨lb, lo, rfl, -, hcl⟩ := HAu.out.2.2.place (by rw [HN.out.2]; omega)
   have c0 := cell_later HR.out.2.below (hcl i x hx).1
   have c1 := cell_later HR.out.2.below (hcl i x hx).2.1
   have c2 := cell_later HR.out.2.below (hcl i x hx).2.2
   have HC := (show Hid (∀ W', Below wr.heap.size wr W' → Calls Tryz.prog 54 #[.slice (some ⟨R, 0, none⟩) 5 5, .agg #[.int .i64 x.num, .int .i64 x.beg, .int .i64 x.fin]] W' fun e w' => e = .returned (sentOf ad d.toNat) ∧ Below W'.heap.size W' w') from HFi.out wr R S K P G D (l.take i) x d HR.out.2 (HAu.out.2.1 i x hx) hd)
   clear hx hd hcl
   by_cases hd0 : 0 < d
   ·
    have HFirst : Hid (c = d ∧ p = i) := HAu.out.1.first HX.out.1 HX.out.2 hd0 HR.out.1
    obtain ⟨j, rfl⟩ : ∃ j : Nat, d = (j : Int) + 1 := ⟨(d - 1).toNat, by omega⟩
    have hj : j < 9 := by omega
    have HC' : Hid (∀ W', Below wr.heap.size wr W' → Calls Tryz.prog 54 #[.slice (some ⟨R, 0, none⟩) 5 5, .agg #[.int .i64 x.num, .int .i64 x.beg, .int .i64 x.fin]] W' fun e w' => e = .returned (.iface 271 (.pointer (some (ad j)))) ∧ Below W'.heap.size W' w') := fun W' hW' => by
     have := HC.out W' hW'
     rwa [show ((j : Int) + 1).toNat = j + 1 by omega] at this
    clear HC hdr hd0
    go_wp2_with fail
    have hbx : Below wr.heap.size wr (wr.alloc (.cells #[.int .i64 x.num, .int .i64 x.beg, .int .i64 x.fin] 78)) := (Below.refl _ _).alloc (Nat.le_refl _) _
    refine (HC'.out _ hbx).mono ?_
    rintro e w2 ⟨rfl, hb⟩
    have HB2 : Hid (Below w.heap.size w w2) := by
     have h1 := HR.out.2.below.trans (hbx.mono HR.out.2.below.size)
     exact h1.trans (hb.mono h1.size)
    clear hb hbx
    go_wp2_with fail
    go_ret
    have hbe : Below w.heap.size w (w2.alloc (.cells #[.int .i64 (i : Int), .iface 271 (.pointer (some (ad j)))] 112)) := HB2.out.alloc HB2.out.size _
    refine ⟨_, rfl, ?_, hbe⟩
    rw [HFirst.out.1, HFirst.out.2]
    exact auErr (HE.out.below hbe) j hj i w2.heap.size (by simp) (by simp)
   ·
    obtain rfl : d = 0 := by omega
    have hmay := HX.out.2.may
    obtain ⟨k, hk, hkl, -⟩ := hmay.num
    have HMay : Hid (MayOne per ps (l.take i) x ∧ x.num = (k : Int)) := ⟨hmay, hk⟩
    rw [HN.out.1] at hkl
    have HTake : Hid (l.take (i + 1) = l.take i ++ [⟨(k : Int), x.beg, x.fin⟩]) := by
     show _ = _
     rw [List.take_add_one, HX.out.1, ← HMay.out.2]
     rfl
    rw [hk] at c0 HC
    have HC' : Hid (∀ W', Below wr.heap.size wr W' → Calls Tryz.prog 54 #[.slice (some ⟨R, 0, none⟩) 5 5, .agg #[.int .i64 (k : Int), .int .i64 x.beg, .int .i64 x.fin]] W' fun e w' => e = .returned .nilIface ∧ Below W'.heap.size W' w') := fun W' hW' => HC.out W' hW'
    clear hmay hk HC hdr hd0
    go_wp2_with fail
    have hbx : Below wr.heap.size wr (wr.alloc (.cells #[.int .i64 (k : Int), .int .i64 x.beg, .int .i64 x.fin] 78)) := (Below.refl _ _).alloc (Nat.le_refl _) _
    refine (HC'.out _ hbx).mono ?_
    rintro e w2 ⟨rfl, hb⟩
    have r0 : w2.cell? ⟨wr.heap.size, 0, none⟩ = some (.int .i64 (k : Int)) := cell_later hb (by simp)
    have r1 : w2.cell? ⟨wr.heap.size, 1, none⟩ = some (.int .i64 x.beg) := cell_later hb (by simp)
    have r2 : w2.cell? ⟨wr.heap.size, 2, none⟩ = some (.int .i64 x.fin) := cell_later hb (by simp)
    have HG := (show Hid (Calls Tryz.prog 55 #[.pointer (some ⟨G, 0, none⟩), .agg #[.int .i64 (k : Int), .int .i64 x.beg, .int .i64 x.fin]] w2 fun e w' => e = .returned (.tuple #[]) ∧ AuditAt w w' R S K P G D pa pcap ps per (l.take i ++ [⟨k, x.beg, x.fin⟩]) ad) from HGo.out w2 R S K P G D (l.take i) k x.beg x.fin ((HR.out.2.later hbx).later hb) hkl)
    clear hb hbx
    go_wp2_with fail
    refine HG.out.mono ?_
    rintro e w4 ⟨rfl, hA4⟩
    have HA4 : Hid (AuditAt w w4 R S K P G D pa pcap ps per (l.take (i + 1)) ad) := by
     show AuditAt w w4 R S K P G D pa pcap ps per (l.take (i + 1)) ad
     rw [HTake.out]; exact hA4
    clear hA4 r0 r1 r2
    go_wp2_with fail
    go_roundw
    case rel =>
     refine ⟨i + 1, by omega, by go_num, fun j y hj hy => ?_, HA4.out⟩
     rcases Nat.lt_or_ge j i with h | h
     · exact HR.out.1 j y h hy
     ·
      obtain rfl : j = i := by omega
      obtain rfl := Option.some.inj (HX.out.1.symm.trans hy)
      exact HMay.out.1
    case measure => simp [intOf]; omega
  ·
   obtain rfl : i = m := by omega
   have HL : Hid (l.take i = l) := by
    show _ = _
    rw [← HN.out.2]; exact List.take_length
   have hall : ∀ (j : Nat) y, l[j]? = some y → MayOne per ps (l.take j) y := fun j y hy => HR.out.1 j y (by have := lt_of_get hy; rw [HN.out.2] at this; exact this) hy
   have hlast := HAu.out.1.last hall
   have hA := HR.out.2
   rw [HL.out] at hA
   have g1 := hA.send.g1
   rw [HN.out.1] at g1
   have HHas : ∀ b : Bool, (b = true ↔ ∃ i, i < n ∧ isDone l i = false) → Calls Tryz.prog 56 #[.slice (some ⟨D, 0, none⟩) n n, .bool false] wr fun e w' => e = .returned (.bool b) ∧ w' = wr := fun b hb => auHas D n (isDone l) wr hfew (fun j hj => hA.send.done.cell j (by rw [HN.out.1]; exact hj)) b hb
   have hE3 := cell_later HR.out.2.below HE.out.c3
   rcases hlast with ⟨rfl, ⟨rfl, hsome⟩ | ⟨rfl, hnone⟩⟩
   ·
    have HH : Hid (Calls Tryz.prog 56 #[.slice (some ⟨D, 0, none⟩) n n, .bool false] wr fun e w' => e = .returned (.bool true) ∧ w' = wr) := HHas true ⟨fun _ => by rw [← HN.out.1]; exact hsome, fun _ => rfl⟩
    clear hall hA HHas hsome
    go_wp2_with fail
    refine HH.out.mono ?_
    rintro e w5 ⟨rfl, rfl⟩
    go_wp2_with fail
    go_ret
    exact ⟨_, rfl, errIs_sent (HE.out.below HR.out.2.below) 3 (by decide), HR.out.2.below⟩
   ·
    have HH : Hid (Calls Tryz.prog 56 #[.slice (some ⟨D, 0, none⟩) n n, .bool false] wr fun e w' => e = .returned (.bool false) ∧ w' = wr) := HHas false ⟨fun h => (by cases h), fun ⟨j, h1, h2⟩ => by
     rw [hnone j (by rw [HN.out.1]; exact h1)] at h2
     cases h2⟩
    clear hall hA HHas hnone
    go_wp2_with fail
    refine HH.out.mono ?_
    rintro e w5 ⟨rfl, rfl⟩
    go_wp2_with fail
    go_ret
    exact ⟨_, rfl, errIs_nil _, HR.out.2.below⟩
theorem auCheck_is (pa : Option Addr) (pcap : Nat) (ps : List Pk) (per : Int) (la : Option Addr) (lcap : Nat) (l : List Sn) (w : World) (ad : Nat → Addr) (c p : Int) (he : Errs9 w ad) (hp : LiesP w pa ps) (hpc : ps.length ≤ pcap) (hpm : pcap ≤ maxLen) (hl : LiesS w la l) (hll : l.length ≤ 300) (ht : tameAll l) (h : AuditAll per ps l c p) :
  Calls Tryz.prog 22 #[.slice pa ps.length pcap, .int .i64 per, .slice la l.length lcap] w fun e w' => ∃ E, e = .returned E ∧ ErrIs w' E c p ∧ Below w.heap.size w w' := by
 rcases h with ⟨h, h0⟩ | ⟨ho, h1, h2, h⟩
 · exact auCheck_link pa ps.length pcap per la l.length lcap w c p (linkCheck_is pa pcap ps per c p w ad he hp hpc hpm h h0)
 · exact auCheck_sent pa pcap ps per la lcap l w ad c p he hp ho h1 h2 hl hll ht h
end Go.Proofs.YtibhkijaafdkoaaGreatDoor
