/- Own facts, put together: no statement of its own. -/
import Derived.Test.YtibhkijaafdkoaaGreatDoorK30
import Derived.Test.YtibhkijaafdkoaaGreatDoorK25
import Derived.Test.YtibhkijaafdkoaaGreatDoorK33
import Derived.Test.YtibhkijaafdkoaaGreatDoorK34
import Derived.Test.YtibhkijaafdkoaaGreatDoorK31
import Derived.Test.YtibhkijaafdkoaaGreatDoorK27
import Derived.Test.YtibhkijaafdkoaaGreatDoorK17
namespace Go.Proofs.YtibhkijaafdkoaaGreatDoor
open Go.RowKit
def ruleT (g : Nat) : Value := .agg #[.func (.func 100) #[.pointer (some ⟨g, 0, none⟩)] #[], .func (.func 101) #[.pointer (some ⟨g, 0, none⟩)] #[], .func (.func 102) #[.pointer (some ⟨g, 0, none⟩)] #[]]
section
variable (B : Nat) (W0 : World) (g : Nat) (pa : Option Addr) (pcap : Nat) (qa : Option Addr) (qcap : Nat) (ps : List Pk) (ns : List Int)
structure TurnsEnv : Prop where
 pk : LiesP W0 pa ps
 nu : LiesN W0 qa ns
 pB : ∀ ad, pa = some ad → 0 < ps.length → ad.block < B
 qB : ∀ ad, qa = some ad → ad.block < B
 ok : OkPks ps
 ns : NumsOk 1 3000 ns
end
section
variable {B : Nat} {W0 : World} {g : Nat} {pa : Option Addr} {pcap : Nat} {qa : Option Addr} {qcap : Nat} {ps : List Pk} {ns : List Int}
theorem turns_come (E : TurnsEnv B W0 pa qa ps ns) {D : Nat → Prop} {q : TQ} {w : World} (h : HeldT B W0 g (.slice pa ps.length pcap) (.slice qa ns.length qcap) w D q) (hok : TQOk ps ns 1500 q) (hn : q.n ≤ 300) {k : Nat} {p : Pk} (hp : ps[k]? = some p) :
  Calls Tryz.prog 100 #[.pointer (some ⟨g, 0, none⟩), .int .i64 (k : Int)] w fun e w' => e = .returned (.tuple #[]) ∧ QueLeft (HeldT B W0 g (.slice pa ps.length pcap) (.slice qa ns.length qcap)) w w' D ((turnsQ ps ns).come q k) := by
 obtain ⟨vq, F, rv, hT, hD⟩ := h.parts
 have hl : LiesP w pa ps := E.pk.bel E.pB h.env
 have hf8 := flow_lt E.ok k
 have hpf : p.flow = ((flowOf ps k : Nat) : Int) := by
  rw [flowOf_get hp]
  have := okPk_true (E.ok.each _ p hp).1
  omega
 have hq3 : (q.d.qs (flowOf ps k)).length ≤ 300 := by
  have := cnt_le q.d.qs 8 hf8
  have := hok.count
  omega
 by_cases hq : q.d.qs (flowOf ps k) = []
 ·
  refine (turnsCome_first B g pa pcap _ ps vq F rv q.d q.n w hT hl E.ok.few k (flowOf ps k) p hp hpf hf8 hq (row_few hok) (by omega) h.le).mono ?_
  rintro e w' ⟨rfl, hE⟩
  have hm : flowOf ps k ∉ q.d.line := fun hm => (hok.state.active _).1 hm hq
  have e1 : ((turnsQ ps ns).come q k).d = { q.d with qs := put1 q.d.qs (flowOf ps k) (q.d.qs (flowOf ps k) ++ [k]), row := q.d.row ++ [flowOf ps k] } := by
   show q.d.come (flowOf ps) k = _
   unfold Drr.come
   rw [if_neg hm]
  exact ⟨rfl, ComeEnd.left h hD (by rw [e1]; exact hE)⟩
 ·
  refine (turnsCome_more B g pa pcap _ ps vq F rv q.d q.n w hT hl E.ok.few k (flowOf ps k) p hp hpf hf8 hq hq3 (by omega) h.le).mono ?_
  rintro e w' ⟨rfl, hE⟩
  have hm : flowOf ps k ∈ q.d.line := (hok.state.active _).2 hq
  have e1 : ((turnsQ ps ns).come q k).d = { q.d with qs := put1 q.d.qs (flowOf ps k) (q.d.qs (flowOf ps k) ++ [k]) } := by
   show q.d.come (flowOf ps) k = _
   unfold Drr.come
   rw [if_pos hm]
  exact ⟨rfl, ComeEnd.left h hD (by rw [e1]; exact hE)⟩
theorem turns_pick (E : TurnsEnv B W0 pa qa ps ns) {D : Nat → Prop} {q : TQ} {w : World} (h : HeldT B W0 g (.slice pa ps.length pcap) (.slice qa ns.length qcap) w D q) (hok : TQOk ps ns 1500 q) (h0 : 0 < q.n) (hn : q.n ≤ 300) (hq3 : ∀ f, (q.d.qs f).length ≤ 300 ∧ ∀ k, k ∈ q.d.qs f → k < ps.length) :
  Calls Tryz.prog 101 #[.pointer (some ⟨g, 0, none⟩)] w fun e w' => e = .returned (.int .i64 ((turnsQ ps ns).pick q : Nat)) ∧ QueLeft (HeldT B W0 g (.slice pa ps.length pcap) (.slice qa ns.length qcap)) w w' D ((turnsQ ps ns).left q) := by
 obtain ⟨vq, F, rv, hT, hD⟩ := h.parts
 have hqu : ∀ f, 1 ≤ quOf ns f := fun f => (quOf_in E.ns.each (by omega) f).1
 obtain ⟨k, e, hx, e1, e2, -⟩ := hok.picks hqu h0
 obtain ⟨n, hn'⟩ : ∃ n, q.n = n + 1 := ⟨q.n - 1, by omega⟩
 rw [hn'] at hT
 refine (turnsPick B g pa pcap qa qcap ps ns vq F rv q.d n w hT (E.pk.bel E.pB h.env) E.pB (liesN_bel E.nu E.qB h.env) E.qB E.ok E.ns hok.state hok.few hq3 (by omega) h.le (fuelOf ps q.d) k e hx).mono ?_
 rintro e' w' ⟨rfl, hE⟩
 rw [e1, e2]
 exact ⟨rfl, ComeEnd.left h hD (by rw [show q.n - 1 = n by omega]; exact hE)⟩
set_option maxHeartbeats 1000000 in
theorem turnsRuleRest {D : Nat → Prop} {q : TQ} {w : World} {pv qv : Value} (h : HeldT B W0 g pv qv w D q) :
  Calls Tryz.prog 220 #[ruleT g] w fun e w' => e = .returned (.int .i64 (q.n : Int)) ∧ QueLeft (HeldT B W0 g pv qv) w w' D q := by
 have HH : Hid (HeldT B W0 g pv qv w D q) := h
 clear h
 unfold ruleT
 go_enter Tryz.func220, Tryz.ntmps220
 go_wp2_with fail
 refine (turnsRest B W0 g pv qv D q _ (HH.out.alloc _)).mono ?_
 rintro e w1 ⟨rfl, rfl⟩
 go_wp2_with fail
 go_ret
 exact ⟨rfl, HH.out.same ((Below.refl _ _).alloc (Nat.le_refl _) _)⟩
set_option maxHeartbeats 1000000 in
theorem turnsRulePick (E : TurnsEnv B W0 pa qa ps ns) {D : Nat → Prop} {q : TQ} {w : World} (h : HeldT B W0 g (.slice pa ps.length pcap) (.slice qa ns.length qcap) w D q) (hok : TQOk ps ns 1500 q) (h0 : 0 < q.n) (hn : q.n ≤ 300) (hq3 : ∀ f, (q.d.qs f).length ≤ 300 ∧ ∀ k, k ∈ q.d.qs f → k < ps.length) :
  Calls Tryz.prog 219 #[ruleT g] w fun e w' => e = .returned (.int .i64 ((turnsQ ps ns).pick q : Nat)) ∧ QueLeft (HeldT B W0 g (.slice pa ps.length pcap) (.slice qa ns.length qcap)) w w' D ((turnsQ ps ns).left q) := by
 have HP : Hid (∀ w', HeldT B W0 g (.slice pa ps.length pcap) (.slice qa ns.length qcap) w' D q → Calls Tryz.prog 101 #[.pointer (some ⟨g, 0, none⟩)] w' fun e w'' => e = .returned (.int .i64 ((turnsQ ps ns).pick q : Nat)) ∧ QueLeft (HeldT B W0 g (.slice pa ps.length pcap) (.slice qa ns.length qcap)) w' w'' D ((turnsQ ps ns).left q)) := fun w' h' => turns_pick E h' hok h0 hn hq3
 have HH : Hid (HeldT B W0 g (.slice pa ps.length pcap) (.slice qa ns.length qcap) w D q) := h
 clear h hok hq3 h0
 unfold ruleT
 go_enter Tryz.func219, Tryz.ntmps219
 go_wp2_with fail
 refine (HP.out _ (HH.out.alloc _)).mono ?_
 rintro e w1 ⟨rfl, ho⟩
 have HO : Hid (QueLeft (HeldT B W0 g (.slice pa ps.length pcap) (.slice qa ns.length qcap)) w w1 D ((turnsQ ps ns).left q)) := ho.after ((Below.refl _ _).alloc (Nat.le_refl _) _)
 clear ho
 go_wp2_with fail
 go_ret
 exact ⟨rfl, HO.out⟩
set_option maxHeartbeats 1000000 in
theorem turnsRuleCome (E : TurnsEnv B W0 pa qa ps ns) {D : Nat → Prop} {q : TQ} {w : World} (h : HeldT B W0 g (.slice pa ps.length pcap) (.slice qa ns.length qcap) w D q) (hok : TQOk ps ns 1500 q) (hn : q.n ≤ 300) {k : Nat} {p : Pk} (hp : ps[k]? = some p) :
  Calls Tryz.prog 218 #[ruleT g, .int .i64 (k : Int)] w fun e w' => e = .returned (.tuple #[]) ∧ QueLeft (HeldT B W0 g (.slice pa ps.length pcap) (.slice qa ns.length qcap)) w w' D ((turnsQ ps ns).come q k) := by
 have HP : Hid (∀ w', HeldT B W0 g (.slice pa ps.length pcap) (.slice qa ns.length qcap) w' D q → Calls Tryz.prog 100 #[.pointer (some ⟨g, 0, none⟩), .int .i64 (k : Int)] w' fun e w'' => e = .returned (.tuple #[]) ∧ QueLeft (HeldT B W0 g (.slice pa ps.length pcap) (.slice qa ns.length qcap)) w' w'' D ((turnsQ ps ns).come q k)) := fun w' h' => turns_come E h' hok hn hp
 have HH : Hid (HeldT B W0 g (.slice pa ps.length pcap) (.slice qa ns.length qcap) w D q) := h
 clear h hok hp
 unfold ruleT
 go_enter Tryz.func218, Tryz.ntmps218
 go_wp2_with fail
 refine (HP.out _ (HH.out.alloc _)).mono ?_
 rintro e w1 ⟨rfl, ho⟩
 have HO : Hid (QueLeft (HeldT B W0 g (.slice pa ps.length pcap) (.slice qa ns.length qcap)) w w1 D ((turnsQ ps ns).come q k)) := ho.after ((Below.refl _ _).alloc (Nat.le_refl _) _)
 clear ho
 go_wp2_with fail
 go_end0
 exact ⟨rfl, HO.out⟩
end
theorem turns_new (w : World) (pv qv : Value) (t : TypeId) : TurnsAt w.heap.size w.heap.size pv qv (w.alloc (.cells #[pv, qv, .slice none 0 0, .slice none 0 0, .slice none 0 0, .slice none 0 0, .slice none 0 0, .slice none 0 0, .slice none 0 0, .slice none 0 0, .int .i64 0, .int .i64 0, .int .i64 0, .int .i64 0, .int .i64 0, .int .i64 0, .int .i64 0, .int .i64 0, .slice none 0 0, .int .i64 (-1), .int .i64 0] t)) (fun _ => .slice none 0 0) (fun _ _ => False) (.slice none 0 0) turns0.d 0 := by
 have hc : ∀ i, (w.alloc (.cells #[pv, qv, .slice none 0 0, .slice none 0 0, .slice none 0 0, .slice none 0 0, .slice none 0 0, .slice none 0 0, .slice none 0 0, .slice none 0 0, .int .i64 0, .int .i64 0, .int .i64 0, .int .i64 0, .int .i64 0, .int .i64 0, .int .i64 0, .int .i64 0, .slice none 0 0, .int .i64 (-1), .int .i64 0] t)).cell? ⟨w.heap.size, i, none⟩ = (#[pv, qv, .slice none 0 0, .slice none 0 0, .slice none 0 0, .slice none 0 0, .slice none 0 0, .slice none 0 0, .slice none 0 0, .slice none 0 0, .int .i64 0, .int .i64 0, .int .i64 0, .int .i64 0, .int .i64 0, .int .i64 0, .int .i64 0, .int .i64 0, .slice none 0 0, .int .i64 (-1), .int .i64 0] : Array Value)[i]? := fun i => World.cell?_alloc_at _ _ _ _ rfl
 refine ⟨⟨hc 0, hc 1, fun f hf => ?_, fun f hf => ?_, hc 18, hc 19, hc 20, fun i => World.frozen?_alloc_new w _ _ i⟩, fun f hf => Slides.nil _ _, World.ownsRow_nil _ _ _ _, fun f hf => ⟨id, fun _ h => h.elim, fun _ _ _ h => h.elim⟩, (fun h => by cases h), Nat.le_refl _⟩
 ·
  match f, hf with
  | 0, _ => exact hc 2
  | 1, _ => exact hc 3
  | 2, _ => exact hc 4
  | 3, _ => exact hc 5
  | 4, _ => exact hc 6
  | 5, _ => exact hc 7
  | 6, _ => exact hc 8
  | 7, _ => exact hc 9
  | f + 8, h => omega
 ·
  match f, hf with
  | 0, _ => exact hc 10
  | 1, _ => exact hc 11
  | 2, _ => exact hc 12
  | 3, _ => exact hc 13
  | 4, _ => exact hc 14
  | 5, _ => exact hc 15
  | 6, _ => exact hc 16
  | 7, _ => exact hc 17
  | f + 8, h => omega
set_option maxHeartbeats 1000000 in
theorem byTurns_any (pa : Option Addr) (pl pcap : Nat) (qa : Option Addr) (ql qcap : Nat) (w : World) :
  Calls Tryz.prog 60 #[.slice pa pl pcap, .slice qa ql qcap] w fun e w' => e = .returned (.iface 164 (ruleT w.heap.size)) ∧ HeldT w.heap.size w w.heap.size (.slice pa pl pcap) (.slice qa ql qcap) w' (fun k => k = w.heap.size) turns0 ∧ Below w.heap.size w w' := by
 unfold ruleT
 go_enter Tryz.func60, Tryz.ntmps60
 go_wp2_with fail
 go_ret
 have hb := (Below.refl w.heap.size w).alloc (Nat.le_refl _) (.cells #[.slice pa pl pcap, .slice qa ql qcap, .slice none 0 0, .slice none 0 0, .slice none 0 0, .slice none 0 0, .slice none 0 0, .slice none 0 0, .slice none 0 0, .slice none 0 0, .int .i64 0, .int .i64 0, .int .i64 0, .int .i64 0, .int .i64 0, .int .i64 0, .int .i64 0, .int .i64 0, .slice none 0 0, .int .i64 (-1), .int .i64 0] 162)
 exact ⟨rfl, ⟨hb, _, _, _, turns_new w _ _ _, fun k => ⟨fun h => .inl h, fun h => by
  rcases h with h | ⟨_, _, h⟩ | h
  · exact h
  · exact h.elim
  · cases h⟩⟩, hb⟩
set_option maxHeartbeats 1000000 in
theorem quantum_yes (x : Int) (w : World) (h : 1 ≤ x ∧ x ≤ 3000) : Calls Tryz.prog 58 #[.int .i64 x] w fun e w' => e = .returned (.bool true) ∧ w' = w := by
 obtain ⟨h1, h2⟩ := h
 go_enter Tryz.func58, Tryz.ntmps58
 go_wp2
 go_ret
 exact ⟨rfl, rfl⟩
set_option maxHeartbeats 1000000 in
theorem quantum_no (x : Int) (w : World) (h : ¬ (1 ≤ x ∧ x ≤ 3000)) : Calls Tryz.prog 58 #[.int .i64 x] w fun e w' => e = .returned (.bool false) ∧ w' = w := by
 by_cases h1 : 1 ≤ x
 ·
  have h2 : ¬ x ≤ 3000 := fun h' => h ⟨h1, h'⟩
  clear h
  go_enter Tryz.func58, Tryz.ntmps58
  go_wp2
  go_ret
  exact ⟨rfl, rfl⟩
 ·
  clear h
  go_enter Tryz.func58, Tryz.ntmps58
  go_wp2
  go_ret
  exact ⟨rfl, rfl⟩
set_option maxHeartbeats 2000000 in
theorem checkQuanta_to (a : Option Addr) (cap : Nat) (ns : List Int) (w : World) (ad : Nat → Addr) (hl : LiesN w a ns) (h8 : ns.length = 8) (j : Nat) (hj : j ≤ 8) (hg : ∀ (i : Nat) y, i < j → ns[i]? = some y → 1 ≤ y ∧ y ≤ 3000) (R : Value)
  (h : (j = 8 ∧ R = .nilIface) ∨ (R = .iface 271 (.pointer (some (ad 1))) ∧ w.cell? ⟨3, 0, none⟩ = some (.iface 271 (.pointer (some (ad 1)))) ∧ ∃ x, ns[j]? = some x ∧ ¬ (1 ≤ x ∧ x ≤ 3000))) :
  Calls Tryz.prog 57 #[.slice a 8 cap, .func (.func 58) #[] #[]] w fun e w' => e = .returned R ∧ w' = w := by
 have HG : Hid (∀ (i : Nat) y, i < j → ns[i]? = some y → 1 ≤ y ∧ y ≤ 3000) := hg
 have HR : Hid ((j = 8 ∧ R = .nilIface) ∨ (R = .iface 271 (.pointer (some (ad 1))) ∧ w.cell? ⟨3, 0, none⟩ = some (.iface 271 (.pointer (some (ad 1)))) ∧ ∃ x, ns[j]? = some x ∧ ¬ (1 ≤ x ∧ x ≤ 3000))) := h
 obtain ⟨b, off, rfl, -, hcell⟩ := hl.place (by omega)
 have HC : Hid (∀ (i : Nat) x, ns[i]? = some x → w.cell? ⟨b, off + i, none⟩ = some (.int .i64 x)) := hcell
 have H8 : Hid (ns.length = 8) := h8
 clear hg h hl hcell h8
 go_enter Tryz.func57, Tryz.ntmps57
 go_wp2_with fail
 go_loopw [13] (fun i wr => ∃ k : Nat, k ≤ j ∧ i = .int .i64 k ∧ wr = w) (fun i _ => 8 - (intOf i).toNat)
 case atStart => exact ⟨0, Nat.zero_le _, rfl, rfl⟩
 case round =>
  obtain ⟨k, hk, rfl, rfl⟩ := hrel
  by_cases hkj : k < j
  ·
   obtain ⟨x, hx, -⟩ := get_some ns k (by rw [H8.out]; omega)
   have hok := HG.out k x hkj hx
   have c1 := HC.out k x hx
   clear hx
   go_wp2_with fail
   refine (quantum_yes x _ hok).mono ?_
   rintro e w1 ⟨rfl, rfl⟩
   go_wp2_with fail
   go_roundw
   case rel => exact ⟨k + 1, by omega, by go_num, trivial⟩
   case measure => simp [intOf]; omega
  ·
   obtain rfl : k = j := by omega
   rcases HR.out with ⟨rfl, rfl⟩ | ⟨rfl, he, x, hx, hbad⟩
   ·
    go_wp2_with fail
    go_ret
    exact ⟨rfl, rfl⟩
   ·
    have c1 := HC.out k x hx
    have hk8 : k < 8 := by
     rw [← H8.out]
     rcases Nat.lt_or_ge k ns.length with h' | h'
     · exact h'
     · simp [List.getElem?_eq_none h'] at hx
    clear hx
    go_wp2_with fail
    refine (quantum_no x _ hbad).mono ?_
    rintro e w1 ⟨rfl, rfl⟩
    go_wp2_with fail
    go_ret
    exact ⟨rfl, rfl⟩
theorem checkQuanta_ok (a : Option Addr) (cap : Nat) (ns : List Int) (w : World) (hl : LiesN w a ns) (ho : NumsOk 1 3000 ns) :
  Calls Tryz.prog 57 #[.slice a ns.length cap, .func (.func 58) #[] #[]] w fun e w' => e = .returned .nilIface ∧ w' = w := by
 rw [ho.len]
 exact checkQuanta_to a cap ns w (fun _ => ⟨0, 0, none⟩) hl ho.len 8 (Nat.le_refl _) (fun i y _ hy => ho.each i y hy) _ (.inl ⟨rfl, rfl⟩)
theorem checkQuanta_bad (a : Option Addr) (cap : Nat) (ns : List Int) (w : World) (ad : Nat → Addr) (he : NumErrs w ad) (hl : LiesN w a ns) (c : Nat) (h : NumsFault 1 3000 ns c) (hc : 0 < c) :
  Calls Tryz.prog 57 #[.slice a ns.length cap, .func (.func 58) #[] #[]] w fun e w' => e = .returned (sentOf ad c) ∧ w' = w := by
 rcases h with ⟨rfl, h8⟩ | ⟨rfl, j, h8, ⟨x, hx, hbad⟩, hg⟩ | ⟨rfl, -⟩
 · exact checkNumbers_shape a ns.length cap _ w ad h8 he.2
 ·
  rw [h8]
  exact checkQuanta_to a cap ns w ad hl h8 j (by have := lt_of_get hx; omega) hg _ (.inr ⟨rfl, he.1, x, hx, hbad⟩)
 · omega
end Go.Proofs.YtibhkijaafdkoaaGreatDoor

namespace Go.Proofs.YtibhkijaafdkoaaGreatDoor
open Go.RowKit
def SentRounds (per : Int) (ps : List Pk) (ns : List Int) (B : Nat) (w : World) (v : Value) (w' : World) : Prop := ∃ l, OwnS w' w.heap.size v l ∧ RoundSent per ps ns l ∧ Below B w w'
theorem roundSend_ok (a : Option Addr) (cap : Nat) (ps : List Pk) (per : Int) (na : Option Addr) (ncap : Nat) (ns : List Int) (B : Nat) (W0 : World) (g : Nat) (D0 : Nat → Prop) (w : World) (E : TurnsEnv B W0 a na ps ns) (h1 : 1 ≤ per) (h2 : per ≤ 1000) (h0 : HeldT B W0 g (.slice a ps.length cap) (.slice na ns.length ncap) w D0 turns0) :
  Calls Tryz.prog 59 #[.slice a ps.length cap, .int .i64 per, .iface 164 (ruleT g)] w fun e w' => ∃ v, e = .returned v ∧ SentRounds per ps ns B w v w' := by
 have hqu : ∀ f, 1 ≤ quOf ns f := fun f => (quOf_in E.ns.each (by omega) f).1
 have hlaw := turns_law (per := per) (ps := ps) E.ok hqu
 have hlen : ∀ s, Reaches (turnsQ ps ns) per ps turns0 s → s.q.n ≤ 300 := fun s hr => by
  have hc := hr.count hlaw
  have hn := hr.next_le
  have := E.ok.few
  have : (turnsQ ps ns).rest s.q = s.q.n := rfl
  omega
 refine (send_any (turnsQ ps ns) (HeldT B W0 g (.slice a ps.length cap) (.slice na ns.length ncap)) per ps turns0 B _ _ _ (turnsMem B W0 g _ _) hlaw E.ok h1 h2 ?_ ?_ ?_ a cap w (E.pk.bel E.pB h0.env) h0.le E.pB D0 h0).mono ?_
 ·
  intro w D s p hr hp hh
  exact turnsRuleCome E hh (turns_ok E.ok hqu hr) (hlen s hr) hp
 ·
  intro w D s hr h0' hh
  exact turnsRulePick E hh (turns_ok E.ok hqu hr) h0' (hlen s hr) (fun f => by
   obtain ⟨f1, f2⟩ := turns_few E.ok hqu hr f
   exact ⟨f1, fun k hk => by have := (f2 k hk).1; have := hr.next_le; omega⟩)
 ·
  intro w D s hr hh
  rw [asked_same _ (fun _ => rfl)]
  exact turnsRuleRest hh
 ·
  rintro e w' ⟨s, v, rfl, hr, hn, hrest, hown, hb⟩
  exact ⟨v, rfl, s.out, hown, ⟨s, hr, hn, hrest, rfl⟩, hb⟩
set_option maxRecDepth 100000 in
set_option maxHeartbeats 2000000 in
theorem roundRun_ok (a : Option Addr) (cap : Nat) (ps : List Pk) (per : Int) (na : Option Addr) (ncap : Nat) (ns : List Int) (w : World) (hl : LiesP w a ps) (hn : LiesN w na ns) (ho : OkPks ps) (h1 : 1 ≤ per) (h2 : per ≤ 1000) (hk : NumsOk 1 3000 ns) :
  Calls Tryz.prog 26 #[.slice a ps.length cap, .int .i64 per, .slice na ns.length ncap] w fun e w' => ∃ v, e = .returned (.tuple #[v, .nilIface]) ∧ SentRounds per ps ns w.heap.size w v w' := by
 have HCheck : Hid (∀ W, Below w.heap.size w W → Calls Tryz.prog 52 #[.slice a ps.length cap, .int .i64 per] W fun e w' => e = .returned .nilIface ∧ Below W.heap.size W w') := fun W hb => linkCheck_ok a cap ps per W (hl.below hb) ho h1 h2
 have HUp : Hid (∀ W, Below w.heap.size w W → Calls Tryz.prog 57 #[.slice na ns.length ncap, .func (.func 58) #[] #[]] W fun e w' => e = .returned .nilIface ∧ w' = W) := fun W hb => checkQuanta_ok na ncap ns W (hn.below hb) hk
 have HSend : Hid (∀ W W3, Below w.heap.size w W → HeldT W.heap.size W W.heap.size (.slice a ps.length cap) (.slice na ns.length ncap) W3 (fun k => k = W.heap.size) turns0 → Below W.heap.size W W3 →
   Calls Tryz.prog 59 #[.slice a ps.length cap, .int .i64 per, .iface 164 (ruleT W.heap.size)] W3 fun e w' => ∃ v, e = .returned v ∧ SentRounds per ps ns w.heap.size w v w') := fun W W3 hb h0 hb3 => by
  have hlW := hl.below hb
  have hnW := hn.below hb
  refine (roundSend_ok a cap ps per na ncap ns W.heap.size W W.heap.size _ W3 ⟨hlW, hnW, hlW.at_lt, fun ad had => ?_, ho, hk⟩ h1 h2 h0).mono ?_
  ·
   obtain ⟨b, off, e, hlt, -⟩ := hnW.place (by rw [hk.len]; omega)
   rw [e] at had
   cases had
   exact hlt
  ·
   rintro e w' ⟨v, rfl, l, g1, g2, g3⟩
   exact ⟨v, rfl, l, ownsRow_mono g1 (Nat.le_trans hb.size hb3.size), g2, (hb.trans (hb3.mono hb.size)).trans (g3.mono hb.size)⟩
 clear hl hn ho hk
 generalize hpl : ps.length = n at *
 generalize hnl : ns.length = m at *
 clear hpl hnl
 go_enter Tryz.func26, Tryz.ntmps26
 go_wp2_with fail
 refine (HCheck.out _ (Below.refl _ _)).mono ?_
 rintro e w1 ⟨rfl, hb⟩
 have HB1 : Hid (Below w.heap.size w w1) := hb
 clear hb
 go_wp2_with fail
 refine (HUp.out _ HB1.out).mono ?_
 rintro e w2 ⟨rfl, rfl⟩
 go_wp2_with fail
 refine (byTurns_any a n cap na m ncap w2).mono ?_
 rintro e w3 ⟨rfl, hh, hb3⟩
 have HS : Hid (Calls Tryz.prog 59 #[.slice a n cap, .int .i64 per, .iface 164 (ruleT w2.heap.size)] w3 fun e w' => ∃ v, e = .returned v ∧ SentRounds per ps ns w.heap.size w v w') := HSend.out w2 w3 HB1.out hh hb3
 clear hh hb3
 go_wp2_with fail
 refine HS.out.mono ?_
 rintro e w4 ⟨v, rfl, hs⟩
 have HE : Hid (SentRounds per ps ns w.heap.size w v w4) := hs
 clear hs
 go_wp2_with fail
 go_ret2
 exact ⟨v, rfl, HE.out⟩
set_option maxRecDepth 100000 in
set_option maxHeartbeats 1000000 in
theorem roundRun_err1 {R : TypeId → Value → World → Prop} (a : Option Addr) (n cap : Nat) (per : Int) (na : Option Addr) (m ncap : Nat) (w : World) (h : Calls Tryz.prog 52 #[.slice a n cap, .int .i64 per] w fun e w' => ∃ ty v, e = .returned (.iface ty v) ∧ R ty v w') :
  Calls Tryz.prog 26 #[.slice a n cap, .int .i64 per, .slice na m ncap] w fun e w' => ∃ ty v, e = .returned (.tuple #[.slice none 0 0, .iface ty v]) ∧ R ty v w' := by
 have HC : Hid (Calls Tryz.prog 52 #[.slice a n cap, .int .i64 per] w fun e w' => ∃ ty v, e = .returned (.iface ty v) ∧ R ty v w') := h
 clear h
 go_enter Tryz.func26, Tryz.ntmps26
 go_wp2_with fail
 refine HC.out.mono ?_
 rintro e w1 ⟨ty, v, rfl, hR⟩
 have HR : Hid (R ty v w1) := hR
 clear hR
 go_wp2_with fail
 go_ret2
 exact ⟨ty, v, rfl, HR.out⟩
set_option maxRecDepth 100000 in
set_option maxHeartbeats 1000000 in
theorem roundRun_err2 {R : TypeId → Value → World → Prop} (a : Option Addr) (n cap : Nat) (per : Int) (na : Option Addr) (m ncap : Nat) (w : World) (h : Calls Tryz.prog 52 #[.slice a n cap, .int .i64 per] w fun e w' => e = .returned .nilIface ∧ Below w.heap.size w w')
  (h2 : ∀ W, Below w.heap.size w W → Calls Tryz.prog 57 #[.slice na m ncap, .func (.func 58) #[] #[]] W fun e w' => ∃ ty v, e = .returned (.iface ty v) ∧ R ty v w') :
  Calls Tryz.prog 26 #[.slice a n cap, .int .i64 per, .slice na m ncap] w fun e w' => ∃ ty v, e = .returned (.tuple #[.slice none 0 0, .iface ty v]) ∧ R ty v w' := by
 have HC : Hid (Calls Tryz.prog 52 #[.slice a n cap, .int .i64 per] w fun e w' => e = .returned .nilIface ∧ Below w.heap.size w w') := h
 have HU : Hid (∀ W, Below w.heap.size w W → Calls Tryz.prog 57 #[.slice na m ncap, .func (.func 58) #[] #[]] W fun e w' => ∃ ty v, e = .returned (.iface ty v) ∧ R ty v w') := h2
 clear h h2
 go_enter Tryz.func26, Tryz.ntmps26
 go_wp2_with fail
 refine HC.out.mono ?_
 rintro e w1 ⟨rfl, hb⟩
 have HB : Hid (Below w.heap.size w w1) := hb
 clear hb
 go_wp2_with fail
 refine (HU.out _ HB.out).mono ?_
 rintro e w2 ⟨ty, v, rfl, hR⟩
 have HR : Hid (R ty v w2) := hR
 clear hR
 go_wp2_with fail
 go_ret2
 exact ⟨ty, v, rfl, HR.out⟩
end Go.Proofs.YtibhkijaafdkoaaGreatDoor

namespace Go.Proofs.YtibhkijaafdkoaaGreatDoor
open Go.RowKit
theorem Tryz.keyed : Go.Maps.Keyed Tryz.prog 3 := Go.Maps.int_keyed Tryz.underlying3
theorem Tryz.zeroInt (w : World) : (zeroValue 3).run Tryz.prog w = .ok (.int .i64 0) w := by kernel_rfl
theorem Tryz.underMap : Tryz.prog.underlying 230 = some (.map 3 3) := by kernel_rfl
section
variable {B : Nat} {W0 : World} {g gt gm n : Nat} {pv qv : Value} {w : World} {D : Nat → Prop} {q : FQ}
set_option maxHeartbeats 1000000 in
theorem fairRest_some (h : HeldW B W0 g gt gm n pv qv w D q) (h0 : 0 < q.q.length) :
  Calls Tryz.prog 164 #[.pointer (some ⟨g, 0, none⟩)] w fun e w' => e = .returned (.int .i64 (q.q.length : Int)) ∧ w' = w := by
 obtain ⟨rv, hA, hD⟩ := h.parts
 have hr := hA.row
 rw [← asInts_length] at hr
 obtain ⟨ao, cap, rfl, hlc, hcm⟩ := own_open hr
 rw [asInts_length] at hlc hA
 have c5 := hA.cells.c5
 obtain ⟨l, hl⟩ : ∃ l, q.q.length = l := ⟨_, rfl⟩
 rw [hl] at c5 hlc h0 ⊢
 have h1 : ((l : Int) == 0) = false := by simpa using (show l ≠ 0 by omega)
 have h2 : (l : Int) ≠ 0 := by omega
 unfold maxLen at hcm
 clear hA hr hD h hl
 go_enter Tryz.func164, Tryz.ntmps164
 go_wp2
 go_ret
 exact ⟨rfl, rfl⟩
set_option maxRecDepth 100000 in
set_option maxHeartbeats 1000000 in
theorem fairRest_none (h : HeldW B W0 g gt gm n pv qv w D q) (h0 : q.q.length = 0) :
  Calls Tryz.prog 164 #[.pointer (some ⟨g, 0, none⟩)] w fun e w' => e = .returned (.int .i64 0) ∧ QueLeft (HeldW B W0 g gt gm n pv qv) w w' D q.rests := by
 have HH : Hid (HeldW B W0 g gt gm n pv qv w D q) := h
 obtain ⟨rv, hA, hD⟩ := h.parts
 have hr := hA.row
 rw [← asInts_length] at hr
 obtain ⟨ao, cap, rfl, hlc, hcm⟩ := own_open hr
 rw [asInts_length] at hlc hA hD
 rw [h0] at hlc hA hD
 have c5 := hA.cells.c5
 have c4 := hA.cells.c4
 have f4 := hA.cells.free 4
 have hV := hA.setV 0
 have d3 := hV.cells.c3
 have d5 := hV.cells.c5
 have HV : Hid (FairAt B g gt gm n pv qv (w.setCell ⟨g, 4, none⟩ (.int .i64 0)) (.slice ao 0 cap) { q with v := 0 } ∧ (∀ k, D k ↔ fairFoot g gt gm (.slice ao 0 cap) k) ∧ But (fun k => k = g) w (w.setCell ⟨g, 4, none⟩ (.int .i64 0))) := ⟨hV, hD, butF _ _ _ _⟩
 obtain ⟨w1, hclr, ht, hg⟩ := hV.tells.cleared Tryz.underMap 0
 have HF0 := hV.setLast hg ht
 have e5 := HF0.1.cells.c5
 have HF : Hid (FairAt B g gt gm n pv qv w1 (.slice ao 0 cap) { q with v := 0, last := fun _ => 0 } ∧ But (fun k => k = gm) (w.setCell ⟨g, 4, none⟩ (.int .i64 0)) w1) := HF0
 unfold maxLen at hcm
 clear hA hr hD h hV ht hg HF0
 go_enter Tryz.func164, Tryz.ntmps164
 go_wp2
 go_ret
 refine ⟨rfl, HH.out.leaves (q' := q.rests) HV.out.2.1 ((HV.out.2.2.mono fun k hk => (HV.out.2.1 k).2 (.inl hk)).trans (HF.out.2.mono fun k hk => (HV.out.2.1 k).2 (.inr (.inr (.inl hk))))) HF.out.1 (fun k hk => .inl hk)⟩
end
end Go.Proofs.YtibhkijaafdkoaaGreatDoor

namespace Go.Proofs.YtibhkijaafdkoaaGreatDoor
open Go.RowKit
structure FairEnv (B : Nat) (W0 : World) (pa qa : Option Addr) (ps : List Pk) (ws : List Int) : Prop where
 pk : LiesP W0 pa ps
 nu : LiesN W0 qa ws
 pB : ∀ ad, pa = some ad → 0 < ps.length → ad.block < B
 qB : ∀ ad, qa = some ad → ad.block < B
 ok : OkPks ps
 ws : WtsAll ws
theorem wts_bel {B : Nat} {w w' : World} {a : Option Addr} {xs : List Int} (h : LiesN w a xs) (ha : ∀ ad, a = some ad → ad.block < B) (hb : Below B w w') : LiesN w' a xs := by
 rcases h with rfl | ⟨b, off, rfl, hlt, hc⟩
 · exact .inl rfl
 ·
  have hB : b < B := ha ⟨b, off, none⟩ rfl
  exact .inr ⟨b, off, rfl, Nat.lt_of_lt_of_le hlt hb.size, fun i x hi => by rw [hb.cell (p := ⟨b, off + i, none⟩) hB]; exact hc i x hi⟩
section
variable {B : Nat} {W0 : World} {g gt gm n : Nat} {pv qv : Value} {w : World} {D : Nat → Prop} {q : FQ}
theorem HeldW.same {w' : World} (h : HeldW B W0 g gt gm n pv qv w D q) (hb : Below w.heap.size w w') : QueLeft (HeldW B W0 g gt gm n pv qv) w w' D q := ⟨D, h.later hb, .ofBelow hb, fun _ hk => .inl hk⟩
theorem fairRest {ps : List Pk} {ws : List Int} (h : HeldW B W0 g gt gm n pv qv w D q) :
  Calls Tryz.prog 164 #[.pointer (some ⟨g, 0, none⟩)] w fun e w' => e = .returned (.int .i64 (q.q.length : Int)) ∧ QueLeft (HeldW B W0 g gt gm n pv qv) w w' D ((fairQ ps ws).asked q) := by
 by_cases h0 : q.q.length = 0
 ·
  have e : (fairQ ps ws).asked q = q.rests := if_pos h0
  rw [e, h0]
  exact fairRest_none h h0
 ·
  have e : (fairQ ps ws).asked q = q := if_neg h0
  rw [e]
  refine (fairRest_some h (by omega)).mono ?_
  rintro e w' ⟨rfl, rfl⟩
  exact ⟨rfl, h.same (Below.refl _ _)⟩
set_option maxHeartbeats 1000000 in
theorem fairTagOf {rv : Value} (h : FairAt B g gt gm n pv qv w rv q) {k : Nat} (hk : k < n) :
  Calls Tryz.prog 174 #[.pointer (some ⟨g, 0, none⟩), .int .i64 (k : Int)] w fun e w' => e = .returned (.int .i64 (q.tag k)) ∧ ∃ m, w' = w.drewN m := by
 have c2 := h.cells.c2
 have ck := h.given.cell k hk
 generalize q.tag k = x at *
 clear h
 go_enter Tryz.func174, Tryz.ntmps174
 go_wp2_with fail
 go_ret
 exact ⟨rfl, 0, rfl⟩
set_option maxRecDepth 100000 in
set_option maxHeartbeats 2000000 in
theorem fairPick {ps : List Pk} {ws : List Int} (h : HeldW B W0 g gt gm n pv qv w D q) (h0 : 0 < q.q.length) (hn : q.q.length ≤ 300) (hnd : q.q.Nodup) (hq : ∀ k, k ∈ q.q → k < n) :
  Calls Tryz.prog 163 #[.pointer (some ⟨g, 0, none⟩)] w fun e w' => e = .returned (.int .i64 ((fairQ ps ws).pick q : Nat)) ∧ QueLeft (HeldW B W0 g gt gm n pv qv) w w' D ((fairQ ps ws).left q) := by
 have HH : Hid (HeldW B W0 g gt gm n pv qv w D q) := h
 obtain ⟨rv, hA, hD⟩ := h.parts
 have hr := hA.row
 rw [← asInts_length] at hr
 obtain ⟨r, cap, rfl, hlc, hcm, -⟩ := own_some hr (by rw [asInts_length]; exact h0)
 rw [asInts_length] at hlc hA hD hr
 have hpl := pickAt_lt q.tag h0
 obtain ⟨k, hk⟩ : ∃ k, q.q.getD (pickAt q.tag q.q) 0 = k := ⟨_, rfl⟩
 have hkn : k < n := hq k (by rw [← hk, getD_lt hpl]; exact List.getElem_mem hpl)
 have ht := takeLeastB B 174 (.pointer (some ⟨g, 0, none⟩)) q.tag n r cap q.q w (by omega) h0 hq hr hlc hcm (fun _ _ => rfl) (fun m' k hk => fairTagOf (w := w.drewN m') (hA.later (below_drewN (Below.refl _ _) _)) hk)
 unfold LeastTaken at ht
 have c5 := hA.cells.c5
 have hkm : ∀ x, x = q.tag k → True := fun _ _ => trivial
 have HA : Hid (FairAt B g gt gm n pv qv w (.slice (some ⟨r, 0, none⟩) q.q.length cap) q ∧ (∀ k, D k ↔ fairFoot g gt gm (.slice (some ⟨r, 0, none⟩) q.q.length cap) k)) := ⟨hA, hD⟩
 have HLen : Hid ((q.q.eraseIdx (pickAt q.tag q.q)).length = q.q.length - 1) := by
  show _ = _
  rw [List.length_eraseIdx, if_pos hpl]
 have HL : Hid ((fairQ ps ws).pick q = k ∧ (fairQ ps ws).left q = { q with q := q.q.eraseIdx (pickAt q.tag q.q), v := q.tag k }) := by
  refine ⟨hk, ?_⟩
  show q.left (q.q.getD (pickAt q.tag q.q) 0) = _
  rw [erase_filter _ _ hnd hpl, hk]
  rfl
 rw [HL.out.1, HL.out.2]
 obtain ⟨l, hl⟩ : ∃ l, q.q.length = l := ⟨_, rfl⟩
 obtain ⟨pk, hpk⟩ : ∃ pk, pickAt q.tag q.q = pk := ⟨_, rfl⟩
 obtain ⟨T, hT⟩ : ∃ T, q.tag k = T := ⟨_, rfl⟩
 rw [hk, hl, hpk] at ht
 rw [hpk] at HLen ⊢
 have HT : Hid (Calls Tryz.prog 159 #[.slice (some ⟨r, 0, none⟩) l cap, .func (.func 174) #[.pointer (some ⟨g, 0, none⟩)] #[]] w fun e w' => e = .returned (.tuple #[.int .i64 (k : Nat), .slice (some ⟨r, 0, none⟩) (l - 1) cap]) ∧ w'.ownsRow B 3 1 (.slice (some ⟨r, 0, none⟩) (l - 1) cap) (l - 1) (ints (asInts (q.q.eraseIdx pk))) ∧ But (fun j => j = r) w w') := ht
 have HLn : Hid (q.q.length = l ∧ q.tag k = T) := ⟨hl, hT⟩
 rw [hl] at c5 hn h0 hlc
 rw [hT]
 clear hr hA hD h hk hq hpl hnd hl hpk ht hkm hT
 go_enter Tryz.func163, Tryz.ntmps163
 go_wp2_with fail
 refine HT.out.mono ?_
 rintro e w2 ⟨rfl, hown2, hbut2⟩
 have hR : FairAt B g gt gm n pv qv (w2.setCell ⟨g, 5, none⟩ (.slice (some ⟨r, 0, none⟩) (l - 1) cap)) (.slice (some ⟨r, 0, none⟩) (l - 1) cap) { q with q := q.q.eraseIdx pk } :=
  HA.out.1.setR (r' := q.q.eraseIdx pk) (hbut2.mono fun j hj => by rw [hj]; rfl) (by rw [HLen.out, HLn.out.1]; exact hown2) (fun j hj => .inl hj)
 have hA2 := HA.out.1.cells.but (S := fun j => j = r) hbut2 (fun e => HA.out.1.rapart.1 (by rw [← e]; rfl))
 have f2 := hA2.free 5
 have d5 := hA2.c5
 have d2 := hR.cells.c2
 have dk := hR.given.cell k hkn
 have f4 := hR.cells.free 4
 have d4 := hR.cells.c4
 have hdk : (FQ.mk (q.q.eraseIdx pk) q.tag q.v q.last).tag k = T := HLn.out.2
 rw [hdk] at dk
 have HR : Hid (FairAt B g gt gm n pv qv (w2.setCell ⟨g, 5, none⟩ (.slice (some ⟨r, 0, none⟩) (l - 1) cap)) (.slice (some ⟨r, 0, none⟩) (l - 1) cap) { q with q := q.q.eraseIdx pk } ∧ But (fun j => j = r) w w2) := ⟨hR, hbut2⟩
 clear hR hown2 hbut2 hA2 hdk
 go_wp2_with fail
 go_ret
 have hDr : D r := (HA.out.2 r).2 (.inr (.inr (.inr rfl)))
 have hDg : D g := (HA.out.2 g).2 (.inl rfl)
 exact ⟨rfl, HH.out.leaves HA.out.2 ((HR.out.2.mono fun j hj => by rw [hj]; exact hDr).trans (((butF _ _ _ _).mono fun j hj => by rw [hj]; exact hDg).trans ((butF _ _ _ _).mono fun j hj => by rw [hj]; exact hDg))) (HR.out.1.setV T) (fun j hj => .inl hj)⟩
end
end Go.Proofs.YtibhkijaafdkoaaGreatDoor
