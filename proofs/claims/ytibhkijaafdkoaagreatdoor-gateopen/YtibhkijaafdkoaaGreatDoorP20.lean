/- Own facts, put together: no statement of its own. -/
import Derived.Test.YtibhkijaafdkoaaGreatDoorP19
import Derived.Test.YtibhkijaafdkoaaGreatDoorP12
import Derived.Test.YtibhkijaafdkoaaGreatDoorP13
import Derived.Test.YtibhkijaafdkoaaGreatDoorP05
namespace Go.Proofs.YtibhkijaafdkoaaGreatDoor
open Go.RowKit
set_option maxHeartbeats 1000000 in
theorem rankRest (B : Nat) (W0 : World) (g gm : Nat) (mv : Value) (D : Nat → Prop) (q : List Nat) (w : World) (h : HeldR B W0 g gm mv w D q) :
  Calls Tryz.prog 160 #[.pointer (some ⟨g, 0, none⟩)] w fun e w' => e = .returned (.int .i64 (q.length : Int)) ∧ w' = w := by
 obtain ⟨v, h1, h2, h3, h4, h5⟩ := h.row
 rw [← asInts_length] at h2
 obtain ⟨ao, cap, rfl, hlc, hcm⟩ := own_open h2
 rw [asInts_length] at h1 hlc
 have c0 := cell_of_one h1
 unfold maxLen at hcm
 clear h1 h2 h3 h4 h5 h
 go_enter Tryz.func160, Tryz.ntmps160
 go_wp2
 go_ret
 exact ⟨rfl, rfl⟩
set_option maxRecDepth 100000 in
set_option maxHeartbeats 4000000 in
theorem rankPick (B : Nat) (W0 : World) (g gm f : Nat) (x1 x2 : Value) (key : Nat → Int) (n : Nat) (D : Nat → Prop) (q : List Nat) (w : World) (h : HeldR B W0 g gm (.func (.func f) #[] #[x1, x2]) w D q) (hn : q.length ≤ 1000) (h0 : 0 < q.length) (hq : ∀ k, k ∈ q → k < n)
  (hf : ∀ args W, Sem.run Tryz.prog (callFunc f args) W = .ok (.enter f args) W)
  (hM : ∀ W k, Below B W0 W → k < n → Calls Tryz.prog f #[.int .i64 ((k : Nat) : Int), x1, x2] W fun e w' => e = .returned (.int .i64 (key k)) ∧ ∃ m, w' = W.drewN m) :
  Calls Tryz.prog 158 #[.pointer (some ⟨g, 0, none⟩), .pointer (some ⟨gm, 0, none⟩)] w fun e w' => e = .returned (.int .i64 (q.getD (pickAt key q) 0 : Nat)) ∧ QueLeft (HeldR B W0 g gm (.func (.func f) #[] #[x1, x2])) w w' D (q.eraseIdx (pickAt key q)) := by
 have HH : Hid (HeldR B W0 g gm (.func (.func f) #[] #[x1, x2]) w D q) := h
 obtain ⟨v, h1, h2, h3, h4, h5⟩ := h.row
 rw [← asInts_length] at h2
 obtain ⟨r, cap, rfl, hlc, hcm, hcell⟩ := own_some h2 (by rw [asInts_length]; exact h0)
 have H2 : Hid (w.ownsRow B 3 1 (.slice (some ⟨r, 0, none⟩) (asInts q).length cap) (asInts q).length (ints (asInts q)) ∧ cap ≤ maxLen ∧ (asInts q).length ≤ cap) := ⟨h2, hcm, hlc⟩
 rw [asInts_length] at h1 hlc
 have c0 := cell_of_one h1
 have cm := cell_of_one h.mea
 have H1 : Hid (w.heap[g]? = some (.cells #[.slice (some ⟨r, 0, none⟩) q.length cap] 23 (0, 0)) ∧ r ≠ g) := ⟨h1, fun e => h3 (by rw [e]; rfl)⟩
 have HC : Hid (∀ i, i < q.length → ∃ k, q[i]? = some k ∧ q.getD i 0 = k ∧ k < n ∧ w.cell? ⟨r, i, none⟩ = some (.int .i64 ((k : Nat) : Int))) := fun i hi => by
  obtain ⟨k, hk, hmem⟩ := get_some q i hi
  exact ⟨k, hk, by simp [List.getD, hk], hq k hmem, hcell i _ (asInts_get hk)⟩
 have h2' : w.ownsRow B 3 1 (.slice (some ⟨r, 0, none⟩) q.length cap) q.length (ints (asInts q)) := by rw [asInts_length] at h2; exact h2
 have ht := takeLeastA B f x1 x2 key n r cap q w hn h0 hq h2' hlc hcm hf (fun m' k hk => hM _ k (below_drewN h.env _) hk)
 unfold LeastTaken at ht
 have hpl := pickAt_lt key h0
 have HLen : Hid ((q.eraseIdx (pickAt key q)).length = q.length - 1) := by
  show _ = _
  rw [List.length_eraseIdx, if_pos hpl]
 obtain ⟨x, hx⟩ : ∃ x, q.getD (pickAt key q) 0 = x := ⟨_, rfl⟩
 obtain ⟨l, hl⟩ : ∃ l, q.length = l := ⟨_, rfl⟩
 obtain ⟨pk, hpk⟩ : ∃ pk, pickAt key q = pk := ⟨_, rfl⟩
 rw [hx]
 rw [hx, hl, hpk] at ht
 rw [hpk]
 rw [hpk] at HLen
 have HT : Hid (Calls Tryz.prog 159 #[.slice (some ⟨r, 0, none⟩) l cap, .func (.func f) #[] #[x1, x2]] w fun e w' => e = .returned (.tuple #[.int .i64 (x : Nat), .slice (some ⟨r, 0, none⟩) (l - 1) cap]) ∧ w'.ownsRow B 3 1 (.slice (some ⟨r, 0, none⟩) (l - 1) cap) (l - 1) (ints (asInts (q.eraseIdx pk))) ∧ But (fun j => j = r) w w') := ht
 have HL : Hid (q.length = l) := hl
 rw [hl] at c0 hn h0 hlc
 clear h1 h2 h3 h4 h5 h hq hM hcell h2' ht hpl hx hl hpk
 go_enter Tryz.func158, Tryz.ntmps158
 go_wp2_with fail
 refine HT.out.mono ?_
 rintro e w2 ⟨rfl, hown2, hbut2⟩
 have hg2 : w2.heap[g]? = some (.cells #[.slice (some ⟨r, 0, none⟩) l cap] 23 (0, 0)) := by
  have := H1.out.1
  rw [HL.out] at this
  exact (hbut2.block g (lt_of_block this) (fun e => H1.out.2 e.symm)).trans this
 have c2 := cell_of_one hg2
 have f2 := free_of_one hg2
 have HO : Hid (w2.ownsRow B 3 1 (.slice (some ⟨r, 0, none⟩) (l - 1) cap) (l - 1) (ints (asInts (q.eraseIdx pk))) ∧ But (fun j => j = r) w w2) := ⟨hown2, hbut2⟩
 clear hown2 hbut2 hg2
 go_wp2_with fail
 go_ret
 refine ⟨rfl, HH.out.stored (v := .slice (some ⟨r, 0, none⟩) q.length cap) H1.out.1 (Below.refl _ _) (HO.out.2.mono fun j hj => by rw [hj]; rfl) ?_ (fun j hj => .inl hj)⟩
 rw [HLen.out, HL.out]
 exact HO.out.1
def ruleR (g gm : Nat) : Value := .agg #[.func (.func 157) #[] #[.pointer (some ⟨g, 0, none⟩)], .func (.func 158) #[] #[.pointer (some ⟨g, 0, none⟩), .pointer (some ⟨gm, 0, none⟩)], .func (.func 160) #[] #[.pointer (some ⟨g, 0, none⟩)]]
set_option maxHeartbeats 1000000 in
theorem rankRuleRest (B : Nat) (W0 : World) (g gm : Nat) (mv : Value) (D : Nat → Prop) (q : List Nat) (w : World) (h : HeldR B W0 g gm mv w D q) :
  Calls Tryz.prog 220 #[ruleR g gm] w fun e w' => e = .returned (.int .i64 (q.length : Int)) ∧ QueLeft (HeldR B W0 g gm mv) w w' D q := by
 have HH : Hid (HeldR B W0 g gm mv w D q) := h
 clear h
 unfold ruleR
 go_enter Tryz.func220, Tryz.ntmps220
 go_wp2_with fail
 refine (rankRest B W0 g gm mv D q _ (HH.out.alloc _)).mono ?_
 rintro e w1 ⟨rfl, rfl⟩
 go_wp2_with fail
 go_ret
 exact ⟨rfl, HH.out.same ((Below.refl _ _).alloc (Nat.le_refl _) _)⟩
set_option maxHeartbeats 1000000 in
theorem rankRulePick (B : Nat) (W0 : World) (g gm f : Nat) (x1 x2 : Value) (key : Nat → Int) (n : Nat) (D : Nat → Prop) (q : List Nat) (w : World) (h : HeldR B W0 g gm (.func (.func f) #[] #[x1, x2]) w D q) (hn : q.length ≤ 1000) (h0 : 0 < q.length) (hq : ∀ k, k ∈ q → k < n)
  (hf : ∀ args W, Sem.run Tryz.prog (callFunc f args) W = .ok (.enter f args) W)
  (hM : ∀ W k, Below B W0 W → k < n → Calls Tryz.prog f #[.int .i64 ((k : Nat) : Int), x1, x2] W fun e w' => e = .returned (.int .i64 (key k)) ∧ ∃ m, w' = W.drewN m) :
  Calls Tryz.prog 219 #[ruleR g gm] w fun e w' => e = .returned (.int .i64 (q.getD (pickAt key q) 0 : Nat)) ∧ QueLeft (HeldR B W0 g gm (.func (.func f) #[] #[x1, x2])) w w' D (q.eraseIdx (pickAt key q)) := by
 have HP : Hid (∀ w', HeldR B W0 g gm (.func (.func f) #[] #[x1, x2]) w' D q → Calls Tryz.prog 158 #[.pointer (some ⟨g, 0, none⟩), .pointer (some ⟨gm, 0, none⟩)] w' fun e w'' => e = .returned (.int .i64 (q.getD (pickAt key q) 0 : Nat)) ∧ QueLeft (HeldR B W0 g gm (.func (.func f) #[] #[x1, x2])) w' w'' D (q.eraseIdx (pickAt key q))) := fun w' h' => rankPick B W0 g gm f x1 x2 key n D q w' h' hn h0 hq hf hM
 have HH : Hid (HeldR B W0 g gm (.func (.func f) #[] #[x1, x2]) w D q) := h
 clear h hq hf hM
 unfold ruleR
 go_enter Tryz.func219, Tryz.ntmps219
 go_wp2_with fail
 refine (HP.out _ (HH.out.alloc _)).mono ?_
 rintro e w1 ⟨rfl, ho⟩
 have HO : Hid (QueLeft (HeldR B W0 g gm (.func (.func f) #[] #[x1, x2])) w w1 D (q.eraseIdx (pickAt key q))) := ho.after ((Below.refl _ _).alloc (Nat.le_refl _) _)
 clear ho
 go_wp2_with fail
 go_ret
 exact ⟨rfl, HO.out⟩
set_option maxHeartbeats 1000000 in
theorem rankRuleCome (B : Nat) (W0 : World) (g gm : Nat) (mv : Value) (D : Nat → Prop) (q : List Nat) (k : Nat) (w : World) (h : HeldR B W0 g gm mv w D q) (hn : q.length ≤ 1000) :
  Calls Tryz.prog 218 #[ruleR g gm, .int .i64 (k : Int)] w fun e w' => e = .returned (.tuple #[]) ∧ QueLeft (HeldR B W0 g gm mv) w w' D (q ++ [k]) := by
 have HH : Hid (HeldR B W0 g gm mv w D q) := h
 clear h
 unfold ruleR
 go_enter Tryz.func218, Tryz.ntmps218
 go_wp2_with fail
 refine (rankCome B W0 g gm mv D q k _ (HH.out.alloc _) hn).mono ?_
 rintro e w1 ⟨rfl, ho⟩
 have HO : Hid (QueLeft (HeldR B W0 g gm mv) w w1 D (q ++ [k])) := ho.after ((Below.refl _ _).alloc (Nat.le_refl _) _)
 clear ho
 go_wp2_with fail
 go_end0
 exact ⟨rfl, HO.out⟩
set_option maxHeartbeats 1000000 in
theorem leastFirst_any (mv : Value) (f : Nat) (x1 x2 : Value) (hmv : mv = .func (.func f) #[] #[x1, x2]) (w : World) :
  Calls Tryz.prog 133 #[mv] w fun e w' => e = .returned (.iface 164 (ruleR (w.heap.size + 1) w.heap.size)) ∧ HeldR w.heap.size w (w.heap.size + 1) w.heap.size mv w' (fun k => k = w.heap.size + 1 ∨ k = w.heap.size) [] ∧ Below w.heap.size w w' := by
 subst hmv
 unfold ruleR
 go_enter Tryz.func133, Tryz.ntmps133
 go_wp2_with fail
 go_ret
 have hb1 : Below w.heap.size w (w.alloc (.cells #[.func (.func f) #[] #[x1, x2]] 199)) := (Below.refl _ _).alloc (Nat.le_refl _) _
 have hb : Below w.heap.size w ((w.alloc (.cells #[.func (.func f) #[] #[x1, x2]] 199)).alloc (.cells #[.slice none 0 0] 23)) := hb1.alloc hb1.size _
 have hs : (w.alloc (.cells #[.func (.func f) #[] #[x1, x2]] 199)).heap.size = w.heap.size + 1 := by simp
 refine ⟨by simp, ⟨hb, ⟨.slice none 0 0, ?_, World.ownsRow_nil _ _ _ _, (fun e => by cases e), (fun e => by cases e), fun k => by simp [Value.ownBlock]⟩, ?_, by omega, by omega, Nat.le_refl _⟩, hb⟩
 ·
  have := heap_alloc_new (w.alloc (.cells #[.func (.func f) #[] #[x1, x2]] 199)) (.cells #[.slice none 0 0] 23)
  rwa [hs] at this
 ·
  rw [Below.heap_alloc _ _ _ (by rw [hs]; omega)]
  exact heap_alloc_new w _
end Go.Proofs.YtibhkijaafdkoaaGreatDoor

namespace Go.Proofs.YtibhkijaafdkoaaGreatDoor
open Go.RowKit
theorem flow_at {ps : List Pk} {k : Nat} {p : Pk} (ho : OkPks ps) (hp : ps[k]? = some p) : ∃ m : Nat, m < 8 ∧ p.flow = (m : Int) ∧ flowOf ps k = m := by
 obtain ⟨h1, h2, -⟩ := okPk_true (ho.each _ p hp).1
 exact ⟨p.flow.toNat, by omega, by omega, flowOf_get hp⟩
theorem nums_at {ns : List Int} (h : ns.length = 8) {m : Nat} (hm : m < 8) : ∃ x, ns[m]? = some x ∧ ns.getD m 0 = x := by
 obtain ⟨x, hx, -⟩ := get_some ns m (by omega)
 exact ⟨x, hx, by simp [List.getD, hx]⟩
set_option maxRecDepth 100000 in
set_option maxHeartbeats 1000000 in
theorem rankKey (ps : List Pk) (ns : List Int) (gp gr : Nat) (pa : Option Addr) (pcap : Nat) (na : Option Addr) (ncap : Nat) (w : World) (k : Nat) (hcp : w.cell? ⟨gp, 0, none⟩ = some (.slice pa ps.length pcap)) (hcr : w.cell? ⟨gr, 0, none⟩ = some (.slice na ns.length ncap)) (hp : LiesP w pa ps) (hn : LiesN w na ns) (ho : OkPks ps) (h8 : ns.length = 8) (hk : k < ps.length) :
  Calls Tryz.prog 132 #[.int .i64 (k : Int), .pointer (some ⟨gr, 0, none⟩), .pointer (some ⟨gp, 0, none⟩)] w fun e w' => e = .returned (.int .i64 (ofFlow ps ns k)) ∧ ∃ m, w' = w.drewN m := by
 obtain ⟨p, hpk, -⟩ := get_some ps k hk
 obtain ⟨m, hm, hf, hfo⟩ := flow_at ho hpk
 obtain ⟨x, hx, hxd⟩ := nums_at h8 hm
 obtain ⟨b, off, rfl, -, hc⟩ := hp.place (by omega)
 obtain ⟨b2, off2, rfl, -, hc2⟩ := hn.place (by omega)
 have c1 : w.cell? ⟨b, off + k * 3, none⟩ = some (.int .i64 (m : Int)) := by rw [← hf]; exact (hc k p hpk).1
 have c2 := hc2 m x hx
 have hE : ofFlow ps ns k = x := by rw [ofFlow, hfo]; exact hxd
 have hfew := ho.few
 obtain ⟨n, hnn⟩ : ∃ n, ps.length = n := ⟨_, rfl⟩
 rw [hnn] at hcp hk hfew
 rw [h8] at hcr
 rw [hE]
 clear hp hn hc hc2 hpk hx ho h8 hE hxd hnn hfo hf
 go_enter Tryz.func132, Tryz.ntmps132
 go_wp2_with fail
 go_quiet (fail)
 go_wp2
 go_ret
 exact ⟨rfl, _, rfl⟩
set_option maxRecDepth 100000 in
set_option maxHeartbeats 1000000 in
theorem dueKey (ps : List Pk) (ns : List Int) (gp gr : Nat) (pa : Option Addr) (pcap : Nat) (na : Option Addr) (ncap : Nat) (w : World) (k : Nat) (hcp : w.cell? ⟨gp, 0, none⟩ = some (.slice pa ps.length pcap)) (hcr : w.cell? ⟨gr, 0, none⟩ = some (.slice na ns.length ncap)) (hp : LiesP w pa ps) (hn : LiesN w na ns) (ho : OkPks ps) (h8 : NumsOk 0 1099511627776 ns) (hk : k < ps.length) :
  Calls Tryz.prog 134 #[.int .i64 (k : Int), .pointer (some ⟨gp, 0, none⟩), .pointer (some ⟨gr, 0, none⟩)] w fun e w' => e = .returned (.int .i64 (tickOf ps k + ofFlow ps ns k)) ∧ ∃ m, w' = w.drewN m := by
 obtain ⟨p, hpk, -⟩ := get_some ps k hk
 obtain ⟨m, hm, hf, hfo⟩ := flow_at ho hpk
 obtain ⟨x, hx, hxd⟩ := nums_at h8.len hm
 obtain ⟨b, off, rfl, -, hc⟩ := hp.place (by omega)
 obtain ⟨b2, off2, rfl, -, hc2⟩ := hn.place (by have := h8.len; omega)
 have c1 : w.cell? ⟨b, off + k * 3, none⟩ = some (.int .i64 (m : Int)) := by rw [← hf]; exact (hc k p hpk).1
 obtain ⟨t, ht⟩ : ∃ t, p.tick = t := ⟨_, rfl⟩
 have c3 : w.cell? ⟨b, off + k * 3 + 2, none⟩ = some (.int .i64 t) := by rw [← ht]; exact (hc k p hpk).2.2
 have c2 := hc2 m x hx
 obtain ⟨t0, t1⟩ := (show 0 ≤ t ∧ t ≤ 1099511627776 by rw [← ht]; have := okPk_true (ho.each _ p hpk).1; omega)
 obtain ⟨x0, x1⟩ := h8.each m x hx
 have hE : tickOf ps k + ofFlow ps ns k = t + x := by rw [ofFlow, hfo, hxd, tickOf_get hpk, ht]
 have hfew := ho.few
 have hlen := h8.len
 obtain ⟨n, hnn⟩ : ∃ n, ps.length = n := ⟨_, rfl⟩
 rw [hnn] at hcp hk hfew
 rw [hlen] at hcr
 rw [hE]
 have hw : IntKind.i64.wrap (t + x) = t + x := IntWalk.i64_in _ (by omega)
 clear hp hn hc hc2 hpk hx ho h8 hE hxd hnn hfo hf hlen ht
 go_enter Tryz.func134, Tryz.ntmps134
 go_wp2_with fail
 go_quiet (fail)
 go_wp2
 go_ret
 exact ⟨rfl, _, rfl⟩
end Go.Proofs.YtibhkijaafdkoaaGreatDoor

namespace Go.Proofs.YtibhkijaafdkoaaGreatDoor
open Go.RowKit
set_option maxHeartbeats 1000000 in
theorem upTo_yes (hi x : Int) (g : Nat) (w : World) (hc : w.cell? ⟨g, 0, none⟩ = some (.int .i64 hi)) (h : 0 ≤ x ∧ x ≤ hi) :
  Calls Tryz.prog 156 #[.int .i64 x, .pointer (some ⟨g, 0, none⟩)] w fun e w' => e = .returned (.bool true) ∧ w' = w := by
 obtain ⟨h1, h2⟩ := h
 go_enter Tryz.func156, Tryz.ntmps156
 go_wp2
 go_ret
 exact ⟨rfl, rfl⟩
set_option maxHeartbeats 1000000 in
theorem upTo_no (hi x : Int) (g : Nat) (w : World) (hc : w.cell? ⟨g, 0, none⟩ = some (.int .i64 hi)) (h : ¬ (0 ≤ x ∧ x ≤ hi)) :
  Calls Tryz.prog 156 #[.int .i64 x, .pointer (some ⟨g, 0, none⟩)] w fun e w' => e = .returned (.bool false) ∧ w' = w := by
 by_cases h1 : 0 ≤ x
 ·
  have h2 : ¬ x ≤ hi := fun h' => h ⟨h1, h'⟩
  clear h
  go_enter Tryz.func156, Tryz.ntmps156
  go_wp2
  go_ret
  exact ⟨rfl, rfl⟩
 ·
  clear h
  go_enter Tryz.func156, Tryz.ntmps156
  go_wp2
  go_ret
  exact ⟨rfl, rfl⟩
set_option maxHeartbeats 1000000 in
theorem checkNumbers_shape (a : Option Addr) (n cap : Nat) (f : Value) (w : World) (ad : Nat → Addr) (h : n ≠ 8) (he : w.cell? ⟨4, 0, none⟩ = some (.iface 271 (.pointer (some (ad 2))))) :
  Calls Tryz.prog 57 #[.slice a n cap, f] w fun e w' => e = .returned (.iface 271 (.pointer (some (ad 2)))) ∧ w' = w := by
 have h8 : (n : Int) ≠ 8 := by omega
 have h8' : ((n : Int) == 8) = false := by simpa using h8
 go_enter Tryz.func57, Tryz.ntmps57
 go_wp2
 go_ret
 exact ⟨rfl, rfl⟩
set_option maxHeartbeats 2000000 in
theorem checkNumbers_to (a : Option Addr) (cap : Nat) (ns : List Int) (hi : Int) (g : Nat) (w : World) (ad : Nat → Addr) (hc : w.cell? ⟨g, 0, none⟩ = some (.int .i64 hi)) (hl : LiesN w a ns) (h8 : ns.length = 8) (j : Nat) (hj : j ≤ 8) (hg : ∀ (i : Nat) y, i < j → ns[i]? = some y → 0 ≤ y ∧ y ≤ hi) (R : Value)
  (h : (j = 8 ∧ R = .nilIface) ∨ (R = .iface 271 (.pointer (some (ad 1))) ∧ w.cell? ⟨3, 0, none⟩ = some (.iface 271 (.pointer (some (ad 1)))) ∧ ∃ x, ns[j]? = some x ∧ ¬ (0 ≤ x ∧ x ≤ hi))) :
  Calls Tryz.prog 57 #[.slice a 8 cap, .func (.func 156) #[] #[.pointer (some ⟨g, 0, none⟩)]] w fun e w' => e = .returned R ∧ w' = w := by
 have HG : Hid (∀ (i : Nat) y, i < j → ns[i]? = some y → 0 ≤ y ∧ y ≤ hi) := hg
 have HR : Hid ((j = 8 ∧ R = .nilIface) ∨ (R = .iface 271 (.pointer (some (ad 1))) ∧ w.cell? ⟨3, 0, none⟩ = some (.iface 271 (.pointer (some (ad 1)))) ∧ ∃ x, ns[j]? = some x ∧ ¬ (0 ≤ x ∧ x ≤ hi))) := h
 obtain ⟨b, off, rfl, -, hcell⟩ := hl.place (by omega)
 have HC : Hid (∀ (i : Nat) x, ns[i]? = some x → w.cell? ⟨b, off + i, none⟩ = some (.int .i64 x)) := hcell
 have H8 : Hid (ns.length = 8) := h8
 clear hg h hl hcell h8
 go_enter Tryz.func57, Tryz.ntmps57
 go_wp2_with fail
 go_loopw [13] (fun i wr => ∃ k : Nat, k ≤ j ∧ i = .int .i64 k ∧ wr = w) (fun i _ => 8 - (intOf i).toNat)
 case atStart => exact ⟨0, Nat.zero_le _, rfl, rfl⟩
 case round =>
  obtain ⟨k, hk, rfl, rfl⟩ := hrel
  by_cases hkj : k < j
  ·
   obtain ⟨x, hx, -⟩ := get_some ns k (by rw [H8.out]; omega)
   have hok := HG.out k x hkj hx
   have c1 := HC.out k x hx
   clear hx
   go_wp2_with fail
   refine (upTo_yes hi x g _ hc hok).mono ?_
   rintro e w1 ⟨rfl, rfl⟩
   go_wp2_with fail
   go_roundw
   case rel => exact ⟨k + 1, by omega, by go_num, trivial⟩
   case measure => simp [intOf]; omega
  ·
   obtain rfl : k = j := by omega
   rcases HR.out with ⟨rfl, rfl⟩ | ⟨rfl, he, x, hx, hbad⟩
   ·
    go_wp2_with fail
    go_ret
    exact ⟨rfl, rfl⟩
   ·
    have c1 := HC.out k x hx
    have hk8 : k < 8 := by
     rw [← H8.out]
     rcases Nat.lt_or_ge k ns.length with h' | h'
     · exact h'
     · simp [List.getElem?_eq_none h'] at hx
    clear hx
    go_wp2_with fail
    refine (upTo_no hi x g _ hc hbad).mono ?_
    rintro e w1 ⟨rfl, rfl⟩
    go_wp2_with fail
    go_ret
    exact ⟨rfl, rfl⟩
def NumErrs (w : World) (ad : Nat → Addr) : Prop := w.cell? ⟨3, 0, none⟩ = some (.iface 271 (.pointer (some (ad 1)))) ∧ w.cell? ⟨4, 0, none⟩ = some (.iface 271 (.pointer (some (ad 2))))
theorem NumErrs.below {w w' : World} {ad : Nat → Addr} (h : NumErrs w ad) (hb : Below w.heap.size w w') : NumErrs w' ad := ⟨cell_later hb h.1, cell_later hb h.2⟩
set_option maxHeartbeats 1000000 in
theorem checkUpTo_core {R : Value} (a : Option Addr) (n cap : Nat) (hi : Int) (w : World) (h : Calls Tryz.prog 57 #[.slice a n cap, .func (.func 156) #[] #[.pointer (some ⟨w.heap.size, 0, none⟩)]] (w.alloc (.cells #[.int .i64 hi] 3)) fun e w' => e = .returned R ∧ w' = w.alloc (.cells #[.int .i64 hi] 3)) :
  Calls Tryz.prog 131 #[.slice a n cap, .int .i64 hi] w fun e w' => e = .returned R ∧ Below w.heap.size w w' := by
 have HC : Hid (Calls Tryz.prog 57 #[.slice a n cap, .func (.func 156) #[] #[.pointer (some ⟨w.heap.size, 0, none⟩)]] (w.alloc (.cells #[.int .i64 hi] 3)) fun e w' => e = .returned R ∧ w' = w.alloc (.cells #[.int .i64 hi] 3)) := h
 clear h
 go_enter Tryz.func131, Tryz.ntmps131
 go_wp2_with fail
 refine HC.out.mono ?_
 rintro e w1 ⟨rfl, rfl⟩
 go_wp2_with fail
 go_ret
 exact ⟨rfl, (Below.refl _ _).alloc (Nat.le_refl _) _⟩
theorem checkUpTo_ok (a : Option Addr) (cap : Nat) (ns : List Int) (hi : Int) (w : World) (hl : LiesN w a ns) (ho : NumsOk 0 hi ns) :
  Calls Tryz.prog 131 #[.slice a ns.length cap, .int .i64 hi] w fun e w' => e = .returned .nilIface ∧ Below w.heap.size w w' := by
 have hb : Below w.heap.size w (w.alloc (.cells #[.int .i64 hi] 3)) := (Below.refl _ _).alloc (Nat.le_refl _) _
 rw [ho.len]
 exact checkUpTo_core a 8 cap hi w (checkNumbers_to a cap ns hi w.heap.size _ (fun _ => ⟨0, 0, none⟩) (by simp) (hl.below hb) ho.len 8 (Nat.le_refl _) (fun i y _ hy => ho.each i y hy) .nilIface (.inl ⟨rfl, rfl⟩))
theorem checkUpTo_bad (a : Option Addr) (cap : Nat) (ns : List Int) (hi : Int) (w : World) (ad : Nat → Addr) (he : NumErrs w ad) (hl : LiesN w a ns) (c : Nat) (h : NumsFault 0 hi ns c) (hc : 0 < c) :
  Calls Tryz.prog 131 #[.slice a ns.length cap, .int .i64 hi] w fun e w' => e = .returned (sentOf ad c) ∧ Below w.heap.size w w' := by
 have hb : Below w.heap.size w (w.alloc (.cells #[.int .i64 hi] 3)) := (Below.refl _ _).alloc (Nat.le_refl _) _
 rcases h with ⟨rfl, h8⟩ | ⟨rfl, j, h8, hx, hg⟩ | ⟨rfl, -⟩
 · exact checkUpTo_core a _ cap hi w (checkNumbers_shape a _ cap _ _ ad h8 (he.below hb).2)
 ·
  rw [h8]
  have hj : j ≤ 8 := by
   obtain ⟨x, hx, -⟩ := hx
   rw [← h8]
   rcases Nat.lt_or_ge j ns.length with h' | h'
   · exact Nat.le_of_lt h'
   · simp [List.getElem?_eq_none h'] at hx
  exact checkUpTo_core a 8 cap hi w (checkNumbers_to a cap ns hi w.heap.size _ ad (by simp) (hl.below hb) h8 j hj hg _ (.inr ⟨rfl, (he.below hb).1, hx⟩))
 · omega
end Go.Proofs.YtibhkijaafdkoaaGreatDoor
