/- Own facts, put together: no statement of its own. -/
import Derived.Deep.AppendLies
import Derived.Test.YtipdclphpkgceaaGreatDoorS08
import Derived.Test.YtipdclphpkgceaaGreatDoorS01
import Derived.Test.YtipdclphpkgceaaGreatDoorS09
import Derived.Test.YtipdclphpkgceaaGreatDoorS02
import Derived.Test.YtipdclphpkgceaaGreatDoorS11
import Derived.Test.YtipdclphpkgceaaGreatDoorS04
import Derived.Deep.LoopGhost
set_option maxHeartbeats 4000000
set_option maxRecDepth 100000

namespace Go.Proofs.YtipdclphpkgceaaGreatDoor
open Go.RowKit
theorem OwnP.later {w w':World} {B:Nat} {v:Value} {ps:List Pk} (h:OwnP w B v ps) (hb:Below w.heap.size w w'):OwnP w' B v ps:=ownsRow_of_block h fun g _ hg=>hb.block g hg
theorem run_append_pks (w:World) (ty:TypeId) (B:Nat) (v:Value) (ps qs:List Pk) (xa:Option Addr) (xcap:Nat) (hown:OwnP w B v ps) (hl:LiesP w xa qs) (hxa:xa=none → qs=[] ∧ xcap=0) (hn:ps.length + qs.length ≤ 1000) (hB:B ≤ w.heap.size) :
  ∃ v' w',(Builtin.append_ #[52,52] ty #[v,.slice xa qs.length xcap]).run Tryz.prog w=.ok v' w' ∧ OwnP w' B v' (ps ++ qs) ∧ Below B w w':=by
 obtain ⟨i0,hi,hz0,hz1,hz2⟩:=info_parts Tryz.infoPkt
 cases xa with
 | none=>
  obtain ⟨rfl,rfl⟩:=hxa rfl
  exact ⟨v,w,run_append_owned_none (P:=Tryz.prog) w B 52 ty 58 i0 3 Tryz.underlying52 hi v ps.length (cellsP ps) hown,by rw [List.append_nil]; exact hown,Below.refl _ _⟩
 | some ad=>
  obtain ⟨v',w',hrun,h1,h2,-⟩:=run_append_own (P:=Tryz.prog) w B 52 ty 58 i0 (.agg #[.int .i64 0,.int .i64 0,.int .i64 0]) 3 24 Tryz.underlying52 hi hz0 hz1 hz2 rfl (by decide) v ps.length (cellsP ps) hown ad qs.length xcap (cellsP qs) (cellsP_length qs) (liesP_news hl) (cellsP_one qs) (by unfold maxLen; omega) (by omega) hB
  refine ⟨v',w',hrun,?_,(Below.refl _ _).grown h2 hB fun k hk=>(ownsRow_lt hown hk).1⟩
  unfold OwnP
  rw [List.length_append,cellsP_append]
  exact h1
theorem wpList_append_pks (w:World) {ops:Array Oper} {rest:List Oper} {o:Oper} {a:Act} {Q:Exit → Act → World → Prop} (hgd:o.guard=none) (s x:Operand)
  (ho:o.op=.call { callee:=.builtin .append,args:=#[s,x],argTypes:=#[52,52] })
  (B:Nat) (v:Value) (ps qs:List Pk) (xa:Option Addr) (m xcap:Nat) (hm:qs.length=m) (hs:a.eval s=v) (hx:a.eval x=.slice xa m xcap) (hown:OwnP w B v ps) (hl:LiesP w xa qs) (hxa:xa=none → qs=[] ∧ xcap=0) (hn:ps.length + qs.length ≤ 1000) (hB:B ≤ w.heap.size)
  (hK:∀ v' w',OwnP w' B v' (ps ++ qs) ∧ Below B w w' → wpList Tryz.prog ops Q rest (a.put o.dst v') w'):wpList Tryz.prog ops Q (o :: rest) a w:=by
 subst hm
 refine wpList_plain hgd fun K hK'=>?_
 obtain ⟨v',w',hrun,g1,g2⟩:=run_append_pks w o.type B v ps qs xa xcap hown hl hxa hn hB
 unfold Oper.wp
 simp [execOp,ho,resolve,invoke,builtin,hs,hx,hrun,Result.andThen]
 exact hK' _ _ (hK v' w' ⟨g1,g2⟩)
structure Both (w:World) (B:Nat) (v1 v2:Value) (ps:List Pk) (ns:List Int):Prop where
 pks:OwnP w B v1 ps
 nums:w.ownsRow B 3 1 v2 ns.length (ints ns)
 apart:∀ g,v1.ownBlock=some g → v2.ownBlock ≠ some g
theorem both_nil (w:World) (B:Nat):Both w B (.slice none 0 0) (.slice none 0 0) [] []:=⟨World.ownsRow_nil _ _ _ _,World.ownsRow_nil _ _ _ _,fun g h=>by cases h⟩
theorem Both.later {w w':World} {B:Nat} {v1 v2:Value} {ps:List Pk} {ns:List Int} (h:Both w B v1 v2 ps ns) (hb:Below w.heap.size w w'):Both w' B v1 v2 ps ns:=⟨h.pks.later hb,ownsRow_of_block h.nums fun g _ hg=>hb.block g hg,h.apart⟩
theorem wpList_both_num (w:World) {ops:Array Oper} {rest:List Oper} {o:Oper} {a:Act} {Q:Exit → Act → World → Prop} (hgd:o.guard=none) (s x:Operand)
  (ho:o.op=.call { callee:=.builtin .append,args:=#[s,x],argTypes:=#[32,32] })
  (B:Nat) (v1 v2:Value) (ps:List Pk) (ns:List Int) (z:Int) (ad:Addr) (hs:a.eval s=v2) (hx:a.eval x=.slice (some ad) 1 1) (hown:Both w B v1 v2 ps ns) (hl:w.cell? ad=some (.int .i64 z)) (hn:ns.length ≤ 1000) (hB:B ≤ w.heap.size)
  (hK:∀ v' w',Both w' B v1 v' ps (ns ++ [z]) ∧ Below B w w' → wpList Tryz.prog ops Q rest (a.put o.dst v') w'):wpList Tryz.prog ops Q (o :: rest) a w:=by
 obtain ⟨i0,hi,hz0,hz1,hz2⟩:=info_parts Tryz.infoInt
 refine wpList_append_lies w hgd s x 32 ho B 3 i0 (.int .i64 0) 1 8 Tryz.underlying32 hi hz0 hz1 hz2 rfl (by decide) v2 ns.length (ints ns) hs hown.nums ad 1 1 (ints [z]) hx rfl ?_ (ints_one _) (by decide) (by unfold maxLen; omega) (by omega) hB _ rfl ?_
 ·
  intro j u hj
  cases j with
  | zero=>
   have:u=.int .i64 z:=by simpa [ints] using hj.symm
   rw [this]
   simpa [Addr.add] using hl
  | succ j=>simp [ints] at hj
 intro g cap w' h1 h2 h3 h4
 refine hK _ _ ⟨⟨?_,?_,?_⟩,(Below.refl _ _).grown h2 hB fun k hk=>(ownsRow_lt hown.nums hk).1⟩
 ·
  exact World.ownsRow.kept hown.pks h2 (by
   cases e:v1.ownBlock with
   | none=>exact .inl rfl
   | some k=>exact .inr fun e'=>hown.apart k e e'.symm)
 ·
  rw [List.length_append,show ints (ns ++ [z])=ints ns ++ ints [z] by simp [ints]]
  exact h1
 ·
  intro k hk e
  obtain rfl:g=k:=Option.some.inj e
  rcases h3 with h3 | h3
  · exact hown.apart g hk h3
  ·
   have:=(ownsRow_lt hown.pks hk).2
   omega
theorem liesP_new (w:World) (x y z:Int):LiesP (w.alloc (.cells #[.int .i64 x,.int .i64 y,.int .i64 z] 58)) (some ⟨w.heap.size,0,none⟩) [⟨x,y,z⟩]:=by
 refine .inr ⟨w.heap.size,0,rfl,by simp,fun j q hj=>?_⟩
 cases j with
 | zero=>
  obtain rfl:=Option.some.inj hj
  exact ⟨by simp,by simp,by simp⟩
 | succ j=>simp at hj
theorem linkCheck_ok (a:Option Addr) (cap:Nat) (ps:List Pk) (per:Int) (w:World) (hl:LiesP w a ps) (ho:OkPks ps) (h1:1 ≤ per) (h2:per ≤ 1000) :
  Calls Tryz.prog 168 #[.slice a ps.length cap,.int .i64 per] w fun e w'=>e=.returned .nilIface ∧ Below w.heap.size w w':=by
 have HC:Hid (Calls Tryz.prog 105 #[.slice a ps.length cap] w fun e w'=>e=.returned .nilIface ∧ Below w.heap.size w w'):=pcheck_ok a cap ps w hl ho
 clear hl ho
 go_enter Tryz.func168,Tryz.ntmps168
 go_wp2_with fail
 refine HC.out.mono ?_
 rintro e w1 ⟨rfl,hb⟩
 have HB:Hid (Below w.heap.size w w1):=hb
 clear hb
 go_wp2_with fail
 go_ret
 exact ⟨rfl,HB.out⟩
theorem linkCheck_err {R:TypeId → Value → World → Prop} (a:Option Addr) (n cap:Nat) (per:Int) (w:World) (h:Calls Tryz.prog 105 #[.slice a n cap] w fun e w'=>∃ ty v,e=.returned (.iface ty v) ∧ R ty v w') :
  Calls Tryz.prog 168 #[.slice a n cap,.int .i64 per] w fun e w'=>∃ ty v,e=.returned (.iface ty v) ∧ R ty v w':=by
 have HC:Hid (Calls Tryz.prog 105 #[.slice a n cap] w fun e w'=>∃ ty v,e=.returned (.iface ty v) ∧ R ty v w'):=h
 clear h
 go_enter Tryz.func168,Tryz.ntmps168
 go_wp2_with fail
 refine HC.out.mono ?_
 rintro e w1 ⟨ty,v,rfl,hR⟩
 have HR:Hid (R ty v w1):=hR
 clear hR
 go_wp2_with fail
 go_ret
 exact ⟨ty,v,rfl,HR.out⟩
theorem linkCheck_per (a:Option Addr) (cap:Nat) (ps:List Pk) (per:Int) (w:World) (ad:Nat → Addr) (he:ErrsBO w ad) (hl:LiesP w a ps) (ho:OkPks ps) (h:per < 1 ∨ 1000 < per) :
  Calls Tryz.prog 168 #[.slice a ps.length cap,.int .i64 per] w fun e w'=>e=.returned (.iface 312 (.pointer (some (ad 1)))) ∧ Below w.heap.size w w':=by
 have HC:Hid (Calls Tryz.prog 105 #[.slice a ps.length cap] w fun e w'=>e=.returned .nilIface ∧ Below w.heap.size w w'):=pcheck_ok a cap ps w hl ho
 have HE:Hid (ErrsBO w ad):=he
 clear hl ho he
 by_cases h1:per < 1
 ·
  clear h
  go_enter Tryz.func168,Tryz.ntmps168
  go_wp2_with fail
  refine HC.out.mono ?_
  rintro e w1 ⟨rfl,hb⟩
  have c1:=cell_later hb HE.out.c1
  have HB:Hid (Below w.heap.size w w1):=hb
  clear hb
  go_wp2_with fail
  go_ret
  exact ⟨rfl,HB.out⟩
 ·
  have h2:1000 < per:=by omega
  clear h
  go_enter Tryz.func168,Tryz.ntmps168
  go_wp2_with fail
  refine HC.out.mono ?_
  rintro e w1 ⟨rfl,hb⟩
  have c1:=cell_later hb HE.out.c1
  have HB:Hid (Below w.heap.size w w1):=hb
  clear hb
  go_wp2_with fail
  go_ret
  exact ⟨rfl,HB.out⟩
theorem sendOne_ok (a:Option Addr) (cap:Nat) (ps:List Pk) (per now:Int) (k:Nat) (p:Pk) (w:World) (hl:LiesP w a ps) (hn:ps.length ≤ 300) (hk:ps[k]? = some p) (hp:okPk p=true) (h1:1 ≤ per) (h2:per ≤ 1000) (n0:0 ≤ now) (n1:now ≤ 1100000000000000) :
  Calls Tryz.prog 195 #[.slice a ps.length cap,.int .i64 per,.int .i64 k,.int .i64 now] w fun e w'=>e=.returned (.agg #[.int .i64 k,.int .i64 now,.int .i64 (now + per * p.size)]) ∧ Below w.heap.size w w':=by
 have hkl:=lt_of_get hk
 obtain ⟨b,off,rfl,hlt,hc⟩:=hl.place (by omega)
 have c1:=(hc k p hk).2.1
 obtain ⟨-,-,s1,s2,-,-⟩:=okPk_true hp
 have a1:0 ≤ per * p.size:=Int.mul_nonneg (by omega) (by omega)
 have a2:per * p.size ≤ 1000 * 1500:=Int.mul_le_mul (by omega) s2 (by omega) (by omega)
 have c1':(w.alloc (.cells #[.int .i64 0,.int .i64 0,.int .i64 0] 69)).cell? ⟨b,off + k * 3 + 1,none⟩=some (.int .i64 p.size):=cell_later ((Below.refl _ _).alloc (Nat.le_refl _) _) c1
 generalize p.size=y at *
 generalize hm:per * y=m at *
 have HM:Hid (per * y=m):=hm
 have hw:IntKind.i64.wrap (per * y)=m:=by rw [hm]; exact IntWalk.i64_in (by omega) (by omega)
 clear hl hc hp hk hm
 go_enter Tryz.func195,Tryz.ntmps195
 go_wp2_with fail
 exact bodyPost_ret (v:=.agg #[.int .i64 k,.int .i64 now,.int .i64 (now + m)]) (by simp [results,Tryz.results195,go_sem]) rfl ⟨rfl,(Below.refl _ _).alloc (Nat.le_refl _) _⟩
theorem LiesP.bel {w w':World} {B:Nat} {a:Option Addr} {ps:List Pk} (h:LiesP w a ps) (ha:∀ ad,a=some ad → 0 < ps.length → ad.block < B) (hb:Below B w w'):LiesP w' a ps:=by
 rcases h with rfl | ⟨b,off,rfl,hlt,hc⟩
 · exact .inl rfl
 ·
  by_cases h0:0 < ps.length
  ·
   have hB:b < B:=ha ⟨b,off,none⟩ rfl h0
   refine .inr ⟨b,off,rfl,Nat.lt_of_lt_of_le hlt hb.size,fun i p hi=>?_⟩
   have:=hc i p hi
   exact ⟨by rw [hb.cell (p:=⟨b,off + i * 3,none⟩) hB]; exact this.1,by rw [hb.cell (p:=⟨b,off + i * 3 + 1,none⟩) hB]; exact this.2.1,by rw [hb.cell (p:=⟨b,off + i * 3 + 2,none⟩) hB]; exact this.2.2⟩
  · exact .inl (List.length_eq_zero_iff.1 (by omega))
structure QueMem {σ:Type} (Held:World → (Nat → Prop) → σ → Prop) (B:Nat):Prop where
 foot:∀ w D q,Held w D q → ∀ k,D k → B ≤ k ∧ k < w.heap.size
 but:∀ (S:Nat → Prop) w w' D q,Held w D q → But S w w' → (∀ k,D k → ¬ S k) → (∀ k,S k → B ≤ k) → Held w' D q
def QueLeft {σ:Type} (Held:World → (Nat → Prop) → σ → Prop) (w w':World) (D:Nat → Prop) (q:σ):Prop:=∃ D',Held w' D' q ∧ But D w w' ∧ ∀ k,D' k → D k ∨ w.heap.size ≤ k
structure SendAt {σ:Type} (Q:Que σ) (Held:World → (Nat → Prop) → σ → Prop) (per:Int) (ps:List Pk) (q0:σ) (B:Nat) (w wr:World) (v:Value) (s:St σ) (D:Nat → Prop):Prop where
 reach:Reaches Q per ps q0 s
 own:OwnS wr w.heap.size v s.out
 held:Held wr D s.q
 apart:∀ g,v.ownBlock=some g → ¬ D g
 below:Below B w wr
section
variable {σ:Type} {Q:Que σ} {Held:World → (Nat → Prop) → σ → Prop} {per:Int} {ps:List Pk} {q0:σ} {B:Nat} {w wr wr':World} {v:Value} {s s':St σ} {D:Nat → Prop}
theorem SendAt.called (hm:QueMem Held B) (h:SendAt Q Held per ps q0 B w wr v s D) (hB:B ≤ w.heap.size) (hq:QueLeft Held wr wr' D s'.q) (hr:Reaches Q per ps q0 s') (ho:s'.out=s.out):∃ D',SendAt Q Held per ps q0 B w wr' v s' D':=by
 obtain ⟨D',h1,h2,h3⟩:=hq
 refine ⟨D',hr,by rw [ho]; exact ownsRow_of_block h.own (fun g hv hg=>h2.block g hg (h.apart g hv)),h1,fun g hg hD=>?_,h.below.trans (h2.below (Nat.le_trans hB h.below.size) (fun k hk=>(hm.foot _ _ _ h.held k hk).1))⟩
 rcases h3 g hD with h' | h'
 · exact h.apart g hg h'
 ·
  have:=(ownsRow_lt h.own hg).2
  omega
theorem SendAt.parts (hm:QueMem Held B) (h:SendAt Q Held per ps q0 B w wr v s D) (hB:B ≤ w.heap.size) {q:σ} (hq:QueLeft Held wr wr' D q) :
  ∃ D',OwnS wr' w.heap.size v s.out ∧ Held wr' D' q ∧ (∀ g,v.ownBlock=some g → ¬ D' g) ∧ Below B w wr':=by
 obtain ⟨D',h1,h2,h3⟩:=hq
 refine ⟨D',ownsRow_of_block h.own (fun g hv hg=>h2.block g hg (h.apart g hv)),h1,fun g hg hD=>?_,h.below.trans (h2.below (Nat.le_trans hB h.below.size) (fun k hk=>(hm.foot _ _ _ h.held k hk).1))⟩
 rcases h3 g hD with h' | h'
 · exact h.apart g hg h'
 ·
  have:=(ownsRow_lt h.own hg).2
  omega
structure SendMid (Held:World → (Nat → Prop) → σ → Prop) (B:Nat) (w wr:World) (v:Value) (out:List Sn) (q:σ) (D:Nat → Prop):Prop where
 own:OwnS wr w.heap.size v out
 held:Held wr D q
 apart:∀ g,v.ownBlock=some g → ¬ D g
 below:Below B w wr
theorem SendMid.later {out:List Sn} {q:σ} (hm:QueMem Held B) (h:SendMid Held B w wr v out q D) (hB:B ≤ w.heap.size) (hb:Below wr.heap.size wr wr'):SendMid Held B w wr' v out q D:=
 ⟨ownsRow_of_block h.own (fun g _ hg=>hb.block g hg),hm.but (fun _=>False) _ _ _ _ h.held (.ofBelow hb) (fun _ _ h=>h) (fun _ h=>h.elim),h.apart,h.below.trans (hb.mono (Nat.le_trans hB h.below.size))⟩
theorem SendAt.grown (hm:QueMem Held B) (hB:B ≤ w.heap.size) {x:Sn} {q:σ} {g cap:Nat} {w1 w2:World} {out:List Sn} (hmid:SendMid Held B w w1 v out q D)
  (h1:w2.ownsRow w.heap.size 69 3 (.slice (some ⟨g,0,none⟩) (out.length + 1) cap) (out.length + 1) (cellsS out ++ cellsS [x])) (h2:w1.grownBy w2 v.ownBlock) (h3:v.ownBlock=some g ∨ g=w1.heap.size) (s':St σ) (hr:Reaches Q per ps q0 s') (ho:s'.out=out ++ [x]) (hq:s'.q=q) :
  SendAt Q Held per ps q0 B w w2 (.slice (some ⟨g,0,none⟩) (out.length + 1) cap) s' D:=by
 obtain ⟨hown,hheld,hap,hbel⟩:=hmid
 have hb:But (fun k=>v.ownBlock=some k) w1 w2:=⟨h2.os,h2.tape,h2.output,h2.size,fun k hk hn=>h2.block k hk (fun e=>hn e.symm)⟩
 refine ⟨hr,?_,by rw [hq]; exact hm.but _ _ _ _ _ hheld hb (fun k hk hv=>hap k hv hk) (fun k hk=>Nat.le_trans hB (ownsRow_lt hown hk).1),fun g' hg' hD=>?_,hbel.trans (hb.below (Nat.le_trans hB hbel.size) fun k hk=>Nat.le_trans hB (ownsRow_lt hown hk).1)⟩
 ·
  rw [ho]
  unfold OwnS
  rw [List.length_append,cellsS_append]
  exact h1
 ·
  have e:g=g':=Option.some.inj hg'
  subst e
  rcases h3 with h3 | h3
  · exact hap _ h3 hD
  ·
   have:=(hm.foot _ _ _ hheld _ hD).2
   omega
end
def flagOf {σ:Type} (ps:List Pk) (s:St σ):Nat:=match ps[s.next]? with | some p=>(if p.tick ≤ s.now then 0 else 1) | none=>1
def leftOf {σ:Type} (ps:List Pk) (s:St σ):Nat:=2 * (ps.length - s.out.length) + flagOf ps s
theorem flagOf_le {σ:Type} (ps:List Pk) (s:St σ):flagOf ps s ≤ 1:=by
 unfold flagOf
 split
 · split <;> omega
 · omega
theorem left_send {σ:Type} {ps:List Pk} {s s':St σ} (h1:s'.out.length=s.out.length + 1) (h2:s.out.length < ps.length):leftOf ps s' < leftOf ps s:=by
 have:=flagOf_le ps s'
 unfold leftOf
 omega
theorem left_idle {σ:Type} {ps:List Pk} {s s':St σ} (h1:s'.out.length=s.out.length) (h2:s'.next=s.next) (h3:s.next < ps.length) (h4:s.now < tickOf ps s.next) (h5:tickOf ps s.next ≤ s'.now):leftOf ps s' < leftOf ps s:=by
 have e:ps[s.next]? = some ps[s.next]:=List.getElem?_eq_getElem h3
 have f0:flagOf ps s'=0:=by
  unfold flagOf
  rw [h2,e]
  rw [tickOf_get e] at h5
  simp only
  rw [if_pos h5]
 have f1:flagOf ps s=1:=by
  unfold flagOf
  rw [e]
  rw [tickOf_get e] at h4
  simp only
  rw [if_neg (by omega)]
 unfold leftOf
 omega
structure DoneAt (w:World) (g n:Nat) (out:List Sn):Prop where
 cell:∀ i,i < n → w.cell? ⟨g,i,none⟩=some (.bool (isDone out i))
 frozen:∀ i,w.frozen? ⟨g,i,none⟩=false
 lt:g < w.heap.size
theorem DoneAt.of_block {w w':World} {g n:Nat} {out:List Sn} (h:DoneAt w g n out) (hb:w'.heap[g]? = w.heap[g]?) (hs:w.heap.size ≤ w'.heap.size):DoneAt w' g n out:=
 ⟨fun i hi=>(World.cell?_of_block (a:=⟨g,i,none⟩) hb).trans (h.cell i hi),fun i=>(World.frozen?_of_block (a:=⟨g,i,none⟩) hb).trans (h.frozen i),Nat.lt_of_lt_of_le h.lt hs⟩
section
end
theorem Tryz.methodCome (x:Value) (w:World):(Go.method 442 266 x "Come").run Tryz.prog w=.ok (284,x) w:=by kernel_rfl
theorem Tryz.methodPick (x:Value) (w:World):(Go.method 442 266 x "Pick").run Tryz.prog w=.ok (285,x) w:=by kernel_rfl
theorem Tryz.methodRest (x:Value) (w:World):(Go.method 442 266 x "Rest").run Tryz.prog w=.ok (286,x) w:=by kernel_rfl
theorem send_held {σ:Type} (Q:Que σ) (Held:World → (Nat → Prop) → σ → Prop) (per:Int) (ps:List Pk) (q0:σ) (B:Nat) (x1 x2 x3:Value) (hm:QueMem Held B) (hlaw:QueLaw Q per ps q0) (ho:OkPks ps) (h1:1 ≤ per) (h2:per ≤ 1000)
  (hCome:∀ w D s p,Reaches Q per ps q0 s → ps[s.next]? = some p → Held w D s.q → Calls Tryz.prog 284 #[.agg #[x1,x2,x3],.int .i64 s.next] w fun e w'=>e=.returned (.tuple #[]) ∧ QueLeft Held w w' D (Q.come s.q s.next))
  (hPick:∀ w D s,Reaches Q per ps q0 s → 0 < Q.rest s.q → Held w D s.q → Calls Tryz.prog 285 #[.agg #[x1,x2,x3]] w fun e w'=>e=.returned (.int .i64 (Q.pick s.q:Nat)) ∧ QueLeft Held w w' D (Q.left s.q))
  (hRest:∀ w D s,Reaches Q per ps q0 s → Held w D s.q → Calls Tryz.prog 286 #[.agg #[x1,x2,x3]] w fun e w'=>e=.returned (.int .i64 (Q.rest s.q:Nat)) ∧ QueLeft Held w w' D (Q.asked s.q))
  (a:Option Addr) (cap:Nat) (w:World) (hl:LiesP w a ps) (hB:B ≤ w.heap.size) (ha:∀ ad,a=some ad → 0 < ps.length → ad.block < B) (D0:Nat → Prop) (h0:Held w D0 q0) :
  Calls Tryz.prog 169 #[.slice a ps.length cap,.int .i64 per,.iface 266 (.agg #[x1,x2,x3])] w fun e w'=>∃ s v,e=.returned v ∧ Reaches Q per ps q0 s ∧ ¬ s.next < ps.length ∧ Q.rest s.q=0 ∧ OwnS w' w.heap.size v s.out ∧ Below B w w' ∧ ∃ D,Held w' D (Q.asked s.q):=by
 have HM:Hid (QueMem Held B ∧ B ≤ w.heap.size ∧ LiesP w a ps ∧ (∀ ad,a=some ad → 0 < ps.length → ad.block < B)):=⟨hm,hB,hl,ha⟩
 have HL:Hid (QueLaw Q per ps q0 ∧ OkPks ps):=⟨hlaw,ho⟩
 have HCome:Hid (∀ w D s p,Reaches Q per ps q0 s → ps[s.next]? = some p → Held w D s.q → Calls Tryz.prog 284 #[.agg #[x1,x2,x3],.int .i64 s.next] w fun e w'=>e=.returned (.tuple #[]) ∧ QueLeft Held w w' D (Q.come s.q s.next)):=hCome
 have HPick:Hid (∀ w D s,Reaches Q per ps q0 s → 0 < Q.rest s.q → Held w D s.q → Calls Tryz.prog 285 #[.agg #[x1,x2,x3]] w fun e w'=>e=.returned (.int .i64 (Q.pick s.q:Nat)) ∧ QueLeft Held w w' D (Q.left s.q)):=hPick
 have HRest:Hid (∀ w D s,Reaches Q per ps q0 s → Held w D s.q → Calls Tryz.prog 286 #[.agg #[x1,x2,x3]] w fun e w'=>e=.returned (.int .i64 (Q.rest s.q:Nat)) ∧ QueLeft Held w w' D (Q.asked s.q)):=hRest
 have HS0:Hid (SendAt Q Held per ps q0 B w w (.slice none 0 0) ⟨[],0,0,q0⟩ D0):=⟨.start,World.ownsRow_nil _ _ _ _,h0,fun g hg=>(by cases hg),Below.refl _ _⟩
 obtain ⟨i0,hi,hz0,hz1,hz2⟩:=info_parts Tryz.infoSent
 have hfew:=ho.few
 have m1:=Tryz.methodCome
 have m2:=Tryz.methodPick
 have m3:=Tryz.methodRest
 clear hm hlaw ho hCome hPick hRest hl hB ha h0
 obtain ⟨n,hn⟩:∃ n,ps.length=n:=⟨_,rfl⟩
 have HN:Hid (ps.length=n):=hn
 rw [hn] at hfew ⊢
 clear hn
 go_enter Tryz.func169,Tryz.ntmps169
 go_wp2_with fail
 go_loopg [7,8,9] (leftOf ps (⟨[],0,0,q0⟩:St σ)) (fun gk v t i wr=>∃ s D,gk=leftOf ps s ∧ t=.int .i64 s.now ∧ i=.int .i64 (s.next:Nat) ∧ SendAt Q Held per ps q0 B w wr v s D)
 case atStart=>exact ⟨_,D0,rfl,rfl,rfl,HS0.out⟩
 case round=>
  obtain ⟨s,D,rfl,rfl,rfl,hat⟩:=hrel
  obtain ⟨W0,hW0⟩:∃ W,W=wr:=⟨_,rfl⟩
  subst hW0
  have HA0:Hid (SendAt Q Held per ps q0 B w W0 u7 s D):=hat
  obtain ⟨nw,hnw⟩:∃ nw,s.now=nw:=⟨_,rfl⟩
  have HNw:Hid (s.now=nw):=hnw
  rw [hnw]
  clear hat hnw
  go_wp2_with fail
  go_loopg [9] (n - s.next) (fun gi i wr2=>∃ s2 D2,gi=n - s2.next ∧ i=.int .i64 (s2.next:Nat) ∧ s2.out=s.out ∧ s2.now=s.now ∧ s.next ≤ s2.next ∧ SendAt Q Held per ps q0 B w wr2 u7 s2 D2)
  case atStart=>exact ⟨s,D,rfl,rfl,rfl,rfl,Nat.le_refl _,HA0.out⟩
  case round=>
   obtain ⟨s2,D2,rfl,rfl,e1,e2,e3,hat⟩:=hrel
   have HA:Hid (SendAt Q Held per ps q0 B w wr u7 s2 D2):=hat
   have HEq:Hid (s2.out=s.out ∧ s2.now=s.now ∧ s.next ≤ s2.next):=⟨e1,e2,e3⟩
   obtain ⟨nx,hnx⟩:∃ nx,s2.next=nx:=⟨_,rfl⟩
   have hnw:s2.now=nw:=e2.trans HNw.out
   have HX:Hid (s2.next=nx ∧ s2.now=nw):=⟨hnx,hnw⟩
   have hnow:=hat.reach.now_in ⟨h1,h2⟩ HL.out.2
   have hcnt:=hat.reach.count HL.out.1
   have hnl:=hat.reach.next_le
   rw [HN.out,hnx] at hnl
   have hol:s2.out.length ≤ 300:=by omega
   rw [hnw] at hnow
   rw [hnx]
   clear hat e1 e2 e3 hnx hnw hcnt
   have HReach:Hid (Reaches Q per ps q0 s2):=HA.out.reach
   have HC1:Hid (∀ p,ps[nx]? = some p → Calls Tryz.prog 284 #[.agg #[x1,x2,x3],.int .i64 nx] wr fun e w'=>e=.returned (.tuple #[]) ∧ QueLeft Held wr w' D2 (Q.come s2.q nx)):=fun p hp=>by
    have:=HCome.out wr D2 s2 p HA.out.reach (by rw [HX.out.1]; exact hp) HA.out.held
    rwa [HX.out.1] at this
   obtain ⟨rs,hrs⟩:∃ rs,Q.rest s2.q=rs:=⟨_,rfl⟩
   have HRS:Hid (Q.rest s2.q=rs):=hrs
   have hcnt:=HA.out.reach.count HL.out.1
   rw [hrs,HX.out.1] at hcnt
   have hrs3:rs ≤ 300:=by omega
   have HR1:Hid (Calls Tryz.prog 286 #[.agg #[x1,x2,x3]] wr fun e w'=>e=.returned (.int .i64 (rs:Nat)) ∧ QueLeft Held wr w' D2 (Q.asked s2.q)):=by
    have:=HRest.out wr D2 s2 HA.out.reach HA.out.held
    rwa [hrs] at this
   have HCnt:Hid (s2.out.length + rs=nx):=hcnt
   have HAsk:Hid (0 < rs → Q.asked s2.q=s2.q):=fun h=>if_neg (by rw [hrs]; omega)
   clear hrs hcnt
   by_cases hgo:nx < n ∧ tickOf ps nx ≤ nw
   ·
    obtain ⟨hlt,htk⟩:=hgo
    obtain ⟨p,hp,-⟩:=get_some ps nx (by rw [HN.out]; exact hlt)
    obtain ⟨b,off,rfl,hbl,hc⟩:=HM.out.2.2.1.place (by rw [HN.out]; omega)
    have c1:wr.cell? ⟨b,off + nx * 3 + 2,none⟩=some (.int .i64 p.tick):=by rw [HA.out.below.cell (p:=⟨b,off + nx * 3 + 2,none⟩) (HM.out.2.2.2 ⟨b,off,none⟩ rfl (by rw [HN.out]; omega))]; exact (hc nx p hp).2.2
    have HP:Hid (ps[nx]? = some p):=hp
    rw [tickOf_get hp] at htk
    have HTk:Hid (p.tick ≤ nw):=htk
    clear hc hp
    go_wp2_with fail
    refine (HC1.out p HP.out).mono ?_
    rintro e w1 ⟨rfl,hq⟩
    have HQ:Hid (QueLeft Held wr w1 D2 (Q.come s2.q nx)):=hq
    clear hq
    go_wp2_with fail
    go_roundg (n - (nx + 1))
    case measure=>have:=HX.out.1; omega
    case rel=>
     have hr:Reaches Q per ps q0 ⟨s2.out,s2.now,s2.next + 1,Q.come s2.q s2.next⟩:=.come s2 p HReach.out (by rw [HX.out.1]; exact HP.out) (by rw [HX.out.2]; exact HTk.out)
     rw [HX.out.1] at hr
     obtain ⟨D3,h3⟩:=HA.out.called (s':=⟨s2.out,s2.now,nx + 1,Q.come s2.q nx⟩) HM.out.1 HM.out.2.1 HQ.out hr rfl
     have e3:=HEq.out.2.2
     rw [HX.out.1] at e3
     exact ⟨⟨s2.out,s2.now,nx + 1,Q.come s2.q nx⟩,D3,rfl,by go_num,HEq.out.1,HEq.out.2.1,Nat.le_succ_of_le e3,h3⟩
   ·
    have HStop:Hid (∀ r,ps[s2.next]? = some r → s2.now < r.tick):=fun r hr=>by
     rw [HX.out.1] at hr
     rw [HX.out.2]
     have h1:=lt_of_get hr
     rw [HN.out] at h1
     have h2:=tickOf_get hr
     rcases Int.lt_or_le nw r.tick with h3 | h3
     · exact h3
     · exact absurd ⟨h1,by rw [h2]; exact h3⟩ hgo
    have HSend:Hid (0 < rs → ∀ W1 D3 ,SendAt Q Held per ps q0 B w W1 u7 s2 D3 → ∃ k p,k < n ∧ ps[k]? = some p ∧ okPk p=true ∧ (Calls Tryz.prog 285 #[.agg #[x1,x2,x3]] W1 fun e w'=>e=.returned (.int .i64 (k:Nat)) ∧ ∃ D4,SendMid Held B w w' u7 s2.out (Q.left s2.q) D4) ∧
      (∀ W2,LiesP W2 a ps → Calls Tryz.prog 195 #[.slice a n cap,.int .i64 per,.int .i64 k,.int .i64 nw] W2 fun e w'=>e=.returned (.agg #[.int .i64 k,.int .i64 nw,.int .i64 (nw + per * p.size)]) ∧ Below W2.heap.size W2 w') ∧
      Reaches Q per ps q0 ⟨s2.out ++ [⟨(k:Nat),nw,nw + per * p.size⟩],nw + per * p.size,nx,Q.left s2.q⟩):=fun hpos W1 D3 hA1=>by
     have hpos':0 < Q.rest s2.q:=by rw [HRS.out]; exact hpos
     have hk:=HL.out.1.pick s2 HReach.out hpos'
     rw [HX.out.1] at hk
     obtain ⟨p,hp,-⟩:=get_some ps (Q.pick s2.q) (by rw [HN.out]; omega)
     have hok:=(HL.out.2.each _ p hp).1
     refine ⟨Q.pick s2.q,p,by omega,hp,hok,?_,fun W2 hl2=>?_,?_⟩
     ·
      refine (HPick.out W1 D3 s2 HReach.out hpos' hA1.held).mono ?_
      rintro e w' ⟨rfl,hq⟩
      obtain ⟨D4,g1,g2,g3,g4⟩:=hA1.parts HM.out.1 HM.out.2.1 hq
      exact ⟨rfl,D4,g1,g2,g3,g4⟩
     ·
      have:=sendOne_ok a cap ps per nw (Q.pick s2.q) p W2 hl2 (by rw [HN.out]; exact hfew) hp hok h1 h2 hnow.1 (by omega)
      rwa [HN.out] at this
     ·
      have:=Reaches.send s2 p HReach.out HStop.out hpos' hp
      rwa [HX.out.1,HX.out.2] at this
    have hway:(¬ nx < n) ∨ (nx < n ∧ nw < tickOf ps nx):=by omega
    have HWay:Hid ((¬ nx < n) ∨ (nx < n ∧ nw < tickOf ps nx)):=hway
    have HCell:Hid (nx < n → ∃ b off,a=some ⟨b,off,none⟩ ∧ ∀ W,Below B w W → W.cell? ⟨b,off + nx * 3 + 2,none⟩=some (.int .i64 (tickOf ps nx))):=fun hlt=>by
     obtain ⟨p,hp,-⟩:=get_some ps nx (by rw [HN.out]; exact hlt)
     obtain ⟨b,off,rfl,hbl,hc⟩:=HM.out.2.2.1.place (by rw [HN.out]; omega)
     refine ⟨b,off,rfl,fun W hW=>?_⟩
     rw [hW.cell (p:=⟨b,off + nx * 3 + 2,none⟩) (HM.out.2.2.2 ⟨b,off,none⟩ rfl (by rw [HN.out]; omega)),tickOf_get hp]
     exact (hc nx p hp).2.2
    clear hgo hway
    by_cases hrest:0 < rs
    ·
     rcases HWay.out with hlt | ⟨hlt,htk⟩
     ·
      go_wp2_with fail
      refine HR1.out.mono ?_
      rintro e w1 ⟨rfl,hq⟩
      rw [HAsk.out hrest] at hq
      obtain ⟨D3,h3⟩:=HA.out.called HM.out.1 HM.out.2.1 hq HReach.out rfl
      obtain ⟨k,p,hkn,hp,hok,hpick,hone,hreach⟩:=HSend.out hrest w1 D3 h3
      have HPk:Hid (Calls Tryz.prog 285 #[.agg #[x1,x2,x3]] w1 fun e w'=>e=.returned (.int .i64 (k:Nat)) ∧ ∃ D4,SendMid Held B w w' u7 s2.out (Q.left s2.q) D4):=hpick
      have HOne:Hid (∀ W2,LiesP W2 a ps → Calls Tryz.prog 195 #[.slice a n cap,.int .i64 per,.int .i64 k,.int .i64 nw] W2 fun e w'=>e=.returned (.agg #[.int .i64 k,.int .i64 nw,.int .i64 (nw + per * p.size)]) ∧ Below W2.heap.size W2 w'):=hone
      obtain ⟨uz,hto⟩:∃ uz,nw + per * p.size=uz:=⟨_,rfl⟩
      rw [hto] at hreach
      have HTo:Hid (nw + per * p.size=uz):=hto
      have HRe:Hid (Reaches Q per ps q0 ⟨s2.out ++ [⟨(k:Nat),nw,uz⟩],uz,nx,Q.left s2.q⟩):=hreach
      clear hq h3 hpick hone hreach hp hok hto
      go_wp2_with fail
      refine HPk.out.mono ?_
      rintro e w2 ⟨rfl,D4,hmid⟩
      have HMid:Hid (SendMid Held B w w2 u7 s2.out (Q.left s2.q) D4):=hmid
      have HLies:Hid (LiesP w2 a ps):=HM.out.2.2.1.bel HM.out.2.2.2 hmid.below
      clear hmid
      go_wp2_with fail
      refine (HOne.out w2 HLies.out).mono ?_
      rintro e w3 ⟨rfl,hb3⟩
      rw [HTo.out]
      have HMid3:Hid (SendMid Held B w w3 u7 s2.out (Q.left s2.q) D4):=HMid.out.later HM.out.1 HM.out.2.1 hb3
      clear hb3
      have HMid4:Hid (SendMid Held B w ((w3.alloc (.cells #[.int .i64 k,.int .i64 nw,.int .i64 uz] 69)).alloc (.cells #[.int .i64 k,.int .i64 nw,.int .i64 uz] 69)) u7 s2.out (Q.left s2.q) D4):=HMid3.out.later HM.out.1 HM.out.2.1 (((Below.refl _ _).alloc (Nat.le_refl _) _).alloc (by simp) _)
      have HNews:Hid (∀ j u,(cellsS [⟨k,nw,uz⟩])[j]? = some u → ((w3.alloc (.cells #[.int .i64 k,.int .i64 nw,.int .i64 uz] 69)).alloc (.cells #[.int .i64 k,.int .i64 nw,.int .i64 uz] 69)).cell? ((⟨w3.heap.size + 1,0,none⟩:Addr).add j)=some u):=World.news_of_block (cs:=#[.int .i64 k,.int .i64 nw,.int .i64 uz]) (t:=69) (by have:=heap_alloc_new (w3.alloc (.cells #[.int .i64 k,.int .i64 nw,.int .i64 uz] 69)) (.cells #[.int .i64 k,.int .i64 nw,.int .i64 uz] 69); simpa using this)
      have HCel:Hid (((w3.alloc (.cells #[.int .i64 k,.int .i64 nw,.int .i64 uz] 69)).alloc (.cells #[.int .i64 k,.int .i64 nw,.int .i64 uz] 69)).cell? ⟨w3.heap.size,2,none⟩=some (.int .i64 uz)):=cell_later ((Below.refl _ _).alloc (Nat.le_refl _) _) (by simp)
      have HBs:Hid (w.heap.size ≤ ((w3.alloc (.cells #[.int .i64 k,.int .i64 nw,.int .i64 uz] 69)).alloc (.cells #[.int .i64 k,.int .i64 nw,.int .i64 uz] 69)).heap.size ∧ w3.heap.size < ((w3.alloc (.cells #[.int .i64 k,.int .i64 nw,.int .i64 uz] 69)).alloc (.cells #[.int .i64 k,.int .i64 nw,.int .i64 uz] 69)).heap.size):=⟨HMid4.out.below.size,by simp; omega⟩
      have HNe:Hid (some w3.heap.size ≠ u7.ownBlock):=fun e=>by
       have:=(ownsRow_lt HMid3.out.own e.symm).2
       omega
      go_wp2_with (at_builtin; go_must (refine wpList_append_lies _ rfl _ _ 65 rfl w.heap.size 69 i0 (.agg #[.int .i64 0,.int .i64 0,.int .i64 0]) 3 24 Tryz.underlying65 hi hz0 hz1 hz2 rfl (by decide) u7 s2.out.length (cellsS s2.out) rfl HMid4.out.own ⟨w3.heap.size + 1,0,none⟩ 1 1 (cellsS [⟨k,nw,uz⟩]) rfl rfl HNews.out (cellsS_one _) (by decide) (by unfold maxLen; omega) (by omega) HBs.out.1 _ rfl ?_; intro g5 cap5 w5 ho5 hg5 hat5 hlt5; have c5:w5.cell? ⟨w3.heap.size,2,none⟩=some (.int .i64 uz):=(hg5.cell_far ⟨w3.heap.size,2,none⟩ HBs.out.2 HNe.out).trans HCel.out; have H5:Hid (SendAt Q Held per ps q0 B w w5 (.slice (some ⟨g5,0,none⟩) (s2.out.length + 1) cap5) ⟨s2.out ++ [⟨(k:Nat),nw,uz⟩],uz,nx,Q.left s2.q⟩ D4):=SendAt.grown HM.out.1 HM.out.2.1 HMid4.out ho5 hg5 hat5 _ HRe.out rfl rfl; clear ho5 hg5 hat5 hlt5))
      go_roundg (leftOf ps (⟨s2.out ++ [⟨(k:Nat),nw,uz⟩],uz,nx,Q.left s2.q⟩:St σ))
      case measure=>
       refine left_send ?_ ?_
       · simp [HEq.out.1]
       ·
        have h3:=HCnt.out
        rw [HEq.out.1] at h3
        rw [HN.out]
        omega
      case rel=>exact ⟨_,D4,rfl,rfl,rfl,H5.out⟩
     ·
      obtain ⟨b,off,rfl,hcell⟩:=HCell.out hlt
      have c1:=hcell wr HA.out.below
      clear hcell
      go_wp2_with fail
      refine HR1.out.mono ?_
      rintro e w1 ⟨rfl,hq⟩
      rw [HAsk.out hrest] at hq
      obtain ⟨D3,h3⟩:=HA.out.called HM.out.1 HM.out.2.1 hq HReach.out rfl
      obtain ⟨k,p,hkn,hp,hok,hpick,hone,hreach⟩:=HSend.out hrest w1 D3 h3
      have HPk:Hid (Calls Tryz.prog 285 #[.agg #[x1,x2,x3]] w1 fun e w'=>e=.returned (.int .i64 (k:Nat)) ∧ ∃ D4,SendMid Held B w w' u7 s2.out (Q.left s2.q) D4):=hpick
      have HOne:Hid (∀ W2,LiesP W2 (some ⟨b,off,none⟩) ps → Calls Tryz.prog 195 #[.slice (some ⟨b,off,none⟩) n cap,.int .i64 per,.int .i64 k,.int .i64 nw] W2 fun e w'=>e=.returned (.agg #[.int .i64 k,.int .i64 nw,.int .i64 (nw + per * p.size)]) ∧ Below W2.heap.size W2 w'):=hone
      obtain ⟨uz,hto⟩:∃ uz,nw + per * p.size=uz:=⟨_,rfl⟩
      rw [hto] at hreach
      have HTo:Hid (nw + per * p.size=uz):=hto
      have HRe:Hid (Reaches Q per ps q0 ⟨s2.out ++ [⟨(k:Nat),nw,uz⟩],uz,nx,Q.left s2.q⟩):=hreach
      clear hq h3 hpick hone hreach hp hok hto
      go_wp2_with fail
      refine HPk.out.mono ?_
      rintro e w2 ⟨rfl,D4,hmid⟩
      have HMid:Hid (SendMid Held B w w2 u7 s2.out (Q.left s2.q) D4):=hmid
      have HLies:Hid (LiesP w2 (some ⟨b,off,none⟩) ps):=HM.out.2.2.1.bel HM.out.2.2.2 hmid.below
      clear hmid
      go_wp2_with fail
      refine (HOne.out w2 HLies.out).mono ?_
      rintro e w3 ⟨rfl,hb3⟩
      rw [HTo.out]
      have HMid3:Hid (SendMid Held B w w3 u7 s2.out (Q.left s2.q) D4):=HMid.out.later HM.out.1 HM.out.2.1 hb3
      clear hb3
      have HMid4:Hid (SendMid Held B w ((w3.alloc (.cells #[.int .i64 k,.int .i64 nw,.int .i64 uz] 69)).alloc (.cells #[.int .i64 k,.int .i64 nw,.int .i64 uz] 69)) u7 s2.out (Q.left s2.q) D4):=HMid3.out.later HM.out.1 HM.out.2.1 (((Below.refl _ _).alloc (Nat.le_refl _) _).alloc (by simp) _)
      have HNews:Hid (∀ j u,(cellsS [⟨k,nw,uz⟩])[j]? = some u → ((w3.alloc (.cells #[.int .i64 k,.int .i64 nw,.int .i64 uz] 69)).alloc (.cells #[.int .i64 k,.int .i64 nw,.int .i64 uz] 69)).cell? ((⟨w3.heap.size + 1,0,none⟩:Addr).add j)=some u):=World.news_of_block (cs:=#[.int .i64 k,.int .i64 nw,.int .i64 uz]) (t:=69) (by have:=heap_alloc_new (w3.alloc (.cells #[.int .i64 k,.int .i64 nw,.int .i64 uz] 69)) (.cells #[.int .i64 k,.int .i64 nw,.int .i64 uz] 69); simpa using this)
      have HCel:Hid (((w3.alloc (.cells #[.int .i64 k,.int .i64 nw,.int .i64 uz] 69)).alloc (.cells #[.int .i64 k,.int .i64 nw,.int .i64 uz] 69)).cell? ⟨w3.heap.size,2,none⟩=some (.int .i64 uz)):=cell_later ((Below.refl _ _).alloc (Nat.le_refl _) _) (by simp)
      have HBs:Hid (w.heap.size ≤ ((w3.alloc (.cells #[.int .i64 k,.int .i64 nw,.int .i64 uz] 69)).alloc (.cells #[.int .i64 k,.int .i64 nw,.int .i64 uz] 69)).heap.size ∧ w3.heap.size < ((w3.alloc (.cells #[.int .i64 k,.int .i64 nw,.int .i64 uz] 69)).alloc (.cells #[.int .i64 k,.int .i64 nw,.int .i64 uz] 69)).heap.size):=⟨HMid4.out.below.size,by simp; omega⟩
      have HNe:Hid (some w3.heap.size ≠ u7.ownBlock):=fun e=>by
       have:=(ownsRow_lt HMid3.out.own e.symm).2
       omega
      go_wp2_with (at_builtin; go_must (refine wpList_append_lies _ rfl _ _ 65 rfl w.heap.size 69 i0 (.agg #[.int .i64 0,.int .i64 0,.int .i64 0]) 3 24 Tryz.underlying65 hi hz0 hz1 hz2 rfl (by decide) u7 s2.out.length (cellsS s2.out) rfl HMid4.out.own ⟨w3.heap.size + 1,0,none⟩ 1 1 (cellsS [⟨k,nw,uz⟩]) rfl rfl HNews.out (cellsS_one _) (by decide) (by unfold maxLen; omega) (by omega) HBs.out.1 _ rfl ?_; intro g5 cap5 w5 ho5 hg5 hat5 hlt5; have c5:w5.cell? ⟨w3.heap.size,2,none⟩=some (.int .i64 uz):=(hg5.cell_far ⟨w3.heap.size,2,none⟩ HBs.out.2 HNe.out).trans HCel.out; have H5:Hid (SendAt Q Held per ps q0 B w w5 (.slice (some ⟨g5,0,none⟩) (s2.out.length + 1) cap5) ⟨s2.out ++ [⟨(k:Nat),nw,uz⟩],uz,nx,Q.left s2.q⟩ D4):=SendAt.grown HM.out.1 HM.out.2.1 HMid4.out ho5 hg5 hat5 _ HRe.out rfl rfl; clear ho5 hg5 hat5 hlt5))
      go_roundg (leftOf ps (⟨s2.out ++ [⟨(k:Nat),nw,uz⟩],uz,nx,Q.left s2.q⟩:St σ))
      case measure=>
       refine left_send ?_ ?_
       · simp [HEq.out.1]
       ·
        have h3:=HCnt.out
        rw [HEq.out.1] at h3
        rw [HN.out]
        omega
      case rel=>exact ⟨_,D4,rfl,rfl,rfl,H5.out⟩
    ·
     rcases HWay.out with hlt | ⟨hlt,htk⟩
     ·
      go_wp2_with fail
      refine HR1.out.mono ?_
      rintro e w1 ⟨rfl,hq⟩
      have HQ:Hid (QueLeft Held wr w1 D2 (Q.asked s2.q)):=hq
      clear hq
      go_wp2_with fail
      go_ret
      obtain ⟨D3,h31,h32,-,h34⟩:=HA.out.parts HM.out.1 HM.out.2.1 HQ.out
      exact ⟨s2,u7,rfl,HReach.out,by rw [HX.out.1]; omega,by rw [HRS.out]; omega,h31,h34,D3,h32⟩
     ·
      obtain ⟨b,off,rfl,hcell⟩:=HCell.out hlt
      have c1:=hcell wr HA.out.below
      have HCl:Hid (∀ W,Below B w W → W.cell? ⟨b,off + nx * 3 + 2,none⟩=some (.int .i64 (tickOf ps nx))):=hcell
      clear hcell
      go_wp2_with fail
      refine HR1.out.mono ?_
      rintro e w1 ⟨rfl,hq⟩
      have hask:Q.asked s2.q=Q.idle s2.q:=if_pos (by rw [HRS.out]; omega)
      rw [hask] at hq
      obtain ⟨D3,h31,h32,h33,h34⟩:=HA.out.parts HM.out.1 HM.out.2.1 hq
      have c2:=HCl.out w1 h34
      have H3:Hid (OwnS w1 w.heap.size u7 s2.out ∧ Held w1 D3 (Q.idle s2.q) ∧ (∀ g,u7.ownBlock=some g → ¬ D3 g) ∧ Below B w w1):=⟨h31,h32,h33,h34⟩
      clear hq hask h31 h32 h33 h34
      go_wp2_with fail
      go_roundg (leftOf ps (⟨s2.out,tickOf ps nx,nx,Q.idle s2.q⟩:St σ))
      case measure=>
       have h3:=HCnt.out
       have h4:=HEq.out.2.2
       have h5:=HA0.out.reach.count HL.out.1
       rw [HEq.out.1] at h3
       rw [HX.out.1] at h4
       have h6:s.next=nx:=by omega
       refine left_idle (by simp [HEq.out.1]) h6.symm ?_ ?_ ?_
       · rw [HN.out,h6]; exact hlt
       · rw [h6,HNw.out]; exact htk
       · rw [h6]; exact Int.le_refl _
      case rel=>
       obtain ⟨p,hp,-⟩:=get_some ps nx (by rw [HN.out]; exact hlt)
       have hr:Reaches Q per ps q0 ⟨s2.out,p.tick,s2.next,Q.idle s2.q⟩:=.idle s2 p HReach.out (by rw [HX.out.1]; exact hp) (by rw [HX.out.2,← tickOf_get hp]; exact htk) (by rw [HRS.out]; omega)
       rw [HX.out.1,← tickOf_get hp] at hr
       exact ⟨_,D3,rfl,rfl,rfl,hr,H3.out.1,H3.out.2.1,H3.out.2.2.1,H3.out.2.2.2⟩
theorem send_any {σ:Type} (Q:Que σ) (Held:World → (Nat → Prop) → σ → Prop) (per:Int) (ps:List Pk) (q0:σ) (B:Nat) (x1 x2 x3:Value) (hm:QueMem Held B) (hlaw:QueLaw Q per ps q0) (ho:OkPks ps) (h1:1 ≤ per) (h2:per ≤ 1000)
  (hCome:∀ w D s p,Reaches Q per ps q0 s → ps[s.next]? = some p → Held w D s.q → Calls Tryz.prog 284 #[.agg #[x1,x2,x3],.int .i64 s.next] w fun e w'=>e=.returned (.tuple #[]) ∧ QueLeft Held w w' D (Q.come s.q s.next))
  (hPick:∀ w D s,Reaches Q per ps q0 s → 0 < Q.rest s.q → Held w D s.q → Calls Tryz.prog 285 #[.agg #[x1,x2,x3]] w fun e w'=>e=.returned (.int .i64 (Q.pick s.q:Nat)) ∧ QueLeft Held w w' D (Q.left s.q))
  (hRest:∀ w D s,Reaches Q per ps q0 s → Held w D s.q → Calls Tryz.prog 286 #[.agg #[x1,x2,x3]] w fun e w'=>e=.returned (.int .i64 (Q.rest s.q:Nat)) ∧ QueLeft Held w w' D (Q.asked s.q))
  (a:Option Addr) (cap:Nat) (w:World) (hl:LiesP w a ps) (hB:B ≤ w.heap.size) (ha:∀ ad,a=some ad → 0 < ps.length → ad.block < B) (D0:Nat → Prop) (h0:Held w D0 q0) :
  Calls Tryz.prog 169 #[.slice a ps.length cap,.int .i64 per,.iface 266 (.agg #[x1,x2,x3])] w fun e w'=>∃ s v,e=.returned v ∧ Reaches Q per ps q0 s ∧ ¬ s.next < ps.length ∧ Q.rest s.q=0 ∧ OwnS w' w.heap.size v s.out ∧ Below B w w':=
 (send_held Q Held per ps q0 B x1 x2 x3 hm hlaw ho h1 h2 hCome hPick hRest a cap w hl hB ha D0 h0).mono fun _ _ ⟨s,v,e,g1,g2,g3,g4,g5,_⟩=>⟨s,v,e,g1,g2,g3,g4,g5⟩
end Go.Proofs.YtipdclphpkgceaaGreatDoor
