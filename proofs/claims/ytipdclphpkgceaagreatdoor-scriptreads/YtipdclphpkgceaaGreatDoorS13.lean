/- Own facts, put together: no statement of its own. -/
import Derived.Test.YtipdclphpkgceaaGreatDoorS01
import Derived.Test.YtipdclphpkgceaaGreatDoorS12
import Derived.Test.YtipdclphpkgceaaGreatDoorS04
import Derived.Test.YtipdclphpkgceaaGreatDoorS09
import Derived.Test.YtipdclphpkgceaaGreatDoorS08
import Derived.Test.YtipdclphpkgceaaGreatDoorS05
import Derived.Deep.RegionHeldLaw
import Derived.Deep.AppendLies
import Derived.Deep.LoopGhost
import Derived.Test.YtipdclphpkgceaaGreatDoorS11
import Derived.Test.YtipdclphpkgceaaGreatDoorS07
import Derived.Maps.OwnOps
import Derived.Maps.Views
import Derived.Maps.OwnSet
import Derived.Test.YtipdclphpkgceaaGreatDoorS06
import Derived.Test.YtipdclphpkgceaaGreatDoorS10
import Derived.Deep.Cut
import Derived.Laws.StructEq
import Derived.BigQuiet
import Derived.Test.YtipdclphpkgceaaGreatDoorS03
import Derived.Deep.DeepCutAuto
import Derived.Deep.RegionLaw
set_option maxHeartbeats 1000000
set_option maxRecDepth 100000

namespace Go.Proofs.YtipdclphpkgceaaGreatDoor
open Go.RowKit
def HeldF (B g:Nat) (w:World) (D:Nat → Prop) (q:List Nat):Prop:=
 ∃ v F,w.heap[g]? = some (.cells #[v] 32 (0,0)) ∧ Slides w B v F q ∧ ¬ F g ∧ B ≤ g ∧ (∀ k,D k ↔ k=g ∨ F k)
theorem HeldF.foot {B g:Nat} {w:World} {D:Nat → Prop} {q:List Nat} (h:HeldF B g w D q):∀ k,D k → B ≤ k ∧ k < w.heap.size:=by
 obtain ⟨v,F,h1,h2,h3,h4,h5⟩:=h
 intro k hk
 rcases (h5 k).1 hk with rfl | hk
 · exact ⟨h4,lt_of_block h1⟩
 · exact h2.foot k hk
theorem HeldF.but {B g:Nat} {S:Nat → Prop} {w w':World} {D:Nat → Prop} {q:List Nat} (h:HeldF B g w D q) (hb:But S w w') (hs:∀ k,D k → ¬ S k):HeldF B g w' D q:=by
 obtain ⟨v,F,h1,h2,h3,h4,h5⟩:=h
 exact ⟨v,F,(hb.block g (lt_of_block h1) (hs g ((h5 g).2 (.inl rfl)))).trans h1,h2.but hb (fun k hk=>hs k ((h5 k).2 (.inr hk))),h3,h4,h5⟩
def QueOn (B g:Nat) (w w':World) (D:Nat → Prop) (q:List Nat):Prop:=∃ D',HeldF B g w' D' q ∧ But D w w' ∧ ∀ k,D' k → D k ∨ w.heap.size ≤ k
theorem fifo_stored {B g:Nat} {D F F':Nat → Prop} {w w1 w2:World} {v v':Value} {q:List Nat} (h3:¬ F g) (h4:B ≤ g) (h5:∀ k,D k ↔ k=g ∨ F k) (hg:g < w.heap.size) (hb:Below w.heap.size w w1) (hs:w.heap.size ≤ w1.heap.size) (hbut:But F w1 w2)
  (hv:w2.heap[g]? = some (.cells #[v] 32 (0,0))) (hsl:Slides w2 B v' F' q) (hF:∀ k,F' k → F k ∨ w1.heap.size ≤ k):QueOn B g w (w2.setCell ⟨g,0,none⟩ v') D q:=by
 have hFg:¬ F' g:=fun h=>by
  rcases hF g h with h | h
  · exact h3 h
  · omega
 have b2:But (fun k=>k=g) w2 (w2.setCell ⟨g,0,none⟩ v'):=But.setCell (S:=fun k=>k=g) (But.refl _ w2) (p:=⟨g,0,none⟩) rfl v'
 refine ⟨fun k=>k=g ∨ F' k,⟨v',F',one_setCell hv,hsl.but b2 (fun k hk e=>hFg (e ▸ hk)),hFg,h4,fun k=>Iff.rfl⟩,?_,fun k hk=>?_⟩
 · refine ((But.ofBelow hb).trans (hbut.mono fun k hk=>(h5 k).2 (.inr hk))).trans (b2.mono fun k hk=>(h5 k).2 (.inl hk))
 ·
  rcases hk with rfl | hk
  · exact .inl ((h5 _).2 (.inl rfl))
  ·
   rcases hF k hk with h | h
   · exact .inl ((h5 k).2 (.inr h))
   · exact .inr (by omega)
theorem fifoCome (B g:Nat) (D:Nat → Prop) (q:List Nat) (k:Nat) (w:World) (h:HeldF B g w D q) (hn:q.length ≤ 1000) :
  Calls Tryz.prog 196 #[.int .i64 (k:Int),.pointer (some ⟨g,0,none⟩)] w fun e w'=>e=.returned (.tuple #[]) ∧ QueOn B g w w' D (q ++ [k]):=by
 obtain ⟨i0,hi,hz0,hz1,hz2⟩:=info_parts Tryz.infoInt
 obtain ⟨v,F,h1,h2,h3,h4,h5⟩:=h
 obtain ⟨ao,cap,rfl,hlc,hcm⟩:=h2.form
 have c0:=cell_of_one h1
 have hgl:=lt_of_block h1
 have H1:Hid (w.heap[g]? = some (.cells #[.slice ao q.length cap] 32 (0,0))):=h1
 have H2:Hid (Slides (w.alloc (.cells #[.int .i64 (k:Int)] 3)) B (.slice ao q.length cap) F q):=h2.but (S:=fun _=>False) (.ofBelow ((Below.refl _ _).alloc (Nat.le_refl _) _)) (fun _ _ h=>h)
 have H3:Hid (¬ F g ∧ B ≤ g ∧ (∀ k,D k ↔ k=g ∨ F k)):=⟨h3,h4,h5⟩
 have HA:Hid ((w.alloc (.cells #[.int .i64 (k:Int)] 3)).heap[g]? = some (.cells #[.slice ao q.length cap] 32 (0,0))):=(Below.heap_alloc w _ g hgl).trans h1
 clear h1 h2 h3 h5
 go_enter Tryz.func196,Tryz.ntmps196
 go_wp2_with (at_builtin;go_must (refine wpList_append_slide _ rfl _ _ 32 rfl 3 i0 (.int .i64 0) 8 Tryz.underlying32 hi hz0 hz1 hz2 rfl B (.slice ao q.length cap) F k q rfl H2.out (by simp;omega) ⟨w.heap.size,0,none⟩ 1 rfl (by simp) (by unfold maxLen;omega) (by omega) ?_;intro ao' cap' w2 hon;obtain ⟨F',g1,g2,g3⟩:=hon;have hgb:w2.heap[g]? = some (.cells #[.slice ao q.length cap] 32 (0,0)):=(g3.block g (by simp;omega) H3.out.1).trans HA.out;have c2:=cell_of_one hgb;have f2:=free_of_one hgb;have HOn:Hid (Slides w2 B (.slice ao' (q.length+1) cap') F' (q ++ [k]) ∧ (∀ k,F' k → F k ∨ w.heap.size+1 ≤ k) ∧ But F (w.alloc (.cells #[.int .i64 (k:Int)] 3)) w2 ∧ w2.heap[g]? = some (.cells #[.slice ao q.length cap] 32 (0,0))):=⟨g1,by simpa using g2,g3,hgb⟩;clear g1 g2 g3 hgb))
 go_end0
 exact ⟨rfl,fifo_stored H3.out.1 H3.out.2.1 H3.out.2.2 hgl ((Below.refl _ _).alloc (Nat.le_refl _) _) (by simp) HOn.out.2.2.1 HOn.out.2.2.2 HOn.out.1 (by simpa using HOn.out.2.1)⟩
theorem fifoPick (B g:Nat) (D:Nat → Prop) (q:List Nat) (k:Nat) (w:World) (h:HeldF B g w D (k :: q)) (hn:q.length ≤ 1000) :
  Calls Tryz.prog 197 #[.pointer (some ⟨g,0,none⟩)] w fun e w'=>e=.returned (.int .i64 (k:Int)) ∧ QueOn B g w w' D q:=by
 obtain ⟨v,F,h1,h2,h3,h4,h5⟩:=h
 obtain ⟨b,off,cap,rfl,hlc,hcm,c1,hFb,s1,s2⟩:=h2.first
 have c0:=cell_of_one h1
 have f0:=free_of_one h1
 have hgl:=lt_of_block h1
 unfold maxLen at hcm
 by_cases hc1:1 < cap
 ·
  have HS:Hid (Slides w B (.slice (some ⟨b,off+1,none⟩) q.length (cap - 1)) F q):=s1 hc1
  have H1:Hid (w.heap[g]? = some (.cells #[.slice (some ⟨b,off,none⟩) (q.length+1) cap] 32 (0,0))):=h1
  have H3:Hid (¬ F g ∧ B ≤ g ∧ (∀ k,D k ↔ k=g ∨ F k)):=⟨h3,h4,h5⟩
  clear h1 h2 h3 h5 s1 s2
  go_enter Tryz.func197,Tryz.ntmps197
  go_wp2
  go_ret
  exact ⟨rfl,fifo_stored H3.out.1 H3.out.2.1 H3.out.2.2 hgl (Below.refl _ _) (Nat.le_refl _) (But.refl _ _) H1.out HS.out (fun _ h=>.inl h)⟩
 ·
  obtain rfl:cap=1:=by omega
  obtain ⟨rfl,s3⟩:=s2 rfl
  have HS:Hid (Slides w B (.slice (some ⟨b,off,none⟩) 0 0) F []):=s3
  have H1:Hid (w.heap[g]? = some (.cells #[.slice (some ⟨b,off,none⟩) 1 1] 32 (0,0))):=h1
  have H3:Hid (¬ F g ∧ B ≤ g ∧ (∀ k,D k ↔ k=g ∨ F k)):=⟨h3,h4,h5⟩
  clear h1 h2 h3 h5 s1 s2 s3
  simp only [List.length_nil,Nat.zero_add] at c0
  go_enter Tryz.func197,Tryz.ntmps197
  go_wp2
  go_ret
  exact ⟨rfl,fifo_stored H3.out.1 H3.out.2.1 H3.out.2.2 hgl (Below.refl _ _) (Nat.le_refl _) (But.refl _ _) H1.out HS.out (fun _ h=>.inl h)⟩
theorem fifoRest (B g:Nat) (D:Nat → Prop) (q:List Nat) (w:World) (h:HeldF B g w D q) :
  Calls Tryz.prog 198 #[.pointer (some ⟨g,0,none⟩)] w fun e w'=>e=.returned (.int .i64 (q.length:Int)) ∧ w'=w:=by
 obtain ⟨v,F,h1,h2,h3,h4,h5⟩:=h
 obtain ⟨ao,cap,rfl,hlc,hcm⟩:=h2.form
 have c0:=cell_of_one h1
 unfold maxLen at hcm
 clear h1 h2 h3 h5
 go_enter Tryz.func198,Tryz.ntmps198
 go_wp2
 go_ret
 exact ⟨rfl,rfl⟩
def ruleF (g:Nat):Value:=.agg #[.func (.func 196) #[] #[.pointer (some ⟨g,0,none⟩)],.func (.func 197) #[] #[.pointer (some ⟨g,0,none⟩)],.func (.func 198) #[] #[.pointer (some ⟨g,0,none⟩)]]
theorem QueOn.after {B g:Nat} {w w1 w':World} {D:Nat → Prop} {q:List Nat} (hb:Below w.heap.size w w1) (h:QueOn B g w1 w' D q):QueOn B g w w' D q:=by
 obtain ⟨D',h1,h2,h3⟩:=h
 refine ⟨D',h1,(But.ofBelow hb).trans h2,fun k hk=>?_⟩
 rcases h3 k hk with h | h
 · exact .inl h
 · exact .inr (Nat.le_trans hb.size h)
theorem HeldF.alloc {B g:Nat} {w:World} {D:Nat → Prop} {q:List Nat} (h:HeldF B g w D q) (o:Obj):HeldF B g (w.alloc o) D q:=
 h.but (S:=fun _=>False) (.ofBelow ((Below.refl _ _).alloc (Nat.le_refl _) _)) (fun _ _ h=>h)
theorem fifoRuleRest (B g:Nat) (D:Nat → Prop) (q:List Nat) (w:World) (h:HeldF B g w D q) :
  Calls Tryz.prog 286 #[ruleF g] w fun e w'=>e=.returned (.int .i64 (q.length:Int)) ∧ QueOn B g w w' D q:=by
 have HH:Hid (HeldF B g w D q):=h
 clear h
 unfold ruleF
 go_enter Tryz.func286,Tryz.ntmps286
 go_wp2_with fail
 refine (fifoRest B g D q _ (HH.out.alloc _)).mono ?_
 rintro e w1 ⟨rfl,rfl⟩
 go_wp2_with fail
 go_ret
 exact ⟨rfl,D,HH.out.alloc _,.ofBelow ((Below.refl _ _).alloc (Nat.le_refl _) _),fun k hk=>.inl hk⟩
theorem fifoRulePick (B g:Nat) (D:Nat → Prop) (q:List Nat) (k:Nat) (w:World) (h:HeldF B g w D (k :: q)) (hn:q.length ≤ 1000) :
  Calls Tryz.prog 285 #[ruleF g] w fun e w'=>e=.returned (.int .i64 (k:Int)) ∧ QueOn B g w w' D q:=by
 have HH:Hid (HeldF B g w D (k :: q)):=h
 clear h
 unfold ruleF
 go_enter Tryz.func285,Tryz.ntmps285
 go_wp2_with fail
 refine (fifoPick B g D q k _ (HH.out.alloc _) hn).mono ?_
 rintro e w1 ⟨rfl,ho⟩
 have HO:Hid (QueOn B g w w1 D q):=ho.after ((Below.refl _ _).alloc (Nat.le_refl _) _)
 clear ho
 go_wp2_with fail
 go_ret
 exact ⟨rfl,HO.out⟩
theorem fifoRuleCome (B g:Nat) (D:Nat → Prop) (q:List Nat) (k:Nat) (w:World) (h:HeldF B g w D q) (hn:q.length ≤ 1000) :
  Calls Tryz.prog 284 #[ruleF g,.int .i64 (k:Int)] w fun e w'=>e=.returned (.tuple #[]) ∧ QueOn B g w w' D (q ++ [k]):=by
 have HH:Hid (HeldF B g w D q):=h
 clear h
 unfold ruleF
 go_enter Tryz.func284,Tryz.ntmps284
 go_wp2_with fail
 refine (fifoCome B g D q k _ (HH.out.alloc _) hn).mono ?_
 rintro e w1 ⟨rfl,ho⟩
 have HO:Hid (QueOn B g w w1 D (q ++ [k])):=ho.after ((Below.refl _ _).alloc (Nat.le_refl _) _)
 clear ho
 go_wp2_with fail
 go_end0
 exact ⟨rfl,HO.out⟩
theorem inOrder_any (w:World) :
  Calls Tryz.prog 170 #[] w fun e w'=>e=.returned (.iface 266 (ruleF w.heap.size)) ∧ HeldF w.heap.size w.heap.size w' (fun k=>k=w.heap.size) [] ∧ Below w.heap.size w w':=by
 unfold ruleF
 go_enter Tryz.func170,Tryz.ntmps170
 go_wp2_with fail
 go_ret
 refine ⟨rfl,⟨.slice none 0 0,fun _=>False,?_,Slides.nil _ _,id,Nat.le_refl _,fun k=>by simp⟩,(Below.refl _ _).alloc (Nat.le_refl _) _⟩
 exact heap_alloc_new w _
theorem LiesP.at_lt {w:World} {a:Option Addr} {ps:List Pk} (h:LiesP w a ps):∀ ad,a=some ad → 0 < ps.length → ad.block < w.heap.size:=by
 intro ad e h0
 obtain ⟨b,off,rfl,hlt,-⟩:=h.place h0
 cases e
 exact hlt
theorem fifoMem (B g:Nat):QueMem (HeldF B g) B:=⟨fun _ _ _ h=>h.foot,fun _ _ _ _ _ h hb hs _=>h.but hb hs⟩
theorem fifoSend_ok (a:Option Addr) (cap:Nat) (ps:List Pk) (per:Int) (g:Nat) (w:World) (hl:LiesP w a ps) (ho:OkPks ps) (h1:1 ≤ per) (h2:per ≤ 1000) (ha:∀ ad,a=some ad → 0 < ps.length → ad.block < g) (h0:HeldF g g w (fun k=>k=g) []) :
  Calls Tryz.prog 169 #[.slice a ps.length cap,.int .i64 per,.iface 266 (ruleF g)] w fun e w'=>∃ v,e=.returned v ∧ OwnS w' w.heap.size v (lindAll per ps ps.length) ∧ Below g w w':=by
 have hlaw:=fifo_law (per:=per) (by omega) ho
 have hgw:g ≤ w.heap.size:=Nat.le_of_lt (h0.foot g rfl).2
 refine (send_any fifoQ (HeldF g g) per ps [] g _ _ _ (fifoMem g g) hlaw ho h1 h2 ?_ ?_ ?_ a cap w hl hgw ha _ h0).mono ?_
 ·
  intro w D s p hr hp hh
  have hc:=hr.count hlaw
  have hn:=hr.next_le
  have:=ho.few
  exact fifoRuleCome g g D s.q s.next w hh (by have:fifoQ.rest s.q=s.q.length:=rfl;omega)
 ·
  intro w D s hr h0 hh
  have hc:=hr.count hlaw
  have hn:=hr.next_le
  have:=ho.few
  have hlen:s.q.length ≤ 1000:=by have:fifoQ.rest s.q=s.q.length:=rfl;omega
  have h0':0 < s.q.length:=h0
  obtain ⟨k,q,hq⟩:∃ k q,s.q=k :: q:=by
   cases h:s.q with
   | nil=>rw [h] at h0';simp at h0'
   | cons k q=>exact ⟨k,q,rfl⟩
  rw [hq] at hh hlen ⊢
  exact fifoRulePick g g D q k w hh (by simp at hlen;omega)
 ·
  intro w D s hr hh
  rw [asked_same _ (fun _=>rfl)]
  exact fifoRuleRest g g D s.q w hh
 ·
  rintro e w' ⟨s,v,rfl,hr,hn,hrest,hown,hb⟩
  exact ⟨v,rfl,by rw [← fifo_end (by omega) ho hr hn hrest];exact hown,hb⟩
theorem fifoRun_ok (a:Option Addr) (cap:Nat) (ps:List Pk) (per:Int) (w:World) (hl:LiesP w a ps) (ho:OkPks ps) (h1:1 ≤ per) (h2:per ≤ 1000) :
  Calls Tryz.prog 143 #[.slice a ps.length cap,.int .i64 per] w fun e w'=>∃ v,e=.returned (.tuple #[v,.nilIface]) ∧ OwnS w' w.heap.size v (lindAll per ps ps.length) ∧ Below w.heap.size w w':=by
 have HL:Hid (LiesP w a ps ∧ OkPks ps):=⟨hl,ho⟩
 have HC:Hid (Calls Tryz.prog 168 #[.slice a ps.length cap,.int .i64 per] w fun e w'=>e=.returned .nilIface ∧ Below w.heap.size w w'):=linkCheck_ok a cap ps per w hl ho h1 h2
 clear hl ho
 go_enter Tryz.func143,Tryz.ntmps143
 go_wp2_with fail
 refine HC.out.mono ?_
 rintro e w1 ⟨rfl,hb⟩
 have HB1:Hid (Below w.heap.size w w1):=hb
 clear hb
 go_wp2_with fail
 refine (inOrder_any w1).mono ?_
 rintro e w2 ⟨rfl,hh,hb⟩
 have HB2:Hid (Below w1.heap.size w1 w2):=hb
 have HH:Hid (HeldF w1.heap.size w1.heap.size w2 (fun k=>k=w1.heap.size) []):=hh
 have HLP:Hid (LiesP w2 a ps):=(HL.out.1.below HB1.out).below hb
 have HAt:Hid (∀ ad,a=some ad → 0 < ps.length → ad.block < w1.heap.size):=(HL.out.1.below HB1.out).at_lt
 clear hb hh
 go_wp2_with fail
 refine (fifoSend_ok a cap ps per w1.heap.size w2 HLP.out HL.out.2 h1 h2 HAt.out HH.out).mono ?_
 rintro e w3 ⟨v,rfl,hown,hb⟩
 have HO:Hid (OwnS w3 w.heap.size v (lindAll per ps ps.length) ∧ Below w.heap.size w w3):=⟨ownsRow_mono hown (Nat.le_trans HB1.out.size HB2.out.size),HB1.out.trans ((HB2.out.mono HB1.out.size).trans (hb.mono HB1.out.size))⟩
 clear hown hb
 go_wp2_with fail
 go_ret2
 exact ⟨v,rfl,HO.out⟩
theorem fifoRun_err {R:TypeId → Value → World → Prop} (a:Option Addr) (n cap:Nat) (per:Int) (w:World) (h:Calls Tryz.prog 168 #[.slice a n cap,.int .i64 per] w fun e w'=>∃ ty v,e=.returned (.iface ty v) ∧ R ty v w') :
  Calls Tryz.prog 143 #[.slice a n cap,.int .i64 per] w fun e w'=>∃ ty v,e=.returned (.tuple #[.slice none 0 0,.iface ty v]) ∧ R ty v w':=by
 have HC:Hid (Calls Tryz.prog 168 #[.slice a n cap,.int .i64 per] w fun e w'=>∃ ty v,e=.returned (.iface ty v) ∧ R ty v w'):=h
 clear h
 go_enter Tryz.func143,Tryz.ntmps143
 go_wp2_with fail
 refine HC.out.mono ?_
 rintro e w1 ⟨ty,v,rfl,hR⟩
 have HR:Hid (R ty v w1):=hR
 clear hR
 go_wp2_with fail
 go_ret2
 exact ⟨ty,v,rfl,HR.out⟩
def LinkFaultIs (ps:List Pk) (per c p:Int):Prop:=
 (PksFault ps c p ∧ 0 < c) ∨ (OkPks ps ∧ (per < 1 ∨ 1000 < per) ∧ c=2 ∧ p = -1) ∨ (OkPks ps ∧ 1 ≤ per ∧ per ≤ 1000 ∧ c=0 ∧ p = -1)
theorem linkCheck_is (a:Option Addr) (cap:Nat) (ps:List Pk) (per c p:Int) (w:World) (ad:Nat → Addr) (he:Errs9 w ad) (hl:LiesP w a ps) (hcap:ps.length ≤ cap) (hm:cap ≤ maxLen) (h:LinkFaultIs ps per c p) (hc:0 < c) :
  Calls Tryz.prog 168 #[.slice a ps.length cap,.int .i64 per] w fun e w'=>∃ ty v,e=.returned (.iface ty v) ∧ (ErrIs w' (.iface ty v) c p ∧ Below w.heap.size w w'):=by
 rcases h with ⟨h,h0⟩ | ⟨ho,hp,rfl,rfl⟩ | ⟨ho,h1,h2,rfl,rfl⟩
 ·
  refine linkCheck_err (R:=fun ty v w'=>ErrIs w' (.iface ty v) c p ∧ Below w.heap.size w w') a ps.length cap per w ((pcheck_is a cap ps w ad he hl hcap hm c p h).mono ?_)
  rintro e w' ⟨E,rfl,hE,hb⟩
  obtain ⟨ty,v,rfl⟩:=hE.some_ (by omega)
  exact ⟨ty,v,rfl,hE,hb⟩
 ·
  refine (linkCheck_per a cap ps per w ad he.bo hl ho hp).mono ?_
  rintro e w' ⟨rfl,hb⟩
  exact ⟨_,_,rfl,errIs_sent (he.below hb) 1 (by decide),hb⟩
 · omega
theorem fifoRun_is (a:Option Addr) (cap:Nat) (ps:List Pk) (per c p:Int) (w:World) (ad:Nat → Addr) (he:Errs9 w ad) (hl:LiesP w a ps) (hcap:ps.length ≤ cap) (hm:cap ≤ maxLen) (h:LinkFaultIs ps per c p) (hc:0 < c) :
  Calls Tryz.prog 143 #[.slice a ps.length cap,.int .i64 per] w fun e w'=>∃ ty v,e=.returned (.tuple #[.slice none 0 0,.iface ty v]) ∧ (ErrIs w' (.iface ty v) c p ∧ Below w.heap.size w w'):=
 fifoRun_err (R:=fun ty v w'=>ErrIs w' (.iface ty v) c p ∧ Below w.heap.size w w') a ps.length cap per w (linkCheck_is a cap ps per c p w ad he hl hcap hm h hc)
theorem flow_at {ps:List Pk} {k:Nat} {p:Pk} (ho:OkPks ps) (hp:ps[k]? = some p):∃ m:Nat,m < 8 ∧ p.flow=(m:Int) ∧ flowOf ps k=m:=by
 obtain ⟨h1,h2,-⟩:=okPk_true (ho.each _ p hp).1
 exact ⟨p.flow.toNat,by omega,by omega,flowOf_get hp⟩
theorem nums_at {ns:List Int} (h:ns.length=8) {m:Nat} (hm:m < 8):∃ x,ns[m]? = some x ∧ ns.getD m 0=x:=by
 obtain ⟨x,hx,-⟩:=get_some ns m (by omega)
 exact ⟨x,hx,by simp [List.getD,hx]⟩
theorem rankKey (ps:List Pk) (ns:List Int) (gp gr:Nat) (pa:Option Addr) (pcap:Nat) (na:Option Addr) (ncap:Nat) (w:World) (k:Nat) (hcp:w.cell? ⟨gp,0,none⟩=some (.slice pa ps.length pcap)) (hcr:w.cell? ⟨gr,0,none⟩=some (.slice na ns.length ncap)) (hp:LiesP w pa ps) (hn:LiesN w na ns) (ho:OkPks ps) (h8:ns.length=8) (hk:k < ps.length) :
  Calls Tryz.prog 172 #[.int .i64 (k:Int),.pointer (some ⟨gr,0,none⟩),.pointer (some ⟨gp,0,none⟩)] w fun e w'=>e=.returned (.int .i64 (ofFlow ps ns k)) ∧ ∃ m,w'=w.drewN m:=by
 obtain ⟨p,hpk,-⟩:=get_some ps k hk
 obtain ⟨m,hm,hf,hfo⟩:=flow_at ho hpk
 obtain ⟨x,hx,hxd⟩:=nums_at h8 hm
 obtain ⟨b,off,rfl,-,hc⟩:=hp.place (by omega)
 obtain ⟨b2,off2,rfl,-,hc2⟩:=hn.place (by omega)
 have c1:w.cell? ⟨b,off+k * 3,none⟩=some (.int .i64 (m:Int)):=by rw [← hf];exact (hc k p hpk).1
 have c2:=hc2 m x hx
 have hE:ofFlow ps ns k=x:=by rw [ofFlow,hfo];exact hxd
 have hfew:=ho.few
 obtain ⟨n,hnn⟩:∃ n,ps.length=n:=⟨_,rfl⟩
 rw [hnn] at hcp hk hfew
 rw [h8] at hcr
 rw [hE]
 clear hp hn hc hc2 hpk hx ho h8 hE hxd hnn hfo hf
 go_enter Tryz.func172,Tryz.ntmps172
 go_wp2_with fail
 go_quiet (fail)
 go_wp2
 go_ret
 exact ⟨rfl,_,rfl⟩
theorem dueKey (ps:List Pk) (ns:List Int) (gp gr:Nat) (pa:Option Addr) (pcap:Nat) (na:Option Addr) (ncap:Nat) (w:World) (k:Nat) (hcp:w.cell? ⟨gp,0,none⟩=some (.slice pa ps.length pcap)) (hcr:w.cell? ⟨gr,0,none⟩=some (.slice na ns.length ncap)) (hp:LiesP w pa ps) (hn:LiesN w na ns) (ho:OkPks ps) (h8:NumsOk 0 1099511627776 ns) (hk:k < ps.length) :
  Calls Tryz.prog 174 #[.int .i64 (k:Int),.pointer (some ⟨gp,0,none⟩),.pointer (some ⟨gr,0,none⟩)] w fun e w'=>e=.returned (.int .i64 (tickOf ps k+ofFlow ps ns k)) ∧ ∃ m,w'=w.drewN m:=by
 obtain ⟨p,hpk,-⟩:=get_some ps k hk
 obtain ⟨m,hm,hf,hfo⟩:=flow_at ho hpk
 obtain ⟨x,hx,hxd⟩:=nums_at h8.len hm
 obtain ⟨b,off,rfl,-,hc⟩:=hp.place (by omega)
 obtain ⟨b2,off2,rfl,-,hc2⟩:=hn.place (by have:=h8.len;omega)
 have c1:w.cell? ⟨b,off+k * 3,none⟩=some (.int .i64 (m:Int)):=by rw [← hf];exact (hc k p hpk).1
 obtain ⟨t,ht⟩:∃ t,p.tick=t:=⟨_,rfl⟩
 have c3:w.cell? ⟨b,off+k * 3+2,none⟩=some (.int .i64 t):=by rw [← ht];exact (hc k p hpk).2.2
 have c2:=hc2 m x hx
 obtain ⟨t0,t1⟩:=(show 0 ≤ t ∧ t ≤ 1099511627776 by rw [← ht];have:=okPk_true (ho.each _ p hpk).1;omega)
 obtain ⟨x0,x1⟩:=h8.each m x hx
 have hE:tickOf ps k+ofFlow ps ns k=t+x:=by rw [ofFlow,hfo,hxd,tickOf_get hpk,ht]
 have hfew:=ho.few
 have hlen:=h8.len
 obtain ⟨n,hnn⟩:∃ n,ps.length=n:=⟨_,rfl⟩
 rw [hnn] at hcp hk hfew
 rw [hlen] at hcr
 rw [hE]
 have hw:IntKind.i64.wrap (t+x)=t+x:=IntWalk.i64_in _ (by omega)
 clear hp hn hc hc2 hpk hx ho h8 hE hxd hnn hfo hf hlen ht
 go_enter Tryz.func174,Tryz.ntmps174
 go_wp2_with fail
 go_quiet (fail)
 go_wp2
 go_ret
 exact ⟨rfl,_,rfl⟩
theorem liesN_of_own {w:World} {B:Nat} {v:Value} {zs:List Int} (h:w.ownsRow B 3 1 v zs.length (ints zs)):∃ a cap,v=.slice a zs.length cap ∧ zs.length ≤ cap ∧ cap ≤ maxLen ∧ LiesN w a zs ∧ (a=none → zs=[] ∧ cap=0):=by
 have hh:=h
 obtain ⟨h1,⟨rfl,h0⟩ | ⟨g,cap,cur,rfl,hB,hg,hn,hm,hc,ht⟩⟩:=h
 ·
  have e:zs=[]:=List.length_eq_zero_iff.1 h0
  exact ⟨none,0,by rw [h0],by omega,by simp [maxLen],.inl e,fun _=>⟨e,rfl⟩⟩
 ·
  refine ⟨_,cap,rfl,hn,hm,.inr ⟨g,0,rfl,lt_of_block hg,fun i x hx=>?_⟩,fun e=>by cases e⟩
  rw [Nat.zero_add,hh.cellAt i (by have:=(List.getElem?_eq_some_iff.1 hx).1;omega)]
  exact ints_get hx
structure CameAt (w:World) (g n next:Nat):Prop where
 cell:∀ i,i < n → w.cell? ⟨g,i,none⟩=some (.bool (decide (i < next)))
 frozen:∀ i,w.frozen? ⟨g,i,none⟩=false
 lt:g < w.heap.size
structure CredAt (w:World) (g:Nat) (cr:Nat → Int):Prop where
 cell:∀ f,f < 8 → w.cell? ⟨g,f,none⟩=some (.int .i64 (cr f))
 frozen:∀ i,w.frozen? ⟨g,i,none⟩=false
 lt:g < w.heap.size
theorem CameAt.of_block {w w':World} {g n k:Nat} (h:CameAt w g n k) (hb:w'.heap[g]? = w.heap[g]?) (hs:w.heap.size ≤ w'.heap.size):CameAt w' g n k:=
 ⟨fun i hi=>(World.cell?_of_block (a:=⟨g,i,none⟩) hb).trans (h.cell i hi),fun i=>(World.frozen?_of_block (a:=⟨g,i,none⟩) hb).trans (h.frozen i),Nat.lt_of_lt_of_le h.lt hs⟩
theorem CredAt.of_block {w w':World} {g:Nat} {cr:Nat → Int} (h:CredAt w g cr) (hb:w'.heap[g]? = w.heap[g]?) (hs:w.heap.size ≤ w'.heap.size):CredAt w' g cr:=
 ⟨fun i hi=>(World.cell?_of_block (a:=⟨g,i,none⟩) hb).trans (h.cell i hi),fun i=>(World.frozen?_of_block (a:=⟨g,i,none⟩) hb).trans (h.frozen i),Nat.lt_of_lt_of_le h.lt hs⟩
structure RoMem (w wr:World) (gd gc gk n:Nat) (v:Value) (out:List Sn) (next:Nat) (cr:Nat → Int) (rv:Value) (F:Nat → Prop) (row:List Nat):Prop where
 own:OwnS wr w.heap.size v out
 done:DoneAt wr gd n out
 came:CameAt wr gc n next
 cred:CredAt wr gk cr
 row:Slides wr w.heap.size rv F row
 ne:gd ≠ gc ∧ gd ≠ gk ∧ gc ≠ gk
 vne:v.ownBlock ≠ some gd ∧ v.ownBlock ≠ some gc ∧ v.ownBlock ≠ some gk
 fne:¬ F gd ∧ ¬ F gc ∧ ¬ F gk ∧ ∀ k,F k → v.ownBlock ≠ some k
 new:w.heap.size ≤ gd ∧ w.heap.size ≤ gc ∧ w.heap.size ≤ gk
 below:Below w.heap.size w wr
section
variable {w wr wr':World} {gd gc gk n:Nat} {v:Value} {out:List Sn} {next:Nat} {cr:Nat → Int} {rv:Value} {F:Nat → Prop} {row:List Nat}
theorem RoMem.later (h:RoMem w wr gd gc gk n v out next cr rv F row) (hb:Below wr.heap.size wr wr'):RoMem w wr' gd gc gk n v out next cr rv F row:=
 ⟨ownsRow_of_block h.own (fun g _ hg=>hb.block g hg),h.done.of_block (hb.block gd h.done.lt) hb.size,h.came.of_block (hb.block gc h.came.lt) hb.size,h.cred.of_block (hb.block gk h.cred.lt) hb.size,h.row.but (S:=fun _=>False) (.ofBelow hb) (fun _ _ h=>h),h.ne,h.vne,h.fne,h.new,h.below.trans (hb.mono h.below.size)⟩
theorem RoMem.alloc (h:RoMem w wr gd gc gk n v out next cr rv F row) (o:Obj):RoMem w (wr.alloc o) gd gc gk n v out next cr rv F row:=h.later ((Below.refl _ _).alloc (Nat.le_refl _) _)
end
end Go.Proofs.YtipdclphpkgceaaGreatDoor

namespace Go.Proofs.YtipdclphpkgceaaGreatDoor
open Go.Maps (Keyed)
open Go.WideElems (Fit)
def noFlow:Lit → Bool
 | .int .i64 x=>!(decide (0 ≤ x) && decide (x < 8))
 | _=>true
def flowAt:Lit → Nat
 | .int _ x=>x.toNat
 | _=>0
theorem noFlow_of {y:Lit} (h:noFlow y=false):∃ x:Nat,x < 8 ∧ y=.int .i64 (x:Int):=by
 cases y with
 | int q x=>
  cases q <;> simp only [noFlow] at h <;> try cases h
  have h1:0 ≤ x ∧ x < 8:=by simpa using h
  exact ⟨x.toNat,by omega,by rw [Int.toNat_of_nonneg h1.1]⟩
 | _=>cases h
theorem noFlow_not {x:Nat} (h:x < 8):noFlow (.int .i64 (x:Int))=false:=by simp [noFlow];omega
theorem few_below:∀ (n:Nat) (l:List Nat),l.Nodup → (∀ x,x ∈ l → x < n) → l.length ≤ n
 | 0,[],_,_=>Nat.le_refl _
 | 0,a :: l,_,h=>absurd (h a (List.mem_cons_self ..)) (Nat.not_lt_zero _)
 | n+1,l,hn,h=>by
  by_cases hm:n ∈ l
  ·
   have:=few_below n (l.erase n) (hn.erase n) (fun x hx=>by
    have h1:=hn.mem_erase_iff.1 hx
    have:=h x h1.2
    omega)
   rw [List.length_erase_of_mem hm] at this
   omega
  ·
   have:=few_below n l hn (fun x hx=>by
    have h1:=h x hx
    have:x ≠ n:=fun e=>hm (by rw [← e];exact hx)
    omega)
   omega
theorem keys_few {H:Type} {es:List (Lit × DataW H)} (h1:es.Pairwise fun p q=>p.1 ≠ q.1) (h2:es.any (fun p=>noFlow p.1)=false):es.length ≤ 8:=by
 have h3:∀ p,p ∈ es → ∃ x:Nat,x < 8 ∧ p.1=.int .i64 (x:Int):=fun p hp=>noFlow_of (by simpa using List.any_eq_false.1 h2 p hp)
 have hn:(es.map fun p=>flowAt p.1).Nodup:=by
  refine List.pairwise_map.2 (List.pairwise_iff_getElem.2 fun i j hi hj hij e=>List.pairwise_iff_getElem.1 h1 i j hi hj hij ?_)
  obtain ⟨x,-,hx⟩:=h3 _ (List.getElem_mem hi)
  obtain ⟨y,-,hy⟩:=h3 _ (List.getElem_mem hj)
  rw [hx,hy] at e ⊢
  have:x=y:=by simpa [flowAt] using e
  rw [this]
 have:=few_below 8 _ hn (fun a ha=>by
  obtain ⟨p,hp,rfl⟩:=List.mem_map.1 ha
  obtain ⟨x,hx,e⟩:=h3 p hp
  rw [e]
  simpa [flowAt] using hx)
 simpa using this
def Tells (P:Program) (k e:TypeId) (w:World) (b:Nat) (f:Nat → Int):Prop:=
 ∃ es:List (Lit × DataW Unit),w.ownsMap P k (plainElem P e) b 8 (.map es) ∧ es.any (fun p=>noFlow p.1)=false ∧ ∀ x:Nat,(DataW.map es).atKey (.int .i64 (x:Int)) (.lit (.int .i64 0))=.lit (.int .i64 (f x))
section
variable {P:Program} {k e t:TypeId} {w w':World} {b:Nat} {f:Nat → Int}
theorem tells_made (w:World) (P:Program) (k e:TypeId):Tells P k e (w.alloc (.map #[] 0)) w.heap.size fun _=>0:=
 ⟨[],(World.ownsMap_made w P k _).mono (Nat.zero_le _),rfl,fun _=>rfl⟩
theorem Tells.lt (h:Tells P k e w b f):b < w.heap.size:=by
 obtain ⟨D,h1,-,-⟩:=h
 exact h1.lt
theorem Tells.but {S:Nat → Prop} (h:Tells P k e w b f) (hb:But S w w') (hs:¬ S b):Tells P k e w' b f:=by
 have hlt:=h.lt
 obtain ⟨D,⟨es,clock,g1,g2,g3,g4⟩,h2,h3⟩:=h
 exact ⟨D,⟨es,clock,(hb.block b hlt hs).trans g1,g2,g3,g4⟩,h2,h3⟩
theorem Tells.look (h:Tells P k e w b f) (K:Keyed P k) (ht:P.underlying t=some (.map k e)) (he:P.underlying e=some (.int .i64)) (hz:(zeroValue e).run P w=.ok (.int .i64 0) w) {x:Nat} (hkey:keyOf P k (.int .i64 (x:Int))=some (.int .i64 (x:Int))) :
  (Instr.lookup t (.map (some b)) (.int .i64 (x:Int)) false).run P w=.ok (.int .i64 (f x)) w:=by
 obtain ⟨es,h1,h2,h3⟩:=h
 obtain ⟨c,hrun,hat,-⟩:=h1.lookup_int K ht he hz hkey
 rw [h3 x] at hat
 injection hat with hat
 injection hat with _ hat
 rw [hrun,hat]
theorem Tells.store (h:Tells P k e w b f) (K:Keyed P k) (ht:P.underlying t=some (.map k e)) (he:P.underlying e=some (.int .i64)) {x:Nat} (hx8:x < 8) (hkey:keyOf P k (.int .i64 (x:Int))=some (.int .i64 (x:Int))) {v:Int} (hv:(Lit.int .i64 v).wf=true) :
  ∃ w',(Instr.mapUpdate t (.map (some b)) (.int .i64 (x:Int)) (.int .i64 v)).run P w=.ok () w' ∧ Tells P k e w' b (put1 f x v) ∧ w.grownBy w' (some b):=by
 obtain ⟨es,h1,h2,h3⟩:=h
 obtain ⟨w',hrun,g1,g2⟩:=h1.update K ht (by decide) hkey (plainElem_int he hv)
 have e1:(DataW.map es).put (.int .i64 (x:Int)) (.lit (.int .i64 v))=.map (DataW.insert (.int .i64 (x:Int),.lit (.int .i64 v)) (es.filter fun p=>!p.1.sameKey (.int .i64 (x:Int)))):=rfl
 have hk:(DataW.insert (.int .i64 (x:Int),.lit (.int .i64 v)) (es.filter fun p=>!p.1.sameKey (.int .i64 (x:Int)))).any (fun p=>noFlow p.1)=false:=by
  rw [Maps.any_insert,noFlow_not hx8,Bool.false_or]
  exact List.any_eq_false.2 fun p hp=>List.any_eq_false.1 h2 p (List.mem_filter.1 hp).1
 have ht2:=g1.tidy K
 rw [e1] at g1 ht2
 refine ⟨w',hrun,⟨_,?_,hk,fun y=>?_⟩,g2⟩
 ·
  obtain ⟨es',he',hp⟩:=ht2
  injection he' with he'
  rw [← he'] at hp
  have hl:=keys_few hp hk
  obtain ⟨ms,clock,k1,k2,k3,k4⟩:=g1
  refine ⟨ms,clock,k1,k2,?_,k4⟩
  injection k4 with k4
  rw [k4,length_sorted] at hl
  simpa using hl
 ·
  rw [← e1]
  by_cases hy:y=x
  ·
   subst hy
   rw [put1_same]
   exact Maps.atKey_put_same (k:=.int .i64 (y:Int)) ⟨es,rfl⟩ trivial _ _
  ·
   rw [put1_other _ _ hy,Maps.atKey_put_other (fun e=>hy (by injection e with _ e;omega))]
   exact h3 y
theorem Tells.cleared (h:Tells P k e w b f) (ht:P.underlying t=some (.map k e)) (ty:TypeId) :
  ∃ w',(Builtin.clear_ #[t] ty #[.map (some b)]).run P w=.ok (.tuple #[]) w' ∧ Tells P k e w' b (fun _=>0) ∧ w.grownBy w' (some b):=by
 obtain ⟨D,⟨es,clock,g1,g2,g3,g4⟩,h2,h3⟩:=h
 refine ⟨ChangeMaps.setBlock w b (.map #[] clock),?_,⟨[],⟨#[],clock,ChangeMaps.heap_setBlock_same g1 _,⟨by simp,MapKept.stamped_empty _,by simp⟩,Nat.zero_le _,rfl⟩,rfl,fun _=>rfl⟩,⟨rfl,rfl,rfl,by simp [ChangeMaps.setBlock],fun i _ hi=>ChangeMaps.heap_setBlock_other g1 _ (fun e=>hi (by rw [e]))⟩⟩
 simp [Builtin.clear_,run_underlying ht,MapKept.run_getObj_map g1,MapKept.run_setObj_map _ g1,Result.andThen,ChangeMaps.setBlock]
end
end Go.Proofs.YtipdclphpkgceaaGreatDoor

namespace Go.Proofs.YtipdclphpkgceaaGreatDoor
structure Rb where
 burst:Int
 rate:Int
 has:Int
 tick:Int
 last:Int
end Go.Proofs.YtipdclphpkgceaaGreatDoor

namespace Go.Proofs.YtipdclphpkgceaaGreatDoor
open Go.RowKit
structure RbAt (w:World) (g:Nat) (m:Rb):Prop where
 c0:w.cell? ⟨g,0,none⟩=some (.int .i64 m.burst)
 c1:w.cell? ⟨g,1,none⟩=some (.int .i64 m.rate)
 c2:w.cell? ⟨g,2,none⟩=some (.int .i64 m.has)
 c3:w.cell? ⟨g,3,none⟩=some (.int .i64 m.tick)
 c4:w.cell? ⟨g,4,none⟩=some (.int .i64 m.last)
 f2:w.frozen? ⟨g,2,none⟩=false
 f3:w.frozen? ⟨g,3,none⟩=false
 f4:w.frozen? ⟨g,4,none⟩=false
theorem RbAt.lt {w:World} {g:Nat} {m:Rb} (h:RbAt w g m):g < w.heap.size:=cell_lt h.c0
theorem RbAt.but {S:Nat → Prop} {w w':World} {g:Nat} {m:Rb} (h:RbAt w g m) (hb:But S w w') (hs:¬ S g):RbAt w' g m:=
 have l:=h.lt
 ⟨by rw [hb.cell (p:=⟨g,0,none⟩) l hs];exact h.c0,by rw [hb.cell (p:=⟨g,1,none⟩) l hs];exact h.c1,by rw [hb.cell (p:=⟨g,2,none⟩) l hs];exact h.c2,by rw [hb.cell (p:=⟨g,3,none⟩) l hs];exact h.c3,by rw [hb.cell (p:=⟨g,4,none⟩) l hs];exact h.c4,
  by rw [hb.frozen (p:=⟨g,2,none⟩) l hs];exact h.f2,by rw [hb.frozen (p:=⟨g,3,none⟩) l hs];exact h.f3,by rw [hb.frozen (p:=⟨g,4,none⟩) l hs];exact h.f4⟩
theorem RbAt.below {w w':World} {g:Nat} {m:Rb} (h:RbAt w g m) (hb:Below w.heap.size w w'):RbAt w' g m:=h.but (S:=fun _=>False) (.ofBelow hb) id
theorem ownsRow_but {S:Nat → Prop} {w w':World} {base:Nat} {e:TypeId} {size:Nat} {v:Value} {n:Nat} {xs:List Value} (h:w.ownsRow base e size v n xs) (hb:But S w w') (hs:∀ k,v.ownBlock=some k → ¬ S k):w'.ownsRow base e size v n xs:=by
 have hlt:=World.ownsRow.lt h
 obtain ⟨h1,h2 | ⟨g,cap,cur,rfl,hB,hg,r⟩⟩:=h
 · exact ⟨h1,.inl h2⟩
 · exact ⟨h1,.inr ⟨g,cap,cur,rfl,hB,by rw [hb.block g (hlt g rfl).2 (hs g rfl)];exact hg,r⟩⟩
def ptrs (hs:List Nat):List Value:=hs.map fun h=>.pointer (some ⟨h,0,none⟩)
structure RsAt (w wr:World) (v:Value) (hs:List Nat) (ms:List Rb):Prop where
 len:hs.length=ms.length
 own:wr.ownsRow w.heap.size 130 1 v hs.length (ptrs hs)
 rb:∀ (i:Nat) h m,hs[i]? = some h → ms[i]? = some m → RbAt wr h m
 new:∀ h,h ∈ hs → w.heap.size ≤ h ∧ v.ownBlock ≠ some h
 one:∀ (i j:Nat) h,hs[i]? = some h → hs[j]? = some h → i=j
theorem RsAt.but {S:Nat → Prop} {w wr w':World} {v:Value} {hs:List Nat} {ms:List Rb} (h:RsAt w wr v hs ms) (hb:But S wr w') (hv:∀ k,v.ownBlock=some k → ¬ S k) (hh:∀ q,q ∈ hs → ¬ S q):RsAt w w' v hs ms:=
 ⟨h.len,ownsRow_but h.own hb hv,fun i q m hi hm=>(h.rb i q m hi hm).but hb (hh q (List.mem_of_getElem? hi)),h.new,h.one⟩
theorem RsAt.below {w wr w':World} {v:Value} {hs:List Nat} {ms:List Rb} (h:RsAt w wr v hs ms) (hb:Below wr.heap.size wr w'):RsAt w w' v hs ms:=
 h.but (S:=fun _=>False) (.ofBelow hb) (fun _ _=>id) (fun _ _=>id)
structure LocAt (w:World) (C:Nat) (x y z:Int):Prop where
 c0:w.cell? ⟨C,0,none⟩=some (.int .i64 x)
 c1:w.cell? ⟨C,1,none⟩=some (.int .i64 y)
 c2:w.cell? ⟨C,2,none⟩=some (.int .i64 z)
 f2:w.frozen? ⟨C,2,none⟩=false
theorem LocAt.but {S:Nat → Prop} {w w':World} {C:Nat} {x y z:Int} (h:LocAt w C x y z) (hb:But S w w') (hs:¬ S C):LocAt w' C x y z:=
 have l:=cell_lt h.c0
 ⟨by rw [hb.cell (p:=⟨C,0,none⟩) l hs];exact h.c0,by rw [hb.cell (p:=⟨C,1,none⟩) l hs];exact h.c1,by rw [hb.cell (p:=⟨C,2,none⟩) l hs];exact h.c2,by rw [hb.frozen (p:=⟨C,2,none⟩) l hs];exact h.f2⟩
theorem LocAt.below {w w':World} {C:Nat} {x y z:Int} (h:LocAt w C x y z) (hb:Below w.heap.size w w'):LocAt w' C x y z:=h.but (S:=fun _=>False) (.ofBelow hb) id
theorem check_is (a:Option Addr) (cap:Nat) (ls:List (Int × Int)) (w:World) (ad:Nat → Addr) (he:Errs9 w ad) (hl:Lies w a ls) (hcap:ls.length ≤ cap) (hm:cap ≤ maxLen) (c p:Int) (h:FaultIs ls c p) :
  Calls Tryz.prog 89 #[.slice a ls.length cap] w fun e w'=>∃ E,e=.returned E ∧ ErrIs w' E c p ∧ Below w.heap.size w w':=by
 rcases h with ⟨h,rfl,rfl⟩ | ⟨h1,h6,j,hj,h2,h3,rfl,rfl⟩ | ⟨h,rfl,rfl⟩
 ·
  refine (check_shape a ls.length cap w _ he.c2 (Nat.le_trans hcap hm) h).mono ?_
  rintro e w' ⟨rfl,rfl⟩
  exact ⟨_,rfl,errIs_sent he 2 (by decide),Below.refl _ _⟩
 ·
  refine (check_bad a cap ls w (ad 1) he.c1 hl h1 h6 j hj h2 h3).mono ?_
  rintro e w' ⟨hb,B,rfl,hB1,hB2,hc0,hc1⟩
  exact ⟨_,rfl,⟨codeIs_fault (he.below hb) 1 (by decide) j B hc0 hc1,fun h=>by omega,fun _=>⟨_,_,rfl⟩⟩,hb⟩
 ·
  refine (check_ok a cap ls w hl h).mono ?_
  rintro e w' ⟨rfl,hb⟩
  exact ⟨_,rfl,errIs_nil _,hb⟩
theorem at_fault (a:Option Addr) (cap:Nat) (ls:List (Int × Int)) (t:Int) (w:World) (ad:Nat → Addr) (he:Errs9 w ad) (hl:Lies w a ls) (hcap:ls.length ≤ cap) (hm:cap ≤ maxLen) (c p:Int) (h:FaultIs ls c p) (hc:c ≠ 0) :
  Calls Tryz.prog 106 #[.slice a ls.length cap,.int .i64 t] w fun e w'=>∃ ty v,e=.returned (.tuple #[.int .i64 0,.iface ty v]) ∧ ErrIs w' (.iface ty v) c p ∧ Below w.heap.size w w':=by
 refine at_err (R:=fun ty v w'=>ErrIs w' (.iface ty v) c p ∧ Below w.heap.size w w') a ls.length cap t w ((check_is a cap ls w ad he hl hcap hm c p h).mono ?_)
 rintro e w' ⟨E,rfl,hE,hb⟩
 obtain ⟨ty,v,rfl⟩:=hE.some_ hc
 exact ⟨ty,v,rfl,hE,hb⟩
theorem Errs9.four {w:World} {ad:Nat → Addr} (h:Errs9 w ad):Errs4 w ad:=⟨h.c1,h.c2,h.c3,h.c4⟩
structure Ac where
 kind:ByteArray
 tick:Int
 size:Int
def LiesA (w:World) (a:Option Addr) (q:List Ac):Prop:=
 q=[] ∨ ∃ b off,a=some ⟨b,off,none⟩ ∧ b < w.heap.size ∧ ∀ (i:Nat) p,q[i]? = some p → w.cell? ⟨b,off+i * 3,none⟩=some (.string p.kind) ∧ w.cell? ⟨b,off+i * 3+1,none⟩=some (.int .i64 p.tick) ∧ w.cell? ⟨b,off+i * 3+2,none⟩=some (.int .i64 p.size)
theorem LiesA.below {w w':World} {a:Option Addr} {q:List Ac} (h:LiesA w a q) (hb:Below w.heap.size w w'):LiesA w' a q:=by
 rcases h with rfl | ⟨b,off,rfl,hlt,hc⟩
 · exact .inl rfl
 ·
  refine .inr ⟨b,off,rfl,Nat.lt_of_lt_of_le hlt hb.size,fun i p hi=>?_⟩
  have:=hc i p hi
  exact ⟨cell_later hb this.1,cell_later hb this.2.1,cell_later hb this.2.2⟩
theorem never_one {ls:List (Int × Int)} {ps:List Pk} {j j':Nat} {q q':Pk} {s s':Sh} (h1:ps[j]? = some q) (h2:shape ls (ps.take j)=some s) (h3:shStep s q=none) (h1':ps[j']? = some q') (h2':shape ls (ps.take j')=some s') (h3':shStep s' q'=none):j=j':=by
 have key:∀ (a b:Nat) (p:Pk) (u v:Sh),a < b → ps[a]? = some p → shape ls (ps.take a)=some u → shStep u p=none → shape ls (ps.take b)=some v → False:=fun a b p u v hab e1 e2 e3 e4=>by
  have:=shape_stuck (ls:=ls) (ps:=ps.take b) (j:=a) (p:=p) (s:=u) (by rw [List.getElem?_take_of_lt hab];exact e1) (by rw [List.take_take,Nat.min_eq_left (by omega)];exact e2) e3
  rw [this] at e4;cases e4
 rcases Nat.lt_trichotomy j j' with h | h | h
 · exact (key j j' q s s' h h1 h2 h3 h2').elim
 · exact h
 · exact (key j' j q' s' s h h1' h2' h3' h2).elim
end Go.Proofs.YtipdclphpkgceaaGreatDoor
