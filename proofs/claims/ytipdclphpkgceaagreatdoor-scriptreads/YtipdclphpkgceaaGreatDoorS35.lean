/- Own facts, put together: no statement of its own. -/
import Derived.Test.YtipdclphpkgceaaGreatDoorS34
import Derived.Test.YtipdclphpkgceaaGreatDoorS18
import Derived.Test.YtipdclphpkgceaaGreatDoorS33
import Derived.Test.YtipdclphpkgceaaGreatDoorS13
import Derived.Test.YtipdclphpkgceaaGreatDoorS17
import Derived.Test.YtipdclphpkgceaaGreatDoorS24
import Derived.Deep.RegionHeld3
import Derived.Deep.LoopGhost
set_option maxHeartbeats 4000000
set_option maxRecDepth 100000

namespace Go.Proofs.YtipdclphpkgceaaGreatDoor
open Go.RowKit
theorem fairCheck_ok (a:Option Addr) (cap:Nat) (ps:List Pk) (per:Int) (na:Option Addr) (ncap:Nat) (ws:List Int) (w:World) (hl:LiesP w a ps) (hn:LiesN w na ws) (ho:OkPks ps) (h1:1 ≤ per) (h2:per ≤ 1000) (hk:WtsAll ws) :
  Calls Tryz.prog 178 #[.slice a ps.length cap,.int .i64 per,.slice na ws.length ncap] w fun e w'=>e=.returned .nilIface ∧ Below w.heap.size w w':=by
 have HCheck:Hid (Calls Tryz.prog 168 #[.slice a ps.length cap,.int .i64 per] w fun e w'=>e=.returned .nilIface ∧ Below w.heap.size w w'):=linkCheck_ok a cap ps per w hl ho h1 h2
 have HUp:Hid (∀ W,Below w.heap.size w W → Calls Tryz.prog 175 #[.slice na ws.length ncap,.func (.func 207) #[] #[]] W fun e w'=>e=.returned .nilIface ∧ w'=W):=fun W hb=>checkWeights_ok na ncap ws W (hn.below hb) hk
 clear hl hn ho hk
 generalize ps.length=n at *
 generalize ws.length=m at *
 go_enter Tryz.func178,Tryz.ntmps178
 go_wp2_with fail
 refine HCheck.out.mono ?_
 rintro e w1 ⟨rfl,hb⟩
 have HB1:Hid (Below w.heap.size w w1):=hb
 clear hb
 go_wp2_with fail
 refine (HUp.out _ HB1.out).mono ?_
 rintro e w2 ⟨rfl,rfl⟩
 go_wp2_with fail
 go_ret
 exact ⟨rfl,HB1.out⟩
theorem fairCheck_err1 {R:TypeId → Value → World → Prop} (a:Option Addr) (n cap:Nat) (per:Int) (na:Option Addr) (m ncap:Nat) (w:World) (h:Calls Tryz.prog 168 #[.slice a n cap,.int .i64 per] w fun e w'=>∃ ty v,e=.returned (.iface ty v) ∧ R ty v w') :
  Calls Tryz.prog 178 #[.slice a n cap,.int .i64 per,.slice na m ncap] w fun e w'=>∃ ty v,e=.returned (.iface ty v) ∧ R ty v w':=by
 have HC:Hid (Calls Tryz.prog 168 #[.slice a n cap,.int .i64 per] w fun e w'=>∃ ty v,e=.returned (.iface ty v) ∧ R ty v w'):=h
 clear h
 go_enter Tryz.func178,Tryz.ntmps178
 go_wp2_with fail
 refine HC.out.mono ?_
 rintro e w1 ⟨ty,v,rfl,hR⟩
 have HR:Hid (R ty v w1):=hR
 clear hR
 go_wp2_with fail
 go_ret
 exact ⟨ty,v,rfl,HR.out⟩
theorem fairCheck_err2 {R:TypeId → Value → World → Prop} (a:Option Addr) (n cap:Nat) (per:Int) (na:Option Addr) (m ncap:Nat) (w:World) (h:Calls Tryz.prog 168 #[.slice a n cap,.int .i64 per] w fun e w'=>e=.returned .nilIface ∧ Below w.heap.size w w')
  (h2:∀ W,Below w.heap.size w W → Calls Tryz.prog 175 #[.slice na m ncap,.func (.func 207) #[] #[]] W fun e w'=>∃ ty v,e=.returned (.iface ty v) ∧ R ty v w') :
  Calls Tryz.prog 178 #[.slice a n cap,.int .i64 per,.slice na m ncap] w fun e w'=>∃ ty v,e=.returned (.iface ty v) ∧ R ty v w':=by
 have HC:Hid (Calls Tryz.prog 168 #[.slice a n cap,.int .i64 per] w fun e w'=>e=.returned .nilIface ∧ Below w.heap.size w w'):=h
 have HU:Hid (∀ W,Below w.heap.size w W → Calls Tryz.prog 175 #[.slice na m ncap,.func (.func 207) #[] #[]] W fun e w'=>∃ ty v,e=.returned (.iface ty v) ∧ R ty v w'):=h2
 clear h h2
 go_enter Tryz.func178,Tryz.ntmps178
 go_wp2_with fail
 refine HC.out.mono ?_
 rintro e w1 ⟨rfl,hb⟩
 have HB:Hid (Below w.heap.size w w1):=hb
 clear hb
 go_wp2_with fail
 refine (HU.out _ HB.out).mono ?_
 rintro e w2 ⟨ty,v,rfl,hR⟩
 have HR:Hid (R ty v w2):=hR
 clear hR
 go_wp2_with fail
 go_ret
 exact ⟨ty,v,rfl,HR.out⟩
theorem fairSend_from (a:Option Addr) (cap:Nat) (ps:List Pk) (per:Int) (na:Option Addr) (ncap:Nat) (ws:List Int) (w:World) (hl:LiesP w a ps) (hn:LiesN w na ws) (ho:OkPks ps) (h1:1 ≤ per) (h2:per ≤ 1000) (hk:WtsAll ws) (W W3 W4:World) (g gt gm:Nat) (D:Nat → Prop) (hb:Below w.heap.size w W) (h0:HeldW W.heap.size W g gt gm ps.length (.slice a ps.length cap) (.slice na ws.length ncap) W3 D fair0) (hb3:Below W.heap.size W W3) (hb4:Below W3.heap.size W3 W4) :
  Calls Tryz.prog 169 #[.slice a ps.length cap,.int .i64 per,.iface 266 (ruleW g)] W4 fun e w'=>∃ v,e=.returned v ∧ SentTags per ps ws w.heap.size g gt w v w':=by
 have hlW:=hl.below hb
 have hnW:=hn.below hb
 have hs3:W.heap.size ≤ W3.heap.size:=hb3.size
 refine (fairSend_ok a cap ps per na ncap ws W.heap.size W g gt gm D W4 ⟨hlW,hnW,hlW.at_lt,fun ad had=>?_,ho,hk⟩ h1 h2 (h0.later hb4)).mono ?_
 ·
  obtain ⟨b,off,e,hlt,-⟩:=hnW.place (by rw [hk.len];omega)
  rw [e] at had
  cases had
  exact hlt
 ·
  rintro e w' ⟨v,rfl,l,f,g1,g2,g3,g4,g5⟩
  have hbb:Below w.heap.size w W4:=(hb.trans (hb3.mono hb.size)).trans (hb4.mono (Nat.le_trans hb.size hs3))
  exact ⟨v,rfl,l,f,ownsRow_mono g1 hbb.size,g2,hbb.trans (g3.mono hb.size),g4,g5⟩
theorem fairRun_ok (a:Option Addr) (cap:Nat) (ps:List Pk) (per:Int) (na:Option Addr) (ncap:Nat) (ws:List Int) (w:World) (hl:LiesP w a ps) (hn:LiesN w na ws) (ho:OkPks ps) (h1:1 ≤ per) (h2:per ≤ 1000) (hk:WtsAll ws) :
  Calls Tryz.prog 147 #[.slice a ps.length cap,.int .i64 per,.slice na ws.length ncap] w fun e w'=>∃ v,e=.returned (.tuple #[v,.nilIface]) ∧ ∃ g gt,SentTags per ps ws w.heap.size g gt w v w':=by
 have HCheck:Hid (Calls Tryz.prog 178 #[.slice a ps.length cap,.int .i64 per,.slice na ws.length ncap] w fun e w'=>e=.returned .nilIface ∧ Below w.heap.size w w'):=fairCheck_ok a cap ps per na ncap ws w hl hn ho h1 h2 hk
 have HNew:Hid (∀ W,Calls Tryz.prog 179 #[.slice a ps.length cap,.slice na ws.length ncap] W fun e w'=>∃ g gt gm,e=.returned (.pointer (some ⟨g,0,none⟩)) ∧ HeldW W.heap.size W g gt gm ps.length (.slice a ps.length cap) (.slice na ws.length ncap) w' (fairFoot g gt gm (.slice none 0 0)) fair0 ∧ Below W.heap.size W w'):=fun W=>newTags_any a ps.length cap na ws.length ncap W (by have:=ho.few;omega)
 have HSend:Hid (∀ W W3 W4 g gt gm D,Below w.heap.size w W → HeldW W.heap.size W g gt gm ps.length (.slice a ps.length cap) (.slice na ws.length ncap) W3 D fair0 → Below W.heap.size W W3 → Below W3.heap.size W3 W4 →
   Calls Tryz.prog 169 #[.slice a ps.length cap,.int .i64 per,.iface 266 (ruleW g)] W4 fun e w'=>∃ v,e=.returned v ∧ SentTags per ps ws w.heap.size g gt w v w'):=fun W W3 W4 g gt gm D hb h0 hb3 hb4=>fairSend_from a cap ps per na ncap ws w hl hn ho h1 h2 hk W W3 W4 g gt gm D hb h0 hb3 hb4
 clear hl hn ho hk
 generalize hpl:ps.length=n at *
 generalize hnl:ws.length=m at *
 clear hpl hnl
 go_enter Tryz.func147,Tryz.ntmps147
 go_wp2_with fail
 refine HCheck.out.mono ?_
 rintro e w1 ⟨rfl,hb⟩
 have HB1:Hid (Below w.heap.size w w1):=hb
 clear hb
 go_wp2_with fail
 refine (HNew.out _).mono ?_
 rintro e w3 ⟨g,gt,gm,rfl,hh,hb3⟩
 have HS:Hid (∀ W4,Below w3.heap.size w3 W4 → Calls Tryz.prog 169 #[.slice a n cap,.int .i64 per,.iface 266 (ruleW g)] W4 fun e w'=>∃ v,e=.returned v ∧ SentTags per ps ws w.heap.size g gt w v w'):=fun W4 hb4=>HSend.out w1 w3 W4 g gt gm _ HB1.out hh hb3 hb4
 clear hh hb3
 go_wp2_with fail
 refine (fairQueue_any g _).mono ?_
 rintro e w4 ⟨rfl,hb4⟩
 have HC4:=HS.out w4 hb4
 have HS4:Hid (Calls Tryz.prog 169 #[.slice a n cap,.int .i64 per,.iface 266 (ruleW g)] w4 fun e w'=>∃ v,e=.returned v ∧ SentTags per ps ws w.heap.size g gt w v w'):=HC4
 clear HC4 hb4
 go_wp2_with fail
 refine HS4.out.mono ?_
 rintro e w5 ⟨v,rfl,hs⟩
 have HE:Hid (SentTags per ps ws w.heap.size g gt w v w5):=hs
 clear hs
 go_wp2_with fail
 go_ret2
 exact ⟨v,rfl,g,gt,HE.out⟩
theorem fairRun_err {R:TypeId → Value → World → Prop} (a:Option Addr) (n cap:Nat) (per:Int) (na:Option Addr) (m ncap:Nat) (w:World) (h:Calls Tryz.prog 178 #[.slice a n cap,.int .i64 per,.slice na m ncap] w fun e w'=>∃ ty v,e=.returned (.iface ty v) ∧ R ty v w') :
  Calls Tryz.prog 147 #[.slice a n cap,.int .i64 per,.slice na m ncap] w fun e w'=>∃ ty v,e=.returned (.tuple #[.slice none 0 0,.iface ty v]) ∧ R ty v w':=by
 have HC:Hid (Calls Tryz.prog 178 #[.slice a n cap,.int .i64 per,.slice na m ncap] w fun e w'=>∃ ty v,e=.returned (.iface ty v) ∧ R ty v w'):=h
 clear h
 go_enter Tryz.func147,Tryz.ntmps147
 go_wp2_with fail
 refine HC.out.mono ?_
 rintro e w1 ⟨ty,v,rfl,hR⟩
 have HR:Hid (R ty v w1):=hR
 clear hR
 go_wp2_with fail
 go_ret2
 exact ⟨ty,v,rfl,HR.out⟩
theorem rankRun_isL (a:Option Addr) (cap:Nat) (ps:List Pk) (per:Int) (na:Option Addr) (nn ncap:Nat) (w:World) (ad:Nat → Addr) (he:Errs9 w ad) (hl:LiesP w a ps) (hcap:ps.length ≤ cap) (hm:cap ≤ maxLen) (c p:Int) (h:LinkFaultIs ps per c p) (hc:0 < c) :
  Calls Tryz.prog 144 #[.slice a ps.length cap,.int .i64 per,.slice na nn ncap] w fun e w'=>∃ ty v,e=.returned (.tuple #[.slice none 0 0,.iface ty v]) ∧ (ErrIs w' (.iface ty v) c p ∧ Below w.heap.size w w'):=by
 refine rankRun_err1 (R:=fun ty v w'=>ErrIs w' (.iface ty v) c p ∧ Below w.heap.size w w') a _ cap per na _ ncap w (fun W hB=>(linkCheck_is a cap ps per c p W ad (he.below hB.below) (hl.below hB.below) hcap hm h hc).mono ?_)
 rintro e w' ⟨ty,v,rfl,hE,hb⟩
 exact ⟨ty,v,rfl,hE,hB.below.trans (hb.mono hB.below.size)⟩
theorem rankRun_isN (a:Option Addr) (cap:Nat) (ps:List Pk) (per:Int) (na:Option Addr) (ncap:Nat) (ns:List Int) (w:World) (ad:Nat → Addr) (he:Errs9 w ad) (hl:LiesP w a ps) (hn:LiesN w na ns) (ho:OkPks ps) (h1:1 ≤ per) (h2:per ≤ 1000) (c:Nat) (h:NumsFault 0 100 ns c) (hc:0 < c) :
  Calls Tryz.prog 144 #[.slice a ps.length cap,.int .i64 per,.slice na ns.length ncap] w fun e w'=>∃ ty v,e=.returned (.tuple #[.slice none 0 0,.iface ty v]) ∧ (ErrIs w' (.iface ty v) c (-1) ∧ Below w.heap.size w w'):=by
 refine rankRun_err2 (R:=fun ty v w'=>ErrIs w' (.iface ty v) c (-1) ∧ Below w.heap.size w w') a _ cap per na _ ncap w (fun W hB=>linkCheck_ok a cap ps per W (hl.below hB.below) ho h1 h2) (fun W hB=>(checkUpTo_bad na ncap ns 100 W ad (he.below hB.below).nums (hn.below hB.below) c h hc).mono ?_)
 rintro e w' ⟨rfl,hb⟩
 have hb':=hB.below.trans (hb.mono hB.below.size)
 obtain ⟨ty,v,e1,e2⟩:=errIs_nums (he.below hb') h hc
 exact ⟨ty,v,by rw [e1],e2,hb'⟩
theorem rankDue_isL (a:Option Addr) (cap:Nat) (ps:List Pk) (per:Int) (na:Option Addr) (nn ncap:Nat) (w:World) (ad:Nat → Addr) (he:Errs9 w ad) (hl:LiesP w a ps) (hcap:ps.length ≤ cap) (hm:cap ≤ maxLen) (c p:Int) (h:LinkFaultIs ps per c p) (hc:0 < c) :
  Calls Tryz.prog 145 #[.slice a ps.length cap,.int .i64 per,.slice na nn ncap] w fun e w'=>∃ ty v,e=.returned (.tuple #[.slice none 0 0,.iface ty v]) ∧ (ErrIs w' (.iface ty v) c p ∧ Below w.heap.size w w'):=by
 refine rankDue_err1 (R:=fun ty v w'=>ErrIs w' (.iface ty v) c p ∧ Below w.heap.size w w') a _ cap per na _ ncap w (fun W hB=>(linkCheck_is a cap ps per c p W ad (he.below hB.below) (hl.below hB.below) hcap hm h hc).mono ?_)
 rintro e w' ⟨ty,v,rfl,hE,hb⟩
 exact ⟨ty,v,rfl,hE,hB.below.trans (hb.mono hB.below.size)⟩
theorem rankDue_isN (a:Option Addr) (cap:Nat) (ps:List Pk) (per:Int) (na:Option Addr) (ncap:Nat) (ns:List Int) (w:World) (ad:Nat → Addr) (he:Errs9 w ad) (hl:LiesP w a ps) (hn:LiesN w na ns) (ho:OkPks ps) (h1:1 ≤ per) (h2:per ≤ 1000) (c:Nat) (h:NumsFault 0 1099511627776 ns c) (hc:0 < c) :
  Calls Tryz.prog 145 #[.slice a ps.length cap,.int .i64 per,.slice na ns.length ncap] w fun e w'=>∃ ty v,e=.returned (.tuple #[.slice none 0 0,.iface ty v]) ∧ (ErrIs w' (.iface ty v) c (-1) ∧ Below w.heap.size w w'):=by
 refine rankDue_err2 (R:=fun ty v w'=>ErrIs w' (.iface ty v) c (-1) ∧ Below w.heap.size w w') a _ cap per na _ ncap w (fun W hB=>linkCheck_ok a cap ps per W (hl.below hB.below) ho h1 h2) (fun W hB=>(checkUpTo_bad na ncap ns 1099511627776 W ad (he.below hB.below).nums (hn.below hB.below) c h hc).mono ?_)
 rintro e w' ⟨rfl,hb⟩
 have hb':=hB.below.trans (hb.mono hB.below.size)
 obtain ⟨ty,v,e1,e2⟩:=errIs_nums (he.below hb') h hc
 exact ⟨ty,v,by rw [e1],e2,hb'⟩
theorem roundRun_isL (a:Option Addr) (cap:Nat) (ps:List Pk) (per:Int) (na:Option Addr) (nn ncap:Nat) (w:World) (ad:Nat → Addr) (he:Errs9 w ad) (hl:LiesP w a ps) (hcap:ps.length ≤ cap) (hm:cap ≤ maxLen) (c p:Int) (h:LinkFaultIs ps per c p) (hc:0 < c) :
  Calls Tryz.prog 146 #[.slice a ps.length cap,.int .i64 per,.slice na nn ncap] w fun e w'=>∃ ty v,e=.returned (.tuple #[.slice none 0 0,.iface ty v]) ∧ (ErrIs w' (.iface ty v) c p ∧ Below w.heap.size w w'):=
 roundRun_err1 (R:=fun ty v w'=>ErrIs w' (.iface ty v) c p ∧ Below w.heap.size w w') a _ cap per na _ ncap w (linkCheck_is a cap ps per c p w ad he hl hcap hm h hc)
theorem roundRun_isN (a:Option Addr) (cap:Nat) (ps:List Pk) (per:Int) (na:Option Addr) (ncap:Nat) (ns:List Int) (w:World) (ad:Nat → Addr) (he:Errs9 w ad) (hl:LiesP w a ps) (hn:LiesN w na ns) (ho:OkPks ps) (h1:1 ≤ per) (h2:per ≤ 1000) (c:Nat) (h:NumsFault 1 3000 ns c) (hc:0 < c) :
  Calls Tryz.prog 146 #[.slice a ps.length cap,.int .i64 per,.slice na ns.length ncap] w fun e w'=>∃ ty v,e=.returned (.tuple #[.slice none 0 0,.iface ty v]) ∧ (ErrIs w' (.iface ty v) c (-1) ∧ Below w.heap.size w w'):=by
 refine roundRun_err2 (R:=fun ty v w'=>ErrIs w' (.iface ty v) c (-1) ∧ Below w.heap.size w w') a _ cap per na _ ncap w (linkCheck_ok a cap ps per w hl ho h1 h2) (fun W hb=>(checkQuanta_bad na ncap ns W ad (he.below hb).nums (hn.below hb) c h hc).mono ?_)
 rintro e w' ⟨rfl,rfl⟩
 obtain ⟨ty,v,e1,e2⟩:=errIs_numsB (he.below hb) h hc
 exact ⟨ty,v,by rw [e1],e2,hb⟩
theorem errIs_wts {w:World} {ad:Nat → Addr} (he:Errs9 w ad) {ns:List Int} {c:Nat} (h:WtsFault ns c) (hc:0 < c):∃ ty v,sentOf ad c=.iface ty v ∧ ErrIs w (.iface ty v) c (-1):=by
 rcases h with ⟨rfl,-⟩ | ⟨rfl,-⟩ | ⟨rfl,-⟩
 · exact ⟨_,_,rfl,errIs_sent he 2 (by decide)⟩
 · exact ⟨_,_,rfl,errIs_sent he 1 (by decide)⟩
 · omega
theorem fairCheck_isL (a:Option Addr) (cap:Nat) (ps:List Pk) (per:Int) (na:Option Addr) (nn ncap:Nat) (w:World) (ad:Nat → Addr) (he:Errs9 w ad) (hl:LiesP w a ps) (hcap:ps.length ≤ cap) (hm:cap ≤ maxLen) (c p:Int) (h:LinkFaultIs ps per c p) (hc:0 < c) :
  Calls Tryz.prog 178 #[.slice a ps.length cap,.int .i64 per,.slice na nn ncap] w fun e w'=>∃ ty v,e=.returned (.iface ty v) ∧ (ErrIs w' (.iface ty v) c p ∧ Below w.heap.size w w'):=
 fairCheck_err1 (R:=fun ty v w'=>ErrIs w' (.iface ty v) c p ∧ Below w.heap.size w w') a _ cap per na _ ncap w (linkCheck_is a cap ps per c p w ad he hl hcap hm h hc)
theorem fairCheck_isN (a:Option Addr) (cap:Nat) (ps:List Pk) (per:Int) (na:Option Addr) (ncap:Nat) (ns:List Int) (w:World) (ad:Nat → Addr) (he:Errs9 w ad) (hl:LiesP w a ps) (hn:LiesN w na ns) (ho:OkPks ps) (h1:1 ≤ per) (h2:per ≤ 1000) (c:Nat) (h:WtsFault ns c) (hc:0 < c) :
  Calls Tryz.prog 178 #[.slice a ps.length cap,.int .i64 per,.slice na ns.length ncap] w fun e w'=>∃ ty v,e=.returned (.iface ty v) ∧ (ErrIs w' (.iface ty v) c (-1) ∧ Below w.heap.size w w'):=by
 refine fairCheck_err2 (R:=fun ty v w'=>ErrIs w' (.iface ty v) c (-1) ∧ Below w.heap.size w w') a _ cap per na _ ncap w (linkCheck_ok a cap ps per w hl ho h1 h2) (fun W hb=>(checkWeights_bad na ncap ns W ad (he.below hb).nums (hn.below hb) c h hc).mono ?_)
 rintro e w' ⟨rfl,rfl⟩
 obtain ⟨ty,v,e1,e2⟩:=errIs_wts (he.below hb) h hc
 exact ⟨ty,v,by rw [e1],e2,hb⟩
def KindRes (k:Nat) (per:Int) (ns:List Int) (c:Int):Prop:=(¬ (1 ≤ per ∧ per ≤ 1000) ∧ c=2) ∨ (1 ≤ per ∧ per ≤ 1000 ∧ ∃ d:Nat,KindFault k ns d ∧ c=d)
def SendEnd (k:Nat) (per:Int) (ns:List Int) (ps:List Pk) (c:Int) (w:World) (e:Ending) (w':World):Prop:=∃ la n lcap E,e=.returned (.tuple #[.slice la n lcap,E]) ∧ ErrIs w' E c (-1) ∧ Below w.heap.size w w' ∧ (c=0 → ∃ l,n=l.length ∧ SntLie w' la lcap l ∧ LinkSends k per ps ns l)
theorem sendEnd_bad {k:Nat} {per:Int} {ns:List Int} {ps:List Pk} {c:Int} {w:World} (hc:0 < c) {e:Ending} {w':World} (h:∃ ty v,e=.returned (.tuple #[.slice none 0 0,.iface ty v]) ∧ (ErrIs w' (.iface ty v) c (-1) ∧ Below w.heap.size w w')):SendEnd k per ns ps c w e w':=by
 obtain ⟨ty,v,rfl,h1,h2⟩:=h
 exact ⟨none,0,0,_,rfl,h1,h2,fun h0=>by omega⟩
theorem sendEnd_ok {k:Nat} {per:Int} {ns:List Int} {ps:List Pk} {w w':World} {v:Value} {l:List Sn} (ho:OwnS w' w.heap.size v l) (hl:LinkSends k per ps ns l) (hb:Below w.heap.size w w'):SendEnd k per ns ps 0 w (.returned (.tuple #[v,.nilIface])) w':=by
 obtain ⟨a,cap,rfl,h1,h2,h3,-,h5⟩:=ho.open
 exact ⟨a,l.length,cap,.nilIface,rfl,errIs_nil w',hb,fun _=>⟨l,rfl,⟨h3,h1,h2,h5⟩,hl⟩⟩
section
variable (pa:Option Addr) (pcap:Nat) (ps:List Pk) (per:Int) (na:Option Addr) (ncap:Nat) (ns:List Int) (w:World) (ad:Nat → Addr)
theorem linkBad {per:Int} {ps:List Pk} (ho:OkPks ps) (h:¬ (1 ≤ per ∧ per ≤ 1000)):LinkFaultIs ps per 2 (-1):=.inr (.inl ⟨ho,by omega,rfl,rfl⟩)
theorem sendRank (he:Errs9 w ad) (hp:PksLie w pa pcap ps) (hn:LiesN w na ns) (ho:OkPks ps) (c:Int) (hr:KindRes 2 per ns c):Calls Tryz.prog 144 #[.slice pa ps.length pcap,.int .i64 per,.slice na ns.length ncap] w fun e w'=>SendEnd 2 per ns ps c w e w':=by
 rcases hr with ⟨h,rfl⟩ | ⟨h1,h2,d,hd,rfl⟩
 · exact (rankRun_isL pa pcap ps per na ns.length ncap w ad he hp.pks hp.cap hp.max 2 (-1) (linkBad ho h) (by omega)).mono fun _ _ h=>sendEnd_bad (by omega) h
 ·
  rcases hd with ⟨h,-⟩ | ⟨-,hd⟩ | ⟨h,-⟩ | ⟨h,-⟩ | ⟨h,-⟩
  · omega
  ·
   rcases Nat.eq_zero_or_pos d with rfl | h0
   ·
    refine (rankRun_ok pa pcap ps per na ncap ns w hp.pks hn ho h1 h2 hd.ok).mono ?_
    rintro e w' ⟨v,rfl,l,g1,g2,g3,g4⟩
    exact sendEnd_ok g1 (.inr (.inl ⟨rfl,g2,g3⟩)) g4
   · exact (rankRun_isN pa pcap ps per na ncap ns w ad he hp.pks hn ho h1 h2 d hd h0).mono fun _ _ h=>sendEnd_bad (by omega) h
  all_goals omega
theorem sendDue (he:Errs9 w ad) (hp:PksLie w pa pcap ps) (hn:LiesN w na ns) (ho:OkPks ps) (c:Int) (hr:KindRes 3 per ns c):Calls Tryz.prog 145 #[.slice pa ps.length pcap,.int .i64 per,.slice na ns.length ncap] w fun e w'=>SendEnd 3 per ns ps c w e w':=by
 rcases hr with ⟨h,rfl⟩ | ⟨h1,h2,d,hd,rfl⟩
 · exact (rankDue_isL pa pcap ps per na ns.length ncap w ad he hp.pks hp.cap hp.max 2 (-1) (linkBad ho h) (by omega)).mono fun _ _ h=>sendEnd_bad (by omega) h
 ·
  rcases hd with ⟨h,-⟩ | ⟨h,-⟩ | ⟨-,hd⟩ | ⟨h,-⟩ | ⟨h,-⟩
  · omega
  · omega
  ·
   rcases Nat.eq_zero_or_pos d with rfl | h0
   ·
    refine (rankDue_ok pa pcap ps per na ncap ns w hp.pks hn ho h1 h2 hd.ok).mono ?_
    rintro e w' ⟨v,rfl,l,g1,g2,g3,g4⟩
    exact sendEnd_ok g1 (.inr (.inr (.inl ⟨rfl,g2,g3⟩))) g4
   · exact (rankDue_isN pa pcap ps per na ncap ns w ad he hp.pks hn ho h1 h2 d hd h0).mono fun _ _ h=>sendEnd_bad (by omega) h
  all_goals omega
theorem sendRound (he:Errs9 w ad) (hp:PksLie w pa pcap ps) (hn:LiesN w na ns) (ho:OkPks ps) (c:Int) (hr:KindRes 4 per ns c):Calls Tryz.prog 146 #[.slice pa ps.length pcap,.int .i64 per,.slice na ns.length ncap] w fun e w'=>SendEnd 4 per ns ps c w e w':=by
 rcases hr with ⟨h,rfl⟩ | ⟨h1,h2,d,hd,rfl⟩
 · exact (roundRun_isL pa pcap ps per na ns.length ncap w ad he hp.pks hp.cap hp.max 2 (-1) (linkBad ho h) (by omega)).mono fun _ _ h=>sendEnd_bad (by omega) h
 ·
  rcases hd with ⟨h,-⟩ | ⟨h,-⟩ | ⟨h,-⟩ | ⟨-,hd⟩ | ⟨h,-⟩
  · omega
  · omega
  · omega
  ·
   rcases Nat.eq_zero_or_pos d with rfl | h0
   ·
    refine (roundRun_ok pa pcap ps per na ncap ns w hp.pks hn ho h1 h2 hd.ok).mono ?_
    rintro e w' ⟨v,rfl,l,g1,g2,g4⟩
    exact sendEnd_ok g1 (.inr (.inr (.inr (.inl ⟨rfl,g2⟩)))) g4
   · exact (roundRun_isN pa pcap ps per na ncap ns w ad he hp.pks hn ho h1 h2 d hd h0).mono fun _ _ h=>sendEnd_bad (by omega) h
  all_goals omega
theorem sendFair (he:Errs9 w ad) (hp:PksLie w pa pcap ps) (hn:LiesN w na ns) (ho:OkPks ps) (c:Int) (hr:KindRes 5 per ns c):Calls Tryz.prog 147 #[.slice pa ps.length pcap,.int .i64 per,.slice na ns.length ncap] w fun e w'=>SendEnd 5 per ns ps c w e w':=by
 rcases hr with ⟨h,rfl⟩ | ⟨h1,h2,d,hd,rfl⟩
 · exact (fairRun_err (R:=fun ty v w'=>ErrIs w' (.iface ty v) 2 (-1) ∧ Below w.heap.size w w') pa _ pcap per na _ ncap w (fairCheck_isL pa pcap ps per na ns.length ncap w ad he hp.pks hp.cap hp.max 2 (-1) (linkBad ho h) (by omega))).mono fun _ _ h=>sendEnd_bad (by omega) h
 ·
  rcases hd with ⟨h,-⟩ | ⟨h,-⟩ | ⟨h,-⟩ | ⟨h,-⟩ | ⟨-,hd⟩
  · omega
  · omega
  · omega
  · omega
  ·
   rcases Nat.eq_zero_or_pos d with rfl | h0
   ·
    refine (fairRun_ok pa pcap ps per na ncap ns w hp.pks hn ho h1 h2 hd.ok).mono ?_
    rintro e w' ⟨v,rfl,g,gt,l,f,g1,g2,g4,-⟩
    exact sendEnd_ok g1 (.inr (.inr (.inr (.inr ⟨rfl,_,g2⟩)))) g4
   · exact (fairRun_err (R:=fun ty v w'=>ErrIs w' (.iface ty v) d (-1) ∧ Below w.heap.size w w') pa _ pcap per na _ ncap w (fairCheck_isN pa pcap ps per na ncap ns w ad he hp.pks hn ho h1 h2 d hd h0)).mono fun _ _ h=>sendEnd_bad (by omega) h
theorem Tryz.callFifo (args:Array Value) (W:World):Sem.run Tryz.prog (callFunc 143 args) W=.ok (.enter 143 args) W:=by kernel_rfl
theorem sendFifo (X:Nat) (he:Errs9 w ad) (hx:w.cell? ⟨X,0,none⟩=some (.func (.func 143) #[] #[])) (hp:PksLie w pa pcap ps) (ho:OkPks ps) (c:Int) (hr:KindRes 1 per ns c):Calls Tryz.prog 167 #[.slice pa ps.length pcap,.int .i64 per,.slice na ns.length ncap,.pointer (some ⟨X,0,none⟩)] w fun e w'=>SendEnd 1 per ns ps c w e w':=by
 have hcall:=Tryz.callFifo
 have HE:Hid (Errs9 w ad):=he
 have HO:Hid (OkPks ps):=ho
 rcases hr with ⟨h,rfl⟩ | ⟨h1,h2,d,hd,rfl⟩
 ·
  have HC:Hid (Calls Tryz.prog 143 #[.slice pa ps.length pcap,.int .i64 per] w fun e w'=>∃ ty v,e=.returned (.tuple #[.slice none 0 0,.iface ty v]) ∧ (ErrIs w' (.iface ty v) 2 (-1) ∧ Below w.heap.size w w')):=fifoRun_is pa pcap ps per 2 (-1) w ad he hp.pks hp.cap hp.max (linkBad ho h) (by omega)
  clear he hp ho h
  go_enter Tryz.func167,Tryz.ntmps167
  go_wp2_with fail
  refine HC.out.mono ?_
  rintro e w1 ⟨ty,v,rfl,h3,h4⟩
  have H3:Hid (ErrIs w1 (.iface ty v) 2 (-1) ∧ Below w.heap.size w w1):=⟨h3,h4⟩
  clear h3 h4
  go_wp2_with fail
  go_ret2
  exact sendEnd_bad (by omega) ⟨ty,v,rfl,H3.out⟩
 ·
  have HC:Hid (Calls Tryz.prog 143 #[.slice pa ps.length pcap,.int .i64 per] w fun e w'=>∃ v,e=.returned (.tuple #[v,.nilIface]) ∧ OwnS w' w.heap.size v (lindAll per ps ps.length) ∧ Below w.heap.size w w'):=fifoRun_ok pa pcap ps per w hp.pks ho h1 h2
  have hd':(d=3 ∧ ns ≠ []) ∨ (d=0 ∧ ns=[]):=by
   rcases hd with ⟨-,hd⟩ | ⟨h,-⟩ | ⟨h,-⟩ | ⟨h,-⟩ | ⟨h,-⟩
   · exact hd
   all_goals omega
  obtain ⟨r,hr⟩:∃ r,ns.length=r:=⟨_,rfl⟩
  have HR:Hid (ns.length=r):=hr
  rw [hr]
  clear he hp ho hd hr
  rcases hd' with ⟨rfl,hne⟩ | ⟨rfl,hnil⟩
  ·
   have hr0:(0:Int) < (r:Int):=by have:=List.length_pos_iff.2 hne;have:=HR.out;omega
   clear hne
   go_enter Tryz.func167,Tryz.ntmps167
   go_wp2_with fail
   refine HC.out.mono ?_
   rintro e w1 ⟨v,rfl,h3,h4⟩
   have H4:Hid (Below w.heap.size w w1):=h4
   have c2:=(HE.out.below h4).c2
   clear h3 h4
   go_wp2_with fail
   go_quiet (fail)
   go_wp2_with fail
   go_ret2
   have hbq:Below w.heap.size w (w1.drewN nq):=below_drewN H4.out nq
   exact ⟨none,0,0,_,rfl,errIs_sent (HE.out.below hbq) 2 (by omega),hbq,fun h0=>absurd h0 (by decide)⟩
  ·
   have hr0:¬ (0:Int) < (r:Int):=by have:=HR.out;rw [hnil] at this;simp at this;omega
   have HNil:Hid (ns=[]):=hnil
   clear hnil
   go_enter Tryz.func167,Tryz.ntmps167
   go_wp2_with fail
   refine HC.out.mono ?_
   rintro e w1 ⟨v,rfl,h3,h4⟩
   have H4:Hid (OwnS w1 w.heap.size v (lindAll per ps ps.length) ∧ Below w.heap.size w w1):=⟨h3,h4⟩
   clear h3 h4
   go_wp2_with fail
   go_ret2
   exact sendEnd_ok H4.out.1 (.inl ⟨rfl,rfl⟩) H4.out.2
end
structure SendBy (w:World) (k:Nat) (F:Nat) (bd:Array Value):Prop where
 call:∀ args W,Sem.run Tryz.prog (callFunc F args) W=.ok (.enter F args) W
 send:∀ (pa:Option Addr) (pcap:Nat) (ps:List Pk) (per:Int) (na:Option Addr) (ncap:Nat) (ns:List Int) (W:World) (ad:Nat → Addr) (c:Int),Below w.heap.size w W → Errs9 W ad → PksLie W pa pcap ps → LiesN W na ns → OkPks ps → KindRes k per ns c → Calls Tryz.prog F (#[.slice pa ps.length pcap,.int .i64 per,.slice na ns.length ncap] ++ bd) W fun e w'=>SendEnd k per ns ps c W e w'
theorem sendBy_is {w:World} {M X:Nat} (h:SendMap w M X) {k:Nat} (h1:1 ≤ k) (h5:k ≤ 5):∃ F bd,sendVal X k=.func (.func F) #[] bd ∧ SendBy w k F bd:=by
 rcases (show k=1 ∨ k=2 ∨ k=3 ∨ k=4 ∨ k=5 by omega) with rfl | rfl | rfl | rfl | rfl
 · exact ⟨_,_,rfl,fun args W=>by kernel_rfl,fun pa pcap ps per na ncap ns W ad c hb he hp _ ho hr=>sendFifo pa pcap ps per na ncap ns W ad X he (cell_later hb h.box) hp ho c hr⟩
 · exact ⟨_,_,rfl,fun args W=>by kernel_rfl,fun pa pcap ps per na ncap ns W ad c _ he hp hn ho hr=>sendRank pa pcap ps per na ncap ns W ad he hp hn ho c hr⟩
 · exact ⟨_,_,rfl,fun args W=>by kernel_rfl,fun pa pcap ps per na ncap ns W ad c _ he hp hn ho hr=>sendDue pa pcap ps per na ncap ns W ad he hp hn ho c hr⟩
 · exact ⟨_,_,rfl,fun args W=>by kernel_rfl,fun pa pcap ps per na ncap ns W ad c _ he hp hn ho hr=>sendRound pa pcap ps per na ncap ns W ad he hp hn ho c hr⟩
 · exact ⟨_,_,rfl,fun args W=>by kernel_rfl,fun pa pcap ps per na ncap ns W ad c _ he hp hn ho hr=>sendFair pa pcap ps per na ncap ns W ad he hp hn ho c hr⟩
def SendersEnd (kb:ByteArray) (k:Nat) (b:Bool) (w:World) (e:Ending) (w':World):Prop:=∃ M fv,e=.returned (.map (some M)) ∧ Below w.heap.size w w' ∧ (Instr.lookup 189 (.map (some M)) (.string kb) true).run Tryz.prog w'=.ok (.tuple #[fv,.bool b]) w' ∧ (Instr.lookup 189 (.map (some M)) (.string kb) false).run Tryz.prog w'=.ok fv w' ∧ (1 ≤ k → ∃ F bd,fv=.func (.func F) #[] bd ∧ SendBy w' k F bd)
theorem senders_is (kb:ByteArray) (k:Nat) (hk:kindOf kb.toList=k) (b:Bool) (hb:decide (k ≠ 0)=b) (w:World):Calls Tryz.prog 115 #[] w fun e w'=>SendersEnd kb k b w e w':=by
 subst hb
 refine (senders_ok w).mono ?_
 rintro e w' ⟨M,X,rfl,hm,hb⟩
 exact ⟨M,sendVal X k,rfl,hb,hm.look kb hk true,hm.look kb hk false,fun h1=>sendBy_is hm h1 (by rw [← hk];exact kindOf_le _)⟩
section
variable (ca:Option Addr) (m ccap:Nat) (kb:ByteArray) (per:Int) (na:Option Addr) (r ncap:Nat) (w:World)
theorem gateCheck_curves (c p:Int) (hc:0 < c) (h:∀ W,Below w.heap.size w W → Calls Tryz.prog 116 #[.slice ca m ccap] W fun e w'=>∃ E,e=.returned E ∧ ErrIs w' E c p ∧ Below W.heap.size W w') :
  Calls Tryz.prog 82 #[.agg #[.slice ca m ccap,.string kb,.int .i64 per,.slice na r ncap]] w fun e w'=>∃ E,e=.returned E ∧ ErrIs w' E c p ∧ Below w.heap.size w w':=by
 have hb1:Below w.heap.size w (w.alloc (.cells #[.slice ca m ccap,.string kb,.int .i64 per,.slice na r ncap] 70)):=(Below.refl _ _).alloc (Nat.le_refl _) _
 have HC:=(show Hid (Calls Tryz.prog 116 #[.slice ca m ccap] (w.alloc (.cells #[.slice ca m ccap,.string kb,.int .i64 per,.slice na r ncap] 70)) fun e w'=>∃ E,e=.returned E ∧ ErrIs w' E c p ∧ Below (w.alloc (.cells #[.slice ca m ccap,.string kb,.int .i64 per,.slice na r ncap] 70)).heap.size (w.alloc (.cells #[.slice ca m ccap,.string kb,.int .i64 per,.slice na r ncap] 70)) w') from h _ hb1)
 have HB1:Hid (Below w.heap.size w (w.alloc (.cells #[.slice ca m ccap,.string kb,.int .i64 per,.slice na r ncap] 70))):=hb1
 clear h hb1
 go_enter Tryz.func82,Tryz.ntmps82
 go_wp2_with fail
 refine HC.out.mono ?_
 rintro e w1 ⟨E,rfl,h1,h2⟩
 obtain ⟨ty,v,rfl⟩:=h1.some_ (by omega)
 have H1:Hid (ErrIs w1 (.iface ty v) c p ∧ Below w.heap.size w w1):=⟨h1,HB1.out.trans (h2.mono HB1.out.size)⟩
 clear h1 h2
 go_wp2_with fail
 go_ret
 exact ⟨_,rfl,H1.out⟩
theorem gateCheck_kind (ns:List Int) (hr:ns.length=r) (ad:Nat → Addr) (he:Errs9 w ad) (hn:LiesN w na ns) (k:Nat) (hk:kindOf kb.toList=k) (c:Int) (hc:(k=0 ∧ c=9) ∨ (1 ≤ k ∧ KindRes k per ns c)) (h:∀ W,Below w.heap.size w W → Calls Tryz.prog 116 #[.slice ca m ccap] W fun e w'=>e=.returned .nilIface ∧ Below W.heap.size W w') :
  Calls Tryz.prog 82 #[.agg #[.slice ca m ccap,.string kb,.int .i64 per,.slice na r ncap]] w fun e w'=>∃ E,e=.returned E ∧ ErrIs w' E c (-1) ∧ Below w.heap.size w w':=by
 have hb1:Below w.heap.size w (w.alloc (.cells #[.slice ca m ccap,.string kb,.int .i64 per,.slice na r ncap] 70)):=(Below.refl _ _).alloc (Nat.le_refl _) _
 have hga:=gateAt_new w (.slice ca m ccap) kb per (.slice na r ncap) 70
 have HC:=(show Hid (Calls Tryz.prog 116 #[.slice ca m ccap] (w.alloc (.cells #[.slice ca m ccap,.string kb,.int .i64 per,.slice na r ncap] 70)) fun e w'=>e=.returned .nilIface ∧ Below (w.alloc (.cells #[.slice ca m ccap,.string kb,.int .i64 per,.slice na r ncap] 70)).heap.size (w.alloc (.cells #[.slice ca m ccap,.string kb,.int .i64 per,.slice na r ncap] 70)) w') from h _ hb1)
 have HG:Hid (GateAt (w.alloc (.cells #[.slice ca m ccap,.string kb,.int .i64 per,.slice na r ncap] 70)) w.heap.size (.slice ca m ccap) kb per (.slice na r ncap)):=hga
 have HB1:Hid (Below w.heap.size w (w.alloc (.cells #[.slice ca m ccap,.string kb,.int .i64 per,.slice na r ncap] 70))):=hb1
 have HE:Hid (Errs9 w ad):=he
 have HN:Hid (LiesN w na ns):=hn
 have HCs:Hid ((k=0 ∧ c=9) ∨ (1 ≤ k ∧ KindRes k per ns c)):=hc
 have HR:Hid (ns.length=r):=hr
 obtain ⟨b,hb⟩:∃ b,decide (k ≠ 0)=b:=⟨_,rfl⟩
 have HSe:Hid (∀ W,Calls Tryz.prog 115 #[] W fun e w'=>SendersEnd kb k b W e w'):=fun W=>senders_is kb k hk b hb W
 have HKb:Hid (decide (k ≠ 0)=b):=hb
 clear h hb1 hga he hn hc hr hk hb
 go_enter Tryz.func82,Tryz.ntmps82
 go_wp2_with fail
 refine HC.out.mono ?_
 rintro e w1 ⟨rfl,h1⟩
 have HB:Hid (Below w.heap.size w w1):=HB1.out.trans (h1.mono HB1.out.size)
 have HGw:Hid (GateAt w1 w.heap.size (.slice ca m ccap) kb per (.slice na r ncap)):=HG.out.later h1
 have g1:=HGw.out.c1
 have HSb:Hid (∀ W,Below w1.heap.size w1 W → W.cell? ⟨w.heap.size,1,none⟩=some (.string kb)):=fun W hW=>cell_later hW HGw.out.c1
 have HD:Hid (Below w1.heap.size w1 w1.drew):=below_drewN (Below.refl _ _) 1
 clear h1
 go_wp2_with fail
 go_region_held3 (fun w'=>w'.cell? ⟨w.heap.size,1,none⟩=some (.string kb))
  (first | exact hS | exact HSb.out _ HD.out)
  (first
  | (go_at_call 115;refine (HSe.out _).mono ?_;rintro e w2 ⟨M,fv,rfl,hb2,hlk,hlk0,hfv⟩;have HB2:Hid (Below w1.heap.size w1 w2):=(by exact HD.out.trans (hb2.mono HD.out.size));have hS:=HSb.out w2 HB2.out;have HF:Hid (1 ≤ k → ∃ F bd,fv=.func (.func F) #[] bd ∧ SendBy w2 k F bd):=hfv;clear hb2 hfv hlk0))
 all_goals
  have HBw2:Hid (Below w.heap.size w w2):=HB.out.trans (HB2.out.mono HB.out.size)
  clear hlk hS g1
  cases b with
  | false=>
   have hk0:k=0:=by have:=HKb.out;simpa using this
   have hc9:c=9:=by
    rcases HCs.out with ⟨-,h⟩ | ⟨h,-⟩
    · exact h
    · omega
   have c8:=(HE.out.below HBw2.out).c8
   clear hk0
   go_wp2_with fail
   go_ret
   rw [hc9]
   exact ⟨_,rfl,errIs_sent (HE.out.below HBw2.out) 8 (by omega),HBw2.out⟩
  | true=>
   have hk1:1 ≤ k:=by have:=HKb.out;simp at this;omega
   obtain ⟨F,bd,rfl,hby⟩:=HF.out hk1
   have hkr:KindRes k per ns c:=by
    rcases HCs.out with ⟨h,-⟩ | ⟨-,h⟩
    · omega
    · exact h
   have hcF:=hby.call
   have g2:=cell_later HB2.out HGw.out.c2
   have g3:=cell_later HB2.out HGw.out.c3
   have HCa:Hid (Calls Tryz.prog F (#[.slice none 0 0,.int .i64 per,.slice na r ncap] ++ bd) w2 fun e w'=>SendEnd k per ns [] c w2 e w'):=by
    have:=hby.send none 0 [] per na ncap ns w2 ad c (Below.refl _ _) (HE.out.below HBw2.out) ⟨.inl rfl,Nat.le_refl _,by simp [maxLen],fun _=>⟨rfl,rfl⟩⟩ (HN.out.below HBw2.out) okPks_none hkr
    rwa [HR.out] at this
   clear hby hkr hk1
   go_wp2_with fail
   refine HCa.out.mono ?_
   rintro e w3 ⟨la,n,lcap,E,rfl,hE,hb3,-⟩
   have H3:Hid (ErrIs w3 E c (-1) ∧ Below w.heap.size w w3):=⟨hE,HBw2.out.trans (hb3.mono HBw2.out.size)⟩
   clear hE hb3
   go_wp2_with fail
   go_ret
   exact ⟨_,rfl,H3.out⟩
theorem gateCheck_is (ca:Option Addr) (ccap:Nat) (cs:List (List (Int × Int))) (kb:ByteArray) (per:Int) (na:Option Addr) (ncap:Nat) (ns:List Int) (w:World) (ad:Nat → Addr) (c p:Int) (he:Errs9 w ad) (hg:GateLies w ca ccap cs na ncap ns) (h:GateIs cs (kindOf kb.toList) per ns c p) :
  Calls Tryz.prog 82 #[.agg #[.slice ca cs.length ccap,.string kb,.int .i64 per,.slice na ns.length ncap]] w fun e w'=>∃ E,e=.returned E ∧ ErrIs w' E c p ∧ Below w.heap.size w w':=by
 rcases h with ⟨h8,rfl,rfl⟩ | ⟨h8,i,hbad,rfl,hto⟩ | ⟨h8,hto,rfl,hk⟩
 · exact gateCheck_curves ca _ ccap kb per na _ ncap w 3 (-1) (by omega) fun W hW=>curvesCheck_short ca cs.length ccap W ad (he.below hW) h8
 ·
  have hi:i ≤ 8:=by
   obtain ⟨ls,p,h1,-⟩:=hbad
   have:=lt_of_get h1
   omega
  have hc:0 < c:=by obtain ⟨ls,p,-,-,-,h4⟩:=hbad;exact h4
  exact gateCheck_curves ca _ ccap kb per na _ ncap w c i hc fun W hW=>curvesCheck_to ca ccap cs W ad (he.below hW) (hg.curves.below hW) h8 i hi hto c i (.inr ⟨hbad,rfl⟩)
 ·
  refine gateCheck_kind ca _ ccap kb per na _ ncap w ns rfl ad he hg.nums (kindOf kb.toList) rfl c ?_ fun W hW=>(curvesCheck_to ca ccap cs W ad (he.below hW) (hg.curves.below hW) h8 8 (Nat.le_refl _) hto 0 (-1) (.inl ⟨rfl,rfl,rfl⟩)).mono ?_
  ·
   rcases hk with h | ⟨h1,-,h3⟩
   · exact .inl h
   · exact .inr ⟨h1,h3⟩
  ·
   rintro e w' ⟨E,rfl,hE,hb⟩
   rw [hE.none_ rfl]
   exact ⟨rfl,hb⟩
end
theorem clonePkts_any (pa:Option Addr) (pcap:Nat) (ps:List Pk) (w:World) (hl:LiesP w pa ps) (hn:ps.length ≤ 1000) (ha:pa=none → ps=[] ∧ pcap=0) :
  Calls Tryz.prog 137 #[.slice pa ps.length pcap] w fun e w'=>∃ v,e=.returned v ∧ OwnP w' w.heap.size v ps ∧ Below w.heap.size w w':=by
 cases pa with
 | none=>
  obtain ⟨rfl,rfl⟩:=ha rfl
  have hnil:=fun wx=>Go.Lib.run_eql_slice_nil (P:=Tryz.prog) wx 52 58 none 0 0 0 0 Tryz.underlying52
  go_enter Tryz.func137,Tryz.ntmps137
  go_wp2_with fail
  go_ret
  exact ⟨_,rfl,World.ownsRow_nil _ _ _ _,Below.refl _ _⟩
 | some ad=>
  have hb0:Below w.heap.size w (w.alloc (.cells #[] 58)):=(Below.refl _ _).alloc (Nat.le_refl _) _
  have H1:Hid (LiesP (w.alloc (.cells #[] 58)) (some ad) ps):=hl.below hb0
  have H4:Hid (OwnP (w.alloc (.cells #[] 58)) w.heap.size (.slice (some ⟨w.heap.size,0,none⟩) 0 0) []):=World.ownsRow_lit w #[] 0 (Nat.le_refl _) (by simp [maxLen]) (by simp)
  have HB0:Hid (Below w.heap.size w (w.alloc (.cells #[] 58))):=hb0
  have hnil:=fun wx=>Go.Lib.run_eql_slice_nil (P:=Tryz.prog) wx 52 58 (some ad) ps.length pcap 0 0 Tryz.underlying52
  clear hl hb0 ha
  go_enter Tryz.func137,Tryz.ntmps137
  go_wp2_with (at_builtin;refine wpList_append_pks _ rfl _ _ rfl w.heap.size (.slice (some ⟨w.heap.size,0,none⟩) 0 0) [] ps (some ad) ps.length pcap rfl rfl rfl H4.out H1.out (fun h=>by cases h) (by simpa using hn) (by simp) ?_;rintro v' w3 ⟨hown',hb3⟩)
  go_ret
  exact ⟨_,rfl,by simpa using hown',HB0.out.trans hb3⟩
theorem numbersOf_any (b off n pcap:Nat) (xs:Nat → Pk) (ps:List Pk) (f:Nat) (w:World) (h:RowP w b off n xs (fun i=>i)) (hn:n ≤ 300) (hnum:∀ i,i < n → ((xs i).flow == (f:Int))=(flowOf ps i == f)) :
  Calls Tryz.prog 163 #[.slice (some ⟨b,off,none⟩) n pcap,.int .i64 (f:Int)] w fun e w'=>∃ v,e=.returned v ∧ w'.ownsRow w.heap.size 3 1 v (numTo ps f n).length (ints (asInts (numTo ps f n))) ∧ Below w.heap.size w w':=by
 have HR:Hid (RowP w b off n xs (fun i=>i)):=h
 have HF:Hid (∀ i,i < n → ((xs i).flow == (f:Int))=(flowOf ps i == f)):=hnum
 clear h hnum
 go_enter Tryz.func163,Tryz.ntmps163
 go_wp2_with fail
 go_loopg [5,10] n (fun gk ov iv wr=>∃ k:Nat,iv=.int .i64 (k:Int) ∧ k ≤ n ∧ n - k ≤ gk ∧ Hid (Both wr w.heap.size (.slice none 0 0) ov [] (asInts (numTo ps f k)) ∧ Below w.heap.size w wr))
 case atStart=>exact ⟨0,rfl,Nat.zero_le _,Nat.le_refl _,both_nil _ _,Below.refl _ _⟩
 case round=>
  obtain ⟨k,rfl,hkn,hgk,H⟩:=hrel
  by_cases hlt:k < n
  ·
   have hltz:(k:Int) < (n:Int):=by omega
   have HRr:=HR.out.later H.out.2
   have c0:wr.cell? ⟨b,off+k * 3,none⟩=some (.int .i64 (xs k).flow):=HRr.c0 k hlt
   have c1:wr.cell? ⟨b,off+k * 3+1,none⟩=some (.int .i64 (xs k).size):=HRr.c1 k hlt
   have c2:wr.cell? ⟨b,off+k * 3+2,none⟩=some (.int .i64 (xs k).tick):=HRr.c2 k hlt
   have hfk:=HF.out k hlt
   obtain ⟨x0,hx0⟩:∃ x,(xs k).flow=x:=⟨_,rfl⟩
   obtain ⟨x1,hx1⟩:∃ x,(xs k).size=x:=⟨_,rfl⟩
   obtain ⟨x2,hx2⟩:∃ x,(xs k).tick=x:=⟨_,rfl⟩
   rw [hx0] at c0 hfk
   rw [hx1] at c1
   rw [hx2] at c2
   have HLen:Hid ((numTo ps f k).length ≤ k):=by show (numTo ps f k).length ≤ k;unfold numTo;exact Nat.le_trans (List.length_filter_le _ _) (by simp)
   clear HRr hx0 hx1 hx2
   by_cases hfl:flowOf ps k=f
   ·
    have hq:(x0 == (f:Int))=true:=by rw [hfk];simpa using hfl
    have HS:Hid (numTo ps f (k+1)=numTo ps f k ++ [k]):=by show _=_;rw [numTo_succ,if_pos hfl]
    clear hfk hfl
    have hb1:Below wr.heap.size wr (wr.alloc (.cells #[.int .i64 x0,.int .i64 x1,.int .i64 x2] 58)):=(Below.refl _ _).alloc (Nat.le_refl _) _
    have hb2:Below wr.heap.size wr ((wr.alloc (.cells #[.int .i64 x0,.int .i64 x1,.int .i64 x2] 58)).alloc (.cells #[.int .i64 (k:Int)] 3)):=hb1.alloc hb1.size _
    have HV:Hid (Both ((wr.alloc (.cells #[.int .i64 x0,.int .i64 x1,.int .i64 x2] 58)).alloc (.cells #[.int .i64 (k:Int)] 3)) w.heap.size (.slice none 0 0) u5 [] (asInts (numTo ps f k)) ∧ Below w.heap.size w ((wr.alloc (.cells #[.int .i64 x0,.int .i64 x1,.int .i64 x2] 58)).alloc (.cells #[.int .i64 (k:Int)] 3)) ∧ ((wr.alloc (.cells #[.int .i64 x0,.int .i64 x1,.int .i64 x2] 58)).alloc (.cells #[.int .i64 (k:Int)] 3)).cell? ⟨wr.heap.size+1,0,none⟩=some (.int .i64 (k:Int))):=⟨H.out.1.later hb2,H.out.2.trans (hb2.mono H.out.2.size),by simp⟩
    clear hb1 hb2 H
    go_wp2_with (at_builtin;refine wpList_both_num _ rfl _ _ rfl w.heap.size (.slice none 0 0) u5 [] (asInts (numTo ps f k)) (k:Int) ⟨wr.heap.size+1,0,none⟩ rfl rfl HV.out.1 HV.out.2.2 (by have:=HLen.out;simp [asInts];omega) HV.out.2.1.size ?_;rintro v7 w7 ⟨hbo7,hb7⟩;have H7:Hid (Both w7 w.heap.size (.slice none 0 0) v7 [] (asInts (numTo ps f (k+1))) ∧ Below w.heap.size w w7):=⟨by rw [HS.out,asInts_more];exact hbo7,HV.out.2.1.trans hb7⟩;clear hbo7 hb7)
    go_roundg (n - (k+1))
    case measure=>omega
    case rel=>exact ⟨k+1,by go_num,hlt,Nat.le_refl _,H7⟩
   ·
    have hq:(x0 == (f:Int))=false:=by rw [hfk];simpa using hfl
    have HS:Hid (numTo ps f (k+1)=numTo ps f k):=by show _=_;rw [numTo_succ,if_neg hfl]
    have hb1:Below wr.heap.size wr (wr.alloc (.cells #[.int .i64 x0,.int .i64 x1,.int .i64 x2] 58)):=(Below.refl _ _).alloc (Nat.le_refl _) _
    have HV:Hid (Both (wr.alloc (.cells #[.int .i64 x0,.int .i64 x1,.int .i64 x2] 58)) w.heap.size (.slice none 0 0) u5 [] (asInts (numTo ps f (k+1))) ∧ Below w.heap.size w (wr.alloc (.cells #[.int .i64 x0,.int .i64 x1,.int .i64 x2] 58))):=by
     refine ⟨?_,H.out.2.trans (hb1.mono H.out.2.size)⟩
     rw [HS.out]
     exact H.out.1.later hb1
    clear hfk hfl hb1 H
    go_wp2_with fail
    go_roundg (n - (k+1))
    case measure=>omega
    case rel=>exact ⟨k+1,by go_num,hlt,Nat.le_refl _,HV⟩
  ·
   have hltz:¬ (k:Int) < (n:Int):=by omega
   obtain rfl:k=n:=by omega
   go_wp2_with fail
   go_ret
   refine ⟨_,rfl,?_,H.out.2⟩
   have:=H.out.1.nums
   rwa [show (asInts (numTo ps f k)).length=(numTo ps f k).length by simp [asInts]] at this
end Go.Proofs.YtipdclphpkgceaaGreatDoor
