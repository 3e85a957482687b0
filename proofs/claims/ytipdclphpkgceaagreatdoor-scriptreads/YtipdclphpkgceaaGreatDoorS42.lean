/- Own facts, put together: no statement of its own. -/
import Derived.Test.YtipdclphpkgceaaGreatDoorS41
import Derived.Test.YtipdclphpkgceaaGreatDoorS22
set_option maxHeartbeats 4000000
set_option maxRecDepth 100000

namespace Go.Proofs.YtipdclphpkgceaaGreatDoor
open Go.RowKit
theorem gateRun_ints {s:Scr} (ho:ScrOk s) {qs:List Pk} {l:List Sn} (h:GateRun (curveFl s.cs) (kindOf s.kb) s.per s.ns s.ps qs l):InInts l ∧ l.length ≤ 1000 ∧ ∀ z ∈ lateOf qs l,0 ≤ z ∧ z ≤ 1125899906842624:=by
 obtain ⟨k1,k2,k3⟩:=h.ok ho.pks ho.gate.curves.ok
 obtain ⟨m1,-,m3⟩:=k3.may ho.gate.nums k1 ho.gate.per.1
 have hf:=k1.few
 have hn:=conv_named m1
 have hr:=m1.range k1 ho.gate.per
 refine ⟨fun x hx z hz=>?_,by omega,fun z hz=>?_⟩
 ·
  obtain ⟨i,hi⟩:=List.getElem?_of_mem hx
  have a1:=hr i x hi
  have a2:=of_decide_eq_true (hn i x hi)
  have a3:=lt_of_get hi
  rcases hz with rfl | rfl | rfl <;> omega
 ·
  unfold lateOf at hz
  obtain ⟨x,hx,rfl⟩:=List.mem_map.1 hz
  obtain ⟨i,hi⟩:=List.getElem?_of_mem hx
  have a1:=hr i x hi
  have a2:=of_decide_eq_true (hn i x hi)
  have a3:=lt_of_get hi
  obtain ⟨q,hq,-⟩:=get_some qs x.num.toNat (by omega)
  have a4:=okPk_true (k1.each _ q hq).1
  obtain ⟨t,b,-,-,h5,h6⟩:=m1 i x hi
  have h7:tickOf qs x.num.toNat ≤ x.beg:=by rw [h6];simpa using h5
  have h8:tickOf qs x.num.toNat=q.tick:=tickOf_get hq
  omega
theorem foldl_max_range:∀ (zs:List Int) (z:Int),(0 ≤ z ∧ z ≤ 1125899906842624) → (∀ y ∈ zs,0 ≤ y ∧ y ≤ 1125899906842624) → 0 ≤ zs.foldl max z ∧ zs.foldl max z ≤ 1125899906842624
 | [],z,h,_=>h
 | y :: zs,z,h,hy=>foldl_max_range zs (max z y) (by have:=hy y (by simp);omega) fun x hx=>hy x (by simp [hx])
theorem worst_range {qs:List Pk} {l:List Sn} (h:∀ z ∈ lateOf qs l,0 ≤ z ∧ z ≤ 1125899906842624):0 ≤ worstOf qs l ∧ worstOf qs l ≤ 1125899906842624:=by
 unfold worstOf
 cases e:lateOf qs l with
 | nil=>simp
 | cons z zs=>
  rw [e] at h
  exact foldl_max_range zs z (h z (by simp)) fun y hy=>h y (by simp [hy])
theorem bound_range {s:Scr} (ho:ScrOk s) {k:Nat} {n:Int} (h:BoundIs SumRel DelayBy BusyBy s.cs k s.per (some n)):0 ≤ n ∧ n ≤ 1099511627776:=by
 have hp:=ho.gate.per
 rcases h with ⟨-,h⟩ | ⟨L,hL,hd⟩
 · cases h
 ·
  have hokL:okCurve L:=by
   obtain ⟨h0,q,-,hq8,hq,-⟩:=hL
   exact addTo_ok sumWay ho.gate.curves.ok h0 q L hq8 hq
  rcases hd with ⟨-,⟨d,e,hd,-⟩ | ⟨e,-⟩⟩ | ⟨-,⟨m,e,hb⟩ | ⟨e,-⟩⟩
  ·
   obtain rfl:=Option.some.inj e
   obtain ⟨q,e1,hh,q1,q2,-⟩:=hd.at_
   obtain ⟨c0,-⟩:=has_at L q hokL hh
   have hu:=hd.upper 0 (Int.le_refl _)
   have h1:=(curveAt_bd 0 L hokL (Int.le_refl _) (by decide)).1
   have h2:1 * 1 ≤ s.per * curveAt 0 L:=Int.mul_le_mul hp.1 h1 (by decide) (by omega)
   have h3:s.per * q ≤ 1000 * 20019999:=Int.mul_le_mul hp.2 q2 (by omega) (by decide)
   unfold waitOf at e1
   omega
  · cases e
  ·
   obtain rfl:=Option.some.inj e
   have h1:1 * 1 ≤ s.per * m:=Int.mul_le_mul hp.1 hb.one (by decide) (by omega)
   exact ⟨by omega,hb.most⟩
  · cases e
section
variable (w0:World) (ad:Nat → Addr) (N g cb:Nat) (hS:Site w0 ad N g cb) (s:Scr) (w:World) (hw:Below w0.heap.size w0 w) (hp:PlayAt w N g cb s) (ho:ScrOk s)
theorem obey_is (w0:World) (ad:Nat → Addr) (N g cb:Nat) (hS:Site w0 ad N g cb) (s:Scr) (w:World) (hw:Below w0.heap.size w0 w) (hp:PlayAt w N g cb s) (ho:ScrOk s) (x:List UInt8) (hx:x.length ≤ 900) (c:Int) (o:List UInt8) (s1:Scr) (h:Obeys s x c o s1) :
  Calls Tryz.prog 26 #[.pointer (some ⟨g,0,none⟩),strW x] w fun e w'=>ObeyEnd N g cb s s1 c o w e w':=by
 have hcs:=cutW_short x
 unfold Obeys at h
 rw [cut_blank] at h
 have hcut:Go.Lib.cut x [32]=((cutW x).1,(cutW x).2.1,(cutW x).2.2):=cut_blank x
 obtain ⟨nm,rest,b,hcw⟩:∃ nm rest b,cutW x=(nm,rest,b):=⟨_,_,_,rfl⟩
 rw [hcw] at hcut hcs h
 rcases h with ⟨hb,h⟩ | ⟨hb,h⟩
 ·
  have hb':b=true:=hb
  subst hb'
  have hl:=splitW_len rest
  have hsh:ShortW (Go.Lib.split rest [32]):=by
   rw [split_blank]
   exact ⟨by have:=hcs.2;simp at this;omega,fun y hy=>by have:=splitW_short rest y hy;have:=hcs.2;simp at this;omega⟩
  have h1:1 ≤ (Go.Lib.split rest [32]).length:=by rw [split_blank];exact hl.1
  refine obey_words w0 ad N g cb hS s w hw hp x (by omega) nm rest hcut (by have:=hcs.2;simp at this;omega) c o s1 fun W wb hW hlW=>?_
  have hwW:=hw.trans (hW.mono hw.size)
  have hpW:=hp.below hW
  rcases h with ⟨hn,hc,hco⟩ | ⟨hn,hc,hco⟩ | ⟨hn,hc,hco⟩ | ⟨hn,hc,hco⟩ | ⟨hn,rfl,n,hc,hco⟩ | ⟨n1,n2,n3,n4,n5,hc,-⟩
  · exact obeyWith_curve w0 ad N g cb hS s W hwW hpW ho nm wb _ hlW hsh h1 c o s1 hn hc hco
  · exact obeyWith_link w0 ad N g cb hS s W hwW hpW ho nm wb _ hlW hsh c o s1 hn hc hco
  · exact obeyWith_numbers w0 ad N g cb hS s W hwW hpW ho nm wb _ hlW hsh c o s1 hn hc hco
  · exact obeyWith_packet w0 ad N g cb hS s W hwW hpW ho nm wb _ hlW hsh c o s1 hn hc hco
  ·
   refine obeyWith_at w0 ad N g cb hS s1 W hwW hpW ho nm wb _ hlW hsh c n o hn hc (fun h0=>?_) hco
   obtain ⟨-,e⟩ | ⟨x',y',-,⟨-,e⟩ | ⟨f,hf,⟨-,e⟩ | ⟨t,p,ht,hfl,e⟩⟩⟩:=hc
   · omega
   · omega
   · omega
   ·
    have hr:=numW_range ht
    subst h0
    rw [e rfl]
    have:=curveAt_bd t _ hfl.ok.1 hr.1 (by omega)
    omega
  · exact obeyWith_text w0 ad N g cb hS s W hwW hpW nm wb _ c o s1 ⟨n1,n2,n3,n4,n5⟩ hc
 ·
  have hb':b=false:=hb
  subst hb'
  rcases h with ⟨hn,h0,hco,h1⟩ | ⟨hn,rfl,l,hc,hco⟩ | ⟨hn,rfl,n,hc,hco⟩ | ⟨hn,rfl,n,hc,hco⟩ | ⟨n1,n2,n3,n4,hc,-⟩
  · exact obey_clear w0 ad N g cb hS s w hw hp x (by omega) nm rest hcut c o s1 hn h0 hco h1
  ·
   refine obey_run w0 ad N g cb hS s1 w hw hp ho x (by omega) nm rest hcut c o hn l hc (fun h0=>?_) hco
   obtain ⟨p,-,hq⟩:=hc
   obtain ⟨qs,hq⟩:=hq h0
   obtain ⟨k1,k2,-⟩:=gateRun_ints ho hq
   exact ⟨k1,k2⟩
  ·
   refine obey_bound w0 ad N g cb hS s1 w hw hp ho x (by omega) nm rest hcut c n o hn hc (fun h0=>?_) hco
   obtain ⟨o',hb,⟨-,e⟩ | ⟨rfl,-⟩⟩:=hc
   · omega
   ·
    have:=bound_range ho hb
    omega
  ·
   refine obey_worst w0 ad N g cb hS s1 w hw hp ho x (by omega) nm rest hcut c n o hn hc (fun h0=>?_) hco
   obtain ⟨p,-,hq⟩:=hc
   obtain ⟨qs,l,hq2,rfl⟩:=hq h0
   have:=worst_range (gateRun_ints ho hq2).2.2
   omega
  · exact obey_text w0 ad N g cb hS s w hw hp x (by omega) nm rest hcut c o s1 ⟨n1,n2,n3,n4⟩ hc
theorem pksFault_known {ps:List Pk} {c p:Int} (h:PksFault ps c p):c=0 ∨ known c:=by
 unfold known
 rcases h with ⟨-,h,-⟩ | ⟨-,j,q,k,-,-,hb,h,-⟩ | ⟨-,h,-⟩
 · omega
 · rcases hb with ⟨-,hk⟩ | ⟨-,-,hk⟩ <;> omega
 · omega
theorem runIs_known {cs:List (List (Int × Int))} {k:Nat} {per:Int} {ns:List Int} {ps:List Pk} {c p:Int} (h:RunIs cs k per ns ps c p):c=0 ∨ known c:=by
 rcases h with ⟨h,-⟩ | ⟨-,h,-⟩ | ⟨-,-,i,-,-,h,-⟩ | ⟨-,-,-,h,-⟩
 · exact gateIs_known h
 · exact pksFault_known h
 · exact .inr (by unfold known;omega)
 · exact .inl h
theorem obeys_known (s:Scr) {x:List UInt8} {c:Int} {o:List UInt8} {s1:Scr} (h:Obeys s x c o s1):c=0 ∨ known c:=by
 have one:c=1 → c=0 ∨ known c:=fun h=>.inr (by unfold known;omega)
 rcases h with ⟨-,h⟩ | ⟨-,h⟩
 ·
  rcases h with ⟨-,h,-⟩ | ⟨-,h,-⟩ | ⟨-,h,-⟩ | ⟨-,h,-⟩ | ⟨-,-,n,h,-⟩ | ⟨-,-,-,-,-,h,-⟩
  ·
   rcases h with ⟨-,h,-⟩ | ⟨f,-,⟨-,h,-⟩ | ⟨l,-,-,⟨-,h⟩ | ⟨-,p,h⟩⟩⟩
   · exact one h
   · exact one h
   · exact .inl h
   ·
    have:=faultIs_known h
    unfold known
    omega
  ·
   rcases h with ⟨-,h,-⟩ | ⟨k,n,-,⟨-,h,-⟩ | ⟨per,-,-,d,p,hg,⟨-,h⟩ | ⟨-,h⟩⟩⟩
   · exact one h
   · exact one h
   · exact one h
   · rw [h];exact gateIs_known hg
  ·
   rcases h with ⟨-,h,-⟩ | ⟨-,⟨-,h,-⟩ | ⟨ns,p,-,-,h⟩⟩
   · exact one h
   · exact one h
   · exact gateIs_known h
  ·
   rcases h with ⟨-,h,-⟩ | ⟨a,b,d,-,⟨-,h,-⟩ | ⟨f,-,⟨-,h,-⟩ | ⟨a',b',p,-,-,h⟩⟩⟩
   · exact one h
   · exact one h
   · exact one h
   · exact pksFault_known h
  ·
   rcases h with ⟨-,h⟩ | ⟨a,b,-,⟨-,h⟩ | ⟨f,-,⟨-,h⟩ | ⟨t,p,-,h,-⟩⟩⟩
   · exact one h
   · exact one h
   · exact one h
   ·
    have:=faultIs_known h
    unfold known
    omega
  · exact one h
 ·
  rcases h with ⟨-,h,-⟩ | ⟨-,-,l,⟨p,h,-⟩,-⟩ | ⟨-,-,n,⟨o',-,⟨-,h⟩ | ⟨-,h⟩⟩,-⟩ | ⟨-,-,n,⟨p,h,-⟩,-⟩ | ⟨-,-,-,-,h,-⟩
  · exact .inl h
  · exact runIs_known h
  · exact .inr (by unfold known;omega)
  · exact .inl h
  · exact runIs_known h
  · exact one h
theorem answer_is (w0:World) (ad:Nat → Addr) (N g cb:Nat) (hS:Site w0 ad N g cb) (s:Scr) (w:World) (hw:Below w0.heap.size w0 w) (hp:PlayAt w N g cb s) (ho:ScrOk s) (x:List UInt8) (hx:x.length ≤ 900) (out:List UInt8) (s':Scr) (h:Says s x out s') :
  Calls Tryz.prog 15 #[.pointer (some ⟨g,0,none⟩),strW x] w fun e w'=>e=.returned (strW out) ∧ But (ownS N g cb) w w' ∧ PlayAt w' N g cb s':=by
 obtain ⟨c,o,s1,hob,hc⟩:=h
 have HC:Hid (Calls Tryz.prog 26 #[.pointer (some ⟨g,0,none⟩),strW x] w fun e w'=>ObeyEnd N g cb s s1 c o w e w'):=obey_is w0 ad N g cb hS s w hw hp ho x hx c o s1 hob
 have HK:Hid ((c=0 ∨ known c) ∧ ((c=0 ∧ out=o ∧ s'=s1) ∨ (0 < c ∧ out=errText c ∧ s'=s))):=⟨obeys_known s hob,hc⟩
 have hmE:=Tryz.errMethE
 have hmF:=Tryz.errMethF
 clear hS hw hp ho hob hc hx
 go_enter Tryz.func15,Tryz.ntmps15
 go_wp2_with fail
 refine HC.out.mono ?_
 rintro e w1 ⟨y,E,p,rfl,hE,hy,hb,hend⟩
 by_cases h0:c=0
 ·
  obtain rfl:=hE.none_ h0
  have HE:Hid (Ending.returned (strW y)=.returned (strW out) ∧ But (ownS N g cb) w w1 ∧ PlayAt w1 N g cb s'):=by
   rcases HK.out.2 with ⟨-,e1,e2⟩ | ⟨h,-⟩
   ·
    rcases hend with ⟨-,h⟩ | ⟨h,-⟩
    · rw [hy h0,e1,e2];exact ⟨rfl,hb,h⟩
    · exact absurd h0 h
   · omega
  clear hE hy hb hend h0
  go_wp2_with fail
  go_ret
  exact HE.out
 ·
  have HE:Hid (Ending.returned (strW (errText c))=.returned (strW out) ∧ But (ownS N g cb) w w1 ∧ PlayAt w1 N g cb s'):=by
   rcases HK.out.2 with ⟨h,-⟩ | ⟨-,e1,e2⟩
   · exact absurd h h0
   ·
    rcases hend with ⟨h,-⟩ | ⟨-,h⟩
    · exact absurd h h0
    · rw [e1,e2];exact ⟨rfl,hb,h⟩
  have hk:known c:=by
   rcases HK.out.1 with h | h
   · exact absurd h h0
   · exact h
  rcases errIs_text hE hk with ⟨a,rfl,ha⟩ | ⟨pb,a,rfl,h1,ha⟩
  ·
   have HT:Hid (Calls Tryz.prog 287 #[.pointer (some a)] w1 fun e w'=>e=.returned (strW (errText c)) ∧ w'=w1):=errString_text a _ w1 ha
   clear hE hy hb hend h0 hk ha
   go_wp2_with fail
   refine HT.out.mono ?_
   rintro e w2 ⟨rfl,rfl⟩
   go_wp2_with fail
   go_ret
   exact HE.out
  ·
   have HT:Hid (Calls Tryz.prog 266 #[.pointer (some ⟨pb,0,none⟩)] w1 fun e w'=>e=.returned (strW (errText c)) ∧ w'=w1):=fault_text pb a _ w1 h1 ha
   clear hE hy hb hend h0 hk ha h1
   go_wp2_with fail
   refine HT.out.mono ?_
   rintro e w2 ⟨rfl,rfl⟩
   go_wp2_with fail
   go_ret
   exact HE.out
end
theorem scrOk_curve {s:Scr} (ho:ScrOk s) {f:Nat} {l:List (Int × Int)} (hl:l=[] ∨ okCurve l):ScrOk { s with cs:=s.cs.set f l }:=by
 refine ⟨⟨by simpa using ho.gate.len,fun i ls hi h=>?_,ho.gate.kind,ho.gate.per,ho.gate.nums⟩,ho.pks⟩
 have h':(s.cs.set f l)[i]? = some ls:=h
 by_cases e:f=i
 ·
  subst e
  rw [List.getElem?_set_self (by rw [ho.gate.len];exact hi)] at h'
  obtain rfl:=Option.some.inj h'
  exact hl
 ·
  rw [List.getElem?_set_ne e] at h'
  exact ho.gate.curves i ls hi h'
theorem gateIs_zero {cs:List (List (Int × Int))} {k:Nat} {per:Int} {ns:List Int} {p:Int} (h:GateIs cs k per ns 0 p):GateOk cs k per ns:=by
 rcases h.num with ⟨-,-,h⟩ | ⟨h,-⟩
 · exact h
 · omega
theorem says_ok {s s':Scr} {x out:List UInt8} (ho:ScrOk s) (h:Says s x out s'):ScrOk s':=by
 obtain ⟨c,o,s1,hob,⟨rfl,-,rfl⟩ | ⟨-,-,rfl⟩⟩:=h
 ·
  have no:¬ (0:Int)=1:=by decide
  rcases hob with ⟨-,h⟩ | ⟨-,h⟩
  ·
   rcases h with ⟨-,h,-⟩ | ⟨-,h,-⟩ | ⟨-,h,-⟩ | ⟨-,h,-⟩ | ⟨-,rfl,-⟩ | ⟨-,-,-,-,-,h,-⟩
   ·
    rcases h with ⟨-,h,-⟩ | ⟨f,-,⟨-,h,-⟩ | ⟨l,-,rfl,⟨h,-⟩ | ⟨-,p,h⟩⟩⟩
    · exact absurd h no
    · exact absurd h no
    · exact scrOk_curve ho (.inl h)
    · exact scrOk_curve ho (.inr h.ok.1)
   ·
    rcases h with ⟨-,h,-⟩ | ⟨k,n,-,⟨-,h,-⟩ | ⟨per,-,rfl,d,p,hg,⟨-,h⟩ | ⟨-,h⟩⟩⟩
    · exact absurd h no
    · exact absurd h no
    · exact absurd h no
    ·
     subst h
     exact ⟨gateIs_zero hg,ho.pks⟩
   ·
    rcases h with ⟨-,h,-⟩ | ⟨-,⟨-,h,-⟩ | ⟨ns,p,-,rfl,h⟩⟩
    · exact absurd h no
    · exact absurd h no
    · exact ⟨gateIs_zero h,ho.pks⟩
   ·
    rcases h with ⟨-,h,-⟩ | ⟨a,b,d,-,⟨-,h,-⟩ | ⟨f,-,⟨-,h,-⟩ | ⟨a',b',p,-,rfl,h⟩⟩⟩
    · exact absurd h no
    · exact absurd h no
    · exact absurd h no
    ·
     refine ⟨ho.gate,?_⟩
     rcases h.num with ⟨-,-,h⟩ | h
     · exact h
     · omega
   · exact ho
   · exact absurd h no
  ·
   rcases h with ⟨-,-,-,rfl⟩ | ⟨-,rfl,-⟩ | ⟨-,rfl,-⟩ | ⟨-,rfl,-⟩ | ⟨-,-,-,-,h,-⟩
   · exact ⟨ho.gate,okPks_none⟩
   · exact ho
   · exact ho
   · exact ho
   · exact absurd h no
 · exact ho
section
variable (w0:World) (ad:Nat → Addr) (N g cb:Nat) (hS:Site w0 ad N g cb) (s:Scr) (w:World) (hw:Below w0.heap.size w0 w) (hp:PlayAt w N g cb s) (ho:ScrOk s)
theorem runTo_is (w0:World) (ad:Nat → Addr) (N g cb:Nat) (hS:Site w0 ad N g cb) (s:Scr) (w:World) (hw:Below w0.heap.size w0 w) (hp:PlayAt w N g cb s) (ho:ScrOk s):∃ c p,RunIs s.cs (kindOf s.kb) s.per s.ns s.ps c p ∧ 0 ≤ c ∧ (c=0 → ∃ qs l,GateRun (curveFl s.cs) (kindOf s.kb) s.per s.ns s.ps qs l):=by
 obtain ⟨c,p,hr⟩:=runIs_is s.cs (kindOf_le s.kb) s.per s.ns s.ps
 refine ⟨c,p,hr,by rcases runIs_known hr with h | h | h <;> omega,fun h0=>?_⟩
 subst h0
 obtain ⟨k1,k2,k3⟩:=runIs_ok hr
 obtain ⟨na,nc,pv,hpi⟩:=hp
 have hg:=hpi.gate ho.gate.len (slim_of ho (ns:=s.ns) (by rcases ho.gate.nums.len with h | h;rw [h.2];decide;omega))
 obtain ⟨pa,pcap,-,hpl⟩:=OwnP.value hpi.pks
 have:=gateWalks.good (some ⟨cb,0,none⟩) 8 s.cs ⟨s.kb.toArray⟩ s.per na nc s.ns pa pcap s.ps w ad (hS.env.below hw).errs hg hpl (by rw [ByteArray.toList_mk];exact k1) k2 k3
 obtain ⟨e,w',fr,⟨qa,qcap,la,lcap,qs,l,-,-,-,hgr,-⟩,-⟩:=this []
 rw [ByteArray.toList_mk] at hgr
 exact ⟨qs,l,hgr⟩
theorem boundTo_is (w0:World) (ad:Nat → Addr) (N g cb:Nat) (hS:Site w0 ad N g cb) (s:Scr) (w:World) (hw:Below w0.heap.size w0 w) (hp:PlayAt w N g cb s) (ho:ScrOk s):∃ c n,BoundTo s c n ∧ 0 ≤ c:=by
 obtain ⟨na,nc,pv,hpi⟩:=hp
 have hg:=hpi.gate ho.gate.len (slim_of ho (ns:=s.ns) (by rcases ho.gate.nums.len with h | h;rw [h.2];decide;omega))
 have:=boundWalks.good (some ⟨cb,0,none⟩) 8 s.cs ⟨s.kb.toArray⟩ s.per na nc s.ns w ad (hS.env.below hw).errs hg (by rw [ByteArray.toList_mk];exact ho.gate)
 obtain ⟨e,w',fr,⟨o,hb,-⟩,-⟩:=this []
 rw [ByteArray.toList_mk] at hb
 cases o with
 | none=>exact ⟨4,0,⟨none,hb,.inl ⟨rfl,rfl⟩⟩,by decide⟩
 | some n=>exact ⟨0,n,⟨some n,hb,.inr ⟨rfl,rfl⟩⟩,by decide⟩
theorem says_is (w0:World) (ad:Nat → Addr) (N g cb:Nat) (hS:Site w0 ad N g cb) (s:Scr) (w:World) (hw:Below w0.heap.size w0 w) (hp:PlayAt w N g cb s) (ho:ScrOk s) (x:List UInt8):∃ out s',Says s x out s':=by
 have mk:∀ {c o s1},Obeys s x c o s1 → (c=0 ∨ known c) → ∃ out s',Says s x out s':=fun {c o s1} h hk=>by
  rcases hk with h0 | h0
  · exact ⟨o,s1,c,o,s1,h,.inl ⟨h0,rfl,rfl⟩⟩
  · exact ⟨errText c,s,c,o,s1,h,.inr ⟨by rcases h0 with h | h <;> omega,rfl,rfl⟩⟩
 have mk':∀ {c o s1},Obeys s x c o s1 → ∃ out s',Says s x out s':=fun h=>mk h (obeys_known s h)
 cases hb:(Go.Lib.cut x [32]).2.2 with
 | true=>
  obtain ⟨nm,hnm⟩:∃ nm,(Go.Lib.cut x [32]).1=nm:=⟨_,rfl⟩
  obtain ⟨ws,hws⟩:∃ ws,Go.Lib.split (Go.Lib.cut x [32]).2.1 [32]=ws:=⟨_,rfl⟩
  have go:∀ {c o s1},WithWords s nm ws c o s1 → ∃ out s',Says s x out s':=fun h=>mk' (.inl ⟨hb,by rw [hnm,hws];exact h⟩)
  by_cases n1:nm=curveW
  ·
   cases hf:flowW (ws.headD []) with
   | none=>exact go (c:=1) (o:=okText) (s1:=s) (.inl ⟨n1,.inl ⟨hf,rfl,rfl⟩,fun h=>by cases h⟩)
   | some f=>
    cases hl:linesW ws.tail with
    | none=>exact go (c:=1) (o:=okText) (s1:=s) (.inl ⟨n1,.inr ⟨f,hf,.inl ⟨hl,rfl,rfl⟩⟩,fun h=>by cases h⟩)
    | some l=>
     by_cases h0:l=[]
     · exact go (c:=0) (o:=okText) (.inl ⟨n1,.inr ⟨f,hf,.inr ⟨l,hl,rfl,.inl ⟨h0,rfl⟩⟩⟩,fun _=>rfl⟩)
     ·
      obtain ⟨c,p,hfl⟩:=fault_is l
      exact go (c:=c) (o:=okText) (.inl ⟨n1,.inr ⟨f,hf,.inr ⟨l,hl,rfl,.inr ⟨h0,p,hfl⟩⟩⟩,fun _=>rfl⟩)
  by_cases n2:nm=linkW
  ·
   by_cases h2:ws.length=2
   ·
    obtain ⟨k,y,rfl⟩:∃ k y,ws=[k,y]:=by
     match ws,h2 with
     | [k,y],_=>exact ⟨k,y,rfl⟩
    cases hn:numW y with
    | none=>exact go (c:=1) (o:=okText) (s1:=s) (.inr (.inl ⟨n2,.inr ⟨k,y,rfl,.inl ⟨hn,rfl,rfl⟩⟩,fun h=>by cases h⟩))
    | some per=>
     obtain ⟨d,p,hg⟩:=gateIs_is s.cs (kindOf_le k) per (firstNs k)
     by_cases h9:d=9
     · exact go (c:=1) (o:=okText) (.inr (.inl ⟨n2,.inr ⟨k,y,rfl,.inr ⟨per,hn,rfl,d,p,hg,.inl ⟨h9,rfl⟩⟩⟩,fun h=>by cases h⟩))
     · exact go (c:=d) (o:=okText) (.inr (.inl ⟨n2,.inr ⟨k,y,rfl,.inr ⟨per,hn,rfl,d,p,hg,.inr ⟨h9,rfl⟩⟩⟩,fun _=>rfl⟩))
   · exact go (c:=1) (o:=okText) (s1:=s) (.inr (.inl ⟨n2,.inl ⟨h2,rfl,rfl⟩,fun h=>by cases h⟩))
  by_cases n3:nm=numbersW
  ·
   by_cases h8:ws.length=8
   ·
    cases hn:numsW ws with
    | none=>exact go (c:=1) (o:=okText) (s1:=s) (.inr (.inr (.inl ⟨n3,.inr ⟨h8,.inl ⟨hn,rfl,rfl⟩⟩,fun h=>by cases h⟩)))
    | some ns=>
     obtain ⟨d,p,hg⟩:=gateIs_is s.cs (kindOf_le s.kb) s.per ns
     exact go (c:=d) (o:=okText) (.inr (.inr (.inl ⟨n3,.inr ⟨h8,.inr ⟨ns,p,hn,rfl,hg⟩⟩,fun _=>rfl⟩)))
   · exact go (c:=1) (o:=okText) (s1:=s) (.inr (.inr (.inl ⟨n3,.inl ⟨h8,rfl,rfl⟩,fun h=>by cases h⟩)))
  by_cases n4:nm=packetW
  ·
   by_cases h3:ws.length=3
   ·
    obtain ⟨a,b,d,rfl⟩:∃ a b d,ws=[a,b,d]:=by
     match ws,h3 with
     | [a,b,d],_=>exact ⟨a,b,d,rfl⟩
    cases hf:digitW a with
    | none=>exact go (c:=1) (o:=okText) (s1:=s) (.inr (.inr (.inr (.inl ⟨n4,.inr ⟨a,b,d,rfl,.inl ⟨hf,rfl,rfl⟩⟩,fun h=>by cases h⟩))))
    | some f=>
     cases hn:numsW [b,d] with
     | none=>exact go (c:=1) (o:=okText) (s1:=s) (.inr (.inr (.inr (.inl ⟨n4,.inr ⟨a,b,d,rfl,.inr ⟨f,hf,.inl ⟨hn,rfl,rfl⟩⟩⟩,fun h=>by cases h⟩))))
     | some ns=>
      obtain ⟨y,z,rfl⟩:∃ y z,ns=[y,z]:=by
       have:=numsW_length hn
       match ns,this with
       | [y,z],_=>exact ⟨y,z,rfl⟩
      obtain ⟨c,p,hpf⟩:=pksFault_is (s.ps ++ [⟨f,y,z⟩])
      exact go (c:=c) (o:=okText) (.inr (.inr (.inr (.inl ⟨n4,.inr ⟨a,b,d,rfl,.inr ⟨f,hf,.inr ⟨y,z,p,hn,rfl,hpf⟩⟩⟩,fun _=>rfl⟩))))
   · exact go (c:=1) (o:=okText) (s1:=s) (.inr (.inr (.inr (.inl ⟨n4,.inl ⟨h3,rfl,rfl⟩,fun h=>by cases h⟩))))
  by_cases n5:nm=atW
  ·
   by_cases h2:ws.length=2
   ·
    obtain ⟨a,b,rfl⟩:∃ a b,ws=[a,b]:=by
     match ws,h2 with
     | [a,b],_=>exact ⟨a,b,rfl⟩
    cases hf:flowW a with
    | none=>exact go (c:=1) (o:=okText) (s1:=s) (.inr (.inr (.inr (.inr (.inl ⟨n5,rfl,0,.inr ⟨a,b,rfl,.inl ⟨hf,rfl⟩⟩,fun h=>by cases h⟩)))))
    | some f=>
     cases hn:numW b with
     | none=>exact go (c:=1) (o:=okText) (s1:=s) (.inr (.inr (.inr (.inr (.inl ⟨n5,rfl,0,.inr ⟨a,b,rfl,.inr ⟨f,hf,.inl ⟨hn,rfl⟩⟩⟩,fun h=>by cases h⟩)))))
     | some t=>
      obtain ⟨c,p,hfl⟩:=fault_is (curveFl s.cs f.toNat)
      exact go (c:=c) (s1:=s) (.inr (.inr (.inr (.inr (.inl ⟨n5,rfl,_,.inr ⟨a,b,rfl,.inr ⟨f,hf,.inr ⟨t,p,hn,hfl,fun _=>rfl⟩⟩⟩,fun _=>rfl⟩)))))
   · exact go (c:=1) (o:=okText) (s1:=s) (.inr (.inr (.inr (.inr (.inl ⟨n5,rfl,0,.inl ⟨h2,rfl⟩,fun h=>by cases h⟩)))))
  exact go (c:=1) (o:=okText) (s1:=s) (.inr (.inr (.inr (.inr (.inr ⟨n1,n2,n3,n4,n5,rfl,rfl⟩)))))
 | false=>
  obtain ⟨nm,hnm⟩:∃ nm,(Go.Lib.cut x [32]).1=nm:=⟨_,rfl⟩
  have go:∀ {c o s1},Alone s nm c o s1 → ∃ out s',Says s x out s':=fun h=>mk' (.inr ⟨hb,by rw [hnm];exact h⟩)
  by_cases n1:nm=clearW
  · exact go (.inl ⟨n1,rfl,rfl,rfl⟩)
  by_cases n2:nm=runW
  ·
   obtain ⟨c,p,hr,-,hq⟩:=runTo_is w0 ad N g cb hS s w hw hp ho
   by_cases h0:c=0
   ·
    obtain ⟨qs,l,hgr⟩:=hq h0
    exact go (c:=c) (o:=sentText l) (.inr (.inl ⟨n2,rfl,l,⟨p,hr,fun _=>⟨qs,hgr⟩⟩,fun _=>rfl⟩))
   · exact go (c:=c) (o:=[]) (.inr (.inl ⟨n2,rfl,[],⟨p,hr,fun h=>absurd h h0⟩,fun h=>absurd h h0⟩))
  by_cases n3:nm=boundW
  ·
   obtain ⟨c,n,hbd,-⟩:=boundTo_is w0 ad N g cb hS s w hw hp ho
   exact go (c:=c) (.inr (.inr (.inl ⟨n3,rfl,n,hbd,fun _=>rfl⟩)))
  by_cases n4:nm=worstW
  ·
   obtain ⟨c,p,hr,-,hq⟩:=runTo_is w0 ad N g cb hS s w hw hp ho
   by_cases h0:c=0
   ·
    obtain ⟨qs,l,hgr⟩:=hq h0
    exact go (c:=c) (.inr (.inr (.inr (.inl ⟨n4,rfl,worstOf qs l,⟨p,hr,fun _=>⟨qs,l,hgr,rfl⟩⟩,fun _=>rfl⟩))))
   · exact go (c:=c) (o:=[]) (.inr (.inr (.inr (.inl ⟨n4,rfl,0,⟨p,hr,fun h=>absurd h h0⟩,fun h=>absurd h h0⟩))))
  exact go (c:=1) (o:=okText) (s1:=s) (.inr (.inr (.inr (.inr ⟨n1,n2,n3,n4,rfl,rfl⟩))))
end
theorem play_first (w:World) (t1 t2:TypeId) (N:Nat) (hN1:w.heap.size+1 < N) (W:World) (hW:Below ((w.alloc (.cells (madeCells #[.slice none 0 0] 8) t1)).alloc (.cells #[.slice (some ⟨w.heap.size,0,none⟩) 8 8,.string ⟨#[102,105,102,111]⟩,.int .i64 1,.slice none 0 0,.slice none 0 0] t2)).heap.size ((w.alloc (.cells (madeCells #[.slice none 0 0] 8) t1)).alloc (.cells #[.slice (some ⟨w.heap.size,0,none⟩) 8 8,.string ⟨#[102,105,102,111]⟩,.int .i64 1,.slice none 0 0,.slice none 0 0] t2)) W) (hN2:N ≤ W.heap.size) :
  PlayIn W N (w.heap.size+1) w.heap.size none 0 (.slice none 0 0) firstScr:=by
 obtain ⟨V1,hV1⟩:∃ V1,w.alloc (.cells (madeCells #[.slice none 0 0] 8) t1)=V1:=⟨_,rfl⟩
 have hs1:V1.heap.size=w.heap.size+1:=by rw [← hV1];simp
 have hc1:∀ i,i < 8 → V1.cell? ⟨w.heap.size,i,none⟩=some (.slice none 0 0):=fun i hi=>by
  rw [← hV1,World.cell?_alloc_at _ _ _ _ rfl];exact made_get _ _ _ hi
 have hf1:∀ i,V1.frozen? ⟨w.heap.size,i,none⟩=false:=fun i=>by rw [← hV1];exact World.frozen?_alloc_new w _ _ i
 rw [hV1] at hW
 obtain ⟨V2,hV2⟩:∃ V2,V1.alloc (.cells #[.slice (some ⟨w.heap.size,0,none⟩) 8 8,.string ⟨#[102,105,102,111]⟩,.int .i64 1,.slice none 0 0,.slice none 0 0] t2)=V2:=⟨_,rfl⟩
 have hb2:Below V1.heap.size V1 V2:=by rw [← hV2];exact (Below.refl _ _).alloc (Nat.le_refl _) _
 have hcell:∀ i,V2.cell? ⟨w.heap.size+1,i,none⟩=(#[.slice (some ⟨w.heap.size,0,none⟩) 8 8,.string ⟨#[102,105,102,111]⟩,.int .i64 1,.slice none 0 0,.slice none 0 0]:Array Value)[i]?:=fun i=>by
  rw [← hV2,← hs1,World.cell?_alloc_at _ _ _ _ rfl]
 have hfz:∀ i,V2.frozen? ⟨w.heap.size+1,i,none⟩=false:=fun i=>by rw [← hV2,← hs1];exact World.frozen?_alloc_new V1 _ _ i
 have hs2:V2.heap.size=w.heap.size+2:=by rw [← hV2];simp [hs1]
 rw [hV2] at hW
 refine ⟨hN1,by omega,by omega,hN2,cell_later hW (hcell 0),cell_later hW (hcell 1),cell_later hW (hcell 2),cell_later hW (hcell 3),cell_later hW (hcell 4),fun i=>?_,fun i=>?_,.inl rfl,by simp [firstScr],by simp [maxLen],fun _=>⟨rfl,rfl⟩,(fun ad e=>by cases e),World.ownsRow_nil _ _ _ _,fun i ls hi=>?_⟩
 · rw [hW.frozen (p:=⟨w.heap.size+1,i,none⟩) (by show w.heap.size+1 < _;omega)];exact hfz i
 · rw [hW.frozen (p:=⟨w.heap.size,i,none⟩) (by show w.heap.size < _;omega),hb2.frozen (p:=⟨w.heap.size,i,none⟩) (by show w.heap.size < _;omega)];exact hf1 i
 ·
  have hl:ls=[]:=List.eq_of_mem_replicate (List.mem_of_getElem? hi)
  subst hl
  have hi8:i < 8:=lt_of_get hi
  exact ⟨none,0,cell_later hW (cell_later hb2 (hc1 i hi8)),.inl rfl,Nat.le_refl _,by simp [maxLen],fun _=>⟨rfl,rfl⟩,fun ad e=>by cases e⟩
theorem newPlayer_is (w:World):Calls Tryz.prog 14 #[] w fun e w'=>e=.returned (.pointer (some ⟨w.heap.size+1,0,none⟩)) ∧ w'=(w.alloc (.cells (madeCells #[.slice none 0 0] 8) 62)).alloc (.cells #[.slice (some ⟨w.heap.size,0,none⟩) 8 8,.string ⟨#[102,105,102,111]⟩,.int .i64 1,.slice none 0 0,.slice none 0 0] 72):=by
 have hmk:=make_curves
 go_enter Tryz.func14,Tryz.ntmps14
 go_wp2
 go_ret
 exact ⟨by simp,by simp⟩
theorem scriptRun_long (a:Option Addr) (n cap:Nat) (w:World) (ad:Nat → Addr) (h:w.cell? ⟨0,0,none⟩=some (.iface 312 (.pointer (some (ad 1))))) (hn:100 < n) :
  Calls Tryz.prog 7 #[.slice a n cap] w fun e w'=>e=.returned (.tuple #[.slice none 0 0,.iface 312 (.pointer (some (ad 1)))]) ∧ Below w.heap.size w w':=by
 have hd:decide ((100:Int) < (n:Int))=true:=decide_eq_true (by omega)
 go_enter Tryz.func7,Tryz.ntmps7
 go_wp2_with fail
 go_quiet (fail)
 go_wp2_with fail
 go_ret2
 exact ⟨rfl,below_drewN (Below.refl _ _) nq⟩
def OutsEnd (Told:Nat → List UInt8 → Prop) (Good:Nat → Scr → Prop) (lines:List (List UInt8)) (w:World) (e:Ending) (w':World):Prop:=
 ∃ O outs s',e=.returned (.tuple #[.slice (some ⟨O,0,none⟩) lines.length lines.length,.nilIface]) ∧ LiesW w' (some ⟨O,0,none⟩) outs ∧ (∀ (i:Nat) o,outs[i]? = some o → Told i o) ∧ Good lines.length s' ∧ SaysAll firstScr lines outs s' ∧ Below w.heap.size w w'
theorem scriptRun_is (a:Option Addr) (cap:Nat) (lines:List (List UInt8)) (w:World) (ad:Nat → Addr) (he:Env w ad) (hl:LiesW w a lines) (hn:lines.length ≤ 100) (hs:∀ x ∈ lines,x.length ≤ 900) (Told:Nat → List UInt8 → Prop) (Good:Nat → Scr → Prop) (h0:Good 0 firstScr)
  (hstep:∀ (i:Nat) x s,lines[i]? = some x → Good i s → ScrOk s → (∃ out s',Says s x out s') → ∃ out s',Says s x out s' ∧ Told i out ∧ Good (i+1) s') :
  Calls Tryz.prog 7 #[.slice a lines.length cap] w fun e w'=>OutsEnd Told Good lines w e w':=by
 have HL:Hid (∀ (i:Nat) x,lines[i]? = some x → ∃ b off,a=some ⟨b,off,none⟩ ∧ w.cell? ⟨b,off+i,none⟩=some (strW x)):=fun i x hi=>by
  obtain ⟨b,off,h1,-,h2⟩:=hl.place (by have:=lt_of_get hi;omega)
  exact ⟨b,off,h1,h2 i x hi⟩
 have HS:Hid (∀ x ∈ lines,x.length ≤ 900):=hs
 have HSt:Hid (∀ (i:Nat) x s,lines[i]? = some x → Good i s → ScrOk s → (∃ out s',Says s x out s') → ∃ out s',Says s x out s' ∧ Told i out ∧ Good (i+1) s'):=hstep
 have HG0:Hid (Good 0 firstScr):=h0
 obtain ⟨n,hnn⟩:∃ n,lines.length=n:=⟨_,rfl⟩
 have HN:Hid (lines.length=n):=hnn
 rw [hnn] at hn
 obtain ⟨B,hB⟩:∃ B,w.heap.size=B:=⟨_,rfl⟩
 have HB:Hid (w.heap.size=B):=hB
 have HNP:=(show Hid (Calls Tryz.prog 14 #[] w fun e w'=>e=.returned (.pointer (some ⟨w.heap.size+1,0,none⟩)) ∧ w'=(w.alloc (.cells (madeCells #[.slice none 0 0] 8) 62)).alloc (.cells #[.slice (some ⟨w.heap.size,0,none⟩) 8 8,.string ⟨#[102,105,102,111]⟩,.int .i64 1,.slice none 0 0,.slice none 0 0] 72)) from newPlayer_is w)
 have hpl:=play_first w 62 72
 have hbp:Below w.heap.size w ((w.alloc (.cells (madeCells #[.slice none 0 0] 8) 62)).alloc (.cells #[.slice (some ⟨w.heap.size,0,none⟩) 8 8,.string ⟨#[102,105,102,111]⟩,.int .i64 1,.slice none 0 0,.slice none 0 0] 72)):=((Below.refl _ _).alloc (Nat.le_refl _) _).alloc (by simp) _
 obtain ⟨V,hV⟩:∃ V,(w.alloc (.cells (madeCells #[.slice none 0 0] 8) 62)).alloc (.cells #[.slice (some ⟨w.heap.size,0,none⟩) 8 8,.string ⟨#[102,105,102,111]⟩,.int .i64 1,.slice none 0 0,.slice none 0 0] 72)=V:=⟨_,rfl⟩
 have hVs:V.heap.size=w.heap.size+2:=by rw [← hV];simp
 rw [hV] at HNP hpl hbp
 have hmk:=make_strs n (by omega)
 have hb1:Below V.heap.size V (V.alloc (.cells (madeCells #[.string ByteArray.empty] n) 9)):=(Below.refl _ _).alloc (Nat.le_refl _) _
 have hv1:ValsAt (V.alloc (.cells (madeCells #[.string ByteArray.empty] n) 9)) V.heap.size n (wordsF []):=vals_made V n (.string ByteArray.empty) 9
 obtain ⟨V1,hV1⟩:∃ V1,V.alloc (.cells (madeCells #[.string ByteArray.empty] n) 9)=V1:=⟨_,rfl⟩
 have hV1s:V1.heap.size=w.heap.size+3:=by rw [← hV1];simp [hVs]
 rw [hV1] at hb1 hv1
 have hmk1:(Instr.makeSlice 22 (.int .i64 n) (.int .i64 n)).run Tryz.prog V=.ok (.slice (some ⟨B+2,0,none⟩) n n) V1:=by rw [hmk V,hV1,hVs,hB]
 rw [hVs,hB] at hv1
 have HV1:Hid (PlayAt V1 (B+3) (B+1) B firstScr ∧ Below w.heap.size w V1 ∧ ValsAt V1 (B+2) n (wordsF [])):=by
  refine ⟨⟨none,0,.slice none 0 0,?_⟩,hbp.trans (hb1.mono hbp.size),hv1⟩
  have:=hpl (B+3) (by omega) V1 hb1 (by omega)
  rw [hB] at this
  exact this
 have HSi:Hid (Site w ad (B+3) (B+1) B):=⟨he,by omega,by omega,by omega⟩
 rw [hB] at HNP
 rw [hnn]
 clear he hl hs hstep h0 hnn hB hpl hbp hV hVs hmk hb1 hv1 hV1 hV1s
 go_enter Tryz.func7,Tryz.ntmps7
 have hd:decide ((100:Int) < (n:Int))=false:=decide_eq_false (by omega)
 go_wp2_with fail
 refine HNP.out.mono ?_
 rintro e w1 ⟨rfl,hw1⟩
 subst hw1
 go_wp2_with fail
 go_loopw [18] (fun i wr=>∃ k:Nat,∃ outs s,k ≤ n ∧ i=.int .i64 k ∧ outs.length=k ∧ PlayAt wr (B+3) (B+1) B s ∧ ScrOk s ∧ Below w.heap.size w wr ∧ ValsAt wr (B+2) n (wordsF outs) ∧ SaysAll firstScr (lines.take k) outs s ∧ Good k s ∧ ∀ (i:Nat) o,outs[i]? = some o → Told i o) (fun i _=>n - (intOf i).toNat)
 case atStart=>exact ⟨0,[],firstScr,Nat.zero_le _,rfl,rfl,HV1.out.1,firstScr_ok,HV1.out.2.1,HV1.out.2.2,⟨rfl,rfl⟩,HG0.out,fun i o h=>by simp at h⟩
 case round=>
  obtain ⟨k,outs,s,hk,rfl,hol,hpl,hok,hbw,hv,hsa,hgd,htd⟩:=hrel
  by_cases hkn:k < n
  ·
   obtain ⟨x,hx,hxm⟩:=get_some lines k (by rw [HN.out];exact hkn)
   obtain ⟨b,off,rfl,hc⟩:=HL.out k x hx
   have hc1:=cell_later hbw hc
   obtain ⟨out,s',hsay,htold,hgood⟩:=HSt.out k x s hx hgd hok (says_is w ad (B+3) (B+1) B HSi.out s wr hbw hpl hok x)
   have HA:Hid (Calls Tryz.prog 15 #[.pointer (some ⟨B+1,0,none⟩),strW x] wr fun e w'=>e=.returned (strW out) ∧ But (ownS (B+3) (B+1) B) wr w' ∧ PlayAt w' (B+3) (B+1) B s'):=answer_is w ad (B+3) (B+1) B HSi.out s wr hbw hpl hok x (HS.out x hxm) out s' hsay
   have hts:lines.take (k+1)=lines.take k ++ [x]:=by rw [List.take_add_one,hx];rfl
   have HNx:Hid (ScrOk s' ∧ Below w.heap.size w wr ∧ ValsAt wr (B+2) n (wordsF outs) ∧ SaysAll firstScr (lines.take (k+1)) (outs ++ [out]) s' ∧ Good (k+1) s' ∧ (∀ (i:Nat) o,(outs ++ [out])[i]? = some o → Told i o) ∧ outs.length=k):=by
    refine ⟨says_ok hok hsay,hbw,hv,by rw [hts];exact saysAll_snoc hsa hsay,hgood,fun i o hi=>?_,hol⟩
    rcases get_snoc hi with ⟨-,h⟩ | ⟨rfl,rfl⟩
    · exact htd i o h
    · rw [hol];exact htold
   clear hol hpl hok hbw hv hsa hgd htd hx hxm hc hsay htold hgood hts
   go_wp2_with fail
   refine HA.out.mono ?_
   rintro e w2 ⟨rfl,hb2,hp2⟩
   obtain ⟨q1,q2,q3,q4,q5,q6,q7⟩:=HNx.out
   have hv2:=q3.but hb2 (fun h=>by rcases h with h | h | h <;> omega)
   have y1:=hv2.cell k hkn
   have y2:=hv2.frozen k
   have HF:Hid (PlayAt (w2.setCell ⟨B+2,k,none⟩ (strW out)) (B+3) (B+1) B s' ∧ Below w.heap.size w (w2.setCell ⟨B+2,k,none⟩ (strW out)) ∧ ValsAt (w2.setCell ⟨B+2,k,none⟩ (strW out)) (B+2) n (wordsF (outs ++ [out])) ∧ (outs ++ [out]).length=k+1):=by
    refine ⟨?_,below_store (HSi.out.later q2 hb2) (by show w.heap.size ≤ B+2;rw [HB.out];omega) _,?_,by simp [q7]⟩
    ·
     obtain ⟨na,nc,pv,h⟩:=hp2
     exact ⟨na,nc,pv,h.far (b:=B+2) (by omega) (by omega) (by omega) k (strW out)⟩
    ·
     rw [← wordsF_put,q7]
     exact hv2.put hkn _
   clear q1 q2 q3 q4 q5 q6 q7 hv2 hb2 hp2
   go_wp2_with fail
   go_roundw
   case rel=>exact ⟨k+1,outs ++ [out],s',by omega,by go_num,HF.out.2.2.2,HF.out.1,HNx.out.1,HF.out.2.1,HF.out.2.2.1,HNx.out.2.2.2.1,HNx.out.2.2.2.2.1,HNx.out.2.2.2.2.2.1⟩
   case measure=>simp [intOf];omega
  ·
   obtain rfl:k=n:=by omega
   have HE:Hid (OutsEnd Told Good lines w (.returned (.tuple #[.slice (some ⟨B+2,0,none⟩) k k,.nilIface])) wr):=by
    refine ⟨B+2,outs,s,by rw [HN.out],.inr ⟨B+2,0,rfl,hv.lt,fun i o hi=>?_⟩,htd,by rw [HN.out];exact hgd,?_,hbw⟩
    ·
     have hil:=lt_of_get hi
     rw [Nat.zero_add,hv.cell i (by omega)]
     unfold wordsF
     rw [List.getD_eq_getElem?_getD,hi]
     rfl
    ·
     rw [show lines.take k=lines by rw [← HN.out,List.take_length]] at hsa
     exact hsa
   clear hol hpl hok hbw hv hsa hgd htd
   go_wp2_with fail
   go_ret2
   exact HE.out
theorem sameTexts_yes (a b:Option Addr) (cap1 cap2:Nat) (xs:List (List UInt8)) (w:World) (h1:LiesW w a xs) (h2:LiesW w b xs) (hm:xs.length ≤ 1000) :
  Calls Tryz.prog 11 #[.slice a xs.length cap1,.slice b xs.length cap2] w fun e w'=>e=.returned (.bool true) ∧ Below w.heap.size w w':=by
 have HL:Hid (∀ (i:Nat) x,xs[i]? = some x → ∃ b1 o1 b2 o2,a=some ⟨b1,o1,none⟩ ∧ b=some ⟨b2,o2,none⟩ ∧ w.cell? ⟨b1,o1+i,none⟩=some (strW x) ∧ w.cell? ⟨b2,o2+i,none⟩=some (strW x)):=fun i x hi=>by
  obtain ⟨b1,o1,e1,-,k1⟩:=h1.place (by have:=lt_of_get hi;omega)
  obtain ⟨b2,o2,e2,-,k2⟩:=h2.place (by have:=lt_of_get hi;omega)
  exact ⟨b1,o1,b2,o2,e1,e2,k1 i x hi,k2 i x hi⟩
 obtain ⟨n,hn⟩:∃ n,xs.length=n:=⟨_,rfl⟩
 have HN:Hid (xs.length=n):=hn
 rw [hn] at hm ⊢
 clear h1 h2 hn
 go_enter Tryz.func11,Tryz.ntmps11
 go_wp2_with fail
 go_loopw [5] (fun i wr=>∃ k:Nat,k ≤ n ∧ i=.int .i64 k ∧ ∃ q,wr=w.drewN q) (fun i _=>n - (intOf i).toNat)
 case atStart=>exact ⟨0,Nat.zero_le _,rfl,0,rfl⟩
 case round=>
  obtain ⟨k,hk,rfl,q,rfl⟩:=hrel
  by_cases hkn:k < n
  ·
   obtain ⟨x,hx,-⟩:=get_some xs k (by rw [HN.out];exact hkn)
   obtain ⟨b1,o1,b2,o2,rfl,rfl,k1,k2⟩:=HL.out k x hx
   obtain ⟨sx,hsx⟩:∃ sx:ByteArray,⟨x.toArray⟩=sx:=⟨_,rfl⟩
   have k1':w.cell? ⟨b1,o1+k,none⟩=some (.string sx):=by rw [k1,← hsx]
   have k2':w.cell? ⟨b2,o2+k,none⟩=some (.string sx):=by rw [k2,← hsx]
   have heq:(sx.toList == sx.toList)=true:=by simp
   clear hx k1 k2 hsx
   go_wp2_with fail
   go_quiet (fail)
   go_wp2_with fail
   go_roundw
   case rel=>exact ⟨k+1,by omega,by go_num,_,rfl⟩
   case measure=>simp [intOf];omega
  ·
   obtain rfl:k=n:=by omega
   go_wp2_with fail
   go_ret
   exact ⟨rfl,below_drewN (Below.refl _ _) q⟩
theorem errorText_is (c:Int) (w:World) (h:1 ≤ c ∧ c ≤ 9) :
  Calls Tryz.prog 9 #[.int .i64 c] w fun e w'=>e=.returned (strW (errText c)) ∧ Below w.heap.size w w':=by
 have hb:∀ o:Obj,Below w.heap.size w (w.alloc o):=fun o=>(Below.refl _ _).alloc (Nat.le_refl _) _
 have HB:Hid (∀ o:Obj,Below w.heap.size w (w.alloc o)):=hb
 clear hb
 rcases (show c=1 ∨ c=2 ∨ c=3 ∨ c=4 ∨ c=5 ∨ c=6 ∨ c=7 ∨ c=8 ∨ c=9 by omega) with rfl | rfl | rfl | rfl | rfl | rfl | rfl | rfl | rfl
 all_goals
  clear h
  go_enter Tryz.func9,Tryz.ntmps9
  go_wp2
  go_ret
  exact ⟨rfl,HB.out _⟩
end Go.Proofs.YtipdclphpkgceaaGreatDoor
