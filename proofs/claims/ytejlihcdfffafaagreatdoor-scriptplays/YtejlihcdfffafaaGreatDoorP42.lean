import Derived.Test.YtejlihcdfffafaaGreatDoorP41
set_option maxHeartbeats 4000000
set_option maxRecDepth 100000
namespace Go.Proofs.YtejlihcdfffafaaGreatDoor
open Go.Lib
theorem PH {k:List UInt8}(h:Ie k=true):(32:UInt8) ∉ k:=by
 unfold Ie at h;simp only[Bool.or_eq_true,decide_eq_true_eq]at h;rcases h with(((h|h)|h)|h)|h <;> subst h <;> decide
theorem Mt {l:LL}(h:Gb l=true):(l.wd=BF/\l.nm.length%2=1)\/(l.wd=Cu/\l.nm.length=1/\Ie l.kd=true)\/(l.wd=Br/\l.nm.length=8)\/(l.wd=Bd/\l.nm.length=3)\/(l.wd=atW/\l.nm.length=2) \/
  ((l.wd=CQ\/l.wd=Ms\/l.wd=EA\/l.wd=Cv)/\l.nm=[]):=by
 unfold Gb at h;split at h
 · next e=>exact .inl ⟨e,by simpa using h⟩
 split at h
 · next e=>exact .inr (.inl ⟨e,by simpa using h⟩)
 split at h
 · next e=>exact .inr (.inr (.inl ⟨e,by simpa using h⟩))
 split at h
 · next e=>exact .inr (.inr (.inr (.inl ⟨e,by simpa using h⟩)))
 split at h
 · next e=>exact .inr (.inr (.inr (.inr (.inl ⟨e,by simpa using h⟩))))
 split at h
 · next e=>exact .inr (.inr (.inr (.inr (.inr ⟨e,qN.1 (by simpa using h)⟩))))
 cases h
theorem TJ {l:LL}(h:Gb l=true):(32:UInt8) ∉ l.wd:=by
 rcases Mt h with⟨e,-⟩|⟨e,-⟩|⟨e,-⟩|⟨e,-⟩|⟨e,-⟩|⟨e|e|e|e,-⟩ <;> rw[e] <;> decide
def GR (l:LL):List (List UInt8):=(if l.wd=Cu then [l.kd]else [])++l.nm.map itoa
theorem Z4 {l:LL}{x:List UInt8}(V:MJ l (some x)):(l.nm=[]/\(l.wd=CQ\/l.wd=Ms\/l.wd=EA\/l.wd=Cv)/\Gu x=(l.wd,[],false)) \/
  ∃ rest,Gu x=(l.wd,rest,true)/\CJ rest=GR l/\(l.wd=BF\/l.wd=Cu\/l.wd=Br\/l.wd=Bd\/l.wd=atW):=by
 rcases V with⟨N,U,e⟩|⟨-,e⟩
 ·
  cases e
  have D:=JZ U;have J:=TJ N;have E:∀ I:l.wd≠Cu,1<=l.nm.length->∃ rest,Gu (Ck l++tailW l.nm)=(l.wd,rest,true)/\CJ rest=GR l:=fun I h=>by
   have z:Ck l=l.wd:=by unfold Ck;rw[if_neg I]
   have H:GR l=l.nm.map itoa:=by unfold GR;rw[if_neg I];rfl
   rw[z,H];cases K:l.nm with
   | nil=>rw[K]at h;simp at h
   | cons n ns=>
    rw[K]at D;have W:tailW (n::ns)=32::(itoa n++tailW ns):=by simp[tailW]
    rw[W];refine⟨itoa n++tailW ns,NI l.wd _ J,?_⟩;exact Lc (itoa n) ns (Nl (D n (by simp)).1) fun m O=>D m (qG _ O)
  rcases Mt N with⟨e,h⟩|⟨e,h,Q⟩|⟨e,h⟩|⟨e,h⟩|⟨e,h⟩|⟨e,h⟩
  · obtain⟨rest,a,b⟩:=E (by rw[e];decide) (by omega);exact .inr ⟨rest,a,b,.inl e⟩
  ·
   have z:Ck l++tailW l.nm=l.wd++32::(l.kd++tailW l.nm):=by unfold Ck;rw[if_pos e];simp
   have H:GR l=l.kd::l.nm.map itoa:=by unfold GR;rw[if_pos e];rfl
   rw[z,H];exact .inr ⟨_,NI l.wd _ J,Lc l.kd l.nm (PH Q) D,.inr (.inl e)⟩
  · obtain⟨rest,a,b⟩:=E (by rw[e];decide) (by omega);exact .inr ⟨rest,a,b,.inr (.inr (.inl e))⟩
  · obtain⟨rest,a,b⟩:=E (by rw[e];decide) (by omega);exact .inr ⟨rest,a,b,.inr (.inr (.inr (.inl e)))⟩
  · obtain⟨rest,a,b⟩:=E (by rw[e];decide) (by omega);exact .inr ⟨rest,a,b,.inr (.inr (.inr (.inr e)))⟩
  have z:Ck l=l.wd:=by
   unfold Ck;rw[if_neg];rcases e with e|e|e|e <;> rw[e] <;> decide
  refine .inl ⟨h,e,?_⟩;rw[z,h];simp only[tailW,List.flatMap_nil,x6];exact SF l.wd J
 cases e
theorem Zv {l:LL}{x:List UInt8}(H:MJ l (some x)){s s1:Scr}{c:Int}{o:List UInt8}:((l.wd=CQ\/l.wd=Ms\/l.wd=EA\/l.wd=Cv)->Alone s l.wd c o s1->Ju s x c o s1) /\
  ((l.wd=BF\/l.wd=Cu\/l.wd=Br\/l.wd=Bd\/l.wd=atW)->Bp s l.wd (GR l) c o s1->Ju s x c o s1):=by
 unfold Ju;rw[FV,Hz];rcases Z4 H with⟨-,E,z⟩|⟨rest,z,I,E⟩
 ·
  rw[z];refine⟨fun _ D=>.inr ⟨rfl,D⟩,fun h _=>?_⟩;exfalso
  rcases E with e|e|e|e <;> rw[e]at h <;> revert h <;> decide
 rw[z];refine⟨fun h _=>?_,fun _ D=>.inl ⟨rfl,by rw[I];exact D⟩⟩;exfalso
 rcases E with e|e|e|e|e <;> rw[e]at h <;> revert h <;> decide
theorem gQ {n:Int}(z:0<=n)(h:n<=9):(itoa n).length=1:=by
 obtain⟨u,rfl⟩:∃ u:Nat,n=(u:Int):=⟨n.toNat,by omega⟩
 rw[itoa_nonneg,decDigits_one (by omega)];rfl
theorem OC {n:Int}(h:0<=n)(z:n<=9):Gs (itoa n)=some n:=by
 unfold Gs;rw[if_neg (by rw[gQ h z];decide),LA h (by omega)]
theorem Qu {n:Int}(z:0<=n)(D:n<=9):Em (itoa n)=if n<8 then some n else none:=by
 unfold Em;rw[OC z D,y8];by_cases h:n<8
 · rw[if_pos h,if_pos ⟨z,h⟩]
 rw[if_neg h,if_neg (fun k=>h k.2)]
theorem VY {ns:List Int}(h:∀ n∈ns,0<=n/\n<=9999999)(z:ns.length%2=0):Er (ns.map itoa)=some (Ig ns):=by
 unfold Er;rw[if_neg (by simpa using z),J3 ns h];rfl
open Go.RowKit
def Apart (w:World)(z:Nat->Prop)(a:oA):Prop:=∀ h,a=some h->¬z h.block/\h.block<w.heap.size
theorem Apart.grow {w w':World}{D:Nat->Prop}{a:oA}(h:Apart w D a)(E:w.heap.size<=w'.heap.size):Apart w' D a:=fun z e=>⟨(h z e).1,qD (h z e).2 E⟩
structure O9 (w:World)(Z:Nat->Prop)(cb:Nat)(i:Nat)(ls:lI)(a:oA)(cap:Nat):Prop where
 cell:w.cell? ⟨cb,i,none⟩=some (.slice a ls.length cap)
 lies:AQ w a ls
 le:ls.length<=cap
 max:cap<=maxLen
 nil:a=none->ls=[]/\cap=0
 far:Apart w Z a
structure F8 (w:World)(Z:Nat->Prop)(g cb:Nat)(na:oA)(ncap:Nat)(pa:oA)(pcap:Nat)(s:Scr):Prop where
 gl:g<w.heap.size
 cl:cb<w.heap.size
 ne:g≠cb
 c0:w.cell? ⟨g,0,none⟩=some (.slice (some ⟨cb,0,none⟩) 8 8)
 c1:w.cell? ⟨g,1,none⟩=some (Ad s.kb)
 c2:w.cell? ⟨g,2,none⟩=some (.int .i64 s.per)
 c3:w.cell? ⟨g,3,none⟩=some (.slice na s.ns.length ncap)
 c4:w.cell? ⟨g,4,none⟩=some (.slice pa s.ps.length pcap)
 fg:∀ i,w.frozen? ⟨g,i,none⟩=false
 fc:∀ i,w.frozen? ⟨cb,i,none⟩=false
 nums:AR w na s.ns
 nle:s.ns.length<=ncap
 nmax:ncap<=maxLen
 nnil:na=none->s.ns=[]/\ncap=0
 nfar:Apart w Z na
 pks:CU w pa pcap s.ps
 pfar:Apart w Z pa
 curves:∀(i:Nat) ls,s.cs[i]? = some ls->∃ a cap,O9 w Z cb i ls a cap
 zg:Z g
 zc:Z cb
 zl:∀ b,Z b->b<w.heap.size
def Dc (w:World)(D:Nat->Prop)(g I:Nat)(s:Scr):Prop:=∃ z E h H,F8 w D g I z E h H s
theorem F8.gate {w:World}{K:Nat->Prop}{g D:Nat}{E:oA}{H:Nat}{I:oA}{N:Nat}{s:Scr}(h:F8 w K g D E H I N s)(Q:s.cs.length=8)(O:jf s.cs s.ns):DT w (some ⟨D,0,none⟩) 8 s.cs E H s.ns:=
 ⟨.inr ⟨D,0,rfl,h.cl,fun i ls J=>by
  obtain⟨a,cap,z⟩:=h.curves i ls J;rw[vC];exact ⟨a,cap,z.cell,z.lies,z.le,z.max,z.nil⟩⟩,by omega,by simp [maxLen],h.nums,h.nle,h.nmax,h.nnil,O⟩
theorem Vo (w:World):Calls Tryz.prog 5 #[] w fun e w'=>e=.returned (.pointer (some ⟨w.heap.size+1,0,none⟩))/\w'=(w.alloc (.cells (madeCells #[.slice none 0 0] 8) 54)).alloc (.cells #[.slice (some ⟨w.heap.size,0,none⟩) 8 8,.string ⟨#[102,105,102,111]⟩,.int .i64 1,.slice none 0 0,.slice none 0 0] 44):=by
 have h:=Ob;go_in
 go_wp2
 go_ret;exact⟨by simp,by simp⟩
section
variable {w w':World} {Z:Nat → Prop} {g cb:Nat} {na:Option Addr} {ncap:Nat} {pa:Option Addr} {pcap:Nat} {s:Scr}
theorem O9.below {i:Nat}{ls:lI}{a:oA}{cap:Nat}(h:O9 w Z cb i ls a cap)(z:zW w w'):O9 w' Z cb i ls a cap:=
 ⟨j7 z h.cell,Ex h.lies (.ofBelow (S:=fun _=>False) z) (fun _ _=>id),h.le,h.max,h.nil,h.far.grow z.size⟩
theorem F8.below (h:F8 w Z g cb na ncap pa pcap s)(z:zW w w'):F8 w' Z g cb na ncap pa pcap s:=
 ⟨qD h.gl z.size,qD h.cl z.size,h.ne,j7 z h.c0,j7 z h.c1,j7 z h.c2,j7 z h.c3,j7 z h.c4,
  fun i=>by rw[z.frozen (p:=⟨g,i,none⟩) h.gl];exact h.fg i,fun i=>by rw[z.frozen (p:=⟨cb,i,none⟩) h.cl];exact h.fc i,
  h.nums.below z,h.nle,h.nmax,h.nnil,h.nfar.grow z.size,h.pks.below z,h.pfar.grow z.size,fun i ls H=>by
   obtain⟨a,cap,D⟩:=h.curves i ls H;exact ⟨a,cap,D.below z⟩,h.zg,h.zc,fun b E=>qD (h.zl b E) z.size⟩
theorem Dc.below (h:Dc w Z g cb s)(z:zW w w'):Dc w' Z g cb s:=by
 obtain⟨E,H,D,I,h⟩:=h;exact⟨E,H,D,I,h.below z⟩
end
theorem bW (w:World)(N W:TypeId)(h:World)(D:h=(w.alloc (.cells (madeCells #[.slice none 0 0] 8) N)).alloc (.cells #[.slice (some ⟨w.heap.size,0,none⟩) 8 8,.string ⟨#[102,105,102,111]⟩,.int .i64 1,.slice none 0 0,.slice none 0 0] W)):F8 h (fun b=>b=w.heap.size+1\/b=w.heap.size) (w.heap.size+1) w.heap.size none 0 none 0 Cr/\zW w h:=by
 obtain⟨z,H⟩:=ex (w.alloc (.cells (madeCells #[.slice none 0 0] 8) N));have hs1:z.heap.size=w.heap.size+1:=by rw[<- H];simp
 have Z:zW w z:=by rw[<- H];exact ba
 have U:∀ i,i<8->z.cell? ⟨w.heap.size,i,none⟩=some (.slice none 0 0):=fun i I=>by
  rw[<- H,qO _ _ _ _ rfl];exact Gr _ _ _ I
 have ab:∀ i,z.frozen? ⟨w.heap.size,i,none⟩=false:=fun i=>by rw[<- H];exact vQ w _ _ i
 rw[H]at D;have J:zW z h:=by rw[D];exact ba
 have E:∀ i,h.cell? ⟨w.heap.size+1,i,none⟩=(#[.slice (some ⟨w.heap.size,0,none⟩) 8 8,.string ⟨#[102,105,102,111]⟩,.int .i64 1,.slice none 0 0,.slice none 0 0]:Array Value)[i]?:=fun i=>by
  rw[D,<- hs1,qO _ _ _ _ rfl]
 have O:∀ i,h.frozen? ⟨w.heap.size+1,i,none⟩=false:=fun i=>by rw[D,<- hs1];exact vQ z _ _ i
 have hs2:h.heap.size=w.heap.size+2:=by rw[D];simp[hs1]
 refine⟨⟨by omega,by omega,by omega,E 0,E 1,E 2,E 3,E 4,O,fun i=>?_,.inl rfl,by simp[Cr],by simp[maxLen],fun _=>⟨rfl,rfl⟩,(fun K e=>by cases e),⟨.inl rfl,by simp[Cr],by simp[maxLen],fun _=>⟨rfl,rfl⟩⟩,(fun K e=>by cases e),fun i ls I=>?_,.inl rfl,.inr rfl,fun b Y=>by rcases Y with rfl|rfl <;> omega⟩,Z.tr J⟩
 · rw[J.frozen (p:=⟨w.heap.size,i,none⟩) (by show w.heap.size<_;omega)];exact ab i
 have V:ls=[]:=x8 (q9 I);subst V;have Q:=Af I;exact⟨none,0,j7 J (U i Q),.inl rfl,lr,by simp[maxLen],fun _=>⟨rfl,rfl⟩,fun K e=>by cases e⟩
def JY (g h:Nat)(k:Nat):Prop:=k=g\/k=h
theorem Apart.not {w:World}{z:Nat->Prop}{g E:Nat}{a:oA}(D:Apart w z a)(I:z g)(H:z E):∀ h,a=some h->¬JY g E h.block:=fun h e k=>by
 rcases k with k|k
 · exact(D h e).1 (k ▸ I)
 exact(D h e).1 (k ▸ H)
section
variable {w w':World} {Z:Nat → Prop} {g cb:Nat} {na:Option Addr} {ncap:Nat} {pa:Option Addr} {pcap:Nat} {s:Scr}
theorem F8.setCurve (h:F8 w Z g cb na ncap pa pcap s){f:Nat}(ai:f<8)(ad:s.cs.length=8){ls:lI}{a:oA}{cap:Nat}(Y:AQ w a ls)(V:ls.length<=cap)(ac:cap<=maxLen)(O:a=none->ls=[]/\cap=0)(J:Apart w Z a):F8 (w.setCell ⟨cb,f,none⟩ (.slice a ls.length cap)) Z g cb na ncap pa pcap { s with cs:=s.cs.set f ls }/\But (JY g cb) w (w.setCell ⟨cb,f,none⟩ (.slice a ls.length cap)):=by
 have z:But (JY g cb) w (w.setCell ⟨cb,f,none⟩ (.slice a ls.length cap)):=But.setCell (p:=⟨cb,f,none⟩) (But.refl (JY g cb) w) (.inr rfl) _;have ab:But (fun k=>k=cb) w (w.setCell ⟨cb,f,none⟩ (.slice a ls.length cap)):=But.setCell (p:=⟨cb,f,none⟩) (But.refl (fun k=>k=cb) w) rfl _;have e:∀ i,(w.setCell ⟨cb,f,none⟩ (.slice a ls.length cap)).cell? ⟨g,i,none⟩=w.cell? ⟨g,i,none⟩:=fun i=>ab.cell (p:=⟨g,i,none⟩) h.gl h.ne
 refine⟨⟨qD h.gl z.size,qD h.cl z.size,h.ne,(e 0).trans h.c0,(e 1).trans h.c1,(e 2).trans h.c2,(e 3).trans h.c3,(e 4).trans h.c4,(fun i=>by rw[qK];exact h.fg i),(fun i=>by rw[qK];exact h.fc i),Dw h.nums z (h.nfar.not h.zg h.zc),h.nle,h.nmax,h.nnil,h.nfar.grow z.size,⟨h.pks.pks.but z (h.pfar.not h.zg h.zc),h.pks.cap,h.pks.max,h.pks.none_⟩,h.pfar.grow z.size,fun i N W=>?_,h.zg,h.zc,fun b U=>qD (h.zl b U) z.size⟩,z⟩;have E:(s.cs.set f ls)[i]? = some N:=W;by_cases H:f=i
 · subst H;rw[zB (by omega)]at E;obtain rfl:=Option.some.inj E;obtain⟨I,K,D⟩:=h.curves f s.cs[f] (qE (by omega));exact⟨a,cap,qT _ _ _ (by rw[D.cell];rfl),Ex Y z (J.not h.zg h.zc),V,ac,O,J.grow z.size⟩
 rw[List.getElem?_set_ne H]at E;obtain⟨I,K,D⟩:=h.curves i N E;refine⟨I,K,?_,Ex D.lies z (D.far.not h.zg h.zc),D.le,D.max,D.nil,D.far.grow z.size⟩;rw[j9 _ _ _ _ (by intro Q;cases Q;exact H rfl)];exact D.cell
theorem F8.setGate (h:F8 w Z g cb na ncap pa pcap s)(kb:List UInt8)(per:Int){H:oA}{E:Nat}{ns:List Int}(Q:AR w H ns)(ab:ns.length<=E)(U:E<=maxLen)(Y:H=none->ns=[]/\E=0)(J:Apart w Z H)
  (z:But (fun k=>k=g) w w') (D:∀ i,i<5->w'.cell? ⟨g,i,none⟩=(#[.slice (some ⟨cb,0,none⟩) 8 8,Ad kb,.int .i64 per,.slice H ns.length E,.slice pa s.ps.length pcap]:Array Value)[i]?) (K:∀ i,w'.frozen? ⟨g,i,none⟩=false) :
  F8 w' Z g cb H E pa pcap { s with kb:=kb,per:=per,ns:=ns }/\But (JY g cb) w w':=by
 have I:But (JY g cb) w w':=z.mono fun k N=>.inl N
 refine⟨⟨qD h.gl z.size,qD h.cl z.size,h.ne,D 0 (by omega),D 1 (by omega),D 2 (by omega),D 3 (by omega),D 4 (by omega),K,(fun i=>by rw[z.frozen (p:=⟨cb,i,none⟩) h.cl h.ne.symm];exact h.fc i),Dw Q I (J.not h.zg h.zc),ab,U,Y,J.grow z.size,⟨h.pks.pks.but I (h.pfar.not h.zg h.zc),h.pks.cap,h.pks.max,h.pks.none_⟩,h.pfar.grow z.size,fun i W ad=>?_,h.zg,h.zc,fun b ac=>qD (h.zl b ac) z.size⟩,I⟩;obtain⟨O,V,q⟩:=h.curves i W ad;exact⟨O,V,by rw[z.cell (p:=⟨cb,i,none⟩) h.cl h.ne.symm];exact q.cell,Ex q.lies I (q.far.not h.zg h.zc),q.le,q.max,q.nil,q.far.grow z.size⟩
theorem F8.setPks (h:F8 w Z g cb na ncap pa pcap s){pa':oA}{pcap':Nat}{ps:List Pk}(D:CU w pa' pcap' ps)(I:Apart w Z pa'):F8 (w.setCell ⟨g,4,none⟩ (.slice pa' ps.length pcap')) Z g cb na ncap pa' pcap' { s with ps:=ps }/\But (JY g cb) w (w.setCell ⟨g,4,none⟩ (.slice pa' ps.length pcap')):=by
 have z:But (fun k=>k=g) w (w.setCell ⟨g,4,none⟩ (.slice pa' ps.length pcap')):=But.setCell (p:=⟨g,4,none⟩) (But.refl (fun k=>k=g) w) rfl _;have E:But (JY g cb) w (w.setCell ⟨g,4,none⟩ (.slice pa' ps.length pcap')):=z.mono fun k J=>.inl J
 have e:∀ i,i≠4->(w.setCell ⟨g,4,none⟩ (.slice pa' ps.length pcap')).cell? ⟨g,i,none⟩=w.cell? ⟨g,i,none⟩:=fun i H=>j9 _ _ _ _ (by intro O;cases O;exact H rfl)
 refine⟨⟨qD h.gl z.size,qD h.cl z.size,h.ne,(e 0 (by omega)).trans h.c0,(e 1 (by omega)).trans h.c1,(e 2 (by omega)).trans h.c2,(e 3 (by omega)).trans h.c3,qT _ _ _ (by rw[h.c4];rfl),(fun i=>by rw[qK];exact h.fg i),(fun i=>by rw[qK];exact h.fc i),Dw h.nums E (h.nfar.not h.zg h.zc),h.nle,h.nmax,h.nnil,h.nfar.grow z.size,⟨D.pks.but E (I.not h.zg h.zc),D.cap,D.max,D.none_⟩,I.grow z.size,fun i Q H=>?_,h.zg,h.zc,fun b U=>qD (h.zl b U) z.size⟩,E⟩;obtain⟨K,N,q⟩:=h.curves i Q H;exact⟨K,N,by rw[z.cell (p:=⟨cb,i,none⟩) h.cl h.ne.symm];exact q.cell,Ex q.lies E (q.far.not h.zg h.zc),q.le,q.max,q.nil,q.far.grow z.size⟩
end
def Fz (z:Nat->Prop)(g h:Nat)(s s1:Scr)(c:Int)(w:World)(e:Ending)(w':World):Prop:=
 e=.returned (Ad (if c=0 then AP else AV c))/\But (JY g h) w w'/\((c=0/\Dc w' z g h s1)\/(c≠0/\Dc w' z g h s))
theorem SK (N:Nat->Prop)(g h:Nat)(s:Scr)(w:World)(V:Bq s){a':oA}{a9:Nat}{bg:oA}{bs:Nat}(an:F8 w N g h a' a9 bg bs s)
  (kb:List UInt8) (per:Int) (D:oA) (E:Nat) (ns:List Int) (aw:AR w D ns) (a2:ns.length<=E) (a3:E<=maxLen) (a7:D=none->ns=[]/\E=0) (a4:Apart w N D) (bm:ns.length<=30)
  (c p:Int) (aB:Ea s.cs (kindOf kb) per ns c p) (aE:0<=c/\c<=9) :
  Calls Tryz.prog 13 #[.pointer (some ⟨g,0,none⟩),.agg #[.slice (some ⟨h,0,none⟩) 8 8,Ad kb,.int .i64 per,.slice D ns.length E]] w fun e w'=>Fz N g h s { s with kb:=kb,per:=per,ns:=ns } c w e w':=by
 have U:zW w (w.alloc (.cells #[.slice (some ⟨h,0,none⟩) 8 8,Ad kb,.int .i64 per,.slice D ns.length E] 41)):=ba;have ar:=Dk w (.slice (some ⟨h,0,none⟩) 8 8) ⟨kb.toArray⟩ per (.slice D ns.length E) 41;obtain⟨J,aj⟩:=ex (w.alloc (.cells #[.slice (some ⟨h,0,none⟩) 8 8,Ad kb,.int .i64 per,.slice D ns.length E] 41));rw[aj]at U ar;have ao:Hid (Calls Tryz.prog 24 #[.agg #[.slice (some ⟨h,0,none⟩) 8 8,Ad kb,.int .i64 per,.slice D ns.length E]] J fun e w'=>OH c p J e w'):=by
  have bj:=an.gate V.gate.len (Il V (ns:=s.ns) (by rcases V.gate.nums.len with a0|a0;rw[a0.2];decide;omega));have:=Fv (some ⟨h,0,none⟩) 8 s.cs ⟨kb.toArray⟩ per D E ns J c p (bj.curves.below U) (by rw[V.gate.len];decide) (aw.below U) (by omega) (by rw[ByteArray.toList_mk];exact aB);rw[V.gate.len]at this;exact this
 have av:Hid (∀ z,qW 15 #[.int .i64 c] z (Ad (if c=0 then AP else AV c))):=fun z=>Zj c aE z
 have W:Hid (∀ z,zW J z -> CS z w.heap.size (.slice (some ⟨h,0,none⟩) 8 8) ⟨kb.toArray⟩ per (.slice D ns.length E) /\ (∀ i,i < 4 -> ∃ u,z.cell? ⟨g,i,none⟩=some u) /\ (∀ i,z.frozen? ⟨g,i,none⟩=false) /\ g < z.heap.size /\
   (∀ K,Below (Nv z g (.slice (some ⟨h,0,none⟩) 8 8) (Ad kb) (.int .i64 per) (.slice D ns.length E)).heap.size (Nv z g (.slice (some ⟨h,0,none⟩) 8 8) (Ad kb) (.int .i64 per) (.slice D ns.length E)) K -> Dc K N g h { s with kb:=kb,per:=per,ns:=ns } /\ But (JY g h) w K)):=fun z ab=>by
  have am:=U.tr ab;have H:=an.below am;refine⟨ar.later ab,fun i bb=>?_,H.fg,H.gl,fun K aN=>?_⟩
  ·
   match i,bb with
   | 0,_=>exact⟨_,H.c0⟩
   | 1,_=>exact⟨_,H.c1⟩
   | 2,_=>exact⟨_,H.c2⟩
   | 3,_=>exact⟨_,H.c3⟩
  obtain⟨bp,bc⟩:=H.setGate kb per (aw.below am) a2 a3 a7 (a4.grow am.size) (QM (w:=z) (b:=g) (v0:=.slice (some ⟨h,0,none⟩) 8 8) (v1:=Ad kb) (v2:=.int .i64 per) (v3:=.slice D ns.length E)) (Pv H.c0 H.c1 H.c2 H.c3 H.c4) (fun i=>by rw[OA];exact H.fg i);exact⟨⟨_,_,_,_,bp.below aN⟩,((But.ofBelow am).trans bc).trans (.ofBelow aN)⟩
 have aS:Hid (∀ z,zW J z->Dc z N g h s/\But (JY g h) w z):=fun z ab=>⟨⟨_,_,_,_,an.below (U.tr ab)⟩,.ofBelow (U.tr ab)⟩
 obtain⟨r,a1⟩:=ex ns.length;rw[a1]at ao W aj ⊢;obtain⟨bk,be,bh,bq⟩:=(W.o J br).1;clear aw a2 a3 a7 a4 bm aB an U ar a1 V aE;go_in
 go_wp2_with fail;refine ao.o.mono ?_
 rintro e I ⟨rfl,O⟩;clear bk be bh bq;have a8:=(W.o I O).2.2.2.1;by_cases al:c=0
 ·
  subst al;have ad:zW J (I.alloc (.cells #[.int .i64 0,.int .i64 p] 52)):=O.alloc O.size _;obtain⟨⟨bx,bT,bt,b5⟩,ac,Y,-,a6⟩:=W.o _ ad;obtain⟨u0,b1⟩:=ac 0 (by decide);obtain⟨u1,bN⟩:=ac 1 (by decide);obtain⟨u2,b7⟩:=ac 2 (by decide);obtain⟨u3,b4⟩:=ac 3 (by decide);have b6:=Y 0;have bv:=Y 1;have b0:=Y 2;have b3:=Y 3;have bd:(Nv (I.alloc (.cells #[.int .i64 0,.int .i64 p] 52)) g (.slice (some ⟨h,0,none⟩) 8 8) (Ad kb) (.int .i64 per) (.slice D r E)).cell? ⟨I.heap.size,0,none⟩=some (.int .i64 0):=by
   rw[(QM (w:=I.alloc (.cells #[.int .i64 0,.int .i64 p] 52)) (b:=g)).cell (p:=⟨I.heap.size,0,none⟩) (by simp) (by show ¬I.heap.size=g;omega),qO _ _ _ _ rfl];rfl
  have aq:=(show Hid (∀ K,Below (Nv (I.alloc (.cells #[.int .i64 0,.int .i64 p] 52)) g (.slice (some ⟨h,0,none⟩) 8 8) (Ad kb) (.int .i64 per) (.slice D r E)).heap.size (Nv (I.alloc (.cells #[.int .i64 0,.int .i64 p] 52)) g (.slice (some ⟨h,0,none⟩) 8 8) (Ad kb) (.int .i64 per) (.slice D r E)) K->Dc K N g h { s with kb:=kb,per:=per,ns:=ns }/\But (JY g h) w K)from a6)
  unfold Nv at aq bd;clear O ad ac Y a6 W aj ao aS a8;go_wp2_with fail;refine(av.o _).mono ?_
  rintro e Q ⟨rfl,Z⟩;have ai:=(show Hid (Dc Q N g h { s with kb:=kb,per:=per,ns:=ns }/\But (JY g h) w Q)from aq.o Q Z)
  clear Z aq;go_wp2
  go_ret;exact⟨rfl,ai.o.2,.inl ⟨rfl,ai.o.1⟩⟩
 have bw:(c==0)=false:=by simpa using al
 have ad:zW J (I.alloc (.cells #[.int .i64 c,.int .i64 p] 52)):=O.alloc O.size _;have a5:=qY ad al;obtain⟨b2,ap⟩:=ex (if c=0 then AP else AV c);rw[ap]at av;have bl:=qX ap;clear O ad al W ao a8 ap aj;go_wp2_with fail;refine(av.o _).mono ?_
 rintro e Q ⟨rfl,Z⟩;have ai:=(show Hid (Dc Q N g h s/\But (JY g h) w Q)from aS.o Q (a5.o.1.tr Z))
 clear Z;go_wp2
 go_ret;exact⟨by rw[bl.o];rfl,ai.o.2,.inr ⟨a5.o.2,ai.o.1⟩⟩
theorem Q4 {D:Nat->Prop}{g E:Nat}{s s1:Scr}{c:Int}{w w':World}(H:Dc w D g E s)(z:zW w w')(h:c≠0):Fz D g E s s1 c w (.returned (Ad (AV c))) w':=
 ⟨by rw[if_neg h],.ofBelow z,.inr ⟨h,H.below z⟩⟩
theorem UG:∀(ns:List Int)(k:Nat)(a b:Int),ns[2*k]? = some a->ns[2*k+1]? = some b->(Ig ns).take (k+1)=(Ig ns).take k++[(a,b)]:=fun ns k a b z h=>by
 rw[vF,Mh ns k a b z h];rfl
theorem Bn.whole {w:World}{B:Nat}{v:Value}{ls:lI}(D:Bn w B v ls):∃ a cap,v=.slice a ls.length cap/\ls.length<=cap/\cap<=maxLen/\AQ w a ls/\(a=none->ls=[]/\cap=0)/\∀ z,a=some z->B<=z.block/\z.block<w.heap.size:=by
 obtain⟨a,cap,e,Q,K,U⟩:=D.open;refine⟨a,cap,e,Q,K,U,fun E=>?_,fun z E=>?_⟩
 ·
  obtain⟨-,⟨h,J⟩|⟨b,N,V,h,-⟩⟩:=D
  ·
   rw[e]at h;injection h with _ _ O
   exact⟨qN.1 J,O⟩
  rw[e]at h;injection h with H
  rw[E]at H;cases H
 subst e;subst E;have I:(Value.slice (some z) ls.length cap).ownBlock=some z.block:=by
  obtain⟨-,⟨h,-⟩|⟨b,N,V,h,-⟩⟩:=D
  · cases h
  cases h
  rfl
 exact Aq D I
theorem VQ (Z:Nat->Prop)(g cb:Nat)(s:Scr)(w:World)(ho:Bq s)(hm:Dc w Z g cb s)(f:Int)(ns:List Int)(a:oA)(cap:Nat)(hl:AR w a (f::ns))(hev:ns.length%2=0)(hlen:ns.length<=20)(hf:0<=f/\f<=9)(hr:∀ n∈ns,0<=n/\n<=9999999):∃ c s1,Nj s (Go.Lib.itoa f::ns.map Go.Lib.itoa) c s1/\0<=c/\Calls Tryz.prog 12 #[.pointer (some ⟨g,0,none⟩),.slice a (ns.length+1) cap] w fun e w'=>Fz Z g cb s s1 c w e w':=by
 obtain⟨b,off,rfl,-,hcell⟩:=hl.place (by simp);have hx0:w.cell? ⟨b,off,none⟩=some (.int .i64 f):=hcell 0 f rfl;have hfl:=Qu hf.1 hf.2;obtain⟨m,hmm⟩:=ex (ns.length+1);have hm0:0<m:=by omega
 have hm21:m<=21:=by omega
 by_cases hf8:8<=f
 ·
  refine⟨1,s,.inl ⟨by show Em (Go.Lib.itoa f)=none;rw[hfl,if_neg (by omega)],rfl,rfl⟩,by decide,?_⟩;have HE:Hid (∀ W,zW w W->Fz Z g cb s s 1 w (.returned (Ad (AV 1))) W):=fun W hW=>Q4 hm hW (by decide)
  have HT:=qX (Et 1 w (by decide));have hd:decide (f>=8)=true:=qM (by omega);obtain⟨t,ht⟩:=ex (AV 1);rw[ht]at HE HT;rw[hmm];clear hl hcell hfl hmm hev hlen hr ho hm ht hf hf8;go_in
  go_wp2_with fail;refine HT.o.mono ?_
  rintro e w1 ⟨rfl,hb⟩;have HE1:=(show Hid (Fz Z g cb s s 1 w (.returned (Ad t)) w1)from HE.o w1 hb)
  clear hb;go_wp2
  go_ret;exact HE1.o
 obtain⟨L,hL⟩:=ex (Ig ns);obtain⟨K,hK⟩:=ex (ns.length/2);have hLK:L.length=K:=by rw[<- hL,GN,hK]
 have hmK:m=2*K+1:=by omega
 obtain⟨fn,rfl⟩:∃ fn:Nat,f=fn:=⟨f.toNat,by omega⟩
 have hfn:fn<8:=by omega
 obtain⟨c,hcc⟩:∃ c,(L=[]/\c=0)\/(L≠[]/\∃ p,Ch L c p):=by
  by_cases h0:L=[]
  · exact⟨0,.inl ⟨h0,rfl⟩⟩
  obtain⟨c,p,h⟩:=KS L;exact⟨c,.inr ⟨h0,p,h⟩⟩
 have hc9:c=0\/c=2\/c=3:=by
  rcases hcc with⟨-,h⟩|⟨-,p,h⟩
  · exact .inl h
  exact h.num
 refine⟨c,{ s with cs:=s.cs.set fn L },.inr ⟨(fn:Int),by show Em (Go.Lib.itoa (fn:Int))=_;rw[hfl,if_pos (by omega)],.inr ⟨L,by show Er (ns.map Go.Lib.itoa)=_;rw[VY hr hev,hL],by rw[yB],hcc⟩⟩,by omega,?_⟩;obtain⟨i0,hi,hz0,hz1,hz2⟩:=vL Tryz.infoLine;have HCell:Hid (∀ k,k<K->∃ x y,w.cell? ⟨b,off+(2*k+1),none⟩=some (.int .i64 x)/\w.cell? ⟨b,off+(2*k+2),none⟩=some (.int .i64 y)/\L.take (k+1)=L.take k++[(x,y)]):=fun k hk=>by
  obtain⟨x,hx,-⟩:=Ab ns (2*k) (by omega);obtain⟨y,hy,-⟩:=Ab ns (2*k+1) (by omega);exact⟨x,y,hcell (2*k+1) x (by simpa using hx),hcell (2*k+2) y (by simpa using hy),by rw[<- hL];exact UG ns k x y hx hy⟩
 have HSt:Hid (∀ W v,zW w W->Bn W w.heap.size v L->W.cell? ⟨g,0,none⟩=some (.slice (some ⟨cb,0,none⟩) 8 8)/\(∃ u,W.cell? ⟨cb,fn,none⟩=some u)/\W.frozen? ⟨cb,fn,none⟩=false/\(c=0->Fz Z g cb s { s with cs:=s.cs.set fn L } c w (.returned (Ad AP)) (W.setCell ⟨cb,fn,none⟩ v))):=fun W v hW hv=>by
  obtain⟨na,nc,pa,pc,hpi⟩:=hm;have hpW:=hpi.below hW;obtain⟨l',hl',-⟩:=Ab s.cs fn (by rw[ho.gate.len];exact hfn);obtain⟨a',cap',hc'⟩:=hpW.curves fn l' hl';refine⟨hpW.c0,⟨_,hc'.cell⟩,hpW.fc fn,fun h0=>?_⟩;obtain⟨a2,k2,rfl,q1,q2,q3,q4,q5⟩:=hv.whole;have gl:=hpi.gl;have cl:=hpi.cl;obtain⟨k1,k2⟩:=hpW.setCurve hfn ho.gate.len q3 q1 q2 q4 (fun ad e=>⟨fun hz=>by have:=(q5 ad e).1;have:=hpi.zl _ hz;omega,(q5 ad e).2⟩);exact⟨by rw[if_pos h0],(But.ofBelow hW).trans k2,.inl ⟨h0,_,_,_,_,k1⟩⟩
 have HEr:Hid (∀ W,zW w W->c≠0->Fz Z g cb s { s with cs:=s.cs.set fn L } c w (.returned (Ad (AV c))) W):=fun W hW hc=>Q4 hm hW hc
 have HCf:Hid (∀ W a' cap' p,AQ W a' L->K<=cap'->cap'<=maxLen->Ch L c p->qW 23 #[.slice a' K cap'] W (.agg #[.int .i64 c,.int .i64 p])):=fun W a' cap' p q1 q2 q3 q4=>by
  have:=LV a' cap' L W q1 (by omega) q3 c p q4;rwa[hLK]at this
 have HT:Hid (∀ W,c≠0->qW 16 #[.int .i64 c] W (Ad (AV c))):=fun W hc=>Et c W (by omega)
 have HX0:=qX hx0;have HK:=qY hmK hLK;have hK10:K<=10:=by omega
 have hc3:=qX hc9;have hd:decide ((fn:Int)>=8)=false:=qF (by omega);have HCc:Hid ((K=0/\c=0)\/(0<K/\∃ p,Ch L c p)):=by
  rcases hcc with⟨h0,h1⟩|⟨h0,h1⟩
  · exact .inl ⟨by rw[<- hLK,h0];rfl,h1⟩
  exact .inr ⟨by rw[<- hLK];exact yH.2 h0,h1⟩
 rw[hmm];clear hl hcell hfl hmm hev hlen hr ho hm hf hf8 hL hK hLK hmK hcc hc9;go_in
 go_wp2_with fail;go_loopg [5,6] K (fun gk v i wr=>∃ k j:Nat,gk+k=K/\j=2*k+1/\i=.int .i64 j/\Bn wr w.heap.size v (L.take k)/\zW w wr)
 case atStart=>exact⟨0,1,by omega,rfl,rfl,qQ _ _ _ _,br⟩
 case round=>
  obtain⟨k,j,hgk,hj,rfl,hown,hb⟩:=hrel;have HO:=qY hown hb;have hsz:=hb.size;have hjm:j<=21:=by omega
  by_cases hkn:k<K
  ·
   obtain⟨x,y,hx,hy,htk⟩:=HCell.o k hkn;have c1:wr.cell? ⟨b,off+j,none⟩=some (.int .i64 x):=by rw[hj];exact j7 hb hx
   obtain⟨j1,hj1⟩:=ex (j+1);have c2:wr.cell? ⟨b,off+j1,none⟩=some (.int .i64 y):=by rw[<- hj1,hj];exact j7 hb hy
   have hlt:decide ((j:Int)+1<(m:Int))=true:=qM (by have:=HK.o.1;omega);have hjm1:j<m:=by have:=HK.o.1;omega
   have hjm2:j1<m:=by have:=HK.o.1;omega
   have hw1:IntKind.i64.wrap ((j:Int)+1)=(j1:Int):=by rw[<- hj1];exact vY _ (by omega)
   have HStep:Hid (L.take (k+1)=L.take k++[(x,y)]/\(L.take k).length=k/\j+2=2*(k+1)+1):=⟨htk,by rw[vO,HK.o.2];omega,by omega⟩
   have HCk:Hid (w.cell? ⟨b,off+j,none⟩=some (.int .i64 x)/\w.cell? ⟨b,off+j1,none⟩=some (.int .i64 y)):=⟨by rw[hj];exact hx,by rw[<- hj1,hj];exact hy⟩
   have HOw:Hid ((wr.drew.alloc (.cells #[.int .i64 x,.int .i64 y] 66)).ownsRow w.heap.size 66 2 u5 k (AL (L.take k))):=by
    have:=Bn.later hown (((y6 _ wr).drew).alloc lr (.cells #[.int .i64 x,.int .i64 y] 66));unfold Bn at this;rw[HStep.o.2.1]at this;exact this
   have HBw:Hid (zW w (wr.drew.alloc (.cells #[.int .i64 x,.int .i64 y] 66))):=hb.drew.alloc hb.size _;have HNews:Hid (∀ q u,(AL [(x,y)])[q]? = some u->(wr.drew.alloc (.cells #[.int .i64 x,.int .i64 y] 66)).cell? ((⟨wr.heap.size,0,none⟩:Addr).add q)=some u):=World.news_of_block (cs:=#[.int .i64 x,.int .i64 y]) (t:=66) (vZ wr.drew _);clear hb hown hx hy htk hj hj1;go_wp2_with fail;go_region_held_law (fun w'=>w'.cell? ⟨b,off+j,none⟩=some (.int .i64 x)/\w'.cell? ⟨b,off+j1,none⟩=some (.int .i64 y)) (go_keep)
    (first
     | (refine step_append_lies _ rfl _ _ 54 rfl w.heap.size 66 i0 (.agg #[.int .i64 0,.int .i64 0]) 2 16 Tryz.underlying54 hi hz0 hz1 hz2 rfl (by decide) u5 k (AL (L.take k)) rfl HOw.o ⟨wr.heap.size,0,none⟩ 1 1 (AL [(x,y)]) rfl rfl HNews.o (EN _) (by decide) (by unfold maxLen;omega) (by omega) HBw.o.size _ rfl ?_
        intro g5 cap5 w5 ho5 hg5 hat5 hlt5;have H5:Hid (Bn w5 w.heap.size (.slice (some ⟨g5,0,none⟩) (k+1) cap5) (L.take (k+1))/\zW w w5):=⟨by rw[HStep.o.1];exact Bn.snoc (T:=L.take k) (by rw[HStep.o.2.1];exact ho5),HBw.o.grown hg5 HBw.o.size (fun q hq=>(Aq HOw.o hq).1)⟩
        have y1:=j7 H5.o.2 HCk.o.1;have y2:=j7 H5.o.2 HCk.o.2;clear ho5 hg5 hat5 hlt5)
     | fail)
   all_goals
    go_wp2
    go_roundg (gk-1)
    case measure=>omega
    case rel=>exact⟨k+1,j+2,by omega,HStep.o.2.2,by go_num,H5.o.1,H5.o.2⟩
  have hkK:k=K:=by omega
  have hlt:decide ((j:Int)+1<(m:Int))=false:=qF (by have:=HK.o.1;omega);have hLt:L.take k=L:=vP (by rw[HK.o.2];omega);rw[hLt]at hown;obtain⟨a5,c5,rfl,q1,q2,q3,-,-⟩:=hown.whole;have HF:=(show Hid _ from HSt.o wr _ hb hown)
  have HW:Hid (zW w wr/\Bn wr w.heap.size (.slice a5 K c5) L/\AQ wr a5 L/\K<=c5/\c5<=maxLen):=⟨hb,by rw[<- HK.o.2];exact hown,q3,by rw[<- HK.o.2];exact q1,q2⟩
  rw[HK.o.2];clear hb hown q1 q2 q3 hLt HO HCell hj HF;rcases HCc.o with⟨hK0,hc0⟩|⟨hKp,p,hfl⟩
  ·
   have hdk:decide (0<K)=false:=qF (by omega);obtain⟨y0,⟨u,y1⟩,y2,y3⟩:=HSt.o wr _ HW.o.1 HW.o.2.1;have x0:=j7 HW.o.1 HX0.o;have HE:=(show Hid (∀ q,Fz Z g cb s { s with cs:=s.cs.set fn L } c w (.returned (Ad AP)) ((wr.drewN q).setCell ⟨cb,fn,none⟩ (.slice a5 K c5)))from fun q=>(HSt.o (wr.drewN q) _ (qL HW.o.1 q) (HW.o.2.1.later (qL br q))).2.2.2 hc0)
   have hf8:(fn:Int)<8:=by omega
   unfold AP at HE;clear y3 hK0 hc0 hkK hx0;go_wp2
   go_region
   all_goals
    go_wp2
    go_ret
    first | exact HE.o 1 | exact HE.o 0 | trace_state
  have hdk:decide (0<K)=true:=qM (by omega);have HFl:=qX hfl;clear hKp hkK hx0 hfl;go_wp2_with fail;refine(HCf.o wr a5 c5 p HW.o.2.2.1 HW.o.2.2.2.1 HW.o.2.2.2.2 HFl.o).mono ?_
  rintro e w1 ⟨rfl,hb1⟩;have hbA:zW wr (w1.alloc (.cells #[.int .i64 c,.int .i64 p] 52)):=hb1.alloc hb1.size _;by_cases hc0:c=0
  ·
   have hcd:decide (0<c)=false:=qF (by omega);have HWA:=qY (HW.o.1.tr hbA) (HW.o.2.1.later hbA);obtain⟨y0,⟨u,y1⟩,y2,-⟩:=HSt.o _ _ HWA.o.1 HWA.o.2;have x0:=j7 HWA.o.1 HX0.o;have HE:=(show Hid (∀ q,Fz Z g cb s { s with cs:=s.cs.set fn L } c w (.returned (Ad AP)) (((w1.alloc (.cells #[.int .i64 c,.int .i64 p] 52)).drewN q).setCell ⟨cb,fn,none⟩ (.slice a5 K c5)))from fun q=>(HSt.o _ _ (qL HWA.o.1 q) (HWA.o.2.later (qL br q))).2.2.2 hc0)
   have z0:(w1.alloc (.cells #[.int .i64 c,.int .i64 p] 52)).cell? ⟨w1.heap.size,0,none⟩=some (.int .i64 c):=by rw[qO _ _ _ _ rfl];rfl
   have hf8:(fn:Int)<8:=by omega
   unfold AP at HE;obtain⟨X,hX⟩:=ex (w1.alloc (.cells #[.int .i64 c,.int .i64 p] 52));rw[hX]at y0 y1 y2 x0 HE z0;clear hb1 hbA hc0 HWA;go_wp2
   go_region
   all_goals
    go_wp2
    go_ret
    first | exact HE.o 1 | exact HE.o 0 | trace_state
  have hcd:decide (0<c)=true:=qM (by rcases hc3.out with h|h|h <;> omega);have HN0:=qX hc0;have HE:=(show Hid (∀ W,Below (w1.alloc (.cells #[.int .i64 c,.int .i64 p] 52)).heap.size (w1.alloc (.cells #[.int .i64 c,.int .i64 p] 52)) W->Fz Z g cb s { s with cs:=s.cs.set fn L } c w (.returned (Ad (AV c))) W)from fun W hW=>HEr.o W ((HW.o.1.tr hbA).trans (hW.mono (HW.o.1.tr hbA).size)) hc0)
  obtain⟨tx,htx⟩:=ex (AV c);rw[htx]at HE HT;clear hb1 hbA hc0 htx;go_wp2_with fail;refine(HT.o _ HN0.o).mono ?_
  rintro e w2 ⟨rfl,hb2⟩;have HE2:=(show Hid _ from HE.o w2 hb2)
  clear hb2 HE;go_wp2
  go_ret;exact HE2.o
def EB (R:Int->Int->Prop)(w:World)(e:Ending)(w':World):Prop:=∃ c n,R c n/\0<=c/\e=.returned (Ad (if c=0 then Go.Lib.itoa n else AV c))/\zW w w'
theorem La {R:Int->Int->Prop}{w w':World}{c n:Int}(z:R c n)(D:0<c)(h:zW w w'):EB R w (.returned (Ad (AV c))) w':=⟨c,n,z,by omega,by rw[if_neg (by omega)],h⟩
theorem QA {R:Int->Int->Prop}{w w':World}{n:Int}(h:R 0 n)(z:zW w w'):EB R w (.returned (Ad (Go.Lib.itoa n))) w':=⟨0,n,h,q8 _,by rw[if_pos rfl],z⟩
theorem UV (b2:Nat->Prop)(g av:Nat)(s:Scr)(w:World)(a1:Nat->Addr)(bb:A8 w a1)(z:Bq s)(b1:Dc w b2 g av s):Calls Tryz.prog 18 #[.pointer (some ⟨g,0,none⟩)] w fun e w'=>EB (CL s) w e w':=by
 obtain⟨aS,a2,b6,b8,Z⟩:=b1;have bm:=Z.gate z.gate.len (Il z (ns:=s.ns) (by rcases z.gate.nums.len with H|H;rw[H.2];decide;omega));have bk:Hid (Calls Tryz.prog 27 #[.agg #[.slice (some ⟨av,0,none⟩) 8 8,Ad s.kb,.int .i64 s.per,.slice aS s.ns.length a2]] w fun e w'=>AllEnd Cb s.cs w e w'):=by
  have:=RU Cb JX FB.sumOf (some ⟨av,0,none⟩) 8 s.cs ⟨s.kb.toArray⟩ s.per aS s.ns.length a2 w bm.curves z.gate.len z.gate.curves;rw[z.gate.len]at this;exact this
 have bp:Hid (∀ h a cap L,zW w h->AQ h a L->L.length<=cap->cap<=maxLen->Ak L->Calls Tryz.prog 28 #[.slice a L.length cap,.int .i64 s.per] h fun e w'=>∃ o,Ct s.per L o/\NumEnd o h e w'):=fun h a cap L U ab aq a' a5=>FB.delay a cap L s.per h a1 (bb.below U) ab aq a' a5 z.gate.per.1 z.gate.per.2
 have bv:Hid (∀ h a cap L,zW w h->AQ h a L->L.length<=cap->cap<=maxLen->Ak L->Calls Tryz.prog 29 #[.slice a L.length cap,.int .i64 s.per] h fun e w'=>∃ o,Dl s.per L o/\NumEnd o h e w'):=fun h a cap L U ab aq a' a5=>FB.busy a cap L s.per h a1 (bb.below U) ab aq a' a5 z.gate.per.1 z.gate.per.2
 have bx:Hid (∀ n,CL s 0 n->0<=n/\n<=9223372036854775807):=fun n ⟨o,ab,aq⟩=>by
  rcases aq with⟨-,H⟩|⟨H,-⟩
  · cases H
  rw[H]at ab;have:=OI z ab;omega
 have aE:Hid (∀ h n,0<=n/\n<=9223372036854775807->qW 11 #[.int .i64 n] h (Ad (Go.Lib.itoa n))):=fun h n H=>J4 n H.1 H.2 h
 have ac:Hid (∀ h,qW 16 #[.int .i64 4] h (Ad (AV 4))):=fun h=>Et 4 h (by decide)
 have ad:Hid (∀ h,CL s 4 0->zW w h->EB (CL s) w (.returned (Ad (AV 4))) h):=fun h H U=>La H (by decide) U
 have aN:Hid (∀ h n,CL s 0 n->zW w h->EB (CL s) w (.returned (Ad (Go.Lib.itoa n))) h):=fun h n H U=>QA H U
 have aj:Hid (∀ o,Df Cb Ct Dl s.cs (kindOf s.kb) s.per o->CL s (if o=none then 4 else 0) (o.getD 0)):=fun o H=>by
  cases o with
  | none=>exact⟨none,H,.inl ⟨rfl,by simp⟩⟩
  | some n=>exact⟨some n,H,.inr ⟨rfl,by simp⟩⟩
 have b7:=qX Z;obtain⟨Y,a8⟩:∃ Y:ByteArray,⟨s.kb.toArray⟩=Y:=⟨_,rfl⟩
 have bs:Y.toList=s.kb:=by rw[<- a8,ByteArray.toList_mk]
 have a6:Ad s.kb=.string Y:=by rw[<- a8]
 obtain⟨r,a3⟩:=ex s.ns.length;obtain⟨per,ap⟩:=ex s.per;obtain⟨bj,a0,bc,bl⟩:w.cell? ⟨g,0,none⟩=some (.slice (some ⟨av,0,none⟩) 8 8)/\w.cell? ⟨g,1,none⟩=some (.string Y)/\w.cell? ⟨g,2,none⟩=some (.int .i64 per)/\w.cell? ⟨g,3,none⟩=some (.slice aS r a2):=by rw[<- a6,<- ap,<- a3];exact⟨Z.c0,Z.c1,Z.c2,Z.c3⟩
 have b0:Hid (∀ h,zW w h->h.cell? ⟨g,1,none⟩=some (.string Y)/\h.cell? ⟨g,2,none⟩=some (.int .i64 per)):=fun h U=>⟨j7 U a0,j7 U bc⟩
 rw[a6,ap,a3]at bk;rw[ap]at bp bv;rw[ap]at aj;have bd:=(show Hid _ from JK Y)
 rw[bs]at bd;clear bb z Z bm a8 a6 a3 bs ap;go_in
 go_wp2_with fail;refine bk.o.mono ?_
 rintro e V ⟨ar,⟨bN,rfl⟩|⟨an,al,Q,bw,bt,rfl,bg,be,bq⟩⟩
 ·
  have E:Hid (zW w V/\CL s 4 0):=⟨ar,aj.o none (.inl ⟨bN,rfl⟩)⟩
  clear ar bN bj a0 bc bl;go_wp2_with fail;refine(ac.o _).mono ?_
  rintro e N ⟨rfl,J⟩;have K:=(show Hid (EB (CL s) w (.returned (Ad (AV 4))) N)from ad.o N E.o.2 (E.o.1.tr J))
  obtain⟨t,O⟩:=ex (AV 4);rw[O]at K ⊢;clear J O ad ac;go_wp2
  go_ret;exact K.o
 have D:Hid (zW w V/\EH Cb s.cs Q/\Ak Q/\AQ V an Q/\Q.length<=al/\al<=maxLen):=⟨ar,bw,bt,bg,be,bq⟩
 obtain⟨aw,aB⟩:=b0.o V ar;have a9:=bd.o;have u1:=a9.u1;have bh:=a9.t1;obtain⟨q,a4⟩:=ex Q.length;have bT:=qX a4;rw[a4];clear a9 ar bw bt bg be bq bj a0 bc bl a4;by_cases ai:kindOf s.kb=1
 ·
  rw[qM ai]at u1 bh;have a7:Hid (Calls Tryz.prog 28 #[.slice an q al,.int .i64 per] V fun e w'=>∃ o,Ct per Q o/\NumEnd o V e w'):=by
   have:=bp.o V an al Q D.o.1 D.o.2.2.2.1 D.o.2.2.2.2.1 D.o.2.2.2.2.2 D.o.2.2.1;rwa[bT.o]at this
  go_wp2_with fail;refine a7.o.mono ?_
  rintro e ao ⟨o,z,W,⟨rfl,b5,rfl,am⟩|⟨I,rfl,rfl⟩⟩
  ·
   have E:Hid (zW w ao/\CL s 4 0):=⟨D.o.1.tr W,aj.o none (.inr ⟨Q,D.o.2.1,.inl ⟨ai,z⟩⟩)⟩
   obtain⟨b3,b4,rfl⟩:=am.some_ (by decide);clear W am aw aB z;go_wp2_with fail;refine(ac.o _).mono ?_
   rintro e N ⟨rfl,J⟩;have K:=(show Hid (EB (CL s) w (.returned (Ad (AV 4))) N)from ad.o N E.o.2 (E.o.1.tr J))
   obtain⟨t,O⟩:=ex (AV 4);rw[O]at K ⊢;clear J O ad ac;go_wp2
   go_ret;exact K.o
  have E:Hid (zW w ao/\CL s 0 I):=⟨D.o.1.tr W,aj.o (some I) (.inr ⟨Q,D.o.2.1,.inl ⟨ai,z⟩⟩)⟩
  clear W aw aB z;go_wp2_with fail;refine(aE.o _ I (bx.o I E.o.2)).mono ?_
  rintro e N ⟨rfl,J⟩;have K:=(show Hid (EB (CL s) w (.returned (Ad (Go.Lib.itoa I))) N)from aN.o N I E.o.2 (E.o.1.tr J))
  obtain⟨t,O⟩:=ex (Go.Lib.itoa I);rw[O]at K ⊢;clear J O aN aE;go_wp2
  go_ret;exact K.o
 rw[qF ai]at u1 bh;have a7:Hid (Calls Tryz.prog 29 #[.slice an q al,.int .i64 per] V fun e w'=>∃ o,Dl per Q o/\NumEnd o V e w'):=by
  have:=bv.o V an al Q D.o.1 D.o.2.2.2.1 D.o.2.2.2.2.1 D.o.2.2.2.2.2 D.o.2.2.1;rwa[bT.o]at this
 go_wp2_with fail;refine a7.o.mono ?_
 rintro e ao ⟨o,z,W,⟨rfl,b5,rfl,am⟩|⟨I,rfl,rfl⟩⟩
 ·
  have E:Hid (zW w ao/\CL s 4 0):=⟨D.o.1.tr W,aj.o none (.inr ⟨Q,D.o.2.1,.inr ⟨ai,z⟩⟩)⟩
  obtain⟨b3,b4,rfl⟩:=am.some_ (by decide);clear W am aw aB z;go_wp2_with fail;refine(ac.o _).mono ?_
  rintro e N ⟨rfl,J⟩;have K:=(show Hid (EB (CL s) w (.returned (Ad (AV 4))) N)from ad.o N E.o.2 (E.o.1.tr J))
  obtain⟨t,O⟩:=ex (AV 4);rw[O]at K ⊢;clear J O ad ac;go_wp2
  go_ret;exact K.o
 have E:Hid (zW w ao/\CL s 0 I):=⟨D.o.1.tr W,aj.o (some I) (.inr ⟨Q,D.o.2.1,.inr ⟨ai,z⟩⟩)⟩
 clear W aw aB z;go_wp2_with fail;refine(aE.o _ I (bx.o I E.o.2)).mono ?_
 rintro e N ⟨rfl,J⟩;have K:=(show Hid (EB (CL s) w (.returned (Ad (Go.Lib.itoa I))) N)from aN.o N I E.o.2 (E.o.1.tr J))
 obtain⟨t,O⟩:=ex (Go.Lib.itoa I);rw[O]at K ⊢;clear J O aN aE;go_wp2
 go_ret;exact K.o
end Go.Proofs.YtejlihcdfffafaaGreatDoor
