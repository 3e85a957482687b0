import Derived.Laws.EntriesVeiled
import Derived.Test.YtejlihcdfffafaaGreatDoorP12
import Derived.Test.YtejlihcdfffafaaGreatDoorP20
namespace Go.Proofs.YtejlihcdfffafaaGreatDoor
section
variable {per:Int} {ps:List Pk} {l:List Sn}
theorem bn (h:Al ps)(j:Nat):0<=Ar ps j/\Ar ps j<=1099511627776:=by
 unfold Ar;cases e:ps[j]? with
 | none=>simp only;omega
 | some p=>
  have:=A7 (h.each _ p e).1;simp only;omega
theorem Conv.range (D:Al ps)(J:1<=per/\per<=1000)(H:Conv per ps l):∀(k:Nat) x,l[k]? = some x->0<=x.beg/\x.beg<=x.fin/\x.fin<=1099511627776+1500000*((k:Int)+1)
 | k,x,E=>by
  obtain⟨t,b,I,z,-,e⟩:=H k x E;have Q:De (l.take k)<=1099511627776+1500000*(k:Int)/\0<=De (l.take k):=by
   cases k with
   | zero=>exact⟨by rw[List.take_zero,Ou];omega,by rw[List.take_zero,Ou];omega⟩
   | succ k=>
    have K:k<l.length:=by have:=Af E;omega
    have h:l[k]? = some l[k]:=qE K;have:=Conv.range D J H k l[k] h;rw[UB h];omega
  have V:0<=t/\t<=1099511627776+1500000*(k:Int):=by
   rcases I with⟨rfl,-⟩|⟨-,j,-,rfl,-⟩
   · omega
   have:=bn D j;omega
  have N:0<=per*bytesOf ps b/\per*bytesOf ps b<=1500000:=by
   have h:ps[b]? = some (ps[b]'z.1):=qE z.1;have:=A7 (D.each _ _ h).1;rw[Ht h];have U:0<=per*(ps[b]'z.1).size:=vG (by omega) (by omega);have O:per*(ps[b]'z.1).size<=1000*1500:=yD (by omega) (by omega) (by omega) (by omega);omega
  rw[e];simp only;omega
end
open Go.RowKit
theorem aM {per:Int}{ps:List Pk}{l:List Sn}(h:Al ps)(H:1<=per)(E:per<=1000)(D:Conv per ps l)(I:l.length=ps.length):Tn l:=fun i x z=>by
 have K:=D.range h ⟨H,E⟩ i x z;have N:=Af z;have J:=h.few;have:1500000*((i:Int)+1)<=1500000*301:=by omega
 exact qM (by omega)
theorem Me {per:Int}{ps:List Pk}{l:List Sn}(D:Conv per ps l):∀(i:Nat) x,l[i]? = some x->named ps.length x=true:=fun i x h=>by
 obtain⟨t,b,-,z,-,rfl⟩:=D i x h;have:=z.1;exact qM ⟨by show(0:Int)<=(b:Int);omega,by show(b:Int)<ps.length;omega⟩
theorem WP (a:oA)(cap:Nat)(ps:List Pk)(per:Int)(b:oA)(H:Nat)(l:List Sn)(w:World)(D:Nat->Addr)(Y:A8 w D)(W:Aw w a ps)(Q:F9 w b l)(h:Al ps)(Z:1<=per)(U:per<=1000)(E:Conv per ps l)(K:l.length=ps.length):Calls Tryz.prog 81 #[.slice a ps.length cap,.slice b l.length H] w fun e w'=>∃ z,e=.returned (.tuple #[.slice (some ⟨z,0,none⟩) l.length l.length,.nilIface])/\(∀(i:Nat) x,l[i]? = some x->w'.cell? ⟨z,i,none⟩=some (.int .i64 (x.fin-Ar ps x.num.toNat)))/\zW w w':=by
 refine(Xw a cap ps b H l w D Y.c3 W Q (by rw[K];exact h.few) h.few (aM h Z U E K) (fun i q ab=>by have:=A7 (h.each i q ab).1;omega)).mono ?_
 rintro e w' ⟨O,⟨z,rfl,N,-⟩|⟨j,x,F,V,-,J,-⟩⟩
 · exact⟨z,rfl,fun i x I=>N.cell i x (Af I) I,O⟩
 rw[Me E j x V]at J;cases J
open Go.Lib
def Gu:List UInt8->List UInt8×List UInt8×Bool
 | []=>([],[],false)
 | b::l=>if b=32 then([],l,true)else(b::(Gu l).1,(Gu l).2.1,(Gu l).2.2)
def CJ:List UInt8->List (List UInt8)
 | []=>[[]]
 | b::l=>if b=32 then []::CJ l else match CJ l with | []=>[[b]] | x::r=>(b::x)::r
theorem Oh (l:List UInt8):∃ x r,CJ l=x::r:=by
 cases l with
 | nil=>exact⟨_,_,rfl⟩
 | cons b l=>
  unfold CJ;split
  · exact⟨_,_,rfl⟩
  cases CJ l with
  | nil=>exact⟨_,_,rfl⟩
  | cons x r=>exact⟨_,_,rfl⟩
theorem Jb:∀ s:List UInt8,(index s [32] = -1/\Gu s=(s,[],false)/\CJ s=[s])\/∃ i:Nat,index s [32]=i/\i<s.length/\Gu s=(s.take i,s.drop (i+1),true)/\CJ s=s.take i::CJ (s.drop (i+1))
 | []=>.inl ⟨rfl,rfl,rfl⟩
 | b::l=>by
  by_cases h:b=32
  · subst h;refine .inr ⟨0,?_,by simp,by simp[Gu],by simp[CJ]⟩;unfold index;rw[if_pos (by rfl)];rfl
  have H:¬ [32].isPrefixOf (b::l)=true:=by
   simp[List.isPrefixOf]
   exact fun J=>h J.symm
  rcases Jb l with⟨D,E,z⟩|⟨i,D,E,z,I⟩
  ·
   refine .inl ⟨?_,?_,?_⟩
   · unfold index;rw[if_neg H,D];rfl
   · simp[Gu,h,E]
   simp[CJ,h,z]
  refine .inr ⟨i+1,?_,by simp;omega,?_,?_⟩
  · unfold index;rw[if_neg H,D,if_neg (by simp)];simp
  · simp[Gu,h,z]
  simp[CJ,h,I]
theorem FV (s:List UInt8):cut s [32]=Gu s:=by
 unfold cut;rcases Jb s with⟨h,z,-⟩|⟨i,h,z,D,-⟩
 · rw[h,if_neg (by decide),z]
 rw[h,if_pos (by omega),D];simp
theorem Nt:∀(fuel:Nat)(s:List UInt8),s.length<fuel->splitK [32] 0 (countFrom [32] fuel s) s=CJ s
 | 0,s,E=>by omega
 | fuel+1,s,E=>by
  rcases Jb s with⟨h,-,z⟩|⟨i,h,H,-,D⟩
  · unfold countFrom;rw[h,if_pos (by rfl),z];rfl
  unfold countFrom;rw[h,if_neg (by simp),Nat.add_comm 1];unfold splitK;rw[h,if_neg (by simp),D];simp only[yB,Nat.add_zero,vH,vU,vC];rw[Nt fuel (s.drop (i+1)) (by rw[yK];omega)]
theorem Hz (s:List UInt8):split s [32]=CJ s:=Nt (s.length+1) s (by omega)
theorem Qv:∀ s:List UInt8,1<=(CJ s).length/\(CJ s).length<=s.length+1
 | []=>by simp[CJ]
 | b::l=>by
  obtain⟨z,h⟩:=Qv l;obtain⟨x,r,e⟩:=Oh l;unfold CJ;split
  · simp;omega
  rw[e]at h ⊢;simp at h ⊢
  omega
theorem M0:∀(s:List UInt8),∀ x∈CJ s,x.length<=s.length
 | [],x,h=>by simp[CJ]at h;simp[h]
 | b::l,x,h=>by
  have z:=M0 l;obtain⟨y,r,e⟩:=Oh l;unfold CJ at h;split at h
  ·
   rcases qS.1 h with rfl|h
   · simp
   have:=z x h;simp;omega
  rw[e]at h z;simp only[qS]at h;rcases h with rfl|h
  · have:=z y (by simp);simp;omega
  have:=z x (by simp[h]);simp;omega
theorem WY (s:List UInt8):(Gu s).1.length ≤ s.length ∧ (Gu s).2.1.length ≤ s.length:=by
 rcases Jb s with⟨-,h,-⟩ | ⟨i,-,-,h,-⟩
 · rw[h];simp
 · rw[h];simp[List.length_take,List.length_drop];omega
end Go.Proofs.YtejlihcdfffafaaGreatDoor
