import Derived.Test.YtaoikkhlnhfkfaaGreatDoorU00
import Derived.Test.YtaoikkhlnhfkfaaGreatDoorU02
import Derived.Deep.DeepCutAuto
import Derived.Deep.RegionLaw
import Derived.Test.YtaoikkhlnhfkfaaGreatDoorU19
set_option maxHeartbeats 400000
set_option linter.defProp false
set_option linter.unusedSimpArgs false
set_option linter.unusedVariables false
namespace Go.Proofs.YtaoikkhlnhfkfaaGreatDoor
def Ÿ (x n:Int):=max (n-x) 0
open Go.RowKit
def Jt x y n(w:M)(I:1<=x)(E:x<=20000)(O:0<=n)(G:n<=20020000):Calls Tryz.prog 105 #[.agg #[.q x,.q y],.q n] w λe w'=>e=.r (.q (Ÿ x n))/\zW w w':=by
 go_in
 go_wp2
 all_goals
  go_ret;exact⟨ť (λz=>Ending.returned (.q z)) (by unfold Ÿ;omega),ba⟩
def Bl (n wks:Int):Int:=if wks<1\/16<wks then 3 else if 100<n then 2 else 0
open Go.Conc
def aY (n:Nat):Obj->Obj
 |.cells c t E=>.cells (c.extract 0 n) t (0,max (c.extract 0 n).size E.2)
 |o=>o
def Õ (T:Nat->Nat)(w:M):M:={w with heap:=w.heap.mapIdx λb o=>aY (T b) o}
def Ô.j (S:Nat->Prop):Ô where
 rel a b:=a=b/\S a
 fn _ _ _ h h':=h.1.symm.trans h'.1
 e _ _ _ h h':=h.1.trans h'.1.symm
def Ķ (F:Nat->Prop)(S:Nat->Prop)(T:Nat->Nat)(w:M):=∀a,S a->∃c t E,w.heap[a]? = some (.c c t E)/\∀(i:Nat) x,i<T a->c[i]? = some x->VR F (Ô.j S) x x
section
variable {P:Program}{F:Nat->Prop}{S:Nat->Prop}{T:Nat->Nat}{w:World}
def OD a:(Õ T w).heap[a]? = (w.heap[a]?).map (aY (T a)):=by simp[Õ]
def Fq:(Õ T w).heap.size=w.heap.size:=by simp[Õ]
def El a(h:a.off<T a.block):(Õ T w).cell? a=w.cell? a:=by
 unfold World.cell?;rw[OD];cases w.heap[a.block]? with
 |none=>rfl
 |some o=>
  cases o<;>first|rfl|skip
  simp[ţ,aY];split
  rfl
  simp[mH]
  omega
def yo (h:Ķ F S T w):WR F w.heap.size (Ô.j S) (Õ T w) w:=by
 refine⟨?_,?_,?_,?_,?_,lr,λ_ _=>J⟩
 .
  rintro a _⟨rfl,E⟩;let⟨c,t,G,I,U⟩:=h a E;refine⟨.c (c.extract 0 (T a)) t (0,max (c.extract 0 (T a)).size G.2),.c c t G,by rw[OD,I];rfl,I,c,G,J,⟨so,λi x y V O=>?_⟩,λk _ k=>⟨uD _,N⟩⟩;let k:=BI V;let Y:i<T a:=by simp at k;omega
  have:c[i]? = some x:=by
   rw[<-V,mH];simp
   omega
  rw[this]at O;cases O
  exact U i x Y this
 rintro a _⟨rfl,E⟩_;let⟨c,t,G,I,U⟩:=h a E;exact⟨_,t,_,by rw[OD,I];rfl,Nat.le_max_left ..⟩
 rintro a _⟨rfl,E⟩_;rfl
 rintro a _⟨rfl,E⟩Z;exact Z
 rw[Fq];exact lr
def FC.v{E G}(ab:Es P E G)(h:Ķ (Ė E) S T w)(aa:∀g,G g=true->S g){f:fI}(V:E f=true)(Z:∃fn c,P.funcs[f]? = some fn/\fn.body=some c){args:Array Vl}(Y:∀(i:Nat) x,args[i]? = some x->VR (Ė E) (Ô.j S) x x)(O:lF):FC P E G w.heap.size (Ú P f args (Õ T w)) O (Ú P f args (Õ T w)) (Ô.j S) (Frame.enter P f args .normal) O w:=by
 refine⟨í.I _,λg h=>⟨J,aa g h⟩,Da.k ab V Z ⟨J,λi x y U I=>?_⟩,.inl ⟨J,J⟩,w.tape,w.tape,?_⟩
 .
  rw[U]at I;cases I
  exact Y i x U
 exact yo h
end
end Go.Proofs.YtaoikkhlnhfkfaaGreatDoor
