/- Own facts, put together: no statement of its own. -/
import Derived.Test.YtbokomeejmnnoaaDoorD19

namespace Go.Proofs.YtbokomeejmnnoaaDoor
section
variable {α β:Type} {P:Program} {H:Nat → Prop} {v w:World}
theorem seenCells_none (p:Program) (e:TypeId):∀ (f x n:Nat),0 < n → ∃ m,seenCells p #[] e f x (x+n)=.error m:=by
 intro f x n hn
 cases f with
 | zero=>exact ⟨_,rfl⟩
 | succ f=>
  unfold seenCells
  rw [if_neg (by omega)]
  dsimp only
  split
  · exact ⟨_,rfl⟩
  ·
   split
   · exact ⟨_,rfl⟩
   · exact ⟨_,rfl⟩
theorem leBytes_len:∀ (n m:Nat),(leBytes n m).length=n:=by
 intro n
 induction n with
 | zero=>intro m;rfl
 | succ n ih=>intro m;simp [leBytes,ih]
theorem bytes_pos {x:Value} {l:List UInt8} (h:x.bytes? = some l):0 < l.length:=by
 cases x <;> simp only [Value.bytes?] at h <;> first | (cases h;done) | skip
 ·
  cases h
  exact Nat.one_pos
 ·
  rename_i k n
  cases h
  rw [leBytes_len]
  cases k <;> decide
 ·
  rename_i k n
  cases h
  rw [leBytes_len]
  cases k <;> decide
 ·
  rename_i k n m
  cases h
  rw [List.length_append,leBytes_len,leBytes_len]
  cases k <;> decide
theorem Mask.look (hm:Mask H v w) {p:Program} {at_:Addr} {u:TypeId} {k:Addr} {at':Bool} {r} (h:v.seen p at_ u k at'=.ok r):w.seen p at_ u k at'=.ok r ∧ ¬ H at_.block ∧ at_.block < w.heap.size:=by
 by_cases hn:H at_.block
 ·
  obtain ⟨c,e,-,h2⟩:=hm.hid _ hn
  exfalso
  have key:∀ {x n f:Nat} {L},0 < n → seenCells p #[] e f x (x+n)=.ok L → False:=fun hn h=>by
   obtain ⟨m,hm⟩:=seenCells_none p e _ _ _ hn
   rw [hm] at h
   cases h
  have pos:∀ {like:Value} {n:Nat},like.bytes?.map (fun x=>x.length)=some n → 0 < n:=fun h=>by
   obtain ⟨l,h1,rfl⟩:=Option.map_eq_some_iff.1 h
   exact bytes_pos h1
  unfold World.seen at h
  simp only [bind,Except.bind,h2] at h
  repeat (split at h <;> first | (cases h;done) | skip)
  all_goals (have hs:=‹seenCells _ _ _ _ _ _=Except.ok _›;have hp:=‹Option.map _ (Value.bytes? _)=some _›;exact key (pos hp) hs)
 ·
  rcases hm.seen _ hn with ⟨hse,-⟩ | ⟨c,e,-,h2⟩
  ·
   refine ⟨?_,hn,?_⟩
   ·
    unfold World.seen at h ⊢
    rw [hse]
    exact h
   ·
    cases hh:v.heap[at_.block]? with
    | none=>
     unfold World.seen at h
     simp only [bind,Except.bind,hh] at h
     repeat (split at h <;> first | (cases h;done) | skip)
    | some o=>rw [hm.size];exact (Array.getElem?_eq_some_iff.1 hh).1
  ·
   exfalso
   unfold World.seen at h
   simp only [bind,Except.bind,h2] at h
   repeat (split at h <;> first | (cases h;done) | skip)
theorem Mask.view (hm:Mask H v w) {b:Nat} {at_:Addr} {u:TypeId} (h:v.heap[b]? = some (.view at_ u)):w.heap[b]? = some (.view at_ u) ∧ ¬ H b:=by
 have hn:¬ H b:=fun hh=>by
  obtain ⟨c,e,-,h2⟩:=hm.hid _ hh
  rw [h] at h2
  cases h2
 rcases hm.seen _ hn with ⟨hse,-⟩ | ⟨c,e,-,h2⟩
 · exact ⟨hse.trans h,hn⟩
 ·
  rw [h] at h2
  cases h2
theorem Mask.calm (hm:Mask H v w) (b:Nat):∀ c e,v.heap[b]? ≠ some (.pending c e):=fun c e h=>by
 by_cases hn:H b
 ·
  obtain ⟨c',e',-,h2⟩:=hm.hid _ hn
  rw [h] at h2
  cases h2
 ·
  rcases hm.seen _ hn with ⟨-,h2⟩ | ⟨c',e',-,h2⟩
  · exact h2 c e h
  ·
   rw [h] at h2
   cases h2
theorem Mask.farLoad (hm:Mask H v w) {p:Program} {a:Addr} {at':Bool} {r} (h:v.farLoad p a at'=.ok r):w.farLoad p a at'=.ok r ∧ ∀ x ∈ r.2,¬ H x.block ∧ x.block < w.heap.size:=by
 unfold World.farLoad at h ⊢
 cases hb:v.heap[a.block]? with
 | none=>rw [hb] at h;cases h
 | some o=>
  rw [hb] at h
  cases o <;> first | (cases h;done) | skip
  rename_i at_ u
  rw [(hm.view hb).1]
  dsimp only at h ⊢
  cases hl:v.viewLoad p at_ u a at' with
  | error m=>rw [hl] at h;cases h
  | ok x=>
   rw [hl] at h
   cases h
   unfold World.viewLoad at hl ⊢
   cases hs:v.seen p at_ u a at' with
   | error m=>rw [hs] at hl;cases hl
   | ok y=>
    obtain ⟨k1,k2,k3⟩:=hm.look hs
    rw [hs] at hl
    rw [k1]
    obtain ⟨c,e,fz,first,like,cells⟩:=y
    simp only [bind,Except.bind] at hl ⊢
    split at hl
    ·
     rename_i val _
     cases hl
     refine ⟨rfl,fun x hx=>?_⟩
     simp only [List.mem_map] at hx
     obtain ⟨z,-,rfl⟩:=hx
     exact ⟨k2,k3⟩
    · cases hl
theorem seen_row {w:World} {p:Program} {at_:Addr} {u:TypeId} {k:Addr} {at':Bool} {r} (h:w.seen p at_ u k at'=.ok r):∃ c t fz,w.heap[at_.block]? = some (.cells c t fz):=by
 cases hh:w.heap[at_.block]? with
 | none=>
  exfalso
  unfold World.seen at h
  simp only [bind,Except.bind,hh] at h
  repeat' split at h
  all_goals (cases h;done)
 | some o=>
  cases o <;> first | exact ⟨_,_,_,rfl⟩ | skip
  all_goals
   exfalso
   unfold World.seen at h
   simp only [bind,Except.bind,hh] at h
   repeat' split at h
   all_goals (cases h;done)
theorem Mask.farStore (hm:Mask H v w) {p:Program} {a:Addr} {y:Value} {at':Bool} {v':World} {l:List Addr} (h:v.farStore p a y at'=.ok (v',l)) :
  ∃ w',w.farStore p a y at'=.ok (w',l) ∧ Mask H v' w' ∧ Kept H w w' ∧ ∀ x ∈ l,¬ H x.block ∧ x.block < w'.heap.size:=by
 unfold World.farStore at h ⊢
 cases hb:v.heap[a.block]? with
 | none=>rw [hb] at h;cases h
 | some o=>
  rw [hb] at h
  cases o <;> first | (cases h;done) | skip
  rename_i at_ u
  rw [(hm.view hb).1]
  dsimp only at h ⊢
  cases hl:v.viewStore p at_ u a y at' with
  | error m=>rw [hl] at h;cases h
  | ok x=>
   rw [hl] at h
   cases h
   unfold World.viewStore at hl ⊢
   simp only [bind,Except.bind] at hl ⊢
   split at hl
   · cases hl
   rename_i ht
   rw [if_neg ht]
   cases hs:v.seen p at_ u a at' with
   | error m=>rw [hs] at hl;cases hl
   | ok z=>
    obtain ⟨k1,k2,k3⟩:=hm.look hs
    rw [hs] at hl
    rw [k1]
    obtain ⟨c,e,fz,first,like,cells⟩:=z
    dsimp only at hl ⊢
    cases hbs:y.bytes? with
    | none=>rw [hbs] at hl;cases hl
    | some bytes=>
     rw [hbs] at hl
     dsimp only at hl ⊢
     split at hl
     · cases hl
     rename_i hsz
     rw [if_neg hsz]
     split at hl
     · cases hl
     rename_i c' hc'
     cases hl
     refine ⟨{ w with heap:=w.heap.setIfInBounds at_.block (.cells c' e fz) },?_,hm.put k2 _ (fun _ _ he=>by cases he) _ _ rfl rfl hm.tape hm.os hm.output,kept_putM k2 _ (seen_row k1) _ rfl rfl rfl rfl rfl,fun x hx=>?_⟩
     · rfl
     ·
      simp only [List.mem_map] at hx
      obtain ⟨z,-,rfl⟩:=hx
      exact ⟨k2,by simpa using k3⟩
theorem taped_farLoad (w:World) (t:Nat → Question → Nat) (a:Addr) (b:Bool) {r} (h:w.farLoad P a b=.ok r):(taped w t).farLoad P a b=.ok r:=by
 unfold World.farLoad at h ⊢
 have hh:(taped w t).heap[a.block]? = w.heap[a.block]?:=rfl
 rw [hh]
 cases hb:w.heap[a.block]? with
 | none=>rw [hb] at h;cases h
 | some o=>
  rw [hb] at h
  cases o <;> first | (cases h;done) | exact h
theorem taped_farStore (w:World) (t:Nat → Question → Nat) (a:Addr) (x:Value) (b:Bool) {w':World} {l:List Addr} (h:w.farStore P a x b=.ok (w',l)):(taped w t).farStore P a x b=.ok (taped w' t,l) ∧ w'.tape=w.tape ∧ w'.drawn=w.drawn:=by
 unfold World.farStore at h ⊢
 have hh:(taped w t).heap[a.block]? = w.heap[a.block]?:=rfl
 rw [hh]
 cases hb:w.heap[a.block]? with
 | none=>rw [hb] at h;cases h
 | some o=>
  rw [hb] at h
  cases o <;> first | (cases h;done) | skip
  rename_i at_ u
  dsimp only at h ⊢
  cases hl:w.viewStore P at_ u a x b with
  | error m=>rw [hl] at h;cases h
  | ok r=>
   rw [hl] at h
   cases h
   unfold World.viewStore at hl ⊢
   simp only [bind,Except.bind] at hl ⊢
   split at hl
   · cases hl
   rename_i ht
   rw [if_neg ht]
   have hse:(taped w t).seen P at_ u a b=w.seen P at_ u a b:=rfl
   rw [hse]
   cases hs:w.seen P at_ u a b with
   | error m=>rw [hs] at hl;cases hl
   | ok z=>
    rw [hs] at hl
    obtain ⟨c,e,fz,first,like,cells⟩:=z
    dsimp only at hl ⊢
    cases hbs:x.bytes? with
    | none=>rw [hbs] at hl;cases hl
    | some bytes=>
     rw [hbs] at hl
     dsimp only at hl ⊢
     split at hl
     · cases hl
     rename_i hsz
     rw [if_neg hsz]
     split at hl
     · cases hl
     cases hl
     exact ⟨rfl,rfl,rfl⟩
theorem Mask.farMild (hm:Mask H v w) {p:Program} {a:Addr} {at':Bool} {x:Halt} (h:v.farLoad p a at'=.error x):Mild x:=by
 have np:∀ c e,v.heap[a.block]? ≠ some (.pending c e):=hm.calm _
 unfold World.farLoad at h
 cases hb:v.heap[a.block]? with
 | none=>
  rw [hb] at h
  cases h
  simp only [World.noCell,hb]
  trivial
 | some o=>
  rw [hb] at h
  cases o <;> first | exact absurd hb (np _ _) | skip
  case view at_ u=>
   dsimp only at h
   split at h
   · cases h
   ·
    cases h
    trivial
  all_goals
   cases h
   simp only [World.noCell,hb]
   trivial
theorem Mask.farMildS (hm:Mask H v w) {p:Program} {a:Addr} {y:Value} {at':Bool} {x:Halt} (h:v.farStore p a y at'=.error x):Mild x:=by
 have np:∀ c e,v.heap[a.block]? ≠ some (.pending c e):=hm.calm _
 unfold World.farStore at h
 cases hb:v.heap[a.block]? with
 | none=>
  rw [hb] at h
  cases h
  simp only [World.noCell,hb]
  trivial
 | some o=>
  rw [hb] at h
  cases o <;> first | exact absurd hb (np _ _) | skip
  case view at_ u=>
   dsimp only at h
   split at h
   · cases h
   ·
    cases h
    trivial
  all_goals
   cases h
   simp only [World.noCell,hb]
   trivial
end
section
variable {α β:Type} {P:Program} {H:Nat → Prop} {v w:World}
theorem off_cell {a:Addr} {b c:Bool} {n:Nat} (h:¬ H a.block) (hn:a.block < n):OffH H n ⟨.cell a,b,c⟩:=⟨fun y hy=>(by cases hy;exact ⟨h,hn⟩),fun r hr=>(by cases hr),(by simp),fun k hk=>(by cases hk)⟩
theorem off_obj {r:Nat} {b c:Bool} {n:Nat} (h:¬ H r) (hn:r < n):OffH H n ⟨.obj r,b,c⟩:=⟨fun y hy=>(by cases hy),fun r hr=>(by cases hr;exact ⟨h,hn⟩),(by simp),fun k hk=>(by cases hk)⟩
theorem off_push {n:Nat} {e:Event} {u:Array Event} (he:OffH H n e) (hu:∀ x ∈ u,OffH H n x):∀ x ∈ #[e] ++ u,OffH H n x:=fun x hx=>by
 rcases Array.mem_append.1 hx with hx | hx
 ·
  simp only [List.mem_toArray,List.mem_cons,List.not_mem_nil,or_false] at hx
  subst hx
  exact he
 · exact hu x hx
theorem off_far {n:Nat} {b c:Bool} {l:List Addr} {u:Array Event} (hl:∀ x ∈ l,¬ H x.block ∧ x.block < n) (hu:∀ x ∈ u,OffH H n x):∀ x ∈ (l.toArray.map (⟨.cell ·,b,c⟩)) ++ u,OffH H n x:=fun x hx=>by
 rcases Array.mem_append.1 hx with hx | hx
 ·
  obtain ⟨y,hy,rfl⟩:=Array.mem_map.1 hx
  have:=hl y (by simpa using hy)
  exact off_cell this.1 this.2
 · exact hu x hx
theorem Mask.cellFar (hm:Mask H v w) {a:Addr} (hc:v.cell? a=none) {at_:Addr} {u:TypeId} (hv:v.heap[a.block]? = some (.view at_ u)):w.cell? a=none:=by
 rcases hm.noCell hc with h | h
 · exact h
 · exact absurd h (hm.view hv).2
theorem far_view {p:Program} {a:Addr} {b:Bool} {r} (h:v.farLoad p a b=.ok r):∃ at_ u,v.heap[a.block]? = some (.view at_ u):=by
 unfold World.farLoad at h
 cases hb:v.heap[a.block]? with
 | none=>rw [hb] at h;cases h
 | some o=>
  rw [hb] at h
  cases o <;> first | (cases h;done) | exact ⟨_,_,rfl⟩
theorem farS_view {p:Program} {a:Addr} {y:Value} {b:Bool} {r} (h:v.farStore p a y b=.ok r):∃ at_ u,v.heap[a.block]? = some (.view at_ u):=by
 unfold World.farStore at h
 cases hb:v.heap[a.block]? with
 | none=>rw [hb] at h;cases h
 | some o=>
  rw [hb] at h
  cases o <;> first | (cases h;done) | exact ⟨_,_,rfl⟩
theorem msim_loadK {m:Mode} {a:Addr} {k:Value → Sem α} (h:∀ x,MSim P H (k x)):MSim P H (.load m a k):=fun v w hm=>by
 cases hc:v.cell? a with
 | some x=>
  obtain ⟨h1,h2,-⟩:=hm.cell hc
  rcases h x v w hm with ⟨z,v1,k1,hz⟩ | ⟨b,v',w',u,k0,k1,k2,k3,k4,k5,k6⟩
  · exact .inl ⟨z,v1,by simp only [Sem.run,hc];exact k1,hz⟩
  ·
   refine .inr ⟨b,v',w',#[⟨.cell a,false,m == .atomic⟩] ++ u,by simp only [Sem.run,hc];exact k0,by simp only [Sem.run,h1];exact k1,k2,k3,fun es=>?_,off_push (off_cell h2 (Nat.lt_of_lt_of_le (cell_lt h1) k3.size)) k5,k6.1,k6.2.1,fun t ht=>?_⟩
   ·
    have:=k4 (es.push ⟨.cell a,false,m == .atomic⟩)
    simp only [Sem.events,Sem.runT,h1] at this ⊢
    rw [this]
    simp
   ·
    have hct:(taped v t).cell? a=some x:=hc
    simp only [Sem.run,hct]
    exact k6.2.2 t ht
 | none=>
  cases hf:v.farLoad P a (m == .atomic) with
  | error x=>exact .inl ⟨x,v,by simp only [Sem.run,hc,hf],hm.farMild hf⟩
  | ok x=>
   obtain ⟨y,l⟩:=x
   obtain ⟨f1,f2⟩:=hm.farLoad hf
   obtain ⟨at_,ty,hv⟩:=far_view hf
   have hcw:=hm.cellFar hc hv
   rcases h y v w hm with ⟨z,v1,k1,hz⟩ | ⟨b,v',w',u,k0,k1,k2,k3,k4,k5,k6⟩
   · exact .inl ⟨z,v1,by simp only [Sem.run,hc,hf];exact k1,hz⟩
   ·
    refine .inr ⟨b,v',w',(l.toArray.map (⟨.cell ·,false,m == .atomic⟩)) ++ u,by simp only [Sem.run,hc,hf];exact k0,by simp only [Sem.run,hcw,f1];exact k1,k2,k3,fun es=>?_,off_far (fun x hx=>⟨(f2 x hx).1,Nat.lt_of_lt_of_le (f2 x hx).2 k3.size⟩) k5,k6.1,k6.2.1,fun t ht=>?_⟩
    ·
     have:=k4 (es ++ l.toArray.map (⟨.cell ·,false,m == .atomic⟩))
     simp only [Sem.events,Sem.runT,hcw,f1] at this ⊢
     rw [this,Array.append_assoc]
    ·
     have hct:(taped v t).cell? a=none:=hc
     simp only [Sem.run,hct,taped_farLoad v t a _ hf]
     exact k6.2.2 t ht
theorem Mask.setCell (hm:Mask H v w) {a:Addr} {x:Value} (h:v.cell? a=some x) (y:Value):Mask H (v.setCell a y) (w.setCell a y) ∧ Kept H w (w.setCell a y):=by
 obtain ⟨h1,h2,h3⟩:=hm.cell h
 obtain ⟨o,hp,ho⟩:=setCell_put h y
 have e1:=ho v rfl
 have e2:=ho w h3
 exact ⟨hm.put h2 o hp _ _ e1 e2 hm.tape hm.os hm.output,kept_putM h2 o (by rw [h3];unfold World.cell? at h;cases hh:v.heap[a.block]? with | none=>rw [hh] at h;cases h | some o=>(cases o <;> rw [hh] at h <;> first | exact ⟨_,_,_,rfl⟩ | cases h)) _ e2 rfl rfl rfl rfl⟩
theorem store_run {m:Mode} {a:Addr} {x:Value} {k:Sem α} (h1:∀ c,x ≠ .agg c) (h2:∀ c,x ≠ .tuple c) (w:World):(Sem.store m a x k).run P w=match w.cell? a with
  | some _=>if w.frozen? a then .halt (.unsupported (.unsafePointer "a write to bytes that a string shares")) w else k.run P (w.setCell a x)
  | none=>match w.farStore P a x (m == .atomic) with
   | .ok (w,_)=>k.run P w
   | .error h=>.halt h w:=by
 cases x <;> first | rfl | exact absurd rfl (h1 _) | exact absurd rfl (h2 _)
theorem store_runT {m:Mode} {a:Addr} {x:Value} {k:Sem α} (h1:∀ c,x ≠ .agg c) (h2:∀ c,x ≠ .tuple c) (w:World) (es:Array Event):(Sem.store m a x k).runT P w es=match w.cell? a with
  | some _=>
   if w.frozen? a then (.halt (.unsupported (.unsafePointer "a write to bytes that a string shares")) w,es)
   else k.runT P (w.setCell a x) (es.push ⟨.cell a,true,m == .atomic⟩)
  | none=>match w.farStore P a x (m == .atomic) with
   | .ok (w,touched)=>k.runT P w (es ++ touched.toArray.map (⟨.cell ·,true,m == .atomic⟩))
   | .error h=>(.halt h w,es):=by
 cases x <;> first | rfl | exact absurd rfl (h1 _) | exact absurd rfl (h2 _)
theorem msim_storeK {m:Mode} {a:Addr} {x:Value} {k:Sem α} (h:MSim P H k):MSim P H (.store m a x k):=fun v w hm=>by
 by_cases g1:∃ c,x=.agg c
 ·
  obtain ⟨c,rfl⟩:=g1
  exact .inl ⟨_,v,rfl,trivial⟩
 by_cases g2:∃ c,x=.tuple c
 ·
  obtain ⟨c,rfl⟩:=g2
  exact .inl ⟨_,v,rfl,trivial⟩
 have h1:∀ c,x ≠ .agg c:=fun c hc=>g1 ⟨c,hc⟩
 have h2:∀ c,x ≠ .tuple c:=fun c hc=>g2 ⟨c,hc⟩
 cases hc:v.cell? a with
 | some y=>
  by_cases hf:v.frozen? a=true
  · exact .inl ⟨.unsupported (.unsafePointer "a write to bytes that a string shares"),v,by rw [store_run h1 h2,hc];dsimp only;rw [if_pos hf],trivial⟩
  obtain ⟨c1,c2,-⟩:=hm.cell hc
  obtain ⟨s1,s2⟩:=hm.setCell hc x
  have hfw:¬ w.frozen? a=true:=by rw [hm.frozen];exact hf
  rcases h _ _ s1 with ⟨z,v1,k1,hz⟩ | ⟨b,v',w',u,k0,k1,k2,k3,k4,k5,k6⟩
  · exact .inl ⟨z,v1,by rw [store_run h1 h2,hc];dsimp only;rw [if_neg hf];exact k1,hz⟩
  ·
   refine .inr ⟨b,v',w',#[⟨.cell a,true,m == .atomic⟩] ++ u,by rw [store_run h1 h2,hc];dsimp only;rw [if_neg hf];exact k0,by rw [store_run h1 h2,c1];dsimp only;rw [if_neg hfw];exact k1,k2,s2.trans k3,fun es=>?_,off_push (off_cell c2 (Nat.lt_of_lt_of_le (cell_lt c1) (s2.trans k3).size)) k5,k6.1,k6.2.1,fun t ht=>?_⟩
   ·
    have:=k4 (es.push ⟨.cell a,true,m == .atomic⟩)
    simp only [Sem.events] at this ⊢
    rw [store_runT h1 h2,c1]
    dsimp only
    rw [if_neg hfw,this]
    simp
   ·
    have hct:(taped v t).cell? a=some y:=hc
    have hft:¬ (taped v t).frozen? a=true:=hf
    rw [store_run h1 h2,hct]
    dsimp only
    rw [if_neg hft]
    exact k6.2.2 t ht
 | none=>
  cases hf:v.farStore P a x (m == .atomic) with
  | error y=>exact .inl ⟨y,v,by rw [store_run h1 h2,hc];dsimp only;rw [hf],hm.farMildS hf⟩
  | ok y=>
   obtain ⟨v1,l⟩:=y
   obtain ⟨w1,f1,f2,f3,f4⟩:=hm.farStore hf
   obtain ⟨at_,ty,hv⟩:=farS_view hf
   have hcw:=hm.cellFar hc hv
   rcases h _ _ f2 with ⟨z,v2,k1,hz⟩ | ⟨b,v',w',u,k0,k1,k2,k3,k4,k5,k6⟩
   · exact .inl ⟨z,v2,by rw [store_run h1 h2,hc];dsimp only;rw [hf];exact k1,hz⟩
   ·
    refine .inr ⟨b,v',w',(l.toArray.map (⟨.cell ·,true,m == .atomic⟩)) ++ u,by rw [store_run h1 h2,hc];dsimp only;rw [hf];exact k0,by rw [store_run h1 h2,hcw];dsimp only;rw [f1];exact k1,k2,f3.trans k3,fun es=>?_,off_far (fun x hx=>⟨(f4 x hx).1,Nat.lt_of_lt_of_le (f4 x hx).2 k3.size⟩) k5,k6.1.trans (taped_farStore v v.tape a x _ hf).2.1,by rw [← (taped_farStore v v.tape a x _ hf).2.2];exact k6.2.1,fun t ht=>?_⟩
    ·
     have:=k4 (es ++ l.toArray.map (⟨.cell ·,true,m == .atomic⟩))
     simp only [Sem.events] at this ⊢
     rw [store_runT h1 h2,hcw]
     dsimp only
     rw [f1]
     dsimp only
     rw [this,Array.append_assoc]
    ·
     have hct:(taped v t).cell? a=none:=hc
     obtain ⟨g1,g2,g3⟩:=taped_farStore (P:=P) v t a x _ hf
     rw [store_run h1 h2,hct]
     dsimp only
     rw [g1]
     refine k6.2.2 t fun j q hj hj2=>?_
     rw [g2]
     exact ht j q (by rw [← g3];exact hj) hj2
theorem msim_newK {o:Obj} (ho:∀ c e,o ≠ .pending c e) {k:Nat → Sem α} (h:∀ n,MSim P H (k n)):MSim P H (.new o k):=fun v w hm=>by
 have hM:Mask H { v with heap:=v.heap.push o } { w with heap:=w.heap.push o }:=by
  refine ⟨by simp [hm.size],fun c hc=>?_,fun c hc=>?_,hm.tape,hm.os,hm.output⟩
  ·
   simp only [Array.getElem?_push,hm.size]
   split
   · exact .inl ⟨rfl,fun c e he=>ho c e (Option.some.inj he)⟩
   · exact hm.seen c hc
  ·
   obtain ⟨c',e',h1,h2⟩:=hm.hid c hc
   have hl:c < v.heap.size:=(Array.getElem?_eq_some_iff.1 h2).1
   refine ⟨c',e',?_,?_⟩
   ·
    simp only [Array.getElem?_push,hm.size,if_neg (Nat.ne_of_lt hl)]
    exact h1
   ·
    simp only [Array.getElem?_push,if_neg (Nat.ne_of_lt hl)]
    exact h2
 have hK:Kept H w { w with heap:=w.heap.push o }:=by
  refine ⟨by simp,fun c hc=>?_,rfl,Nat.le_refl _,rfl,rfl,fun b o hb _=>by
   have hl:b < w.heap.size:=(Array.getElem?_eq_some_iff.1 hb).1
   simp only [Array.getElem?_push,if_neg (Nat.ne_of_lt hl)]
   exact hb⟩
  obtain ⟨c',e',h1,h2⟩:=hm.hid c hc
  have hl:c < w.heap.size:=(Array.getElem?_eq_some_iff.1 h1).1
  simp only [Array.getElem?_push,if_neg (Nat.ne_of_lt hl)]
 rcases h v.heap.size _ _ hM with ⟨z,v1,k1,hz⟩ | ⟨b,v',w',u,k0,k1,k2,k3,k4,k5,k6⟩
 · exact .inl ⟨z,v1,by simp only [Sem.run];exact k1,hz⟩
 ·
  refine .inr ⟨b,v',w',u,by simp only [Sem.run];exact k0,by simp only [Sem.run,hm.size];exact k1,k2,hK.trans k3,fun es=>?_,k5,k6.1,k6.2.1,fun t ht=>k6.2.2 t ht⟩
  have:=k4 es
  simp only [Sem.events,Sem.runT,hm.size] at this ⊢
  exact this
theorem Mask.shape (hm:Mask H v w) (r:Nat):(w.shape? r=v.shape? r) ∨ (∃ e n m,w.shape? r=some (e,n) ∧ v.shape? r=some (e,m)):=by
 by_cases hn:H r
 ·
  obtain ⟨c,e,h1,h2⟩:=hm.hid _ hn
  exact .inr ⟨e,c.size,0,by simp only [World.shape?,h1],by simp only [World.shape?,h2];rfl⟩
 ·
  rcases hm.seen _ hn with ⟨hs,-⟩ | ⟨c,e,h1,h2⟩
  · exact .inl (by simp only [World.shape?,hs])
  · exact .inl (by simp only [World.shape?,h1,h2])
theorem msim_shapeK {r:Nat} {k:Option (TypeId × Nat) → Sem α} (h:∀ x,MSim P H (k x)) (hk:∀ e n m,k (some (e,n))=k (some (e,m))):MSim P H (.shape r k):=fun v w hm=>by
 have hkk:k (w.shape? r)=k (v.shape? r):=by
  rcases hm.shape r with hs | ⟨x,y,z,h1,h2⟩
  · rw [hs]
  · rw [h1,h2];exact hk _ _ _
 rcases h (v.shape? r) _ _ hm with ⟨z,v1,k1,hz⟩ | ⟨b,v',w',u,k0,k1,k2,k3,k4,k5,k6⟩
 · exact .inl ⟨z,v1,by simp only [Sem.run];exact k1,hz⟩
 ·
  refine .inr ⟨b,v',w',u,by simp only [Sem.run];exact k0,by simp only [Sem.run,hkk];exact k1,k2,k3,fun es=>?_,k5,k6.1,k6.2.1,fun t ht=>k6.2.2 t ht⟩
  have:=k4 es
  simp only [Sem.events,Sem.runT,hkk] at this ⊢
  exact this
theorem msim_shape {r:Nat} {k:Option (TypeId × Nat) → Sem α} (h:∀ x,MSim P H (k x)) (hk:∀ e n m,k (some (e,n))=k (some (e,m))):MSim P H (Go.shape r >>= k):=msim_shapeK h hk
theorem msim_load (a:Addr) (m:Mode):MSim P H (load a m):=msim_loadK fun x=>msim_pure x
theorem msim_store (a:Addr) (x:Value) (m:Mode):MSim P H (store a x m):=msim_storeK (msim_pure ())
theorem msim_newObj {o:Obj} (ho:∀ c e,o ≠ .pending c e):MSim P H (newObj o):=msim_newK ho fun x=>msim_pure x
theorem msim_frozenK {a:Addr} {k:Bool → Sem α} (h:∀ x,MSim P H (k x)):MSim P H (.frozen a k):=fun v w hm=>by
 rcases h (v.frozen? a) _ _ hm with ⟨z,v1,k1,hz⟩ | ⟨b,v',w',u,k0,k1,k2,k3,k4,k5,k6⟩
 · exact .inl ⟨z,v1,by simp only [Sem.run];exact k1,hz⟩
 ·
  refine .inr ⟨b,v',w',u,by simp only [Sem.run];exact k0,by simp only [Sem.run,hm.frozen];exact k1,k2,k3,fun es=>?_,k5,k6.1,k6.2.1,fun t ht=>k6.2.2 t ht⟩
  have:=k4 es
  simp only [Sem.events,Sem.runT,hm.frozen] at this ⊢
  exact this
theorem getObj_run {r:Nat} {k:Obj → Sem α} {o:Obj} (ho:∀ c t fz,o ≠ .cells c t fz) {w:World} (hw:w.heap[r]? = some o):(Sem.getObj r k).run P w=(k o).run P w ∧ ∀ es,(Sem.getObj r k).runT P w es=(k o).runT P w (es.push ⟨.obj r,false,o.isChan⟩):=by
 simp only [Sem.run,Sem.runT,hw]
 cases o <;> first | exact absurd rfl (ho _ _ _) | simp
theorem getObj_none {r:Nat} {k:Obj → Sem α} {w:World} (hw:∀ o,w.heap[r]? = some o → ∃ c t fz,o=.cells c t fz):∃ h,(Sem.getObj r k).run P w=.halt h w ∧ Mild h:=by
 simp only [Sem.run]
 cases hb:w.heap[r]? with
 | none=>exact ⟨_,rfl,trivial⟩
 | some o=>
  obtain ⟨c,t,fz,rfl⟩:=hw o hb
  exact ⟨_,rfl,trivial⟩
theorem msim_getObjK {r:Nat} {k:Obj → Sem α} (h:∀ x,MSim P H (k x)) (hk:∀ c e,k (.pending c e)=k (.coro none)):MSim P H (.getObj r k):=fun v w hm=>by
 by_cases hcell:∀ o,v.heap[r]? = some o → ∃ c t fz,o=.cells c t fz
 ·
  obtain ⟨x,h1,h2⟩:=getObj_none (P:=P) (k:=k) hcell
  exact .inl ⟨x,v,h1,h2⟩
 ·
  obtain ⟨o,ho,hc⟩:∃ o,v.heap[r]? = some o ∧ ∀ c t fz,o ≠ .cells c t fz:=by
   refine Classical.byContradiction fun hn=>hcell fun o ho=>Classical.byContradiction fun hno=>hn ⟨o,ho,fun c t fz he=>hno ⟨c,t,fz,he⟩⟩
  have hn:¬ H r:=fun hh=>by
   obtain ⟨c,e',-,h2⟩:=hm.hid _ hh
   rw [ho] at h2
   exact hc _ _ _ (Option.some.inj h2)
  obtain ⟨o',hw,hc',hkk⟩:∃ o',w.heap[r]? = some o' ∧ (∀ c t fz,o' ≠ .cells c t fz) ∧ k o'=k o:=by
   rcases hm.seen _ hn with ⟨hs,-⟩ | ⟨c,e,h1,h2⟩
   · exact ⟨o,hs.trans ho,hc,rfl⟩
   ·
    rw [ho] at h2
    cases h2
    exact ⟨_,h1,(fun _ _ _ he=>by cases he),hk c e⟩
  have hl:r < w.heap.size:=(Array.getElem?_eq_some_iff.1 hw).1
  rcases h o _ _ hm with ⟨z,v1,k1,hz⟩ | ⟨b,v',w',u,k0,k1,k2,k3,k4,k5,k6⟩
  · exact .inl ⟨z,v1,by rw [(getObj_run hc ho).1];exact k1,hz⟩
  ·
   refine .inr ⟨b,v',w',#[⟨.obj r,false,o'.isChan⟩] ++ u,by rw [(getObj_run hc ho).1];exact k0,by rw [(getObj_run hc' hw).1,hkk];exact k1,k2,k3,fun es=>?_,off_push (off_obj hn (Nat.lt_of_lt_of_le hl k3.size)) k5,k6.1,k6.2.1,fun t ht=>?_⟩
   ·
    have:=k4 (es.push ⟨.obj r,false,o'.isChan⟩)
    simp only [Sem.events] at this ⊢
    rw [(getObj_run hc' hw).2,hkk,this]
    simp
   ·
    rw [(getObj_run (w:=taped v t) hc ho).1]
    exact k6.2.2 t ht
theorem msim_getObj {r:Nat} {k:Obj → Sem α} (h:∀ x,MSim P H (k x)) (hk:∀ c e,k (.pending c e)=k (.coro none)):MSim P H (getObj r >>= k):=msim_getObjK h hk
theorem msim_frozen (a:Addr):MSim P H (frozen a):=msim_frozenK fun x=>msim_pure x
end
end Go.Proofs.YtbokomeejmnnoaaDoor
