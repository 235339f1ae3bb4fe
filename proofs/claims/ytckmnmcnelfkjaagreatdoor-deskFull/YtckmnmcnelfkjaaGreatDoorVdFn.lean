/- A function: the generator's condition makes its contract. -/
import Derived.Test.YtckmnmcnelfkjaaGreatDoorVdCode
set_option linter.unusedVariables false
set_option linter.unusedSimpArgs false
namespace Go.Vd
open Go.RowKit
variable {s h:SV} {v:Value} {l:List SV}
section
variable {P:Program} {T:Tys} {G:Pu}
theorem lZ{w:World}{ρ ρ':Nat->Value}{rw rw' U U':Nat->Prop}(hrw: ∀ b,b<w.heap.size->rw' b->rw b){s:SV}(hc:bz s=true)(h:Rel w ρ rw U v s):Rel w ρ' rw' U' v s:=
 ((h.closed hc).mono (Keep.refl _ _) hrw).rel
theorem gN{w:World}{ρ ρ':Nat->Value}{rw rw' U U':Nat->Prop}(hrw: ∀ b,b<w.heap.size->rw' b->rw b){s:SV}(hc:kB s=true)(h:Rel w ρ rw U v s):Rel w ρ' rw' U' v s:=by
 cases s with
 |agg l=>
  generalize hs:SV.agg l=s at h
  cases h with
  |agg cs l' hl h1 h=>
   cases hs
   exact .agg _ _ hl h1 (fun i v s hv hs=>lZ hrw (Is hc s (List.mem_of_getElem? hs)) (h i v s hv hs)) (.zero hc)
  |_=>cases hs
 |_=>exact lZ hrw hc h
theorem qT{w:World}{ρ ρ':Nat->Value}{rw rw' U U':Nat->Prop}(hrw: ∀ b,b<w.heap.size->rw' b->rw b){s:SV}(hc:(bz s||gn s)=true):fp (Rel w ρ rw U) (Rel w ρ' rw' U') s s:=
 ⟨rfl,fun i v _ hv=>lZ hrw (vH hc i) hv⟩
theorem F3{w:World}{ρ:Nat->Value}{rwc U:Nat->Prop}{ρ0:Nat->Value}{rw N:Nat->Prop}{key k:Nat}(h:Rel w ρ rwc U v (.own k)):
 Rel w (aQ ρ0 key (ρ k)) rw (aL N key) v (.own key):=by
 cases h with
 |own _ hk h1=>
  have:=Rel.own (w:=w) (ρ:=aQ ρ0 key (ρ k)) (rw:=rw) (N:=aL N key) key (.inr rfl) (by rw [aX];exact h1)
  rwa [aX] at this
theorem n8{key:Nat}{s:SV}(h:(bz s||gn s)=true):bC key s=none:=by cases s<;>first|rfl|cases h
variable {w:World} {ρ:Nat->Value} {F U:Nat->Prop} {m:Mem} {ρ0:Nat->Value} {N:Nat->Prop} {key:Nat}
theorem o7{k:Nat}{b:Blk}(hl:af m k=some b): ∀ g,g<w.heap.size->(F g∨av (ρ k)=some g)->ae F ρ m g:=fun g _ h=>h.imp id fun h=>⟨_,ag hl, .inl h⟩
theorem tL: ∀ {l l':List SV} {b:Bool},pO m l=some (l',b)->
 (b=false->l'=l∧zOk l=true∧cg key l'=none)∧
 (b=true-> ∃ k e q n f l'',af m k=some (.row e q n f)∧cg key l'=some (l'', .row e q n f)∧l''.length=l.length∧((∀ t∈l'',aH t=true-> ∀ k,¬ cA k t)∧
   ∀(i:Nat) s t,l[i]? =some s->l''[i]? =some t->fp (Rel w ρ (ae F ρ m) U) (Rel w (aQ ρ0 key (ρ k)) (fun b=>F b∨av (ρ k)=some b) (aL N key)) s t))
 | [],l',b,h=>by
   simp only [pO,sIE,pIE] at h
   obtain ⟨rfl,rfl⟩:=h
   exact ⟨fun _=>⟨rfl,rfl,rfl⟩,fun e=>by cases e⟩
 |s::l,l',b,h=>by
  simp only [pO] at h
  cases hg:pO m l with
  |none=>rw [hg] at h;cases h
  |some x=>
   obtain ⟨l1,b1⟩:=x
   rw [hg] at h
   obtain ⟨i1,i2⟩:=tL hg
   simp only at h
   split at h
   · rename_i k
     split at h
     · rename_i e q n f hl
       cases hb:b1<;>simp only [hb,cond_true,cond_false,reduceCtorEq,sIE,pIE] at h
       obtain ⟨rfl,rfl⟩:=h
       obtain ⟨rfl,hcl,_⟩:=i1 hb
       refine ⟨(fun e=>by cases e),fun _=>⟨k,e,q,n,f, .own key::l1,hl,by simp [cg,bC],by simp,fun t ht hr=> ?_,fun i s t hs ht=> ?_⟩⟩
       · rcases List.mem_cons.1 ht with rfl|ht
         · cases hr
         · exact qr (List.all_eq_true.1 hcl t ht) hr
       · cases i with
         |zero=>
          simp only [List.getElem?_cons_zero,sIE] at hs ht
          subst hs ht
          exact .of_not rfl rfl fun v hv=>F3 hv
         |succ i=>
          simp only [List.getElem?_cons_succ] at hs ht
          rw [hs] at ht
          cases ht
          exact qT (o7 hl) (List.all_eq_true.1 hcl s (List.mem_of_getElem? hs))
     · cases h
   · cases hc:(bz s||gn s)<;>simp only [hc,cond_true,cond_false,reduceCtorEq,sIE,pIE] at h
     obtain ⟨rfl,rfl⟩:=h
     refine ⟨fun e=> ?_,fun e=> ?_⟩
     · obtain ⟨rfl,h2,h3⟩:=i1 e
       exact ⟨rfl,by simp only [zOk,List.all_cons,hc,Bool.true_and];exact h2,by simp [cg,n8 hc,h3]⟩
     · obtain ⟨k,el,q,n,f,l'',hl,hcl,hlen,hrun,hrel⟩:=i2 e
       refine ⟨k,el,q,n,f,s::l'',hl,by simp [cg,n8 hc,hcl],by simp [hlen],fun t ht hr=> ?_,fun i s' t hs' ht=> ?_⟩
       · rcases List.mem_cons.1 ht with rfl|ht
         · exact qr hc hr
         · exact hrun t ht hr
       · cases i with
         |zero=>
          simp only [List.getElem?_cons_zero,sIE] at hs' ht
          subst hs' ht
          exact qT (o7 hl) hc
         |succ i=>exact hrel i s' t (by simpa using hs') (by simpa using ht)
theorem uR{s:SV}(h:bz s=true):bE key s=none:=by cases s<;>first|rfl|cases h
theorem tM{s s':SV}{b:Bool}(h:mV m s=some (s',b)):
 (b=false->s'=s∧kB s=true∧bE key s'=none)∧
 (b=true-> ∃ k e q n f s'',af m k=some (.row e q n f)∧bE key s'=some (s'', .row e q n f)∧
   ∀ v,Rel w ρ (ae F ρ m) U v s->Rel w (aQ ρ0 key (ρ k)) (fun b=>F b∨av (ρ k)=some b) (aL N key) v s''):=by
 unfold mV at h
 split at h
 · rename_i l
   split at h
   · rename_i l' b' hg
     simp only [sIE,pIE] at h
     obtain ⟨rfl,rfl⟩:=h
     obtain ⟨i1,i2⟩:=tL (key:=key) (w:=w) (ρ:=ρ) (F:=F) (U:=U) (ρ0:=ρ0) (N:=N) hg
     refine ⟨fun e=> ?_,fun e=> ?_⟩
     · obtain ⟨rfl,h2,h3⟩:=i1 e
       exact ⟨rfl,h2,by simp only [bE,h3]⟩
     · obtain ⟨k,el,q,n,f,l'',hl,hcl,hlen,hrun,hrel⟩:=i2 e
       refine ⟨k,el,q,n,f, .agg l'',hl,by simp only [bE,hcl],fun v hv=> ?_⟩
       generalize hs:SV.agg l=s at hv
       cases hv with
       |agg cs l0 hl0 h1 hh=>
        cases hs
        obtain ⟨q1,q2⟩:=fp.lift hlen.symm hrel
        exact .agg cs l'' (by omega) h1 (fun i u t hu ht=>q2 (cs:=cs.toList) (by simpa using hh) i u t (by simpa using hu) ht) fun t ht hr k hk=>(hrun t ht hr k hk).elim
       |_=>cases hs
   · cases h
 · rename_i k
   split at h
   · rename_i e q n f hl
     simp only [sIE,pIE] at h
     obtain ⟨rfl,rfl⟩:=h
     exact ⟨(fun e=>by cases e),fun _=>⟨k,e,q,n,f, .own key,hl,rfl,fun v hv=>F3 hv⟩⟩
   · cases h
 · cases hc:bz s<;>simp only [hc,cond_true,cond_false,reduceCtorEq,sIE,pIE] at h
   obtain ⟨rfl,rfl⟩:=h
   refine ⟨fun _=>⟨rfl, ?_,uR hc⟩,fun e=>by cases e⟩
   cases s<;>first|exact hc|cases hc
theorem tN: ∀ {l l':List SV} {b:Bool},mW m l=some (l',b)->
 (b=false->l'=l∧(∀ s∈l,kB s=true)∧cu key l'=none)∧
 (b=true-> ∃ k e q n f l'',af m k=some (.row e q n f)∧cu key l'=some (l'', .row e q n f)∧l''.length=l.length∧
   ∀(i:Nat) v t,(∀ s,l[i]? =some s->Rel w ρ (ae F ρ m) U v s)->l''[i]? =some t->Rel w (aQ ρ0 key (ρ k)) (fun b=>F b∨av (ρ k)=some b) (aL N key) v t)
 | [],l',b,h=>by
   simp only [mW,sIE,pIE] at h
   obtain ⟨rfl,rfl⟩:=h
   exact ⟨fun _=>⟨rfl,fun s hs=>(by cases hs),rfl⟩,fun e=>by cases e⟩
 |s::l,l',b,h=>by
  simp only [mW] at h
  split at h
  · rename_i l1 b1 s1 b2 hg hg2
    obtain ⟨i1,i2⟩:=tN hg
    obtain ⟨j1,j2⟩:=tM (key:=key) (w:=w) (ρ:=ρ) (F:=F) (U:=U) (ρ0:=ρ0) (N:=N) hg2
    cases hb:(b1 && b2)<;>simp only [hb,cond_true,cond_false,reduceCtorEq,sIE,pIE] at h
    obtain ⟨rfl,rfl⟩:=h
    refine ⟨fun e=> ?_,fun e=> ?_⟩
    · rw [Bool.or_eq_false_iff] at e
      obtain ⟨rfl,h2,h3⟩:=i1 e.1
      obtain ⟨rfl,g2,g3⟩:=j1 e.2
      refine ⟨rfl,fun t ht=> ?_,by simp only [cu,g3,h3]⟩
      rcases List.mem_cons.1 ht with rfl|ht
      · exact g2
      · exact h2 t ht
    · cases hb2:b2 with
      |true=>
       have hb1:b1=false:=by rw [hb2,Bool.and_true] at hb;exact hb
       obtain ⟨rfl,h2,h3⟩:=i1 hb1
       obtain ⟨k,el,q,n,f,s'',hl,hcl,hrel⟩:=j2 hb2
       refine ⟨k,el,q,n,f,s''::l1,hl,by simp only [cu,hcl],by simp,fun i v t hv ht=> ?_⟩
       cases i with
       |zero=>
        simp only [List.getElem?_cons_zero,sIE] at ht
        subst ht
        exact hrel v (hv _ rfl)
       |succ i=>
        simp only [List.getElem?_cons_succ] at ht
        exact gN (o7 hl) (h2 t (List.mem_of_getElem? ht)) (hv t (by simpa using ht))
      |false=>
       have hb1:b1=true:=by rw [hb2,Bool.or_false] at e;exact e
       obtain ⟨rfl,g2,g3⟩:=j1 hb2
       obtain ⟨k,el,q,n,f,l'',hl,hcl,hlen,hrel⟩:=i2 hb1
       refine ⟨k,el,q,n,f,s1::l'',hl,by simp only [cu,g3,hcl],by simp [hlen],fun i v t hv ht=> ?_⟩
       cases i with
       |zero=>
        simp only [List.getElem?_cons_zero,sIE] at ht
        subst ht
        exact gN (o7 hl) g2 (hv _ rfl)
       |succ i=>exact hrel i v t (fun s' hs'=>hv s' (by simpa using hs')) (by simpa using ht)
  · cases h
theorem qU{w0:World}(hm:MemOk F w ρ m U)(hnew: ∀ g,bB ρ m g->w0.heap.size<=g){r:SV}{vs:List Value}(hlen:vs.length=l.length)
 (hrel: ∀(i:Nat) v s,vs[i]? =some v->l[i]? =some s->Rel w ρ (ae F ρ m) U v s)
 (h:(∃ x y b,l= [x] ∧mV m x=some (y,b)∧r=y)∨(l.length≠1∧ ∃ l' b,mW m l=some (l',b)∧r= .tup l')):
 i6 w0 w ρ0 F N (if hh:vs.toArray.size=1 then vs.toArray[0] else .tuple vs.toArray) r:=by
 intro key hk
 have hmono: ∀ b,b<w.heap.size->F b->ae F ρ m b:=fun b _ h=> .inl h
 have hrow: ∀ {k e q n f},af m k=some (.row e q n f)->(∀ g,av (ρ k)=some g->w0.heap.size<=g)∧
  dv w (aQ ρ0 key (ρ k)) (fun b=>F b∨av (ρ k)=some b) (aL N key) key (.row e q n f):=fun {k e q n f} hl=>by
  have hbo:dv w ρ (ae F ρ m) U k (.row e q n f):=hm.blk _ (ag hl)
  obtain ⟨xs,hown,h1,hr⟩:=hbo
  exact ⟨fun g hg=>hnew g ⟨_,ag hl, .inl hg⟩,xs,by rw [aX];exact hown,h1,fun i j v hi hj hv=>(hr i j v hi hj hv).mono (Keep.refl _ _) (o7 hl)⟩
 rcases h with ⟨x,y,b,rfl,hg,rfl⟩ | ⟨hne,l',b,hg,rfl⟩
 · match vs,hlen with
   | [v],_=>
     have hv:=hrel 0 v x rfl rfl
     have e0:(if hh: [v].toArray.size=1 then [v].toArray[0] else Value.tuple [v].toArray)=v:=by simp
     rw [e0]
     obtain ⟨i1,i2⟩:=tM (key:=key) (w:=w) (ρ:=ρ) (F:=F) (U:=U) (ρ0:=ρ0) (N:=N) hg
     have hnt: ∀ t,r≠ .tup t:=by
      rintro t rfl
      unfold mV at hg
      split at hg
      · split at hg
        · cases hg
        · cases hg
      · split at hg
        · cases hg
        · cases hg
      · cases hc:bz x<;>simp only [hc,cond_true,cond_false,reduceCtorEq,sIE,pIE] at hg
        obtain ⟨rfl,_⟩:=hg
        cases hc
     have hcl: ∀ c2,bE key r=c2->cV key r=match c2 with|some (s',b)=>(s',some b) |none=>(r,none):=by
      intro c2 hc2
      unfold cV
      split
      · rename_i t;exact absurd rfl (hnt t)
      · rw [hc2];cases c2<;>rfl
     cases hb:b with
     |false=>
      obtain ⟨rfl,h2,h3⟩:=i1 hb
      rw [hcl _ h3]
      exact gN hmono h2 hv
     |true=>
      obtain ⟨k,e,q,n,f,s'',hl,h3,hr⟩:=i2 hb
      rw [hcl _ h3]
      exact ⟨ρ k,(hrow hl).1,hr v hv,(hrow hl).2⟩
 · have e0:(if hh:vs.toArray.size=1 then vs.toArray[0] else Value.tuple vs.toArray)= .tuple vs.toArray:=by
    rw [dif_neg (by simp;omega)]
   rw [e0]
   obtain ⟨i1,i2⟩:=tN (key:=key) (w:=w) (ρ:=ρ) (F:=F) (U:=U) (ρ0:=ρ0) (N:=N) hg
   cases hb:b with
   |false=>
    obtain ⟨rfl,h2,h3⟩:=i1 hb
    simp only [cV,h3]
    exact .tup _ _ (by simpa using hlen) fun i v s hv hs=>gN hmono (h2 s (List.mem_of_getElem? hs)) (hrel i v s (by simpa using hv) hs)
   |true=>
    obtain ⟨k,e,q,n,f,l'',hl,h3,hlen'',hr⟩:=i2 hb
    simp only [cV,h3]
    refine ⟨ρ k,(hrow hl).1, .tup _ _ (by simp;omega) fun i v t hv ht=>hr i v t (fun s hs=>hrel i v s (by simpa using hv) hs) ht,(hrow hl).2⟩
theorem ya{s:St} : ∀ {rs:List ResultVar} {l:List SV},kQ T s rs=some l->rs.length=l.length∧ ∀(i:Nat) (r:ResultVar) (x:SV),rs[i]? =some r->l[i]? =some x->pP T s r=some x
 | [],l,h=>by simp only [kQ,sIE] at h;subst h;exact ⟨rfl,fun i r x h=>by simp at h⟩
 |r::rs,l,h=>by
  simp only [kQ] at h
  split at h
  · rename_i x y hx hy
    simp only [sIE] at h
    subst h
    obtain ⟨h1,h2⟩:=ya hy
    refine ⟨by simp [h1],fun i r' x' hr hx'=> ?_⟩
    cases i with
    |zero=>simp at hr hx';subst hr hx';exact hx
    |succ i=>exact h2 i r' x' (by simpa using hr) (by simpa using hx')
  · cases h
theorem yb: ∀ n,uns n=List.replicate n .un
 |0=>rfl
 |n+1=>by simp [uns,yb n,List.replicate_succ]
theorem bp.length{α β:Type}{R:α->β->Prop} : ∀ {l:List α} {m:List β},bp R l m->l.length=m.length
 | [], [],_=>rfl
 |_::l,_::m,h=>by simp [bp.length h.2]
 | [],_::_,h=>h.elim
 |_::_, [],h=>h.elim
theorem bp.get{α β:Type}{R:α->β->Prop} : ∀ {l:List α} {m:List β},bp R l m-> ∀(i:Nat) a b,l[i]? =some a->m[i]? =some b->R a b
 |a::l,b::m,h,0,x,y,hx,hy=>by simp at hx hy;subst hx hy;exact h.1
 |a::l,b::m,h,i+1,x,y,hx,hy=>bp.get h.2 i x y (by simpa using hx) (by simpa using hy)
 | [], [],_,i,a,b,h,_=>by simp at h
 | [],_::_,h,_,_,_,_,_=>h.elim
 |_::_, [],h,_,_,_,_,_=>h.elim
theorem o8: ∀ {l:List SV},kC l=true-> ∀ s∈l,kB s=true
 | [],_,s,h=>by cases h
 |x::l,h,s,hs=>by
  simp only [kC,bAE] at h
  rcases List.mem_cons.1 hs with rfl|hs
  · exact h.1
  · exact o8 h.2 s hs
end
theorem tO{P:Program}{T:Tys}(hT:TysOk P T){c:Ctx}{U:Nat->Prop}{s:St}{a:Act}{w:World}{ρ:Nat->Value}(hs:SimR c U s a w ρ){fn:Func}(hl:kQ T s fn.results.toList=some l):
 ∃ vs:List Value,vs.length=l.length∧(results fn a.tmps).run P w= .ok (if hh:vs.toArray.size=1 then vs.toArray[0] else .tuple vs.toArray) w∧
   ∀(i:Nat) v x,vs[i]? =some v->l[i]? =some x->Rel w ρ (ae c.F ρ s.mem) U v x:=by
 obtain ⟨g1,g2⟩:=ya hl
 have hval: ∀ rv x,pP T s rv=some x-> ∃ v,(match rv with| .tmp t=>(pure (a.tmps.getD t undef):Sem Value) | .cell p t=>do loadVar t (<-asAddr (a.tmps.getD p undef))).run P w= .ok v w∧Rel w ρ (ae c.F ρ s.mem) U v x:=by
  intro rv x hx
  cases rv with
  |tmp t=>
   simp only [pP,sIE] at hx
   subst hx
   exact ⟨_,rfl,hs.tmps t⟩
  |cell p t=>
   simp only [pP] at hx
   split at hx
   · rename_i k off ty hp hty
     split at hx
     · rename_i u cs hlk
       have hrp:=hs.tmps p
       rw [hp] at hrp
       cases hble:Nat.ble (off+ty.size) (bq cs)<;>simp only [hble,cond_true,cond_false,reduceCtorEq] at hx
       have hld:=iw (P:=P) (hT _ _ hty) hs.mem hrp hlk (Nat.le_of_ble_eq_true hble)
       obtain ⟨z,z1,z2⟩:=hld
       refine ⟨z, ?_, ?_⟩
       · dsimp only
         generalize a.tmps.getD p undef=pv at hrp z1 ⊢
         cases hrp
         simpa [Instr.loadAt,Instr.sureAddr,asAddr] using z1
       · cases hag:ty.agg<;>simp only [hag,cond_true,cond_false,sIE] at hx z2
         · subst hx;exact z2
         · subst hx;exact z2
     · cases hx
   · cases hx
 have key: ∀(rs:List ResultVar) (l:List SV),rs.length=l.length->(∀(i:Nat) (r:ResultVar) (x:SV),rs[i]? =some r->l[i]? =some x->pP T s r=some x)-> ∃ vs':List Value,vs'.length=l.length∧(rs.mapM fun (rv:ResultVar)=>match rv with
  | .tmp t=>(pure (a.tmps.getD t undef):Sem Value)
  | .cell p t=>do loadVar t (<-asAddr (a.tmps.getD p undef))).run P w= .ok vs' w∧ ∀(i:Nat) v x,vs'[i]? =some v->l[i]? =some x->Rel w ρ (ae c.F ρ s.mem) U v x:=by
  intro rs
  induction rs with
  |nil=>intro l hl _;cases l with
   |nil=>exact ⟨[],rfl,rfl,fun i v x h=>by simp at h⟩
   |cons x l=>simp at hl
  |cons rv rs ih=>
   intro l hl hres
   cases l with
   |nil=>simp at hl
   |cons x l=>
    obtain ⟨vs',q1,q2,q3⟩:=ih l (by simpa using hl) (fun i r x hr hx=>hres (i+1) r x (by simpa using hr) (by simpa using hx))
    obtain ⟨v,p1,p2⟩:=hval rv x (hres 0 rv x rfl rfl)
    refine ⟨v::vs',by simp [q1], ?_,fun i u y hu hy=> ?_⟩
    · rw [List.mapM_cons,Sem.run_bind,p1]
      simp only [Result.andThen_ok,Sem.run_bind,q2]
      rfl
    · cases i with
      |zero=>simp at hu hy;subst hu hy;exact p2
      |succ i=>exact q3 i u y (by simpa using hu) (by simpa using hy)
 obtain ⟨vs',q1,q2,q3⟩:=key fn.results.toList l g1 g2
 refine ⟨vs',q1, ?_,q3⟩
 unfold results
 rw [Array.mapM_eq_mapM_toList,Sem.run_bind,Sem.run_map]
 erw [q2]
 rfl
theorem tP{w:World}{ρ:Nat->Value}{rw U:Nat->Prop}{vs:List Value}{args:List SV}{n:Nat}(hargs:bp (Rel w ρ rw U) vs args)(hle:args.length<=n):
 (vs.toArray++Array.replicate (n - vs.toArray.size) undef).size=(eb args (uns (n - len args))).length∧
   ∀ t,Rel w ρ rw U ((vs.toArray++Array.replicate (n - vs.toArray.size) undef).getD t undef) (ap (eb args (uns (n - len args))) t):=by
 have hlen:=hargs.length
 refine ⟨?_,fun t=> ?_⟩
 · simp only [du,yb]
   simp [dW]
   omega
 · simp only [du,yb,dW]
   rw [bW,Array.getD_eq_getD_getElem?]
   simp only [Array.getElem?_append,List.getElem?_append,List.size_toArray,List.getElem?_toArray]
   by_cases ht:t<args.length
   · rw [if_pos (by omega),if_pos ht]
     have hv:vs[t]? =some (vs[t]'(by omega)):=gEE (by omega)
     have hs:args[t]? =some (args[t]'ht):=gEE ht
     rw [hv,hs]
     exact hargs.get t _ _ hv hs
   · rw [if_neg (by omega),if_neg ht,List.getElem?_replicate,Array.getElem?_replicate]
     split
     · rw [if_pos (by omega)];exact .un
     · rw [if_neg (by omega)];exact .un
theorem jg{w:World}{ρ:Nat->Value}{U F:Nat->Prop}{m:Mem}(hm:MemOk F w ρ m U): ∀ {vs:List Value} {l:List SV},bp (Rel w ρ (ae F ρ m) U) vs l->bp (Rel w ρ (fun _=>False) U) vs (bK std m l)
 | [], [],_=>trivial
 |v::vs,s::l,h=>by
  cases s with
  |agg q=>
   have hx:=h.1
   refine ⟨?_,jg hm h.2⟩
   generalize hss:SV.agg q=t at hx
   cases hx with
   |agg cs l' hl h1 hh=>
    cases hss
    exact .agg _ _ (by rw [hl,iz]) h1 (fun i v s hv hs'=>iA (R:=Rel w ρ (ae F ρ m) U) (cs:=cs.toList) (fun v t _ h=>h.mono (fun _ h=>h) (fun _ _=>rfl) (Keep.refl _ _) fun _ _ e=>e.elim) (fun v=> .any v) (fun v t s _ hr _=>hZ hm hr) (by simpa using hh) i v s (by simpa using hv) hs') jq
   |_=>cases hss
  |_=>exact ⟨hZ hm h.1,jg hm h.2⟩
 | [],_::_,h=>h.elim
 |_::_, [],h=>h.elim
def gF (P:Program)(I:Nat->Option Func):Prop:= ∀ f fn,I f=some fn->P.funcs[f]? =some fn∧(fn.name== "runtime.NumGoroutine")=false
theorem F4{P:Program}{T:Tys}{G:Pu}{X:Xt}{I:Nat->Option Func}(hT:TysOk P T)(hG:az P T.gl G)(hX:XtOk P T.gl X)(hI:gF P I)(hm:P.follows .mixedOrders=true): ∀ d,rD P T (inl std T G X I d)
 |0=>fun f args s K h=>h.elim
 |d+1=>by
  intro f args s K h c a w ρ vs hgl hs hall
  have ih:=F4 hT hG hX hI hm d
  simp only [inl] at h
  split at h
  · rename_i p r hGf
    cases hb:flat r<;>rw [hb] at h
    · exact h.elim
    · simp only [cond_true] at h
      have hk:aK p∧K s r:=by
       cases p with
       |none=>exact ⟨trivial,h⟩
       |some p=>exact h
      obtain ⟨hcal,hgood⟩:=hG _ _ _ _ hGf hk.1
      have hglw:=hs.gl
      rw [<-hgl] at hglw
      refine ⟨hcal,(hgood w ρ (fun _=>False) (aA s.next) vs ⟨s.next,fun e=>by simp [aA] at e⟩ (fun b hb=>hb.elim) (hglw.mono (Keep.refl _ _) fun _ _ e=>e.elim) (jg hs.mem hall)).mono fun e w' hq=> ?_⟩
      obtain ⟨v,rfl,hext,hr⟩:=hq
      have h4:=hr s.next (fun e=>by simp [aA] at e)
      rw [m6 hb] at h4
      have hsim:=hs.put hext (r:=r) (v:=v) (h4.flat_any hb) none
      exact ⟨v,s,r,ρ,rfl,hk.2,hsim,h4.flat_any hb⟩
  · split at h
    · rename_i fn hIf
      obtain ⟨hf,hname⟩:=hI _ _ hIf
      split at h
      · rename_i code hbody
        cases hb:Nat.ble (len args) fn.ntmps<;>rw [hb] at h
        · exact h.elim
        · simp only [cond_true] at h
          have hle:args.length<=fn.ntmps:=by rw [<-dW];exact Nat.le_of_ble_eq_true hb
          refine ⟨⟨fn,hf,by rw [hbody];rfl,hname⟩, ?_⟩
          let c':Ctx:= { c with stk:=a.tmps::c.stk }
          let a0:Act:= { tmps:=vs.toArray++Array.replicate (fn.ntmps - vs.toArray.size) undef,defers:= [] }
          obtain ⟨t1,t2⟩:=tP (n:=fn.ntmps) hall hle
          have hsim:Sim c' (aA s.next) { next:=s.next,tmps:=eb args (uns (fn.ntmps - len args)),mem:=s.mem,stk:=s.tmps::s.stk } a0 w:=
           ⟨ρ,rfl,t1,t2,⟨⟨hs.sz,hs.tmps⟩,hs.stk⟩,hs.mem,hs.keep,hs.sub,hs.old,hs.glb⟩
          have hwp:=(x9 (P:=P) (c:=c') hT hG hX ih hgl hm code).1 _ _ h a0 w hsim
          refine calls_of_wp hf hbody (wp_mono hwp fun e a' w' hq=> ?_)
          have done: ∀ s',(match kQ T s' fn.results.toList,s'.stk with|some l,fr::rest=>K { s' with tmps:=fr,stk:=rest } (w6 l) |_,_=>False)->Sim c' (aA s'.next) s' a' w'->
           a'.defers= [] ∧ ∃ v,(results fn a'.tmps).run P w'= .ok v w'∧ ∃ v' s'' r ρ',Ending.returned v= .returned v'∧K s'' r∧SimR c (aA s''.next) s'' a w' ρ'∧Rel w' ρ' (ae c.F ρ' s''.mem) (aA s''.next) v' r:=by
           intro s' hk ⟨ρ',hs'⟩
           refine ⟨hs'.dfr, ?_⟩
           split at hk
           · rename_i l fr rest hl hstk
             obtain ⟨vs',q1,q2,q3⟩:=tO (P:=P) hT hs' hl
             have hst:=hs'.stk
             rw [hstk] at hst
             refine ⟨_,q2,_,_,_,ρ',rfl,hk,⟨hs.dfr,hst.1.1,hst.1.2,hst.2,hs'.mem,hs'.keep,hs'.sub,hs'.old,hs'.glb⟩, ?_⟩
             match l,vs',q1 with
             | [x], [v],_=>simpa [w6] using q3 0 v x rfl rfl
             | [], [],_=>exact .tup _ _ rfl fun i v s hv=>by simp at hv
             |x::y::l,v::u::vs',hq=>
              simp only [w6]
              rw [dif_neg (by simp)]
              exact .tup _ _ (by simpa using hq) fun i v s hv hs=>q3 i v s (by simpa using hv) hs
           · exact hk.elim
          cases e with
          |normal=>obtain ⟨s',hk,hs'⟩:=hq;exact done s' hk hs'
          |ret=>obtain ⟨s',hk,hs'⟩:=hq;exact done s' hk hs'
          |exit id=>obtain ⟨s',hk,_⟩:=hq;exact hk.elim
          |goto l=>obtain ⟨s',hk,_⟩:=hq;exact hk.elim
          |panic ch=>exact hq.elim
          |outgrown=>exact hq.elim
      · exact h.elim
    · exact h.elim
theorem Mt{w:World}{ρ:Nat->Value}{rw U:Nat->Prop}(hr:Rel w ρ rw U v s)(hl:an0 std s h):Rel w ρ rw U v h:=by
 unfold an0 at hl
 split at hl
 · exact hl.elim
 · exact hl.elim
 · exact hl.elim
 · exact .any _
 · rename_i m k f m' k' f'
   obtain ⟨⟨hm,rfl⟩,hff⟩:=hl
   have hm:m'=m:=hm
   subst hm
   cases hr with
   |slc a _ cp _ _ g hn hc ha hr=>
    refine .slc a m' cp k' f g hn hc ha fun i j hi hj=> ?_
    exact (hr i j hi hj).ceq (hff i j hi hj)
 · have hm:0=_:=hl
   subst hm
   cases hr
   exact .slc _ _ _ _ _ (fun _ _=>undef) (Nat.le_refl _) (fun i j hi=>absurd hi (by omega)) (fun h=>absurd h (by omega)) (fun i j hi=>absurd hi (by omega))
 · have hm:0=_:=hl
   subst hm
   cases hr
   exact .slc _ _ _ _ _ (fun _ _=>undef) (Nat.le_refl _) (fun i j hi=>absurd hi (by omega)) (fun h=>absurd h (by omega)) (fun i j hi=>absurd hi (by omega))
 · cases hr
 · obtain ⟨rfl,hm⟩:=hl
   have hm:_=_:=hm
   subst hm
   exact hr
 · have hm:_=_:=hl
   subst hm
   exact hr
 · have hm:_=_:=hl
   subst hm
   exact hr
 · have hm:_=_:=hl
   subst hm
   exact hr
 · have hm:_=_:=hl.1
   have hm':_=_:=hl.2
   subst hm hm'
   exact hr
 · exact hr
 · exact hr
 · subst hl;exact hr
 · subst hl;exact hr
 · exact hl.elim
def Le (b b':Blk):Prop:= ∃ e k n f f',b= .row e k n f∧b'= .row e k n f'∧ ∀ i j,i<n->j<k->Ceq (f i j) (f' i j)
theorem yc{w:World}{ρ:Nat->Value}{rw U:Nat->Prop}{key:Nat}{b b':Blk}(h:Le b b')(hb:dv w ρ rw U key b):dv w ρ rw U key b':=by
 obtain ⟨e,k,n,f,f',rfl,rfl,he⟩:=h
 obtain ⟨xs,h1,h2,h3⟩:=hb
 exact ⟨xs,h1,h2,fun i j v hi hj hv=>(h3 i j v hi hj hv).ceq (he i j hi hj)⟩
def CR {α:Type}(le:α->α->Prop)(s h:α)(c c':Option (α×Blk)):Prop:=
 match c,c' with
 |none,none=>le s h
 |some (s',b),some (h',b')=>le s' h'∧Le b b'
 |_,_=>False
def bn0 (s h:SV):Prop:=an0 std s h∨ ∃ k,s= .own k∧h= .own k
def bnE (s h:SV):Prop:=((aH s||aH h)=false∧bn0 s h)∨((aH s||aH h)=true∧anW std s h)
def bnL:List SV->List SV->Prop
 | [], [] =>True
 |s::l,h::m=>bnE s h∧bnL l m
 |_,_=>False
def bn2 (s h:SV):Prop:=
 match h,s with
 | .agg m, .agg l=>bnL l m
 |h,s=>bn0 s h
def bnT:List SV->List SV->Prop
 | [], [] =>True
 |s::l,h::m=>bn2 s h∧bnT l m
 |_,_=>False
theorem Cg{w:World}{ρ:Nat->Value}{rw U:Nat->Prop}(hr:Rel w ρ rw U v s)(hl:bn0 s h):Rel w ρ rw U v h:=by
 rcases hl with hl| ⟨k,rfl,rfl⟩
 · exact Mt hr hl
 · exact hr
theorem Ch{w:World}{ρ:Nat->Value}{rw U:Nat->Prop}(hl:anW std s h):fp (Rel w ρ rw U) (Rel w ρ rw U) s h∧ ∀ k,¬ cA k h:=by
 unfold anW at hl
 split at hl
 · exact ⟨⟨hl.1.symm,fun i v _ _=> .any _⟩,fun k hk=>hk⟩
 · obtain ⟨rfl,hr⟩:=hl
   exact ⟨⟨rfl,fun i v hi hv=>hv.ceq (Ceq.cl (hr i 0 hi (by omega)))⟩,fun k hk=>hk⟩
 · obtain ⟨rfl,hr⟩:=hl
   exact ⟨⟨rfl,fun i v hi hv=>hv.ceq (Ceq.cl (s:= .nils) (hr i 0 hi (by omega)))⟩,fun k hk=>hk⟩
 · obtain rfl:=hl
   exact ⟨⟨rfl,fun i v hi hv=>hv⟩,fun k hk=>hk⟩
 · exact hl.elim
theorem Ci: ∀ {l m:List SV},bnL l m->l.length=m.length∧ ∀(i:Nat) s t,l[i]? =some s->m[i]? =some t->bnE s t
 | [], [],_=>⟨rfl,fun i s t h=>by simp at h⟩
 |s::l,h::m,hl=>by
  obtain ⟨h1,h2⟩:=Ci hl.2
  refine ⟨by simp [h1],fun i x y hx hy=> ?_⟩
  cases i with
  |zero=>simp at hx hy;subst hx hy;exact hl.1
  |succ i=>exact h2 i x y (by simpa using hx) (by simpa using hy)
 | [],_::_,h=>h.elim
 |_::_, [],h=>h.elim
theorem uS{w:World}{ρ:Nat->Value}{rw U:Nat->Prop}(hr:Rel w ρ rw U v s)(hl:bn2 s h):Rel w ρ rw U v h:=by
 unfold bn2 at hl
 split at hl
 · rename_i m l
   generalize hs:SV.agg l=s at hr
   cases hr with
   |agg cs _ hlen h1 hh=>
    cases hs
    obtain ⟨q1,q2⟩:=Ci hl
    obtain ⟨p1,p2⟩:=fp.lift (R:=Rel w ρ rw U) (R':=Rel w ρ rw U) q1 fun j s t hs ht=>by
     rcases q2 j s t hs ht with ⟨e,hb⟩ | ⟨_,hb⟩
     · rw [Bool.or_eq_false_iff] at e
       exact .of_not e.1 e.2 fun v hv=>Cg hv hb
     · exact (Ch hb).1
    refine .agg cs m (by omega) h1 (fun i u t hu ht=>p2 (cs:=cs.toList) (by simpa using hh) i u t (by simpa using hu) ht) fun t ht hr k hk=> ?_
    obtain ⟨j,hj⟩:=List.mem_iff_getElem?.1 ht
    have hjl:j<l.length:=by have:=(List.getElem?_eq_some_iff.1 hj).1;omega
    rcases q2 j _ t (gEE hjl) hj with ⟨e,hb⟩ | ⟨_,hb⟩
    · rw [Bool.or_eq_false_iff,hr] at e;cases e.2
    · exact ((Ch (w:=w) (ρ:=ρ) (rw:=rw) (U:=U) hb).2 k hk).elim
   |_=>cases hs
 · exact Cg hr hl
theorem Cj: ∀ {l m:List SV},bnT l m->l.length=m.length∧ ∀(i:Nat) s t,l[i]? =some s->m[i]? =some t->bn2 s t
 | [], [],_=>⟨rfl,fun i s t h=>by simp at h⟩
 |s::l,h::m,hl=>by
  obtain ⟨h1,h2⟩:=Cj hl.2
  refine ⟨by simp [h1],fun i x y hx hy=> ?_⟩
  cases i with
  |zero=>simp at hx hy;subst hx hy;exact hl.1
  |succ i=>exact h2 i x y (by simpa using hx) (by simpa using hy)
 | [],_::_,h=>h.elim
 |_::_, [],h=>h.elim
theorem uT: ∀ {l m:List SV},anL std l m->bnL l m
 | [], [],_=>trivial
 |s::_,t::_,h=>by
  refine ⟨?_,uT h.2⟩
  have h1:=h.1
  cases hb:aH s||aH t<;>rw [hb] at h1
  · exact .inl ⟨hb, .inl h1⟩
  · exact .inr ⟨hb,h1⟩
 | [],_::_,h=>h.elim
 |_::_, [],h=>h.elim
theorem Mu(hl:an2 std s h):bn2 s h:=by
 cases h with
 |agg m=>cases s with
  |agg l=>exact uT hl
  |_=>exact .inl hl
 |_=>exact .inl hl
theorem Ck: ∀ {l m:List SV},anT std l m->bnT l m
 | [], [],_=>trivial
 |_::_,_::_,h=>⟨Mu h.1,Ck h.2⟩
 | [],_::_,h=>h.elim
 |_::_, [],h=>h.elim
theorem F5(s:SV):(∃ e k n f,s= .frs e k n f)∨ ∀ key,bC key s=none:=by
 cases s<;>first|exact .inl ⟨_,_,_,_,rfl⟩ |exact .inr fun _=>rfl
theorem Mv{e k n:Nat}{f:Nat->Nat->SV}{h:SV}(hl:an0 std (.frs e k n f) h): ∃ f',h= .frs e k n f'∧ ∀ i j,i<n->j<k->Ceq (f i j) (f' i j):=by
 cases h with
 |frs e' k' n' f'=>
  obtain ⟨⟨rfl,rfl⟩,hn,hff⟩:=hl
  have hn:n=n':=hn
  subst hn
  exact ⟨f',rfl,hff⟩
 |clo g l=>cases l<;>exact hl.elim
 |_=>exact hl.elim
theorem Mw(hl:an0 std s h)(hs: ∀ key,bC key s=none)(key:Nat):bC key h=none:=by
 cases h with
 |frs e k n f=>cases s<;>first| (exact hl.elim) | (have:=hs 0;cases this)
 |_=>rfl
theorem wb{key:Nat}(hl:an0 std s h):CR bn0 s h (bC key s) (bC key h):=by
 rcases F5 s with ⟨e,k,n,f,rfl⟩ |hs
 · obtain ⟨f',rfl,hff⟩:=Mv hl
   exact ⟨.inr ⟨key,rfl,rfl⟩,e,k,n,f,f',rfl,rfl,hff⟩
 · rw [hs key,Mw hl hs key]
   exact .inl hl
theorem nr{key:Nat}{s s':SV}{b:Blk}(h:bC key s=some (s',b)):aH s=false∧aH s'=false:=by
 cases s<;>simp only [bC,reduceCtorEq,sIE,pIE] at h
 exact ⟨rfl,by rw [<-h.1];rfl⟩
theorem F6{key:Nat}(hl:bif aH s||aH h then anW std s h else an0 std s h):CR bnE s h (bC key s) (bC key h):=by
 cases hb:aH s||aH h<;>rw [hb] at hl
 · have h1:=wb (key:=key) hl
   unfold CR at h1 ⊢
   split at h1
   · exact .inl ⟨hb,h1⟩
   · rename_i s' b h' b' e1 e2
     exact ⟨.inl ⟨by rw [(nr e1).2,(nr e2).2];rfl,h1.1⟩,h1.2⟩
   · exact h1.elim
 · have e1:bC key s=none:=by
    cases hc:bC key s with
    |none=>rfl
    |some x=>
     obtain ⟨s',b⟩:=x
     have hs:=(nr hc).1
     cases s<;>simp only [bC,reduceCtorEq] at hc
     cases h<;>first|exact hl.elim| (cases hl.2)
   have e2:bC key h=none:=by
    cases hc:bC key h with
    |none=>rfl
    |some x=>
     cases h<;>simp only [bC,reduceCtorEq] at hc
     exact hl.elim
   rw [e1,e2]
   exact .inr ⟨hb,hl⟩
theorem wc{key:Nat} : ∀ {l m:List SV},anL std l m->CR bnL l m (cg key l) (cg key m)
 | [], [],_=>trivial
 |s::l,h::m,hl=>by
  have h1:=F6 (key:=key) hl.1
  have h2:=wc (key:=key) hl.2
  simp only [cg]
  cases hs:bC key s with
  |some x=>
   obtain ⟨s',b⟩:=x
   rw [hs] at h1
   cases hh:bC key h with
   |none=>rw [hh] at h1;exact h1.elim
   |some y=>
    obtain ⟨h',b'⟩:=y
    rw [hh] at h1
    exact ⟨⟨h1.1,uT hl.2⟩,h1.2⟩
  |none=>
   rw [hs] at h1
   cases hh:bC key h with
   |some y=>rw [hh] at h1;exact h1.elim
   |none=>
    rw [hh] at h1
    simp only
    cases hs2:cg key l with
    |some x=>
     obtain ⟨s',b⟩:=x
     rw [hs2] at h2
     cases hh2:cg key m with
     |none=>rw [hh2] at h2;exact h2.elim
     |some y=>
      obtain ⟨h',b'⟩:=y
      rw [hh2] at h2
      exact ⟨⟨h1,h2.1⟩,h2.2⟩
    |none=>
     rw [hs2] at h2
     cases hh2:cg key m with
     |some y=>rw [hh2] at h2;exact h2.elim
     |none=>
      rw [hh2] at h2
      exact ⟨h1,h2⟩
 | [],_::_,h=>h.elim
 |_::_, [],h=>h.elim
theorem wd{key:Nat}(hl:an2 std s h):CR bn2 s h (bE key s) (bE key h):=by
 have cF:(∀ l,s≠ .agg l)->(∀ m,h≠ .agg m)->an0 std s h->CR bn2 s h (bE key s) (bE key h):=by
  intro hs hh hl
  have e1:bE key s=bC key s:=by
   cases s with
   |agg l=>exact absurd rfl (hs l)
   |_=>rfl
  have e2:bE key h=bC key h:=by
   cases h with
   |agg l=>exact absurd rfl (hh l)
   |_=>rfl
  have:=wb (key:=key) hl
  rw [e1,e2]
  have key2: ∀ {a b:SV},(∀ m,b≠ .agg m)->bn0 a b->bn2 a b:=fun {a b} hb hab=>by
   cases b with
   |agg m=>exact absurd rfl (hb m)
   |_=>exact hab
  unfold CR at this ⊢
  split at this
  · exact key2 hh this
  · rename_i s' b h' b' _ hc'
    refine ⟨key2 (fun m e=> ?_) this.1,this.2⟩
    subst e
    cases h<;>first|cases hc'|skip
  · exact this
 cases h with
 |agg m=>cases s with
  |agg l=>
   have:=wc (key:=key) (show anL std l m from hl)
   simp only [bE]
   unfold CR at this
   split at this
   · rename_i e1 e2
     rw [e1,e2]
     exact this
   · rename_i e1 e2
     rw [e1,e2]
     exact this
   · exact this.elim
  |_=>exact hl.elim
 |any=>cases s with
  |agg l=>exact hl.elim
  |_=>exact cF (fun _ e=>by cases e) (fun _ e=>by cases e) hl
 |clo g q=>cases s with
  |agg l=>cases q<;>exact hl.elim
  |_=>exact cF (fun _ e=>by cases e) (fun _ e=>by cases e) hl
 |_=>cases s with
  |agg l=>exact hl.elim
  |_=>exact cF (fun _ e=>by cases e) (fun _ e=>by cases e) hl
theorem we{key:Nat} : ∀ {l m:List SV},anT std l m->CR bnT l m (cu key l) (cu key m)
 | [], [],_=>trivial
 |s::l,h::m,hl=>by
  have h1:=wd (key:=key) hl.1
  have h2:=we (key:=key) hl.2
  simp only [cu]
  cases hs:bE key s with
  |some x=>
   obtain ⟨s',b⟩:=x
   rw [hs] at h1
   cases hh:bE key h with
   |none=>rw [hh] at h1;exact h1.elim
   |some y=>
    obtain ⟨h',b'⟩:=y
    rw [hh] at h1
    exact ⟨⟨h1.1,Ck hl.2⟩,h1.2⟩
  |none=>
   rw [hs] at h1
   cases hh:bE key h with
   |some y=>rw [hh] at h1;exact h1.elim
   |none=>
    rw [hh] at h1
    simp only
    cases hs2:cu key l with
    |some x=>
     obtain ⟨s',b⟩:=x
     rw [hs2] at h2
     cases hh2:cu key m with
     |none=>rw [hh2] at h2;exact h2.elim
     |some y=>
      obtain ⟨h',b'⟩:=y
      rw [hh2] at h2
      exact ⟨⟨h1,h2.1⟩,h2.2⟩
    |none=>
     rw [hs2] at h2
     cases hh2:cu key m with
     |some y=>rw [hh2] at h2;exact h2.elim
     |none=>
      rw [hh2] at h2
      exact ⟨h1,h2⟩
 | [],_::_,h=>h.elim
 |_::_, [],h=>h.elim
theorem IU{w0 w:World}{ρ:Nat->Value}{rw U:Nat->Prop}(hr:i6 w0 w ρ rw U v s)(hl:an3 std s h):i6 w0 w ρ rw U v h:=by
 intro key hk
 have h0:=hr key hk
 have flat:(∀ l,s≠ .tup l)->(∀ m,h≠ .tup m)->an2 std s h->match cV key h with
  | (r',some b)=> ∃ x,(∀ g,av x=some g->w0.heap.size<=g)∧Rel w (aQ ρ key x) (fun b=>rw b∨av x=some b) (aL U key) v r'∧dv w (aQ ρ key x) (fun b=>rw b∨av x=some b) (aL U key) key b
  | (_,none)=>Rel w ρ rw U v h:=by
  intro hs hh hl
  have e1:cV key s=match bE key s with|some (s',b)=>(s',some b) |none=>(s,none):=by
   cases s with
   |tup l=>exact absurd rfl (hs l)
   |_=>rfl
  have e2:cV key h=match bE key h with|some (s',b)=>(s',some b) |none=>(h,none):=by
   cases h with
   |tup l=>exact absurd rfl (hh l)
   |_=>rfl
  have:=wd (key:=key) hl
  rw [e1] at h0
  rw [e2]
  unfold CR at this
  split at this
  · rename_i c1 c2
    rw [c1] at h0
    rw [c2]
    exact uS h0 this
  · rename_i c1 c2
    rw [c1] at h0
    rw [c2]
    obtain ⟨x,q1,q2,q3⟩:=h0
    exact ⟨x,q1,uS q2 this.1,yc this.2 q3⟩
  · exact this.elim
 have tupRel: ∀ {ρ:Nat->Value} {rw U:Nat->Prop} {l m:List SV},Rel w ρ rw U v (.tup l)->bnT l m->Rel w ρ rw U v (.tup m):=by
  intro ρ rw U l m hr hb
  generalize hs:SV.tup l=s at hr
  cases hr with
  |tup cs _ hlen hh=>
   cases hs
   obtain ⟨q1,q2⟩:=Cj hb
   refine .tup cs m (by omega) fun i u t hu ht=> ?_
   have hi:i<l.length:=by have:=(List.getElem?_eq_some_iff.1 ht).1;omega
   exact uS (hh i u _ hu (gEE hi)) (q2 i _ t (gEE hi) ht)
  |_=>cases hs
 cases h with
 |tup m=>cases s with
  |tup l=>
   have:=we (key:=key) (show anT std l m from hl)
   simp only [cV] at h0 ⊢
   unfold CR at this
   split at this
   · rename_i c1 c2
     rw [c1] at h0
     rw [c2]
     exact tupRel h0 this
   · rename_i c1 c2
     rw [c1] at h0
     rw [c2]
     obtain ⟨x,q1,q2,q3⟩:=h0
     exact ⟨x,q1,tupRel q2 this.1,yc this.2 q3⟩
   · exact this.elim
  |_=>exact hl.elim
 |any=>cases s with
  |tup l=>exact hl.elim
  |_=>exact flat (fun _ e=>by cases e) (fun _ e=>by cases e) hl
 |clo g q=>cases s with
  |tup l=>cases q<;>exact hl.elim
  |_=>exact flat (fun _ e=>by cases e) (fun _ e=>by cases e) hl
 |agg m=>cases s with
  |tup l=>exact hl.elim
  |_=>exact flat (fun _ e=>by cases e) (fun _ e=>by cases e) hl
 |_=>cases s with
  |tup l=>exact hl.elim
  |_=>exact flat (fun _ e=>by cases e) (fun _ e=>by cases e) hl
theorem yd{w:World}{ρ:Nat->Value}{rw rw' U:Nat->Prop}{key:Nat}(hmono: ∀ v t,Rel w ρ rw U v t->Rel w (aQ ρ key (.slice none 0 0)) rw' (aL U key) v t): ∀ {l l':List SV},ox key l=some l'->l'.length=l.length∧((∀ t∈l',t∈l∨aH t=false)∧
 ∀(i:Nat) s t,l[i]? =some s->l'[i]? =some t->fp (Rel w ρ rw U) (Rel w (aQ ρ key (.slice none 0 0)) rw' (aL U key)) s t)
 | [],l',h=>by cases h
 |s::l,l',h=>by
  have hnil: ∀ {v},Rel w ρ rw U v .nils->Rel w (aQ ρ key (.slice none 0 0)) rw' (aL U key) v (.own key):=fun hv=>by
   cases hv
   have:=Rel.own (w:=w) (ρ:=aQ ρ key (.slice none 0 0)) (rw:=rw') (N:=aL U key) key (.inr rfl) (by rw [aX];rfl)
   rwa [aX] at this
  have next: ∀ l1,ox key l=some l1->some (s::l1)=some l'->l'.length=(s::l).length∧((∀ t∈l',t∈s::l∨aH t=false)∧ ∀(i:Nat) s1 t,(s::l)[i]? =some s1->l'[i]? =some t->fp (Rel w ρ rw U) (Rel w (aQ ρ key (.slice none 0 0)) rw' (aL U key)) s1 t):=by
   intro l1 hl1 e
   cases e
   obtain ⟨q1,q0,q2⟩:=yd hmono hl1
   refine ⟨by simp [q1],fun t ht=> ?_,fun i s1 t hs ht=> ?_⟩
   · rcases List.mem_cons.1 ht with rfl|ht
     · exact .inl (List.mem_cons_self ..)
     · exact (q0 t ht).imp_left (List.mem_cons_of_mem _)
   · cases i with
     |zero=>simp at hs ht;subst hs ht;exact ⟨rfl,fun i v _ hv=>hmono _ _ hv⟩
     |succ i=>exact q2 i s1 t (by simpa using hs) (by simpa using ht)
  cases s with
  |nils=>
   simp only [ox,sIE] at h
   subst h
   refine ⟨by simp,fun t ht=> ?_,fun i s1 t hs ht=> ?_⟩
   · rcases List.mem_cons.1 ht with rfl|ht
     · exact .inr rfl
     · exact .inl (List.mem_cons_of_mem _ ht)
   · cases i with
     |zero=>simp at hs ht;subst hs ht;exact .of_not rfl rfl fun v hv=>hnil hv
     |succ i=>simp at hs ht;rw [hs] at ht;cases ht;exact ⟨rfl,fun i v _ hv=>hmono _ _ hv⟩
  |_=>
   simp only [ox] at h
   cases hl:ox key l with
   |none=>rw [hl] at h;cases h
   |some l1=>rw [hl] at h;exact next l1 hl h
theorem ye{w:World}{ρ:Nat->Value}{rw rw' U:Nat->Prop}{key:Nat}(hmono: ∀ v t,Rel w ρ rw U v t->Rel w (aQ ρ key (.slice none 0 0)) rw' (aL U key) v t): ∀ {l l':List SV},lH key l=some l'->l'.length=l.length∧
 ∀(i:Nat) v t,(∀ s,l[i]? =some s->Rel w ρ rw U v s)->l'[i]? =some t->Rel w (aQ ρ key (.slice none 0 0)) rw' (aL U key) v t
 | [],l',h=>by cases h
 |s::l,l',h=>by
  have hnil: ∀ {v},Rel w ρ rw U v .nils->Rel w (aQ ρ key (.slice none 0 0)) rw' (aL U key) v (.own key):=fun hv=>by
   cases hv
   have:=Rel.own (w:=w) (ρ:=aQ ρ key (.slice none 0 0)) (rw:=rw') (N:=aL U key) key (.inr rfl) (by rw [aX];rfl)
   rwa [aX] at this
  have next: ∀ l1,lH key l=some l1->some (s::l1)=some l'->l'.length=(s::l).length∧ ∀(i:Nat) v t,(∀ s1,(s::l)[i]? =some s1->Rel w ρ rw U v s1)->l'[i]? =some t->Rel w (aQ ρ key (.slice none 0 0)) rw' (aL U key) v t:=by
   intro l1 hl1 e
   cases e
   obtain ⟨q1,q2⟩:=ye hmono hl1
   refine ⟨by simp [q1],fun i v t hv ht=> ?_⟩
   cases i with
   |zero=>simp at ht;subst ht;exact hmono _ _ (hv s rfl)
   |succ i=>exact q2 i v t (fun s1 hs=>hv s1 (by simpa using hs)) (by simpa using ht)
  cases s with
  |nils=>
   simp only [lH,sIE] at h
   subst h
   refine ⟨by simp,fun i v t hv ht=> ?_⟩
   cases i with
   |zero=>simp at ht;subst ht;exact hnil (hv _ rfl)
   |succ i=>simp at ht;exact hmono _ _ (hv t (by simpa using ht))
  |agg q=>
   simp only [lH] at h
   cases hq:ox key q with
   |some q'=>
    rw [hq] at h
    simp only [sIE] at h
    subst h
    obtain ⟨q1,q0,q2⟩:=yd hmono hq
    refine ⟨by simp,fun i v t hv ht=> ?_⟩
    cases i with
    |zero=>
     simp at ht
     subst ht
     have h0:=hv _ rfl
     generalize hs:SV.agg q=s at h0
     cases h0 with
     |agg cs _ hlen h1 hh hm=>
      cases hs
      obtain ⟨p1,p2⟩:=fp.lift q1.symm q2
      exact .agg cs q' (by omega) h1 (fun i u t hu ht=>p2 (cs:=cs.toList) (by simpa using hh) i u t (by simpa using hu) ht) fun t ht hr k hk=>by
       rcases q0 t ht with h2|h2
       · exact .inl (hm t h2 hr k hk)
       · rw [h2] at hr;cases hr
     |_=>cases hs
    |succ i=>simp at ht;exact hmono _ _ (hv t (by simpa using ht))
   |none=>
    rw [hq] at h
    simp only at h
    cases hl:lH key l with
    |none=>rw [hl] at h;cases h
    |some l1=>rw [hl] at h;exact next l1 hl h
  |_=>
   simp only [lH] at h
   cases hl:lH key l with
   |none=>rw [hl] at h;cases h
   |some l1=>rw [hl] at h;exact next l1 hl h
theorem n9{m:Mem}{r:SV}(h:kz m l=some r):(∃ x y b,l= [x] ∧mV m x=some (y,b)∧r=y)∨(l.length≠1∧ ∃ l' b,mW m l=some (l',b)∧r= .tup l'):=by
 unfold kz at h
 split at h
 · rename_i x
   split at h
   · rename_i y b hg
     cases h
     exact .inl ⟨x,_,b,rfl,hg,rfl⟩
   · cases h
 · rename_i hne
   split at h
   · rename_i l' b hg
     cases h
     refine .inr ⟨fun e=> ?_,l',b,hg,rfl⟩
     obtain ⟨x,hx⟩:=List.length_eq_one_iff.1 e
     exact hne x hx
   · cases h
theorem IV{P:Program}{T:Tys}{G:Pu}{X:Xt}{I:Nat->Option Func}(hT:TysOk P T)(hG:az P T.gl G)(hX:XtOk P T.gl X)(hI:gF P I)(hm:P.follows .mixedOrders=true){f:FuncId}{fn:Func}(hf:P.funcs[f]? =some fn){args:List SV}{r:SV}{how:How}
 (h:uC std T G X I how fn args r):cS P T.gl f args r:=by
 intro w ρ0 rw0 N vs hfr hrw hglo hargs
 unfold uC at h
 split at h
 · rename_i code hbody
   cases hb:(kC args && Nat.ble (len args) fn.ntmps)<;>simp only [hb,cond_true,cond_false] at h
   simp only [bAE] at hb
   obtain ⟨hcl,hle⟩:=hb
   have hle':args.length<=fn.ntmps:=by rw [<-dW];exact Nat.le_of_ble_eq_true hle
   let c:Ctx:= { w0:=w,R:=fun _=>False,F:=rw0,gl:=T.gl,stk:= [] }
   let a0:Act:= { tmps:=vs.toArray++Array.replicate (fn.ntmps - vs.toArray.size) undef,defers:= [] }
   have hargs':bp (Rel w ρ0 (ae rw0 ρ0 []) (aA 0)) vs args:=by
    have key: ∀ {vs:List Value} {l:List SV},(∀ s∈l,kB s=true)->bp (Rel w ρ0 rw0 N) vs l->bp (Rel w ρ0 (ae rw0 ρ0 []) (aA 0)) vs l:=by
     intro vs
     induction vs with
     |nil=>intro l _ h;cases l with
      |nil=>trivial
      |cons=>exact h.elim
     |cons v vs ih=>intro l hc h;cases l with
      |nil=>exact h.elim
      |cons s l=>
       refine ⟨gN (fun b _ hb=> ?_) (hc s (List.mem_cons_self ..)) h.1,ih (fun t ht=>hc t (List.mem_cons_of_mem _ ht)) h.2⟩
       rcases hb with hb| ⟨e,he,_⟩
       · exact hb
       · cases he
    exact key (o8 hcl) hargs
   have hgl0:iv T.gl w fun b=>rw0 b∨(False∨w.heap.size<=b):=hglo.mono (Keep.refl _ _) fun b hb h=>by
    rcases h with h|h|h
    · exact h
    · exact h.elim
    · omega
   obtain ⟨t1,t2⟩:=tP (n:=fn.ntmps) hargs' hle'
   have hsim:Sim c (aA (w8 fn args).next) (w8 fn args) a0 w:=
    ⟨ρ0,rfl,t1,t2,trivial,⟨fun e he=>(by cases he),fun e he=>(by cases he),List.Pairwise.nil,hrw,List.Pairwise.nil⟩,Keep.refl _ _,(fun b hb=>by obtain ⟨e,he,_⟩:=hb;cases he),fun b hb=>⟨hrw b hb,id⟩,hgl0⟩
   have hwp:=(x9 (P:=P) (c:=c) hT hG hX (F4 hT hG hX hI hm 12) rfl hm code).1 _ _ h a0 w hsim
   refine calls_of_wp hf hbody (wp_mono hwp fun e a w' hq=> ?_)
   have done: ∀ s,iW std T fn how r s->Sim c (aA s.next) s a w'->a.defers= [] ∧ ∃ v,(results fn a.tmps).run P w'= .ok v w'∧ ∃ v',Ending.returned v= .returned v'∧Ext w w'∧i6 w w' ρ0 rw0 N v' r:=by
    intro s0 hans hs
    obtain ⟨ρ,hs0⟩:=hs
    refine ⟨hs0.dfr, ?_⟩
    unfold iW at hans
    cases hl0:kQ T s0 fn.results.toList with
    |none=>rw [hl0] at hans;exact hans.elim
    |some l0=>
     rw [hl0] at hans
     simp only at hans
     generalize hks:mX l0++Fp (BV how) l0=ks at hans
     have hs:=(iI ks hs0).1
     have hnx:=gM ks s0
     rw [<-hnx] at hs
     generalize di std ks s0=s at hans hs
     cases hr:xi T how s fn.results.toList with
     |none=>rw [hr] at hans;exact hans.elim
     |some x=>
      rw [hr] at hans
      simp only at hans
      unfold xi at hr
      cases hl:kQ T s fn.results.toList with
      |none=>rw [hl] at hr;cases hr
      |some l=>
       rw [hl] at hr
       simp only at hr
       obtain ⟨vs',q1,q2,q3⟩:=tO (P:=P) hT hs hl
       refine ⟨_,q2,_,rfl,hs.keep,IU ?_ hans⟩
       have cF:kz s.mem l=some x->i6 w w' ρ0 rw0 N (if hh:vs'.toArray.size=1 then vs'.toArray[0] else .tuple vs'.toArray) x:=fun hr=>
        qU hs.mem (fun g hg=>(hs.sub g hg).elim (fun h'=>h'.elim) fun h'=>h') q1 q3 (n9 hr)
       split at hr
       · rename_i e k hkk
         split at hr
         · rename_i l' hrow
           have hk: ¬ aA s.next s.next:=fun e=>by simp [aA] at e
           have hb0:dv w' (aQ ρ s.next (.slice none 0 0)) (fun g=>ae c.F ρ s.mem g∨av (.slice none 0 0)=some g) (aL (aA s.next) s.next) s.next (.row e k 0 fun _ _=> .any):=
            ⟨[],by rw [aX];exact ⟨by simp, .inl ⟨⟨_,rfl⟩,rfl⟩⟩,(fun u hu=>by cases hu),(fun i j u hi=>absurd hi (by omega))⟩
           have hnew: ∀ g,av (.slice none 0 0)=some g->w'.heap.size<=g:=fun g hg=>by cases hg
           have hmem:=hs.mem.add hk (Keep.refl _ _) hnew hb0
           obtain ⟨p1,p2⟩:=ye (w:=w') (ρ:=ρ) (rw:=ae c.F ρ s.mem) (rw':=ae c.F (aQ ρ s.next (.slice none 0 0)) (ins s.mem s.next (.row e k 0 fun _ _=> .any))) (U:=aA s.next) (key:=s.next)
            (fun v t hv=>hv.add hs.mem hk (Keep.refl _ _) (b:= .row e k 0 fun _ _=> .any) hnew (fun _ h=>h)) hrow
           refine qU (w:=w') (ρ:=aQ ρ s.next (.slice none 0 0)) (F:=rw0) (U:=aL (aA s.next) s.next) hmem (fun g hg=> ?_) (q1.trans p1.symm) (fun i v t hv ht=>p2 i v t (fun s1 hs1=>q3 i v s1 hv hs1) ht) (n9 hr)
           rcases oI (b:= .row e k 0 fun _ _=> .any) hs.mem hk _ (fun _ h=>h) g hg with hg|hg
           · exact (hs.sub g hg).elim (fun h'=>h'.elim) fun h'=>h'
           · cases hg
         · exact cF hr
       · exact cF hr
   cases e with
   |normal=>obtain ⟨s,hk,hs⟩:=hq;exact done s hk hs
   |ret=>obtain ⟨s,hk,hs⟩:=hq;exact done s hk hs
   |exit id=>obtain ⟨s,hk,_⟩:=hq;exact hk.elim
   |goto l=>obtain ⟨s,hk,_⟩:=hq;exact hk.elim
   |panic ch=>exact hq.elim
   |outgrown=>exact hq.elim
 · exact h.elim
end Go.Vd
