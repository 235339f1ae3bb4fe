/- A call that turns a row of the caller's, one operation of many. -/
import Derived.Test.YtckmnmcnelfkjaaGreatDoorVdStep2
set_option linter.unusedVariables false
set_option linter.unusedSimpArgs false
namespace Go.Vd
open Go.RowKit
def DM (P:Program)(gl:Nat->SV)(f:FuncId)(e k n:Nat)(g:Nat->Nat->SV)(rest:List SV)(n':Nat)(g':Nat->Nat->SV):Prop:=
 ∀(w:World) (ρ:Nat->Value) (rw:Nat->Prop) (N:Nat->Prop) (v:Value) (vs xs:List Value),(∀ b,rw b->b<w.heap.size)->iv gl w rw->(∀ b,av v=some b->rw b)->bD w e k v n xs->(∀ u∈xs,one u)->
  (∀ i j u,i<n->j<k->xs[i*k+j]? =some u->RelC w rw u (g i j))->bp (Rel w ρ rw N) vs rest->
  Calls P f (v::vs).toArray w fun en w'=> ∃ v' xs',en= .returned v'∧bD w' e k v' n' xs'∧(∀ u∈xs',one u)∧w.grownBy w' (av v)∧(∀ b,av v'=some b->av v=some b∨w.heap.size<=b)∧
   ∀(rw':Nat->Prop),(∀ b,b<w.heap.size->rw' b->rw b)-> ∀ i j u,i<n'->j<k->xs'[i*k+j]? =some u->RelC w' rw' u (g' i j)
def DN (P:Program)(gl:Nat->SV)(f:FuncId)(e k n:Nat)(g:Nat->Nat->SV)(rest:List SV)(g':Nat->Nat->SV):Prop:=
 ∀(w:World) (ρ:Nat->Value) (rw:Nat->Prop) (N:Nat->Prop) (v:Value) (vs xs:List Value),(∀ b,rw b->b<w.heap.size)->iv gl w rw->(∀ b,av v=some b->rw b)->bD w e k v n xs->(∀ u∈xs,one u)->
  (∀ i j u,i<n->j<k->xs[i*k+j]? =some u->RelC w rw u (g i j))->bp (Rel w ρ rw N) vs rest->
  Calls P f (v::vs).toArray w fun en w'=>en= .returned (.tuple #[])∧ ∃ xs',bD w' e k v n xs'∧(∀ u∈xs',one u)∧w.grownBy w' (av v)∧
   ∀(rw':Nat->Prop),(∀ b,b<w.heap.size->rw' b->rw b)-> ∀ i j u,i<n->j<k->xs'[i*k+j]? =some u->RelC w' rw' u (g' i j)
structure XtOk (P:Program) (gl:Nat->SV) (X:Xt):Prop where
 meth: ∀ t name f,X.meth t name=some f-> ∀(v:Value) (args:Array Value) (w:World),(callMethod (.iface t v) name args).run P w=(callFunc f (#[v] ++args)).run P w
 wt: ∀ f e k n g rest p n' g',X.wt f e k n g rest=some (p,n',g')->aK p->dk P f∧(bif inW f X.sl then DN P gl f e k n g rest g' else DM P gl f e k n g rest n' g')
section
variable {P:Program} {o:Oper} {a:Act} {w:World} {ρ:Nat->Value} {U:Nat->Prop} {c:Ctx} {s:St}
theorem jb{f:FuncId}{x:Operand}{args:Array Operand}{ts:Array TypeId}(ho:o.op= .call { callee:= .value x,args:=args,argTypes:=ts })(hc:dk P f){frs caps:Array Value}(hx:a.eval x= .func (.func f) frs caps)
 {K:Act->World->Prop} {Q:Exit->Act->World->Prop} (h:Calls P f (frs.toList++args.toList.map a.eval++caps.toList).toArray w fun e w'=> ∃ v,e= .returned v∧K (a.put o.dst v) w'):o.wp P a w K Q:=by
 have hrun:(execOp a.eval o).run P w= .ok (.enter f (frs.toList++args.toList.map a.eval++caps.toList).toArray) w:=by
  have e1:(frs.toList++args.toList.map a.eval++caps.toList).toArray=frs++args.map a.eval++caps:=by
   apply Array.ext'
   simp
  rw [e1]
  simp only [execOp,ho,resolve,hx,Deferred.ofValue,Sem.run_bind,Sem.run_pure,Result.andThen_ok,invoke]
  rw [iB hc]
 unfold Oper.wp
 rw [hrun,Oper.upon_enter]
 exact h.mono fun e w' ⟨v,he,hk⟩=>by subst he;exact hk
theorem bp.append{α β:Type}{R:α->β->Prop} : ∀ {l l':List α} {m m':List β},bp R l m->bp R l' m'->bp R (l++l') (m++m')
 | [],l', [],m',_,h'=>h'
 |_::_,l',_::_,m',h,h'=>⟨h.1,bp.append h.2 h'⟩
 | [],_,_::_,_,h,_=>h.elim
 |_::_,_, [],_,h,_=>h.elim
theorem ib{rw:Nat->Prop}{e:Operand->SV} : ∀ {l:List Operand},(∀ x∈l,Rel w ρ rw U (a.eval x) (e x))->bp (Rel w ρ rw U) (l.map a.eval) (bu e l)
 | [],_=>trivial
 |x::l,h=>⟨h x (List.mem_cons_self ..),ib fun y hy=>h y (List.mem_cons_of_mem _ hy)⟩
theorem dG{rw:Nat->Prop}{U:Nat->Prop}{m:Mem} : ∀ {vs:List Value} {l:List SV},b8 l=false->bp (Rel w ρ rw U) vs l->bp (Rel w ρ rw U) vs (bK std m l)
 | [], [],_,_=>trivial
 |v::vs,s::l,ho,h=>by
  cases s with
  |agg q=>
   simp only [b8,Bool.or_eq_false_iff] at ho
   have hx:=h.1
   refine ⟨?_,dG ho.2 h.2⟩
   generalize hss:SV.agg q=t at hx
   cases hx with
   |agg cs l' hl h1 hh=>
    cases hss
    refine .agg _ _ (by rw [hl,iz]) h1 (fun i v s hv hs'=>iA (R:=Rel w ρ rw U) (cs:=cs.toList) (fun v t _ h=>h) (fun v=> .any v) (fun v t s hs hr he=> ?_) (by simpa using hh) i v s (by simpa using hv) hs') jq
    have hno:j4 s=false:=by have:=List.any_eq_false.1 ho.1 s hs;simpa using this
    refine jD ?_ hr
    rcases he with rfl|rfl|he
    · exact hno
    · rfl
    · rw [hno] at he;cases he
   |_=>cases hss
  |_=>
   simp only [b8,Bool.or_eq_false_iff] at ho
   exact ⟨jD ho.1 h.1,dG ho.2 h.2⟩
 | [],_::_,_,h=>h.elim
 |_::_, [],_,h=>h.elim
theorem vS{wl:List Nat}{o:Op}(h:eU wl o=true): ∃ f args ts,o= .call { callee:= .value (.func f),args:=args,argTypes:=ts } :=by
 unfold eU at h
 split at h
 · rename_i f args ts
   exact ⟨f,args,ts,rfl⟩
 · cases h
theorem xz{o:Oper}(h:df o=true):o.guard=none:=by
 unfold df at h
 split at h
 · assumption
 · cases h
theorem FD{T:Tys}{X:Xt}(hX:XtOk P T.gl X)(hgl:T.gl=c.gl)(h:SimR c U s a w ρ){key:Nat}(hk: ¬ U key){p:Option Prop}{r:SV}{m1:Mem}(hs:wtU std X o.op (ev T.gl s.tmps) s.mem key=some (p,r,m1))(hp:aK p){Q:Exit->Act->World->Prop} :
 o.wp P a w (fun a' w'=>Sim c (aL U key) { s with tmps:=Vd.put s.tmps o.dst r,mem:=m1 } a' w') Q:=by
 unfold wtU at hs
 split at hs
 · rename_i f args ts ho
   split at hs
   · rename_i q rest hev
     split at hs
     · rename_i el k n g hlk
       split at hs
       · rename_i p' n' g' hwt
         cases hb0:(!b8 rest && !inW f X.sl)<;>simp only [hb0,cond_true,cond_false,reduceCtorEq,sIE,pIE] at hs
         obtain ⟨rfl,rfl,rfl⟩:=hs
         simp only [bAE,Bool.not_eq_true',Bool.not_eq_eq_eq_not,Bool.not_true] at hb0
         obtain ⟨hb,hsl⟩:=hb0
         obtain ⟨hcall,hgood⟩:=hX.wt _ _ _ _ _ _ _ _ _ hwt hp
         rw [hsl] at hgood
         simp only [cond_false] at hgood
         have hxv:a.eval (.func f)= .func (.func f) #[] #[] :=rfl
         have hall:bp (Rel w ρ (ae c.F ρ s.mem) U) (args.toList.map a.eval) (.own q::rest):=by
          rw [<-hev]
          exact ib fun y _=>by rw [hgl];exact h.ev y
         refine jb ho hcall hxv ?_
         obtain ⟨xs,hown,hone,hxr⟩:=h.mem.blk _ (ag hlk)
         simp only at hown hone hxr
         simp only [List.nil_append,List.append_nil]
         cases hvs:args.toList.map a.eval with
         |nil=>rw [hvs] at hall;exact hall.elim
         |cons v vs=>
          rw [hvs] at hall
          have hv:v=ρ q:=by
           have:=hall.1
           cases this
           rfl
          subst hv
          have hglw:=h.gl
          rw [<-hgl] at hglw
          refine (hgood w ρ (ae c.F ρ s.mem) U (ρ q) vs xs (fun b hb=>h.mem.lt hb) hglw (fun b hb=> .inr ⟨_,ag hlk, .inl hb⟩) hown hone hxr (dG hb hall.2)).mono fun en w' hq=> ?_
          obtain ⟨v',xs',rfl,r2,r1,r3,r5,r6⟩:=hq
          exact ⟨v',rfl,mm h hk (.inr ⟨q,el,k,n,g,rfl,rfl,hlk⟩) r1 r6 r2 r3 r5 o.dst⟩
       · cases hs
     · cases hs
   · rename_i q j cn ix rest hev
     split at hs
     · rename_i K0 hlk
       split at hs
       · rename_i q1 q2 q3
         split at hs
         · rename_i p' n' g' hwt
           cases hb0:(!b8 rest && !inW f X.sl)<;>simp only [hb0,cond_true,cond_false,reduceCtorEq,sIE,pIE] at hs
           obtain ⟨rfl,rfl,rfl⟩:=hs
           simp only [bAE,Bool.not_eq_true',Bool.not_eq_eq_eq_not,Bool.not_true] at hb0
           obtain ⟨hb,hsl⟩:=hb0
           simp only [bAE] at q3
           obtain ⟨hcall,hgood⟩:=hX.wt _ _ _ _ _ _ _ _ _ hwt hp
           rw [hsl] at hgood
           simp only [cond_false] at hgood
           have hxv:a.eval (.func f)= .func (.func f) #[] #[] :=rfl
           have hall:bp (Rel w ρ (ae c.F ρ s.mem) U) (args.toList.map a.eval) (.fkid q j cn ix::rest):=by
            rw [<-hev]
            exact ib fun y _=>by rw [hgl];exact h.ev y
           refine jb ho hcall hxv ?_
           simp only [List.nil_append,List.append_nil]
           cases hvs:args.toList.map a.eval with
           |nil=>rw [hvs] at hall;exact hall.elim
           |cons v vs=>
            rw [hvs] at hall
            have hxr:=hall.1
            rw [<-nQE q3.1,<-nQE q3.2] at hxr
            obtain ⟨rfl,hown,xs,hrow,hone,hxr'⟩:=ke h hlk q1 hxr
            have hglw:=h.gl
            rw [<-hgl] at hglw
            refine (hgood w ρ (ae c.F ρ s.mem) U _ vs xs (fun b hb=>h.mem.lt hb) hglw (fun b hb=> .inr ⟨_,ag hlk, .inr ⟨ix,hown,hb⟩⟩) hrow hone hxr' (dG hb hall.2)).mono fun en w' hq=> ?_
            obtain ⟨v',xs',rfl,r2,r1,r3,r5,r6⟩:=hq
            exact ⟨v',rfl,nd h hk (oM h hlk q1 hown) r1 r6 r2 r3 r5 o.dst⟩
         · cases hs
       · cases hs
     · cases hs
   · cases hs
 · cases hs
theorem qE{T:Tys}{G:Pu}{X:Xt}(hT:TysOk P T)(hG:az P T.gl G)(hX:XtOk P T.gl X)(hgl:T.gl=c.gl){all:List Oper}{base i:Nat}(hU: ¬ U (base+i))(hUb: ∀ k,k<base->U k)(h:Sim c U s a w){p:Option Prop}{s':St}
 (hs:j7 std T G X all base i o s=some (p,s')) (hp:aK p) {Q:Exit->Act->World->Prop} :
 if Region.wanted o (yielded all.toArray a.tmps)=true then o.wp P a w (fun a' w'=>Sim c (aL U (base+i)) s' a' w') Q else Sim c (aL U (base+i)) s' (a.put o.dst undef) w:=by
 unfold j7 at hs
 cases hb:(eU X.wl o.op && df o)<;>rw [hb] at hs
 · exact oO hT hG hgl hU hUb h hs hp
 · simp only [cond_true] at hs
   simp only [bAE] at hb
   have hg:=xz hb.2
   rw [if_pos (by simp [Region.wanted,hg])]
   cases hx:wtU std X o.op (ev T.gl s.tmps) s.mem (base+i) with
   |none=>rw [hx] at hs;cases hs
   |some y=>
    obtain ⟨p1,r,m1⟩:=y
    rw [hx] at hs
    simp only [fin,sIE,pIE] at hs
    obtain ⟨rfl,rfl⟩:=hs
    obtain ⟨ρ,h⟩:=h
    exact FD hX hgl h hU hx hp
end
end Go.Vd
