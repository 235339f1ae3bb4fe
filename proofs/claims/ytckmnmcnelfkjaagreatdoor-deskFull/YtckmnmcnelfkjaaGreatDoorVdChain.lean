/- A region whose order is drawn, with calls that are gone into: each of them waits for all that stands ahead of it, and what only looks may be looked at early. -/
import Derived.Test.YtckmnmcnelfkjaaGreatDoorVdSeq
import Derived.Test.YtckmnmcnelfkjaaGreatDoorVdDraw
set_option linter.unusedVariables false
set_option linter.unusedSimpArgs false
namespace Go.Vd
open Go.RowKit
variable {all:List Oper} {listed:Array Bool} {i:Nat} {D D':Nat->Prop}
section
variable {P:Program} {c:Ctx} {T:Tys} {G:Pu} {X:Xt} {C:Cl} {a b:Act} {w:World} {ρ:Nat->Value} {U:Nat->Prop} {s:St} {o:Oper}
theorem kG{m:Sem Value}{z:Value}(hex:execOp a.eval o=(do pure (.value (<-m))))(h:m.run P w= .ok z w):(execOp a.eval o).run P w= .ok (.value z) w:=by
 rw [hex,Sem.run_bind,h]
 rfl
theorem x4(hT:TysOk P T)(hgl:T.gl=c.gl)(h:SimR c U s a w ρ){p:Option Prop}{r:SV}(hf:uy std T G o s=some (p,r))(hp:aK p):
 o.guard=none∧ ∃ v,(execOp a.eval o).run P w= .ok (.value v) w∧Rel w ρ (ae c.F ρ s.mem) U v r:=by
 have hev: ∀ x,Rel w ρ (ae c.F ρ s.mem) U (a.eval x) (ev T.gl s.tmps x):=fun x=>by rw [hgl];exact h.ev x
 unfold uy at hf
 cases hfl:om o<;>rw [hfl] at hf
 · cases hf
 simp only [cond_true] at hf
 unfold om at hfl
 split at hfl
 · rename_i x hg ho
   rw [ho] at hf
   simp only [aw,sIE,pIE] at hf
   obtain ⟨rfl,rfl⟩:=hf
   exact ⟨hg,a.eval x,by simp [execOp,ho],hev x⟩
 · rename_i x hg ho
   rw [ho] at hf
   simp only [aw,sIE,pIE] at hf
   obtain ⟨rfl,rfl⟩:=hf
   exact ⟨hg,a.eval x,by simp [execOp,ho],hev x⟩
 · rename_i x hg ho
   rw [ho] at hf
   simp only [aw] at hf
   have hx:=hev x
   split at hf
   · rename_i k off ex
     simp only [sIE,pIE] at hf
     obtain ⟨rfl,rfl⟩:=hf
     rw [ex] at hx
     have hv: ∃ g,a.eval x= .pointer (some ⟨g,off,none⟩):=by
      generalize a.eval x=xv at hx
      cases hx with
      |ptr _ _ g _ _=>exact ⟨g,rfl⟩
     obtain ⟨g,hv⟩:=hv
     exact ⟨hg,a.eval x,by simp [execOp,ho,hv],hx⟩
   · cases hf
 · rename_i t x hg ho
   rw [ho] at hf
   have hx:=hev x
   have hex:execOp a.eval o=(do pure (.value (<-Instr.loadAt t (a.eval x)))):=by simp [execOp,ho]
   simp only at hf
   split at hf
   · rename_i k off ex
     simp only [aw,ex] at hf
     rw [ex] at hx
     split at hf
     · rename_i k1 off1 ty he1 hty
       simp only [SV.ptr.injEq] at he1
       obtain ⟨rfl,rfl⟩:=he1
       split at hf
       · rename_i u cs hl
         have hl':=iw (P:=P) (hT _ _ hty) h.mem hx hl
         cases hb:ty.agg<;>simp only [hb,cond_true,cond_false] at hf hl'
         · cases hle:Nat.ble (off+1) (bq cs)<;>simp only [hle,cond_true,cond_false,reduceCtorEq,sIE,pIE] at hf
           obtain ⟨rfl,rfl⟩:=hf
           have h1:ty.size=1:=by obtain ⟨_,_,_,_,_,_,_,_,h1,_⟩:=hT _ _ hty;exact h1 hb
           obtain ⟨z,q1,q2⟩:=hl' (by rw [h1];exact Nat.le_of_ble_eq_true hle)
           exact ⟨hg,z,kG hex q1,q2⟩
         · cases hle:Nat.ble (off+ty.size) (bq cs)<;>simp only [hle,cond_true,cond_false,reduceCtorEq,sIE,pIE] at hf
           obtain ⟨rfl,rfl⟩:=hf
           obtain ⟨z,q1,q2⟩:=hl' (Nat.le_of_ble_eq_true hle)
           exact ⟨hg,z,kG hex q1,q2⟩
       · cases hf
     all_goals (first|cases hf| (rename_i he1 _;cases he1) | (rename_i he1;cases he1))
   · cases hf
 · rename_i t x i hg ho
   rw [ho] at hf
   have hx:=hev x
   have hex:execOp a.eval o=(do pure (.value (<-Instr.fieldAt t (a.eval x) i))):=by simp [execOp,ho]
   simp only at hf
   split at hf
   · rename_i k off ex
     simp only [aw,ex] at hf
     rw [ex] at hx
     split at hf
     · rename_i k1 off1 ty he1 hty
       simp only [SV.ptr.injEq] at he1
       obtain ⟨rfl,rfl⟩:=he1
       split at hf
       · rename_i places eqs htag
         split at hf
         · rename_i oo sz hn
           cases hle:Nat.ble 1 sz<;>simp only [hle,cond_true,cond_false,reduceCtorEq,sIE,pIE] at hf
           obtain ⟨rfl,rfl⟩:=hf
           obtain ⟨z,q1,q2⟩:=lr (P:=P) (hT _ _ hty) htag hx hn (by have:=Nat.le_of_ble_eq_true hle;omega)
           exact ⟨hg,z,kG hex q1,q2⟩
         · cases hf
       · cases hf
     all_goals (first|cases hf| (rename_i he1 _;cases he1) | (rename_i he1;cases he1))
   · cases hf
 · rename_i t parts hg ho
   rw [ho] at hf
   have hex:execOp a.eval o=(do pure (.value (<-Instr.build t (parts.map fun (i,x)=>(i,a.eval x))))):=by simp [execOp,ho]
   simp only [aw] at hf
   split at hf
   · rename_i ty hty
     split at hf
     · rename_i places eqs htag
       split at hf
       · rename_i cs hfi
         cases hzz:zOk ty.zero<;>simp only [hzz,cond_true,cond_false,reduceCtorEq,sIE,pIE] at hf
         obtain ⟨rfl,rfl⟩:=hf
         obtain ⟨z,q1,q2⟩:=vI (P:=P) (hT _ _ hty) htag hfi hzz fun x _=>hev x.2
         exact ⟨hg,z,kG hex q1,q2⟩
       · cases hf
     · cases hf
   · cases hf
 · rename_i t i hg ho
   rw [ho] at hf
   have hx:=hev t
   simp only [aw] at hf
   split at hf
   · rename_i l ex
     rw [ex] at hx
     cases hle:Nat.ble (i+1) (len l)<;>simp only [hle,cond_true,cond_false,reduceCtorEq,sIE,pIE] at hf
     obtain ⟨rfl,rfl⟩:=hf
     have hle':i+1<=l.length:=by rw [<-dW];exact Nat.le_of_ble_eq_true hle
     have hex:execOp a.eval o=(do pure (.value (<-Instr.extract (a.eval t) i))):=by simp [execOp,ho]
     generalize a.eval t=v at hx hex
     cases hx with
     |tup cs _ hl hh=>
      refine ⟨hg,cs[i]'(by omega),kG hex (by simp [Instr.extract,show i<cs.size by omega]), ?_⟩
      rw [bW,gEE (by omega)]
      exact hh i _ _ (by simp [show i<cs.size by omega]) (by simp)
   · cases hf
 · rename_i t x i hg ho
   rw [ho] at hf
   have hx:=hev x
   have hex:execOp a.eval o=(do pure (.value (<-Instr.field t (a.eval x) i))):=by simp [execOp,ho]
   simp only [aw] at hf
   split at hf
   · rename_i l ty u ex hty hfl
     rw [ex] at hx
     split at hf
     · rename_i places eqs tu htag htu
       split at hf
       · rename_i oo sz hn
         cases hle:(Nat.beq tu.size sz && Nat.ble (oo+sz) (bq l))<;>simp only [hle,cond_true,cond_false,reduceCtorEq,sIE,pIE] at hf
         obtain ⟨rfl,rfl⟩:=hf
         obtain ⟨hb1,hb2⟩:=Bool.and_eq_true_iff.1 hle
         obtain ⟨fs,f,h1,h2,h3⟩:=hT.fl _ _ _ hfl
         obtain ⟨z,q1,q2⟩:=vJ (P:=P) (hT _ _ hty) htag h1 h2 h3 (hT _ _ htu) hn (nQE hb1) hx (Nat.le_of_ble_eq_true hb2)
         exact ⟨hg,z,kG hex q1,q2⟩
       · cases hf
     · cases hf
   · cases hf
 · cases hfl
structure Agree (D:Nat->Prop) (a b:Act):Prop where
 dfr:a.defers=b.defers
 sz:a.tmps.size=b.tmps.size
 at': ∀ t,¬ D t->a.tmps.getD t undef=b.tmps.getD t undef
theorem rH(a:Act)(d:Option Nat)(v:Value):(a.put d v).tmps.size=a.tmps.size:=by cases d<;>simp [Act.put]
theorem rJ(a:Act)(d:Nat)(v:Value)(t:Nat):(a.put (some d) v).tmps.getD t undef=if t=d∧d<a.tmps.size then v else a.tmps.getD t undef:=by
 simp only [Act.put,Array.getD_eq_getD_getElem?]
 by_cases h:t=d
 · subst h
   by_cases h2:t<a.tmps.size
   · simp [h2]
   · simp [h2]
 · rw [Array.getElem?_setIfInBounds_ne (fun e=>h e.symm),if_neg (fun e=>h e.1)]
theorem Agree.put(h:Agree D a b)(d:Option Nat)(v:Value)(hD: ∀ t,D t->d≠some t->D' t):Agree D' (a.put d v) (b.put d v):=by
 refine ⟨by cases d<;>exact h.dfr,by rw [rH,rH];exact h.sz,fun t ht=> ?_⟩
 cases d with
 |none=>exact h.at' t fun e=>ht (hD t e (by simp))
 |some d=>
  rw [rJ,rJ,h.sz]
  by_cases e:t=d∧d<b.tmps.size
  · rw [if_pos e,if_pos e]
  · rw [if_neg e,if_neg e]
    by_cases e2:t=d
    · have hlt: ¬ d<b.tmps.size:=fun hh=>e ⟨e2,hh⟩
      have hlt2: ¬ d<a.tmps.size:=by rw [h.sz];exact hlt
      subst e2
      simp [Array.getD_eq_getD_getElem?,hlt,hlt2]
    · exact h.at' t fun hh=>ht (hD t hh (by simpa using fun e=>e2 e.symm))
theorem Agree.mono(h:Agree D a b)(hD: ∀ t,D t->D' t):Agree D' a b:=⟨h.dfr,h.sz,fun t ht=>h.at' t fun e=>ht (hD t e)⟩
theorem x5{d:Nat}{o:Oper}(h:Operand.tmp d∈o.op.operands.toList):dV [d] o=true:=by
 unfold dV
 rw [List.any_eq_true]
 exact ⟨_,h,by simp [inW]⟩
theorem Agree.exec{D:Nat->Prop}(h:Agree D a b)(hs: ∀ cs bb,o.op≠ .select cs bb)(hu: ∀ t,D t->dV [t] o=false):execOp a.eval o=execOp b.eval o:=by
 refine execOp_congr o hs fun x hx=> ?_
 cases x with
 |tmp t=>
  refine h.at' t fun hD=> ?_
  have:=hu t hD
  rw [x5 (by simpa using hx)] at this
  cases this
 |const v=>rfl
 |global g=>rfl
 |func f=>rfl
theorem Agree.wp(h:Agree D a b)(he:execOp a.eval o=execOp b.eval o)(hD: ∀ t,D t->o.dst≠some t->D' t){N:Act->World->Prop}{Q:Exit->Act->World->Prop}(hb:o.wp P b w N fun _ _ _=>False):
 o.wp P a w (fun a' w'=> ∃ b',N b' w'∧Agree D' a' b') Q:=by
 unfold Oper.wp at*
 rw [he]
 generalize (execOp b.eval o).run P w=r at*
 cases r with
 |ok n w'=>
  cases n<;>simp only [Oper.upon] at hb ⊢
  case value v=>exact ⟨_,hb,h.put _ _ hD⟩
  case skip=>exact ⟨_,hb,h.put _ _ hD⟩
  case defer d=>
   have h2:Agree D { a with defers:=d::a.defers } { b with defers:=d::b.defers } :=⟨by rw [h.dfr],h.sz,h.at'⟩
   exact ⟨_,hb,h2.put _ _ hD⟩
  case enter f args=>
   refine hb.mono fun e w'' he=> ?_
   cases e with
   |returned v=>exact ⟨_,he,h.put _ _ hD⟩
   |panicked ch=>exact he.elim
   |outgrown=>obtain ⟨_,_,hh⟩:=he;exact hh.elim
  case row rw args=>exact Rows.mono hb fun v w'' he=>⟨_,he,h.put _ _ hD⟩
 |halt x w'=>cases x<;>simp only [Oper.upon] at hb
theorem Agree.eq{D:Nat->Prop}(h:Agree D a b)(hD: ∀ t,¬ D t):a=b:=by
 obtain ⟨ta,da⟩:=a
 obtain ⟨tb,db⟩:=b
 obtain ⟨h1,h2,h3⟩:=h
 simp only at h1 h2 h3
 subst h1
 congr 1
 apply Array.ext
 · exact h2
 · intro i hi hj
   have:=h3 i (hD i)
   simpa [Array.getD_eq_getD_getElem?,hi,hj] using this
theorem tF: ∀(l:List SV) (d:Nat),dL l d (ap l d)=l
 | [],_=>rfl
 |_::_,0=>rfl
 |x::l,d+1=>by simp only [dL,ap,tF l d]
theorem np(i:Nat): ∀(l:List Oper) (j:Nat) (ws:List Nat),sF i j l ws=fw i j l ws
 | [],_,_=>rfl
 |o::l,j,ws=>by simp only [sF,fw,np i l]
def tG (all:List Oper)(listed:Array Bool):Prop:= ∀(j:Nat) o,all[j]? =some o->listed.getD j true=true-> ∀ e∈o.after,Region.binds .any e=true->listed.getD e.on false=true
theorem IR(hback: ∀ j o,all[j]? =some o->back o j=true)(hcl:tG all listed) : ∀(j:Nat),eL all j i=true-> ∀ o,all[j]? =some o->(∀ e∈o.after,Region.binds .any e=true->listed.getD e.on false=true)->listed.getD i false=true:=by
 intro j
 induction j using Nat.strongRecOn with
 |_ j ih=>
  intro hw o ho hd
  have hw':j∈fw i (i+1) (all.drop (i+1)) [] :=by
   have:=pU.1 hw
   rwa [np] at this
  rcases jF i _ _ _ _ hw' with h1| ⟨h1,o',h2,e,he,hb,h3⟩
  · cases h1
  · rw [List.getElem?_drop,show i+1+(j - (i+1))=j by omega,ho] at h2
    cases h2
    have hl:=hd e he hb
    rcases h3 with h3|h3
    · rw [<-h3];exact hl
    · have hlt:e.on<j:=by
       have:=List.all_eq_true.1 (hback j o ho) e (by simpa using he)
       simpa [hb] using this
      have hj:j<all.length:=(List.getElem?_eq_some_iff.1 ho).1
      refine ih e.on hlt (by unfold eL;rw [np];exact pU.2 h3) (all[e.on]'(by omega)) (gEE _) fun e' he' hb'=> ?_
      refine hcl e.on _ (gEE (by omega)) ?_ e' he' hb'
      rw [Array.getD_eq_getD_getElem?] at hl ⊢
      cases hx:listed[e.on]? with
      |none=>rfl
      |some bb=>rw [hx] at hl;simpa using hl
theorem iL: ∀(l:List (Nat×Oper)) (ts:List Nat),((ed ts l).1++(ed ts l).2).Perm l
 | [],_=> .refl _
 | (i,o)::l,ts=>by
   simp only [ed]
   cases om o && !dV ts o<;>simp only [cond_true,cond_false]
   · exact (List.perm_middle).trans ((iL l _).cons _)
   · exact (iL l ts).cons _
theorem ly{x:Nat×Oper} : ∀ {l:List (Nat×Oper)},x∈gq i l↔x∈l∧i<x.1
 | [] =>by simp [gq]
 | (j,o)::l=>by
   simp only [gq]
   cases hb:Nat.blt i j<;>simp only [cond_true,cond_false,List.mem_cons,ly (l:=l)]
   · have hn: ¬ i<j:=fun h=>by
      have:Nat.blt i j=true:=Nat.ble_eq_true_of_le h
      rw [hb] at this;cases this
     constructor
     · rintro ⟨h1,h2⟩;exact ⟨.inr h1,h2⟩
     · rintro ⟨rfl|h1,h2⟩
       · exact absurd h2 hn
       · exact ⟨h1,h2⟩
   · have hn:i<j:=Nat.le_of_ble_eq_true hb
     constructor
     · rintro (rfl| ⟨h1,h2⟩)
       · exact ⟨.inl rfl,hn⟩
       · exact ⟨.inr h1,h2⟩
     · rintro ⟨rfl|h1,h2⟩
       · exact .inl rfl
       · exact .inr ⟨h1,h2⟩
theorem o6 : ∀ {l:List (Nat×Oper)},(gq i l).Sublist l
 | [] => .slnil
 | (j,o)::l=>by
   simp only [gq]
   cases Nat.blt i j<;>simp only [cond_true,cond_false]
   · exact o6.cons _
   · exact o6.cons_cons _
theorem lz{x:Nat×Oper} : ∀ {l:List Oper} {i:Nat},x∈fQ i l↔i<=x.1∧l[x.1 - i]? =some x.2
 | [],i=>by simp [fQ]
 |o::l,i=>by
  simp only [fQ,List.mem_cons,lz (l:=l)]
  obtain ⟨j,p⟩:=x
  simp only
  constructor
  · rintro (h| ⟨h1,h2⟩)
    · cases h;exact ⟨Nat.le_refl _,by simp⟩
    · exact ⟨by omega,by rw [show j - i=(j - (i+1))+1 by omega];simpa using h2⟩
  · rintro ⟨h1,h2⟩
    rcases Nat.eq_or_lt_of_le h1 with rfl|h1
    · simp at h2;subst h2;exact .inl rfl
    · refine .inr ⟨h1, ?_⟩
      rw [show j - i=(j - (i+1))+1 by omega] at h2
      simpa using h2
theorem qO: ∀ {l:List Oper} {i:Nat},((fQ i l).map Prod.fst).Nodup
 | [],i=>by simp [fQ]
 |o::l,i=>by
  simp only [fQ,List.map_cons,List.nodup_cons]
  refine ⟨fun h=> ?_,qO⟩
  obtain ⟨x,h1,h2⟩:=List.mem_map.1 h
  have:=(lz.1 h1).1
  omega
theorem tH : ∀ {n:Nat},sG all i n=true-> ∀ m,m<n->eL all i m=true
 |0,_,m,hm=>absurd hm (by omega)
 |n+1,h,m,hm=>by
  simp only [sG,bAE] at h
  rcases Nat.lt_or_ge m n with h1|h1
  · exact tH h.2 m h1
  · obtain rfl:m=n:=by omega
    exact h.1
theorem qP : ∀ {l:List (Nat×Oper)},oq all i l=true-> ∀ x∈l,eL all x.1 i=true
 | [],_,x,hx=>by cases hx
 | (j,o)::l,h,x,hx=>by
   simp only [oq,bAE] at h
   rcases List.mem_cons.1 hx with rfl|hx
   · exact h.1
   · exact qP h.2 x hx
theorem qQ{i d:Nat} : ∀ {l:List Oper} {j:Nat},ot all i d j l=true-> ∀(k:Nat) o,l[k]? =some o->(j+k=i->dV [d] o=false)∧(j+k≠i->(dV [d] o=true->eL all (j+k) i=true)∧o.dst≠some d)
 | [],_,_,k,o,h=>by simp at h
 |x::l,j,h,k,o,ho=>by
  simp only [ot,bAE] at h
  cases k with
  |zero=>
   simp only [List.getElem?_cons_zero,sIE] at ho
   subst ho
   simp only [Nat.add_zero]
   refine ⟨fun e=> ?_,fun e=> ?_⟩
   · have h1:=h.1
     rw [e,Nat.beq_refl] at h1
     simpa using h1
   · have h1:=h.1
     have hb:Nat.beq i j=false:=by
      cases hb:Nat.beq i j
      · rfl
      · exact absurd (nQE hb).symm e
     rw [hb] at h1
     simp only [cond_false,bAE,Bool.or_eq_true,Bool.not_eq_true'] at h1
     refine ⟨fun hu=> ?_,fun hd=> ?_⟩
     · rcases h1.1 with h2|h2
       · rw [hu] at h2;cases h2
       · exact h2
     · have h2:=h1.2
       rw [hd] at h2
       simp at h2
  |succ k=>
   have:=qQ h.2 k o (by simpa using ho)
   rwa [show j+1+k=j+(k+1) by omega] at this
structure Plain1 (all:List Oper):Prop where
 back: ∀ j o,all[j]? =some o->back o j=true
 guard: ∀(j:Nat) o,all[j]? =some o->o.guard=none
 sel: ∀(j:Nat) o,all[j]? =some o-> ∀ cs bb,o.op≠ .select cs bb
 slot: ∀(i j:Nat) oi oj d,all[i]? =some oi->all[j]? =some oj->oi.dst=some d->(j=i->dV [d] oj=false)∧(j≠i->(dV [d] oj=true->eL all j i=true)∧oj.dst≠some d)
theorem iM : ∀ {l:List Oper} {i:Nat},pM all i l=true-> ∀(k:Nat) o,l[k]? =some o->(∀ d,o.dst=some d->ot all (i+k) d 0 all=true)∧(Vd.back o (i+k)=true∧o.guard=none)
 | [],_,_,k,o,h=>by simp at h
 |x::l,i,h,k,o,ho=>by
  simp only [pM,bAE] at h
  cases k with
  |zero=>
   simp only [List.getElem?_cons_zero,sIE] at ho
   subst ho
   refine ⟨fun d hd=> ?_,h.1.2.1, ?_⟩
   · have:=h.1.1
     rw [hd] at this
     exact this
   · have:=h.1.2.2
     unfold df at this
     cases hg:x.guard with
     |none=>rfl
     |some g=>rw [hg] at this;cases this
  |succ k=>
   have:=iM h.2 k o (by simpa using ho)
   rwa [show i+1+k=i+(k+1) by omega] at this
theorem F1(h:DA all=true):Plain1 all∧mg all (all.length+1) (fQ 0 all)=true:=by
 simp only [DA,bAE] at h
 obtain ⟨h1,h2,h3⟩:=h
 refine ⟨⟨fun j o ho=> ?_,fun j o ho=>(iM h2 j o ho).2.2,fun j o ho cs bb e=> ?_,fun i j oi oj d hi hj hd=> ?_⟩,h3⟩
 · have:=(iM h2 j o ho).2.1
   rwa [Nat.zero_add] at this
 · have:=List.all_eq_true.1 h1 o (List.mem_of_getElem? ho)
   rw [e] at this
   cases this
 · have h4:=(iM h2 i oi hi).1 d hd
   rw [Nat.zero_add] at h4
   have h5:=qQ h4 j oj hj
   rwa [Nat.zero_add] at h5
theorem qR: ∀ {l:List (Nat×Oper)},sE std T G s l-> ∀ x∈l,∃ p r d,uy std T G x.2 s=some (p,r)∧aK p∧x.2.dst=some d∧r=ap s.tmps d
 | [],_,x,hx=>by cases hx
 | (i,o)::l,h,x,hx=>by
   rcases List.mem_cons.1 hx with rfl|hx
   · have h1:=h.1
     split at h1
     · rename_i r d e1 e2
       exact ⟨none,r,d,e1,trivial,e2,h1⟩
     · rename_i p r d e1 e2
       exact ⟨some p,r,d,e1,h1.1,e2,h1.2⟩
     · exact h1.elim
   · exact qR h.2 x hx
theorem lY(hT:TysOk P T)(hgl:T.gl=c.gl): ∀(l:List (Nat×Oper)) {s:St} {K:St->Prop},pL std T G l s K-> ∀ {a:Act} {w:World},Sim c (aA s.next) s a w->
 ∃ s1 a1,K s1∧Sim c (aA s1.next) s1 a1 w∧Agree (fun t=> ∃ x∈l,x.2.dst=some t) a a1
 | [],s,K,h,a,w,hs=>⟨s,a,h,hs,rfl,rfl,fun _ _=>rfl⟩
 | (i,o)::l,s,K,h,a,w,hs=>by
   have key: ∀ p r,uy std T G o s=some (p,r)->aK p->pL std T G l { s with tmps:=put s.tmps o.dst r } K-> ∃ s1 a1,K s1∧Sim c (aA s1.next) s1 a1 w∧Agree (fun t=> ∃ x∈(i,o)::l,x.2.dst=some t) a a1:=by
    intro p r hf hp hr
    obtain ⟨ρ,hs⟩:=hs
    obtain ⟨_,v,_,hrel⟩:=x4 (P:=P) hT hgl hs hf hp
    have hs':Sim c (aA s.next) { s with tmps:=put s.tmps o.dst r } (a.put o.dst v) w:=⟨ρ,hs.put (Keep.refl _ _) hrel o.dst⟩
    obtain ⟨s1,a1,h1,h2,h3⟩:=lY hT hgl l hr hs'
    refine ⟨s1,a1,h1,h2, ?_, ?_,fun t ht=> ?_⟩
    · rw [<-h3.dfr,Act.put_defers]
    · rw [<-h3.sz,rH]
    · rw [<-h3.at' t fun ⟨x,hx,e⟩=>ht ⟨x,List.mem_cons_of_mem _ hx,e⟩]
      cases hd:o.dst with
      |none=>rfl
      |some d=>
       rw [rJ,if_neg]
       intro e
       exact ht ⟨(i,o),List.mem_cons_self ..,by rw [hd,e.1]⟩
   simp only [pL] at h
   split at h
   · rename_i r hf;exact key none r hf trivial h
   · rename_i p r hf;exact key (some p) r hf h.1 h.2
   · exact h.elim
def xa (pend:List (Nat×Oper))(listed:Array Bool)(t:Nat):Prop:= ∃ x∈pend,listed.getD x.1 true=false∧x.2.dst=some t
def x6 (T:Tys)(G:Pu)(X:Xt)(C:Cl)(all:List Oper)(K:St->Prop)(n:Nat)(pend rest:List (Nat×Oper))(s1:St):Prop:=
 match rest with
 | [] =>K s1
 | (i,o)::rest'=>lq std T G X C all o s1 fun s2=>re std T G X C all n (gq i pend) rest' s2 K
def tJ (all:List Oper)(rest:List (Nat×Oper)):Prop:=
 match rest with
 | [] =>True
 | (i,o)::rest'=>(sG all i i=true∧oq all i rest'=true)∧ ∃ m,mg all m rest'=true
structure Stage (P:Program) (c:Ctx) (T:Tys) (G:Pu) (X:Xt) (C:Cl) (all:List Oper) (K:St->Prop) (n:Nat) (pend rest:List (Nat×Oper)) (s1:St) (listed:Array Bool) (a:Act) (w:World):Prop where
 unl: ∀ i o,all[i]? =some o->listed.getD i true=false->(i,o)∈pend∨(i,o)∈rest
 rst: ∀ x∈rest,listed.getD x.1 true=false
 ops: ∀ x,x∈pend∨x∈rest->all[x.1]? =some x.2
 nod:((pend++rest).map Prod.fst).Nodup
 same:sE std T G s1 pend
 next:x6 T G X C all K n pend rest s1
 plan:tJ all rest
 sim: ∃ b,Sim c (aA s1.next) s1 b w∧Agree (xa pend listed) a b
 clos:tG all listed
 size:listed.size=all.length
theorem pV(h:listed.getD i true=false): ¬ listed.getD i false=true:=fun h2=>by
 rw [Array.getD_eq_getD_getElem?] at h h2
 cases hx:listed[i]? with
 |none=>rw [hx] at h;cases h
 |some b=>rw [hx] at h h2;simp at h h2;rw [h] at h2;cases h2
theorem qS{l m:List (Nat×Oper)}(h:((l++m).map Prod.fst).Nodup){x y:Nat×Oper}(hx:x∈l)(hy:y∈m):x.1≠y.1:=by
 rw [List.map_append,List.nodup_append] at h
 exact h.2.2 x.1 (List.mem_map_of_mem hx) y.1 (List.mem_map_of_mem hy)
theorem tK(h:tG all listed){o:Oper}(ho:all[i]? =some o)(hd: ∀ e∈o.after,Region.binds .any e=true->listed.getD e.on false=true):tG all (listed.setIfInBounds i true):=by
 intro j oj hj hl e he hb
 by_cases hij:i=j
 · subst hij
   rw [ho] at hj
   cases hj
   exact getD_set_true (hd e he hb)
 · rw [getD_set_ne true hij] at hl
   exact getD_set_true (h j oj hj hl e he hb)
theorem A3(hT:TysOk P T)(hG:az P T.gl G)(hX:XtOk P T.gl X)(hC:rD P T C)(hgl:T.gl=c.gl)(hpl:Plain1 all){Q:Exit->Act->World->Prop}{K:St->Prop}(hK: ∀ s a w,K s->Sim c (aA s.next) s a w->Q .normal a w):
 ∀(fuel:Nat) (n:Nat) (pend rest:List (Nat×Oper)) (s1:St) (listed:Array Bool) (a:Act) (w:World),listed.toList.count false<=fuel->Stage P c T G X C all K n pend rest s1 listed a w->wpAny P .any all.toArray Q fuel listed a w:=by
 have hend: ∀(n:Nat) (pend rest:List (Nat×Oper)) (s1:St) (listed:Array Bool) (a:Act) (w:World),Stage P c T G X C all K n pend rest s1 listed a w->(∀ i,i<all.length->listed.getD i true=true)->Q .normal a w:=by
  intro n pend rest s1 listed a w h hall
  have hr:rest= [] :=by
   cases rest with
   |nil=>rfl
   |cons x l=>
    have h1:=h.rst x (List.mem_cons_self ..)
    have h2:=h.ops x (.inr (List.mem_cons_self ..))
    rw [hall x.1 (List.getElem?_eq_some_iff.1 h2).1] at h1
    cases h1
  subst hr
  obtain ⟨b,hs,hag⟩:=h.sim
  have hab:a=b:=hag.eq fun t ⟨x,hx,h1,_⟩=>by
   have h2:=h.ops x (.inl hx)
   rw [hall x.1 (List.getElem?_eq_some_iff.1 h2).1] at h1
   cases h1
  subst hab
  have hnx:=h.next
  simp only [x6] at hnx
  exact hK s1 a w hnx hs
 have hready: ∀(listed:Array Bool),listed.size=all.length->Region.ready .any all.toArray listed= [] -> ∀ i,i<all.length->listed.getD i true=true:=by
  intro listed hsz h0 i
  induction i using Nat.strongRecOn with
  |_ i ih=>
   intro hi
   cases hl:listed.getD i true with
   |true=>rfl
   |false=>
    have:i∈Region.ready .any all.toArray listed:=by
     refine mem_ready.2 ⟨hl,all[i],by simp [hi],fun e he hb=> ?_⟩
     have hlt:e.on<i:=by
      have:=List.all_eq_true.1 (hpl.back i _ (gEE hi)) e (by simpa using he)
      simpa [hb] using this
     have:=ih e.on hlt (by omega)
     rw [Array.getD_eq_getD_getElem?] at this ⊢
     rw [Array.getElem?_eq_getElem (by omega)] at this ⊢
     simpa using this
    rw [h0] at this
    cases this
 intro fuel
 induction fuel with
 |zero=>
  intro n pend rest s1 listed a w hf h
  have hall: ∀ i,i<all.length->listed.getD i true=true:=fun i hi=>by
   cases hl:listed.getD i true with
   |true=>rfl
   |false=>
    have hlt:i<listed.size:=by rw [h.size];exact hi
    rw [Array.getD_eq_getD_getElem?,Array.getElem?_eq_getElem hlt] at hl
    have hm:false∈listed.toList:=by
     rw [<-(by simpa using hl:listed[i] =false)]
     simp
    have:=List.count_pos_iff.2 hm
    omega
  refine ⟨?_,hend _ _ _ _ _ _ _ h hall⟩
  rw [List.eq_nil_iff_forall_not_mem]
  intro i hi
  obtain ⟨h1,o,ho,_⟩:=mem_ready.1 hi
  have hlt:i<all.length:=by simpa using (Array.getElem?_eq_some_iff.1 ho).1
  rw [hall i hlt] at h1
  cases h1
 |succ fuel ih=>
  intro n pend rest s1 listed a w hf h
  refine ⟨fun h0=>hend _ _ _ _ _ _ _ h (hready listed h.size h0),fun i hi=> ?_⟩
  obtain ⟨hun,o,ho,hdeps⟩:=mem_ready.1 hi
  have ho':all[i]? =some o:=by simpa using ho
  have hilt:i<listed.size:=by rw [h.size];exact (List.getElem?_eq_some_iff.1 ho').1
  have hcnt:(listed.setIfInBounds i true).toList.count false<=fuel:=by
   have hli:listed.toList[i]'(by simpa using hilt)=false:=by
    rw [Array.getD_eq_getD_getElem?,Array.getElem?_eq_getElem hilt] at hun
    simpa using hun
   rw [Array.toList_setIfInBounds,List.count_set (by simpa using hilt),hli]
   have:0<listed.toList.count false:=List.count_pos_iff.2 (by rw [<-hli];simp)
   show listed.toList.count false - 1+0<=fuel
   omega
  have hg:o.guard=none:=hpl.guard i o ho'
  obtain ⟨b,hs,hag⟩:=h.sim
  have hself:(listed.setIfInBounds i true).getD i true=true:=by
   rw [Array.getD_eq_getD_getElem?];simp [hilt]
  have hwait: ∀ m,eL all i m=true->listed.getD m false=true:=fun m hm=>IR hpl.back h.clos i hm o ho' hdeps
  have huse: ∀ t,xa pend listed t->dV [t] o=false:=by
   rintro t ⟨x,hx,h1,h2⟩
   have h3:=h.ops x (.inl hx)
   obtain ⟨q1,q2⟩:=hpl.slot x.1 i x.2 o t h3 ho' h2
   by_cases e:i=x.1
   · exact q1 e
   · cases hu:dV [t] o with
     |false=>rfl
     |true=>exact absurd (hwait _ ((q2 e).1 hu)) (pV h1)
  have hexec:execOp a.eval o=execOp b.eval o:=hag.exec (hpl.sel i o ho') huse
  unfold Go.wpOp
  rw [ho]
  simp only
  rw [if_pos (jy hg _ _)]
  left
  have hcase:(i,o)∈pend∨ ∃ rest',rest=(i,o)::rest':=by
   rcases h.unl i o ho' hun with h1|h1
   · exact .inl h1
   · right
     cases hr:rest with
     |nil=>rw [hr] at h1;cases h1
     |cons y rest'=>
      rw [hr] at h1
      rcases List.mem_cons.1 h1 with e|h1
      · exact ⟨rest',by rw [e]⟩
      · have hp:=h.plan
        rw [hr] at hp
        have hw:=qP hp.1.2 _ h1
        have hy:=h.rst y (by rw [hr];exact List.mem_cons_self ..)
        exact absurd (hwait _ hw) (pV hy)
  rcases hcase with hp| ⟨rest',hr⟩
  · obtain ⟨p,r,d,hf1,hf2,hf3,hf4⟩:=qR h.same _ hp
    simp only at hf1 hf3
    obtain ⟨ρ,hs⟩:=hs
    obtain ⟨_,v,hrun,hrel⟩:=x4 (P:=P) hT hgl hs hf1 hf2
    refine aU (v:=v) (w':=w) (by rw [hexec];exact hrun) ?_
    refine ih n pend rest s1 _ _ w hcnt ⟨fun j oj hj hu=> ?_,fun x hx=> ?_,h.ops,h.nod,h.same,h.next,h.plan,⟨b.put o.dst v,⟨ρ, ?_⟩, ?_⟩,tK h.clos ho' hdeps,by simpa using h.size⟩
    · by_cases e:i=j
      · subst e;rw [hself] at hu;cases hu
      · rw [getD_set_ne true e] at hu;exact h.unl j oj hj hu
    · have hne:i≠x.1:=qS h.nod hp hx
      rw [getD_set_ne true hne];exact h.rst x hx
    · have:=hs.put (Keep.refl _ _) hrel o.dst
      have e1:put s1.tmps o.dst r=s1.tmps:=by rw [hf3,hf4];exact tF _ _
      rw [e1] at this
      exact this
    · refine hag.put _ _ fun t ⟨x,hx,h1,h2⟩ hne=>⟨x,hx, ?_,h2⟩
      have:i≠x.1:=fun e=>by
       have h3:=h.ops x (.inl hx)
       rw [<-e,ho'] at h3
       cases h3
       exact hne h2
      rw [getD_set_ne true this];exact h1
  · subst hr
    have hnext:=h.next
    have hplan:=h.plan
    simp only [x6,tJ] at hnext hplan
    have hw:=lV (P:=P) (c:=c) (Q:=fun _ _ _=>False) (N:=fun b' w'=> ∃ s2,re std T G X C all n (gq i pend) rest' s2 K∧Sim c (aA s2.next) s2 b' w') hT hG hX hC hgl (fun s2 h2 b' w' hs'=>⟨s2,h2,hs'⟩) hg hnext hs
    refine Oper.wp_mono ?_ (hag.wp (D':=fun t=>xa pend listed t∧o.dst≠some t) (Q:=Q) hexec (fun t h1 h2=>⟨h1,h2⟩) hw)
    rintro a' w' ⟨b',⟨s2,hv,hs2⟩,hag'⟩
    cases n with
    |zero=>exact hv.elim
    |succ n=>
     simp only [re] at hv
     obtain ⟨s1',b1,⟨hsame,hnx⟩,hs1,hag1⟩:=lY (P:=P) hT hgl _ hv hs2
     have hperm:=iL rest' []
     generalize hsp:ed [] rest'=sp at hsame hnx hag1 hperm
     obtain ⟨now,rest''⟩:=sp
     simp only at hsame hnx hag1 hperm
     have hnod':((gq i pend++(now++rest'')).map Prod.fst).Nodup:=by
      have h1:((pend++rest').map Prod.fst).Nodup:=by
       have:=h.nod
       rw [List.map_append,List.map_cons,List.nodup_append] at this
       obtain ⟨q1,q2,q3⟩:=this
       rw [List.map_append,List.nodup_append]
       exact ⟨q1,(List.nodup_cons.1 q2).2,fun x hx y hy=>q3 x hx y (List.mem_cons_of_mem _ hy)⟩
      have h2:((gq i pend++rest').map Prod.fst).Nodup:=(((o6 (i:=i) (l:=pend)).append_right rest').map Prod.fst).nodup h1
      exact ((List.Perm.append_left _ hperm.symm).map Prod.fst).nodup h2
     have hmem: ∀ x,x∈rest'↔x∈now∨x∈rest'':=fun x=>by rw [<-hperm.mem_iff,List.mem_append]
     have hlow: ∀ m,m<i->listed.getD m false=true:=fun m hm=>hwait m (tH hplan.1.1 m hm)
     have hne': ∀ x∈rest',i≠x.1:=fun x hx e=>by
      have:=h.nod
      rw [List.map_append,List.map_cons,List.nodup_append] at this
      exact (List.nodup_cons.1 this.2.1).1 (by simp only;rw [e];exact List.mem_map_of_mem hx)
     refine ih n (gq i pend++now) rest'' s1' _ a' w' hcnt ⟨fun j oj hj hu=> ?_,fun x hx=> ?_,fun x hx=> ?_,by rw [List.append_assoc];exact hnod',hsame,hnx, ?_,⟨b1,hs1, ?_⟩,tK h.clos ho' hdeps,by simpa using h.size⟩
     · by_cases e:i=j
       · subst e;rw [hself] at hu;cases hu
       · rw [getD_set_ne true e] at hu
         rcases h.unl j oj hj hu with h1|h1
         · refine .inl (List.mem_append.2 (.inl (ly.2 ⟨h1, ?_⟩)))
           rcases Nat.lt_or_ge j i with hlt|hge
           · exact absurd (hlow j hlt) (pV hu)
           · simp only;omega
         · rcases List.mem_cons.1 h1 with h1|h1
           · cases h1;exact absurd rfl e
           · rcases (hmem _).1 h1 with h2|h2
             · exact .inl (List.mem_append.2 (.inr h2))
             · exact .inr h2
     · have h1:x∈rest':=(hmem x).2 (.inr hx)
       rw [getD_set_ne true (hne' x h1)]
       exact h.rst x (List.mem_cons_of_mem _ h1)
     · rcases hx with hx|hx
       · rcases List.mem_append.1 hx with hx|hx
         · exact h.ops x (.inl (ly.1 hx).1)
         · exact h.ops x (.inr (List.mem_cons_of_mem _ ((hmem x).2 (.inl hx))))
       · exact h.ops x (.inr (List.mem_cons_of_mem _ ((hmem x).2 (.inr hx))))
     · obtain ⟨_,m,hm⟩:=hplan
       cases m with
       |zero=>cases hm
       |succ m=>
        simp only [mg,hsp] at hm
        cases rest'' with
        |nil=>trivial
        |cons y r2=>
         obtain ⟨j,oj⟩:=y
         simp only [tJ]
         simp only [bAE] at hm
         exact ⟨hm.1,m,hm.2⟩
     · refine ⟨hag'.dfr.trans hag1.dfr,hag'.sz.trans hag1.sz,fun t ht=> ?_⟩
       rw [hag'.at' t,hag1.at' t]
       · rintro ⟨x,hx,e⟩
         have h1:x∈rest':=(hmem x).2 (.inl hx)
         refine ht ⟨x,List.mem_append.2 (.inr hx), ?_,e⟩
         rw [getD_set_ne true (hne' x h1)]
         exact h.rst x (List.mem_cons_of_mem _ h1)
       · rintro ⟨⟨x,hx,h1,h2⟩,hne⟩
         have hni:i≠x.1:=fun e=>qS h.nod hx (List.mem_cons_self ..) e.symm
         refine ht ⟨x,List.mem_append.2 (.inl (ly.2 ⟨hx, ?_⟩)),by rw [getD_set_ne true hni];exact h1,h2⟩
         rcases Nat.lt_or_ge x.1 i with hlt|hge
         · exact absurd (hlow x.1 hlt) (pV h1)
         · omega
theorem x7(hT:TysOk P T)(hG:az P T.gl G)(hX:XtOk P T.gl X)(hC:rD P T C)(hgl:T.gl=c.gl)(hm:P.follows .mixedOrders=true){id:Nat}{Q:Exit->Act->World->Prop}{K:St->Prop}{s:St}{a:Act}{w:World}(hd:DA all=true)
 (hK: ∀ s' a w,K s'->Sim c (aA s'.next) s' a w->Q .normal a w) (h:re std T G X C all (all.length+1) [] (fQ 0 all) s K) (hs:Sim c (aA s.next) s a w):
 (Code.region id all.toArray true).wp P Q a w:=by
 obtain ⟨hpl,hplan⟩:=F1 hd
 refine wp_region_any hm ?_
 have hs0:Sim c (aA s.next) s a { w with drawn:=w.drawn+1 } :=hs.drew
 simp only [re] at h
 obtain ⟨s1,b1,⟨hsame,hnx⟩,hs1,hag1⟩:=lY (P:=P) hT hgl _ h hs0
 have hperm:=iL (fQ 0 all) []
 simp only [mg] at hplan
 generalize hsp:ed [] (fQ 0 all)=sp at hsame hnx hag1 hperm hplan
 obtain ⟨now,rest⟩:=sp
 simp only [List.nil_append] at hsame hnx hag1 hperm hplan
 have hmem: ∀ x,x∈fQ 0 all↔x∈now∨x∈rest:=fun x=>by rw [<-hperm.mem_iff,List.mem_append]
 have hunl: ∀ i,i<all.length->(Array.replicate all.length false).getD i true=false:=fun i hi=>by
  rw [Array.getD_eq_getD_getElem?];simp [hi]
 have hops: ∀ x,x∈now∨x∈rest->all[x.1]? =some x.2:=fun x hx=>by
  have:=(lz.1 ((hmem x).2 hx)).2
  simpa using this
 have:=A3 (P:=P) (c:=c) hT hG hX hC hgl hpl (Q:=Q) hK all.length all.length now rest s1 (Array.replicate all.length false) a { w with drawn:=w.drawn+1 } (by simp [List.count_replicate])
  ⟨fun i o ho hu=>(hmem (i,o)).1 (lz.2 ⟨Nat.zero_le _,by simpa using ho⟩),fun x hx=>hunl _ (List.getElem?_eq_some_iff.1 (hops x (.inr hx))).1,hops,
   (hperm.symm.map Prod.fst).nodup qO,hsame,hnx,by
    cases rest with
    |nil=>trivial
    |cons y r2=>
     obtain ⟨j,oj⟩:=y
     simp only [tJ]
     simp only [bAE] at hplan
     exact ⟨hplan.1,_,hplan.2⟩,⟨b1,hs1,hag1.mono fun t ⟨x,hx,e⟩=>⟨x,hx,hunl _ (List.getElem?_eq_some_iff.1 (hops x (.inl hx))).1,e⟩⟩,fun j o hj hl=>(by
    rw [hunl j (List.getElem?_eq_some_iff.1 hj).1] at hl;cases hl),by simp⟩
 simpa using this
theorem x8{C:Cl}(hT:TysOk P T)(hG:az P T.gl G)(hX:XtOk P T.gl X)(hC:rD P T C)(hgl:T.gl=c.gl)(hm:P.follows .mixedOrders=true){id:Nat}{ops:Array Oper}{draw:Bool}{Q:Exit->Act->World->Prop}{K:St->Prop}{s:St}{a:Act}{w:World}
 (hK: ∀ s' a w,K s'->Sim c (aA s'.next) s' a w->Q .normal a w)
 (h:bif draw then pN std T G X C (Dz X ops.toList) ops.toList s K else cR std T G X C ops.toList ops.toList s K) (hs:Sim c (aA s.next) s a w):
 (Code.region id ops draw).wp P Q a w:=by
 have e:ops=ops.toList.toArray:=by simp
 rw [e]
 cases draw with
 |false=>
  refine wp_region ?_
  have:=qM (P:=P) (c:=c) hT hG hX hC hgl (all:=ops.toList) (Q:=Q) hK ops.toList 0 s a w (by simp) (by simp) h hs
  simpa [List.range_eq_range'] using this
 |true=>
  simp only [cond_true] at h
  cases hgo:Dz X ops.toList with
  |true=>
   rw [hgo] at h
   simp only [pN] at h
   exact x7 hT hG hX hC hgl hm h.1 hK h.2 hs
  |false=>
   rw [hgo] at h
   simp only [pN] at h
   exact A1 hT hG hX hgl hm h.1 hK (nm _ _ _ rfl h.2) hs
end
end Go.Vd
