/- Operations that are carried out in the text's order alone: calls among them. -/
import Derived.Test.YtckmnmcnelfkjaaGreatDoorVdX
set_option linter.unusedVariables false
set_option linter.unusedSimpArgs false
namespace Go.Vd
open Go.RowKit
section
variable {P:Program} {o:Oper} {a:Act} {w:World} {ρ:Nat->Value} {U:Nat->Prop} {c:Ctx} {s:St}
theorem dO(w:World)(dT sT ty elem:TypeId)(g o dLen dCap k:Nat)(ad:Addr)(sLen sCap:Nat)(cur:Array Value)(t:TypeId)(cs:List Value)
 (hu:P.underlying dT=some (.slice elem)) {i:TypeInfo} (hi:P.info? elem=some i) (his:i.size=k)
 {kk:Nat} (hg:isC w g cur t kk) (hn:cs.length=Nat.min sLen dLen*k)
 (hsrc: ∀ j v,cs[j]? =some v->w.cell? (ad.add j)=some v) (hfit:o+cs.length<=cur.size) (h1: ∀ v∈cs,v.oneCell'=true):
 (Builtin.copy_ #[dT,sT] ty #[.slice (some ⟨g,o,none⟩) dLen dCap, .slice (some ad) sLen sCap]).run P w=
   .ok (goInt (Nat.min sLen dLen)) (w.setRow g (cur.toList.take o++cs++cur.toList.drop (o+cs.length)).toArray):=by
 have hl:=run_loadCells_list (P:=P) w ad cs hsrc
 have hst:=eg (P:=P) g o t cs 0 cur w hg (by simpa using hfit) h1
 rw [hn] at hl
 simp [Builtin.copy_,run_underlying hu,Builtin.lenOf,Builtin.firstCells,sizeOf,typeInfo,hi,his,hl,hst]
theorem wL(w:World)(dT sT ty elem:TypeId)(d ad:Option Addr)(dLen dCap sLen sCap:Nat)(hu:P.underlying dT=some (.slice elem)){i:TypeInfo}(hi:P.info? elem=some i)(hn:Nat.min sLen dLen=0):
 (Builtin.copy_ #[dT,sT] ty #[.slice d dLen dCap, .slice ad sLen sCap]).run P w= .ok (goInt 0) w:=by
 cases d<;>cases ad<;>simp [Builtin.copy_,run_underlying hu,Builtin.lenOf,Builtin.firstCells,sizeOf,typeInfo,hi,hn,loadCells,loadCellsFrom,storeCells]
theorem Mo(h:SimR c U s a w ρ){t u ty':TypeId}{ty:Ty}(ht:aB P t ty){el k by_:Nat}{isb:Bool}(htag:ty.tag= .slice el k by_ isb){xv yv:Value}{y:SV}{q lo n e n0 m:Nat}{f g:Nat->Nat->SV}
 (hx:Rel w ρ (ae c.F ρ s.mem) U xv (.part q k lo n)) (hl:af s.mem q=some (.row e k n0 f)) (hlo:0<n->lo+n<=n0) (hy:Rel w ρ (ae c.F ρ s.mem) U yv y) (hd:aZ std s.mem y= .slc m k g) (hpl:cF s.mem y=true):
 ∃ w',(Builtin.copy_ #[t,u] ty' #[xv,yv]).run P w= .ok (.int .i64 (Nat.min n m:Nat)) w'∧SimR c U { s with mem:=upd s.mem q (.row e k n0 (std.rcopy f lo (Nat.min n m) g)) } a w' ρ:=by
 obtain ⟨_,dd,_,_,hdd,_,_,_,_,_,_,_,_,hTT⟩:=ht
 rw [htag] at hTT
 obtain ⟨rfl,hk0,_,i,z,hi,his,hib,hz0,hzs⟩:=hTT
 obtain ⟨ad,cp,xs,rfl,hxl,h1,hr,hrel⟩:=ru h hy hd hpl
 cases hx with
 |part _ _ _ _ da dc hk hn hh=>
  rcases Nat.eq_zero_or_pos (Nat.min n m) with h0|h0
  · refine ⟨w, ?_, ?_⟩
    · rw [wL w t u ty' el da ad n dc m cp hdd hi ((Nat.min_comm m n).trans h0),h0]
      simp [goInt]
    · have e1:std.rcopy f lo (Nat.min n m) g=f:=by
       funext i j
       rw [h0]
       show (if lo<=i∧i<lo+0 then g (i - lo) j else f i j)=f i j
       rw [if_neg (by omega)]
      rw [e1,ng hl]
      exact h
  · have hmn:Nat.min m n=Nat.min n m:=Nat.min_comm m n
    have hle1:Nat.min n m<=n:=Nat.min_le_left n m
    have hle2:Nat.min n m<=m:=Nat.min_le_right n m
    obtain ⟨gg,n1,c1,hρ,hle,rfl⟩:=gV hn hh (by omega)
    obtain ⟨rfl,_⟩:=jB h.mem hl hρ (by omega)
    have hmk:Nat.min n m*k<=m*k:=Nat.mul_le_mul_right k hle2
    have hpos:0<m*k:=Nat.mul_pos (by omega) hk0
    obtain ⟨p,rfl,hp⟩:=hr hpos
    have hcl:(xs.take (Nat.min n m*k)).length=Nat.min n m*k:=by rw [List.length_take];omega
    have hnk:lo*k+Nat.min n m*k<=n1*k:=by rw [<-Nat.add_mul];exact Nat.mul_le_mul_right k (by omega)
    obtain ⟨cur,hg,hsz,_,m1,m2,m3,m4⟩:=rx (w:=w) h.mem hl hρ (by omega) (o:=lo*k) (cs:=xs.take (Nat.min n m*k)) (by omega) (fun v hv=>h1 v (List.mem_of_mem_take hv)) (f':=std.rcopy f lo (Nat.min n m) g)
     (fun i' j uu hi' hj hu hnn=>by
       have: ¬(lo<=i'∧i'<lo+Nat.min n m):=fun ⟨q1,q2⟩=>hnn (by
        have a1:lo*k<=i'*k:=Nat.mul_le_mul_right k q1
        have a2:(i'+1)*k<=(lo+Nat.min n m)*k:=Nat.mul_le_mul_right k q2
        rw [Nat.add_mul,Nat.add_mul] at a2
        omega)
       show RelC w _ uu (if lo<=i'∧i'<lo+Nat.min n m then g (i' - lo) j else f i' j)
       rw [if_neg this]
       exact hu)
     (fun i' j uu hi' hj hge hu=>by
       rw [List.getElem?_take] at hu
       split at hu
       · rename_i hlt
         have q1:lo<=i':=by
          rcases Nat.lt_or_ge i' lo with hq|hq
          · have:(i'+1)*k<=lo*k:=Nat.mul_le_mul_right k hq
            rw [Nat.add_mul] at this
            omega
          · exact hq
         have q2:i'<lo+Nat.min n m:=by
          rcases Nat.lt_or_ge i' (lo+Nat.min n m) with hq|hq
          · exact hq
          · have:(lo+Nat.min n m)*k<=i'*k:=Nat.mul_le_mul_right k hq
            rw [Nat.add_mul] at this
            omega
         show RelC w _ uu (if lo<=i'∧i'<lo+Nat.min n m then g (i' - lo) j else f i' j)
         rw [if_pos ⟨q1,q2⟩]
         refine hrel (i' - lo) j uu (by omega) hj ?_
         rw [<-hu,Nat.sub_mul]
         congr 1
         have:lo*k<=i'*k:=Nat.mul_le_mul_right k q1
         omega
       · cases hu)
    refine ⟨_, ?_,h.written m1 m2 m3 m4⟩
    rw [dO w t u ty' el gg (lo*k) n dc k p m cp cur e (xs.take (Nat.min n m*k)) hdd hi his hg (by rw [hcl,hmn]) (fun j v hv=>hp j v (by rw [List.getElem?_take] at hv;split at hv;exact hv;cases hv)) hsz (fun v hv=>h1 v (List.mem_of_mem_take hv)),hmn]
    simp [goInt]
theorem FT{f:FuncId}{x:Operand}{name:String}{args:Array Operand}{ts:Array TypeId}(ho:o.op= .call { callee:= .invoke x name,args:=args,argTypes:=ts })(hc:dk P f){t:TypeId}{pv:Value}(hx:a.eval x= .iface t pv)
 (hm: ∀(args:Array Value) (w:World),(callMethod (.iface t pv) name args).run P w=(callFunc f (#[pv] ++args)).run P w)
 {K:Act->World->Prop} {Q:Exit->Act->World->Prop} (h:Calls P f (pv::args.toList.map a.eval).toArray w fun e w'=> ∃ v,e= .returned v∧K (a.put o.dst v) w'):o.wp P a w K Q:=by
 have hrun:(execOp a.eval o).run P w= .ok (.enter f (pv::args.toList.map a.eval).toArray) w:=by
  have e1:(pv::args.toList.map a.eval).toArray= #[pv] ++args.map a.eval:=by
   apply Array.ext'
   simp
  rw [e1]
  have e2:(#[Value.iface t pv] ++args.map a.eval).extract 1 (#[Value.iface t pv] ++args.map a.eval).size=args.map a.eval:=by
   apply Array.ext'
   simp
   exact List.take_of_length_le (by simp)
  have e3:(#[Value.iface t pv] ++args.map a.eval)[0]? =some (.iface t pv):=by
   rw [<-Array.getElem?_toList];simp
  have e4:(invoke (.fn (.method name) #[]) (#[Value.iface t pv] ++args.map a.eval)).run P w= .ok (.enter f (#[pv] ++args.map a.eval)) w:=by
   unfold invoke
   simp only [e3,e2]
   rw [hm,iB hc]
  simp only [execOp,ho,resolve,hx,Sem.run_bind,Sem.run_pure,Result.andThen_ok]
  exact e4
 unfold Oper.wp
 rw [hrun,Oper.upon_enter]
 exact h.mono fun e w' ⟨v,he,hk⟩=>by subst he;exact hk
theorem qK{rw:Nat->Prop} : ∀ {l:List Value} {m:List SV},l.length=m.length->(∀(i:Nat) v s,l[i]? =some v->m[i]? =some s->Rel w ρ rw U v s)->bp (Rel w ρ rw U) l m
 | [], [],_,_=>trivial
 |v::l,s::m,hl,h=>⟨h 0 v s rfl rfl,qK (by simpa using hl) fun i v s hv hs=>h (i+1) v s (by simpa using hv) (by simpa using hs)⟩
 | [],_::_,hl,_=>by simp at hl
 |_::_, [],hl,_=>by simp at hl
theorem RelF.rel{w:World}{ρ:Nat->Value}{rw U:Nat->Prop}{v:Value}{t:SV}(h:RelF v t):Rel w ρ rw U v t:=by
 induction h with
 |any v=>exact .any v
 |un=>exact .un
 |int k n=>exact .int k n
 |bool b=>exact .bool b
 |str s=>exact .str s
 |flt b=>exact .flt b
 |cpx a b=>exact .cpx a b
 |nilp=>exact .nilp
 |nils=>exact .nils
 |emp a=>exact .emp a
 |clo f=>exact .clo f #[] [] rfl (fun i v s h=>by simp at h) (fun k h=>by obtain ⟨s,h,_⟩:=h;cases h)
 |ifc t v s h ih=>exact .ifc t v s h
 |mth f v s h ih=>exact .mth f v s h
 |agg cs l hl h1 h ih=>exact .agg0 cs l hl h1 ih
 |val v=>exact .val v
theorem jY{T:Tys}(h:SimR c U s a w ρ)(hgl:T.gl=c.gl){x:Operand}{args:List Operand}{f:Nat}{al:List SV}(hc:rd T s (.value x) (bu (ev T.gl s.tmps) args)=some (f,al)):
 ∃ frs caps:Array Value,a.eval x= .func (.func f) frs caps∧bp (Rel w ρ (ae c.F ρ s.mem) U) (frs.toList++args.map a.eval++caps.toList) al:=by
 simp only [rd] at hc
 split at hc
 · rename_i f' caps he
   simp only [sIE,pIE] at hc
   obtain ⟨rfl,rfl⟩:=hc
   have hx:=h.ev x
   rw [<-hgl,he] at hx
   generalize a.eval x=xv at hx
   cases hx with
   |clo _ cs _ hl hh _=>
    refine ⟨#[],cs,rfl, ?_⟩
    rw [du]
    simp only [List.nil_append]
    refine bp.append (ib fun y _=>by rw [hgl];exact h.ev y) (qK (by simpa using hl) fun i v s hv hs=>hh i v s (by simpa using hv) hs)
 · rename_i f' p he
   simp only [sIE,pIE] at hc
   obtain ⟨rfl,rfl⟩:=hc
   have hx:=h.ev x
   rw [<-hgl,he] at hx
   generalize a.eval x=xv at hx
   cases hx with
   |mth _ pv _ hF=>
    refine ⟨#[pv], #[],rfl, ?_⟩
    simp only [List.append_nil]
    exact ⟨hF.rel,ib fun y _=>by rw [hgl];exact h.ev y⟩
 · cases hc
end
end Go.Vd
