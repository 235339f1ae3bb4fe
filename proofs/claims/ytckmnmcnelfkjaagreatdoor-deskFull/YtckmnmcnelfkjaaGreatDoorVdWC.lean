/- Tables: insert, swap, retire. -/
import Derived.Test.YtckmnmcnelfkjaaGreatDoorVdV6
import Derived.Test.YtckmnmcnelfkjaaGreatDoorVdI2
import GoSem.Core.Float
import Ieee.Arith
set_option linter.unusedVariables false
set_option linter.unusedSimpArgs false
set_option maxRecDepth 100000
set_option maxHeartbeats 8000000
namespace Go.Vd
open Go.Proofs
variable {e:Ent} {m:Int} {T:Tbl}
theorem Qp(h:eR e=true):dF e.s e.r=true:=by
 unfold eR at h
 simp only [bAE,decide_eq_true_eq] at h
 exact h.1
def okE (m:Int)(T:Tbl)(e:Ent):Bool:=bif tbR m T then eR e else false
theorem Et(h:okE m T e=true):tbR m T=true∧eR e=true:=by
 unfold okE at h
 cases h1:tbR m T<;>rw [h1] at h
 · cases h
 · exact ⟨rfl,h⟩
theorem zr(h:okE m T e=true):0<=shi T e.s e.r∧shi T e.s e.r<(T.length:Int):=by
 have h1:=Et h
 have h2:=ji h1.1
 have h3:=Qp h1.2
 unfold shi dK
 rw [if_pos ⟨h3,by omega,by omega⟩]
 have:=Nat.mod_lt (fnv (iO 6 e.s.toNat++e.r)) (show 0<((T.length:Nat):Int).toNat by omega)
 omega
def cT (m:Int)(T:Tbl)(e:Ent):Tbl:=if okE m T e=true then (if lkB T e.s e.r=true then T else if m<=(cnt T:Int) then T else T.set (shi T e.s e.r).toNat (dP (shl T e.s e.r) e)) else T
def cG (m:Int)(T:Tbl)(e:Ent):Int:=if okE m T e=true then (if lkB T e.s e.r=true then 6 else if m<=(cnt T:Int) then 7 else g6 (shl T e.s e.r) e) else 1
theorem Qq(h:okE m T e=false):cT m T e=T∧cG m T e=1:=by unfold cT cG;rw [h];exact ⟨rfl,rfl⟩
theorem Qr(h:okE m T e=true)(h1:lkB T e.s e.r=true):cT m T e=T∧cG m T e=6:=by unfold cT cG;rw [if_pos h,if_pos h,if_pos h1,if_pos h1];exact ⟨rfl,rfl⟩
theorem zt(h:okE m T e=true)(h1:lkB T e.s e.r=false)(h2:m<=(cnt T:Int)):cT m T e=T∧cG m T e=7:=by unfold cT cG;rw [if_pos h,if_pos h,h1,if_pos h2,if_pos h2];exact ⟨rfl,rfl⟩
theorem Hb(h:okE m T e=true)(h1:lkB T e.s e.r=false)(h2: ¬m<=(cnt T:Int)):cT m T e=T.set (shi T e.s e.r).toNat (dP (shl T e.s e.r) e)∧cG m T e=g6 (shl T e.s e.r) e:=by unfold cT cG;rw [if_pos h,if_pos h,h1,if_neg h2,if_neg h2];exact ⟨rfl,rfl⟩
attribute [local irreducible] vc
theorem zu(m:Int)(T:Tbl)(s st am tr ca:Int)(r pan code:List UInt8)(hQ:tbQ T)(hE:enQ ⟨s,r,st,pan,am,code,tr,ca⟩):GFn 39 (fun A=> [.agg [.int .i64 m,aF eEs [] 1 A fun _=>T], .agg [.int .u32 s, .str r, .int .i64 st, .str pan, .int .u64 am, .str code, .int .i64 tr, .int .i64 ca]]) (fun A=> .tup [.agg [.int .i64 m,aF eEs [] 1 A fun _=>cT m T ⟨s,r,st,pan,am,code,tr,ca⟩], .int .i64 (A.ti fun _=>cG m T ⟨s,r,st,pan,am,code,tr,ca⟩)]):=by
 refine aC tW ar ak Tryz.func39 (.none) fun A hA=> ?_
 obtain ⟨E,hEq⟩: ∃ E:Ent,E=⟨s,r,st,pan,am,code,tr,ca⟩:=⟨_,rfl⟩
 rw [<-hEq]
 have hok:(bif tbR m T then eR ⟨s,r,st,pan,am,code,tr,ca⟩ else false)=okE m T E:=by rw [hEq];rfl
 have eS:E.s=s:=by rw [hEq]
 have eR':E.r=r:=by rw [hEq]
 have hT:=hQ.1
 have hTi:=hQ.2.1 (shi T s r).toNat
 have hTe:=fun j=>Em (hQ.2.2 (shi T s r).toNat j)
 cbv
 repeat' (first| (with_reducible first|exact vT|exact vD hA|exact vE hA|refine vA ?_ ?_) | (intro hc;cbv))
 all_goals (subst hA;simp only [sS,bg,aT,aY,bh,hok] at*)
 all_goals first
  |done
  |exact ⟨trivial,hQ⟩
  |exact ⟨⟨trivial,hQ⟩,hE.1⟩
  |exact fun h=>⟨h,hE.2.2⟩
  |exact fun h=>by rw [h];rfl
  | (have h1:=Qq (l8 hc)
     first
      | (rw [h1.1];done)
      | (rw [h1.1];exact (au.lit _).eqr)
      | (rw [h1.2];done))
  | (have hr0:(!okE m T E)=false:=by assumption
     have hr:=jh hr0
     have hcn:=ji (Et hr).1
     have hin:=zr hr
     rw [eS,eR'] at hin
     first
      |exact ⟨trivial,hT,by omega⟩
      | (have h2:lkB T s r=true:=by assumption
         have h1:=Qr (e:=E) hr (by rw [eS,eR'];exact h2)
         first
          | (rw [h1.1];done)
          | (rw [h1.1];exact (au.lit _).eqr)
          | (rw [h1.2];done))
      | (have h2:lkB T s r=false:=by assumption
         have h3:=of_decide_eq_true hc
         have h1:=zt (e:=E) hr (by rw [eS,eR'];exact h2) h3
         first
          | (rw [h1.1];done)
          | (rw [h1.1];exact (au.lit _).eqr)
          | (rw [h1.2];done))
      | (have h2:lkB T s r=false:=by assumption
         have h3:=of_decide_eq_false hc
         have h1:=Hb (e:=E) hr (by rw [eS,eR'];exact h2) h3
         rw [eS,eR'] at h1
         unfold shl at h1
         have hcell:=rQ (x:=dP (T.getD (shi T s r).toNat []) E) (au.lit (enc:=eE) (d:=E0) (k:=8) _)
         rw [hEq] at hcell
         first
          |exact hin
          |exact ⟨⟨trivial,hTi,hTe⟩,hE.2.2⟩
          | (rw [h1.1,List.length_set];done)
          | (rw [h1.2,hEq];done)
          |exact c7 ((au.lit T).rset' (i:=(shi T s r).toNat) (by omega) _ rfl hcell) (by rw [h1.1,List.length_set]) (by rw [h1.1,hEq])
)
)
noncomputable def jJ:Ct:=fun A args=>match args with
 | [.agg [.int .i64 m, .slc n 1 f], .agg [.int .u32 s, .str r, .int .i64 st, .str pan, .int .u64 am, .str code, .int .i64 tr, .int .i64 ca]] =>some (some (A.tp fun _=>(ai eEs [] 1 n f∧tbQ (ab eEs [] 1 n f))∧enQ ⟨s,r,st,pan,am,code,tr,ca⟩), .tup [.agg [.int .i64 m,aF eEs [] 1 A fun _=>cT m (ab eEs [] 1 n f) ⟨s,r,st,pan,am,code,tr,ca⟩], .int .i64 (A.ti fun _=>cG m (ab eEs [] 1 n f) ⟨s,r,st,pan,am,code,tr,ca⟩)])
 |_=>none
def k8 (m:Int)(T:Tbl)(z:Int)(e:Ent):Tbl:=if okE m T e=true then T.set (shi T e.s e.r).toNat (swL (shl T e.s e.r) z e) else T
def va (m:Int)(T:Tbl)(z:Int)(e:Ent):Int:=if okE m T e=true then swC (shl T e.s e.r) z e else 1
theorem R1{z:Int}(h:okE m T e=false):k8 m T z e=T∧va m T z e=1:=by unfold k8 va;rw [h];exact ⟨rfl,rfl⟩
theorem R2{z:Int}(h:okE m T e=true):k8 m T z e=T.set (shi T e.s e.r).toNat (swL (shl T e.s e.r) z e)∧va m T z e=swC (shl T e.s e.r) z e:=by unfold k8 va;rw [if_pos h,if_pos h];exact ⟨rfl,rfl⟩
theorem Eu(m:Int)(T:Tbl)(z s st am tr ca:Int)(r pan code:List UInt8)(hQ:tbQ T)(hE:enQ ⟨s,r,st,pan,am,code,tr,ca⟩):GFn 41 (fun A=> [.agg [.int .i64 m,aF eEs [] 1 A fun _=>T], .int .i64 z, .agg [.int .u32 s, .str r, .int .i64 st, .str pan, .int .u64 am, .str code, .int .i64 tr, .int .i64 ca]]) (fun A=> .tup [.agg [.int .i64 m,aF eEs [] 1 A fun _=>k8 m T z ⟨s,r,st,pan,am,code,tr,ca⟩], .int .i64 (A.ti fun _=>va m T z ⟨s,r,st,pan,am,code,tr,ca⟩)]):=by
 refine aC tW ar ak Tryz.func41 (.none) fun A hA=> ?_
 obtain ⟨E,hEq⟩: ∃ E:Ent,E=⟨s,r,st,pan,am,code,tr,ca⟩:=⟨_,rfl⟩
 rw [<-hEq]
 have hok:(bif tbR m T then eR ⟨s,r,st,pan,am,code,tr,ca⟩ else false)=okE m T E:=by rw [hEq];rfl
 have eS:E.s=s:=by rw [hEq]
 have eR':E.r=r:=by rw [hEq]
 have hT:=hQ.1
 have hsh:dK s r (T.length:Int)=shi T s r:=rfl
 have hTi:=hQ.2.1 (shi T s r).toNat
 have hTe:=fun j=>Em (hQ.2.2 (shi T s r).toNat j)
 cbv
 repeat' (first| (with_reducible first|exact vT|exact vD hA|exact vE hA|refine vA ?_ ?_) | (intro hc;cbv))
 all_goals (subst hA;simp only [sS,bg,aT,aY,bh,hok,hsh] at*)
 all_goals first
  |done
  |exact hE.1
  |exact ⟨trivial,hQ⟩
  |exact fun h=>⟨h,hE.2.2⟩
  |exact fun h=>by rw [h];rfl
  | (have h1:=R1 (z:=z) (l8 hc)
     first
      | (rw [h1.1];done)
      | (rw [h1.1];exact (au.lit _).eqr)
      | (rw [h1.2];done))
  | (have hr0:(!okE m T E)=false:=by assumption
     have hr:=jh hr0
     have hcn:=ji (Et hr).1
     have hin:=zr hr
     rw [eS,eR'] at hin
     have h1:=R2 (z:=z) hr
     rw [eS,eR'] at h1
     unfold shl at h1
     have hcell:=rQ (x:=swL (T.getD (shi T s r).toNat []) z E) (au.lit (enc:=eE) (d:=E0) (k:=8) _)
     rw [hEq] at hcell
     first
      |exact hin
      |exact ⟨⟨trivial,hTi,hTe⟩,hE.2.2⟩
      | (rw [h1.1,List.length_set];done)
      | (rw [h1.2,hEq];done)
      |exact c7 ((au.lit T).rset' (i:=(shi T s r).toNat) (by omega) _ rfl hcell) (by rw [h1.1,List.length_set]) (by rw [h1.1,hEq])
)
noncomputable def mC:Ct:=fun A args=>match args with
 | [.agg [.int .i64 m, .slc n 1 f], .int .i64 z, .agg [.int .u32 s, .str r, .int .i64 st, .str pan, .int .u64 am, .str code, .int .i64 tr, .int .i64 ca]] =>some (some (A.tp fun _=>(ai eEs [] 1 n f∧tbQ (ab eEs [] 1 n f))∧enQ ⟨s,r,st,pan,am,code,tr,ca⟩), .tup [.agg [.int .i64 m,aF eEs [] 1 A fun _=>k8 m (ab eEs [] 1 n f) z ⟨s,r,st,pan,am,code,tr,ca⟩], .int .i64 (A.ti fun _=>va m (ab eEs [] 1 n f) z ⟨s,r,st,pan,am,code,tr,ca⟩)])
 |_=>none
def stW (z:Int):Bool:=bif z==1 then true else z==4
noncomputable def gv8:Ar->Pu:=aq 39 jJ (aq 41 mC (gv7))
theorem zw:az Tryz.prog gl0 (gv8 std):=by
 refine ao (ao (tW) ⟨_,Tryz.func41,rfl,by decide⟩ ?_) ⟨_,Tryz.func39,rfl,by decide⟩ ?_
 · intro args p r h hp
   unfold mC at h
   split at h<;>cases h
   exact aJ (Eu _ _ _ _ _ _ _ _ _ _ _ hp.1.2 hp.2) ⟨⟨_,rfl,rfl,hp.1.1.sv,trivial⟩,rfl,⟨_,rfl,rfl,rfl,rfl,rfl,rfl,rfl,rfl,rfl,trivial⟩,trivial⟩
 · intro args p r h hp
   unfold jJ at h
   split at h<;>cases h
   exact aJ (zu _ _ _ _ _ _ _ _ _ _ hp.1.2 hp.2) ⟨⟨_,rfl,rfl,hp.1.1.sv,trivial⟩,⟨_,rfl,rfl,rfl,rfl,rfl,rfl,rfl,rfl,rfl,trivial⟩,trivial⟩
end Go.Vd
namespace Go.Vd
open Go.Proofs
variable {T:Tbl}
def tSh (T:Tbl):Bool:=decide (T.length<=20)&&(T.all shL && decide (cnt T<=200))
theorem Qs{i:Nat}(hi:i<T.length)(h:shL (T.getD i [])=false):tSh T=false:=by
 have:T.all shL=false:=by
  rw [Bool.eq_false_iff]
  intro h2
  rw [List.all_eq_true] at h2
  rw [List.getD_eq_getElem?_getD,gEE hi] at h
  have h3:=h2 _ (List.getElem_mem hi)
  simp at h
  rw [h3] at h
  cases h
 unfold tSh
 rw [this]
 simp
theorem Oc(h: ∀ j,j<T.length->shL (T.getD j [])=true):T.all shL=true:=by
 rw [List.all_eq_true]
 intro x hx
 obtain ⟨j,hj,rfl⟩:=List.getElem_of_mem hx
 have:=h j hj
 rw [List.getD_eq_getElem?_getD,gEE hj] at this
 exact this
theorem Od(h: ¬T.length<=20):tSh T=false:=by simp [tSh,h]
theorem Hc{T:Tbl} : ∀ {i:Nat},i<=T.length->(∀ j,j<i->shL (T.getD j [])=true)->cnt (T.take i)<=200*i
 |0,_,_=>by simp [cnt]
 |i+1,hi,h=>by
  rw [nE T (by omega)]
  have h1:=Hc (T:=T) (i:=i) (by omega) fun j hj=>h j (by omega)
  have h2:=(mB.1 (h i (by omega))).1
  omega
attribute [local irreducible] vc
theorem Bu(m:Int)(T:Tbl)(hT:T.length<=9223372036854775807)(hTi: ∀ i,(T.getD i []).length<=9223372036854775807):GFn 30 (fun A=> [.agg [.int .i64 m,aF eEs [] 1 A fun _=>T]]) (fun A=> .bool (A.tb fun _=>tSh T)):=by
 refine aC y9 ar ak Tryz.func30 (.one) fun A hA=> ?_
 cbv
 repeat' (first| (with_reducible first|exact vT|exact vD hA|exact vE hA|refine vA ?_ ?_) | (intro hc;cbv))
 refine ⟨⟨{p:Nat×Nat // p.1<=T.length∧p.1<=20∧p.2=cnt (T.take p.1)∧ ∀ j,j<p.1->shL (T.getD j [])=true},fun b p=> [(3, .int .i64 (p.1.2:Nat)),(4, .int .i64 (p.1.1:Nat))],fun b p=> [],fun p=>T.length - p.1.1,true⟩,⟨⟨(0,0),by omega,by omega,rfl,by simp⟩, ?_⟩, ?_⟩
 · cbv
   subst hA
   simp [-List.getD_eq_getElem?_getD,sS]
 · rintro ⟨⟨i,q⟩,hx⟩
   have hi:i<=T.length:=hx.1
   have h20:i<=20:=hx.2.1
   have hq:q=cnt (T.take i):=hx.2.2.1
   have hz: ∀ j,j<i->shL (T.getD j [])=true:=hx.2.2.2
   have hTl:=hTi i
   have hq2:=Hc hi hz
   rw [<-hq] at hq2
   obtain ⟨L,hL⟩: ∃ L,L=T.getD i [] :=⟨_,rfl⟩
   have hgL:T.getD i [] =L:=hL.symm
   rw [hgL] at hTl
   rcases Nat.lt_or_ge i T.length with hlt|hge
   · have hno:=fun h=>Qs (T:=T) hlt (h:shL (T.getD i [])=false)
     rw [hgL] at hno
     have h1:=nE T hlt
     obtain ⟨i',hi'⟩: ∃ i',i'=i+1:=⟨_,rfl⟩
     obtain ⟨q',hq'⟩: ∃ q',q'=cnt (T.take i'):=⟨_,rfl⟩
     rw [<-hi',<-hq,<-hq',hgL] at h1
     cbv
     repeat' (first| (with_reducible first|exact vT|exact vD hA|exact vE hA|refine vA ?_ ?_) | (intro hc;cbv))
     all_goals first
      | (fail_if_success (refine Exists.intro ?_ ?_)
         clear hz hx
         subst hA
         simp only [sS,iNE,aY,bh,bg,aT] at*
         simp only [hgL] at*
         first
          |done
          |omega
          | (intros;omega)
          | (constructor<;>omega)
          |exact ⟨trivial,hTl⟩
          |exact fun h=>h
          |exact fun h=>⟨h,h⟩
          |exact fun h=>by rw [h];rfl
          |exact (hno (l8 hc)).symm
          | (have hb: ¬T.length<=20:=by
              simp at hc
              omega
             rw [Od hb]
             simp at hc ⊢
             omega))
      | (obtain ⟨h2,h3⟩:shL L=true∧i<20:=by
          clear hz hno hx
          subst hA
          simp only [sS,iNE,aY,bh,bg,aT] at*
          simp only [hgL] at*
          rename_i hc0
          refine ⟨jh hc, ?_⟩
          simp at hc0
          omega
         have h4:=(mB.1 h2).1
         refine ⟨⟨(i',q'),by omega,by omega,hq',fun j hj=> ?_⟩, ?_,show T.length - i'<T.length - i by omega⟩
         · rcases Nat.lt_or_ge j i with h|h
           · exact hz j h
           · obtain rfl:j=i:=by omega
             rw [hgL];exact h2
         · cbv
           subst hA
           simp [-List.getD_eq_getElem?_getD,sS,hgL]
           exact ⟨by rw [w64 (by omega)];omega,cC hi' (by omega)⟩)
   · have hie:i=T.length:=by omega
     rw [hie,List.take_length] at hq
     have hall:=Oc fun j hj=>hz j (by omega)
     cbv
     repeat' (first| (with_reducible first|exact vT|exact vD hA|exact vE hA|refine vA ?_ ?_) | (intro hc;cbv))
     all_goals first
      | (exfalso;clear hz hall hx;subst hA;simp [-List.getD_eq_getElem?_getD,sS] at hc;omega)
      | (exfalso;clear hz hall hx;subst hA;rename_i q0;simp [-List.getD_eq_getElem?_getD,sS] at q0;omega)
      | (clear hz hx
         subst hA
         simp only [sS,iNE,aY,bh,bg,aT] at*
         first
          |done
          |omega
          | (intros;omega)
          |exact fun h=>h
          |exact fun h=>⟨h,h⟩
          |exact fun h=>by rw [h];rfl
          | (unfold tSh
             rw [hall,hq,Bool.eq_iff_iff]
             simp
             omega))
noncomputable def nH:Ct:=fun A args=>match args with
 | [.agg [.int .i64 m, .slc n 1 f]] =>some (some (A.tp fun _=>ai eEs [] 1 n f∧n<=9223372036854775807∧ ∀ i,((ab eEs [] 1 n f).getD i []).length<=9223372036854775807), .bool (A.tb fun _=>tSh (ab eEs [] 1 n f)))
 |_=>none
theorem Ev(m m':Int)(T T':Tbl)(hQ:tbQ T):GFn 34 (fun A=> [.agg [.int .i64 m,aF eEs [] 1 A fun _=>T], .agg [.int .i64 m',aF eEs [] 1 A fun _=>T']]) (fun A=> .bool (A.tb fun _=>decide (m=m'∧T=T'))):=by
 refine aC y9 ar ak Tryz.func34 (.one) fun A hA=> ?_
 cbv
 repeat' (first| (with_reducible first|exact vT|exact vD hA|exact vE hA|refine vA ?_ ?_) | (intro hc;cbv))
 rotate_right
 all_goals first
  | (fail_if_success (refine Exists.intro ?_ ?_)
     subst hA
     simp only [sS,iNE,aY,bh,bg,aT] at*
     first
      |done
      |exact fun h=>h
        |exact fun h=>⟨h,h⟩
      |exact fun h=>by rw [h];rfl
      | (symm
         rw [decide_eq_false_iff_not]
         rintro ⟨e1,e2⟩
         subst e1 e2
         simp at hc
         done))
  |skip
 obtain ⟨hm,hl⟩:m=m'∧T.length=T'.length:=by
  subst hA
  simp only [sS,iNE,aY,bh,bg,aT] at*
  simp at hc
  exact ⟨hc.1,by omega⟩
 refine ⟨⟨{i:Nat // i<=T.length∧T.take i=T'.take i},fun b i=> [(5, .int .i64 (i.1:Nat))],fun b i=> [],fun i=>T.length - i.1,true⟩,⟨⟨0,by omega,rfl⟩, ?_⟩, ?_⟩
 · cbv
   subst hA
   simp [-List.getD_eq_getElem?_getD,sS]
 · rintro ⟨i,hx⟩
   have hi:i<=T.length:=hx.1
   have hz:T.take i=T'.take i:=hx.2
   have hT:=hQ.1
   have hTl:=hQ.2.1 i
   obtain ⟨L,hL⟩: ∃ L,L=T.getD i [] :=⟨_,rfl⟩
   have hgL:T.getD i [] =L:=hL.symm
   obtain ⟨M,hM⟩: ∃ M,M=T'.getD i [] :=⟨_,rfl⟩
   have hgM:T'.getD i [] =M:=hM.symm
   rw [hgL] at hTl
   have hne: ¬L=M-> ¬T=T':=fun hn e=>hn (by rw [hL,hM,e])
   rcases Nat.lt_or_ge i T.length with hlt|hge
   · obtain ⟨i',hi'⟩: ∃ i',i'=i+1:=⟨_,rfl⟩
     cbv
     repeat' (first| (with_reducible first|exact vT|exact vD hA|exact vE hA|refine vA ?_ ?_) | (intro hc;cbv))
     all_goals first
      | (fail_if_success (refine Exists.intro ?_ ?_)
         clear hz hx
         subst hA
         simp only [sS,iNE,aY,bh,bg,aT] at*
         simp only [hgL,hgM] at*
         first
          |done
          | (constructor<;>omega)
          |exact ⟨⟨trivial,trivial⟩,hTl⟩
          | (exfalso;have:=of_decide_eq_false hc;omega)
          | (symm
             rw [decide_eq_false_iff_not]
             rintro ⟨e1,e2⟩
             exact hne (of_decide_eq_false (l8 hc)) e2))
      | (have h2:L=M:=by
          clear hz hx hne
          subst hA
          simp only [sS,iNE,aY,bh,bg,aT] at*
          simp only [hgL,hgM] at*
          exact of_decide_eq_true (jh hc)
         refine ⟨⟨i',by omega, ?_⟩, ?_,show T.length - i'<T.length - i by omega⟩
         · rw [hi',<-bk (d:= []) hlt,<-bk (d:= []) (show i<T'.length by omega),hz,hgL,hgM,h2]
         · cbv
           subst hA
           simp [-List.getD_eq_getElem?_getD,sS]
           exact cC hi' (by omega))
   · have hie:i=T.length:=by omega
     rw [hie,List.take_length,hl,List.take_length] at hz
     cbv
     repeat' (first| (with_reducible first|exact vT|exact vD hA|exact vE hA|refine vA ?_ ?_) | (intro hc;cbv))
     all_goals first
      | (exfalso;clear hz hx hne;subst hA;simp [-List.getD_eq_getElem?_getD,sS] at hc;omega)
      | (exfalso;clear hz hx hne;subst hA;rename_i q0;simp [-List.getD_eq_getElem?_getD,sS] at q0;omega)
      | (clear hx
         subst hA
         simp only [sS,iNE,aY,bh,bg,aT] at*
         exact (decide_eq_true ⟨hm,hz⟩).symm)
noncomputable def qa:Ct:=fun A args=>match args with
 | [.agg [.int .i64 m, .slc n 1 f], .agg [.int .i64 m', .slc n' 1 f']] =>some (some (A.tp fun _=>(ai eEs [] 1 n f∧ai eEs [] 1 n' f')∧tbQ (ab eEs [] 1 n f)), .bool (A.tb fun _=>decide (m=m'∧ab eEs [] 1 n f=ab eEs [] 1 n' f')))
 |_=>none
noncomputable def gv9:Ar->Pu:=aq 30 nH (aq 34 qa (gv8))
theorem Hd:az Tryz.prog gl0 (gv9 std):=by
 refine ao (ao (zw) ⟨_,Tryz.func34,rfl,by decide⟩ ?_) ⟨_,Tryz.func30,rfl,by decide⟩ ?_
 · intro args p r h hp
   unfold qa at h
   split at h<;>cases h
   exact aJ (Ev _ _ _ _ hp.2) ⟨⟨_,rfl,rfl,hp.1.1.sv,trivial⟩,⟨_,rfl,rfl,hp.1.2.sv,trivial⟩,trivial⟩
 · intro args p r h hp
   unfold nH at h
   split at h<;>cases h
   exact aJ (Bu _ _ (by rw [aN hp.1];exact hp.2.1) hp.2.2) ⟨⟨_,rfl,rfl,hp.1.sv,trivial⟩,trivial⟩
end Go.Vd
set_option maxHeartbeats 4000000
namespace Go.Vd
open Go.Proofs
structure Tm where
 s:Int
 r:List UInt8
 u:Int
 deriving DecidableEq
def T0:Tm:=⟨0, [],0⟩
abbrev Sl:=List (List Tm)
def eT:En Tm:=fun A x=> [.int .u32 (A.ti fun _=>(x ()).s), .str (A.ts fun _=>(x ()).r), .int .u64 (A.ti fun _=>(x ()).u)]
theorem He:Inj eT 3:=fun x y h=>by
 obtain ⟨s0,a0,b0⟩:=h 0 (by omega)
 obtain ⟨s1,a1,b1⟩:=h 1 (by omega)
 obtain ⟨s2,a2,b2⟩:=h 2 (by omega)
 have a0:Ceq s0 (.int .u32 x.s):=a0
 have b0:Ceq s0 (.int .u32 y.s):=b0
 have a1:Ceq s1 (.str x.r):=a1
 have b1:Ceq s1 (.str y.r):=b1
 have a2:Ceq s2 (.int .u64 x.u):=a2
 have b2:Ceq s2 (.int .u64 y.u):=b2
 rw [Ceq.int] at a0 b0 a2 b2
 rw [Ceq.str] at a1 b1
 subst a0 a1 a2
 cases x
 cases y
 simp at b0 b1 b2
 simp only [Tm.mk.injEq]
 exact ⟨b0,b1,b2⟩
theorem Oe(e:Tm): ∀ j,j<3->Ceq (ap [SV.int .u32 e.s,SV.str e.r,SV.int .u64 e.u] j) (ap (eT std fun _=>e) j):=by
 intro j hj
 rcases (show j=0∨j=1∨j=2 by omega) with rfl|rfl|rfl<;>exact .refl _
theorem cd(L:List Tm):ab eT T0 3 L.length (ax eT { s:=0,r:= [],u:=0 } std fun _=>L)=L:=eA He L
theorem fd(L:List Tm):ai eT T0 3 L.length (ax eT { s:=0,r:= [],u:=0 } std fun _=>L):=f9 L
def eTs:En (List Tm):=fun A b=> [aF eT T0 3 A b]
theorem CK:Inj eTs 1:=fun x y h=>by
 obtain ⟨s,h1,h2⟩:=h 0 (by omega)
 exact He.row (d:=T0) h1 h2
theorem Of(T:Sl):ab eTs [] 1 T.length (ax eTs [] std fun _=>T)=T:=eA CK T
theorem Og(T:Sl):ai eTs [] 1 T.length (ax eTs [] std fun _=>T):=f9 T
theorem ah{T:Sl}(h:T.length=64):ab eTs [] 1 64 (ax eTs [] std fun _=>T)=T:=by rw [<-h];exact Of T
theorem ay{T:Sl}(h:T.length=64):ai eTs [] 1 64 (ax eTs [] std fun _=>T):=by rw [<-h];exact Og T
def tmS (A:Ar)(t:Tm):SV:= .agg [.int .u32 t.s, .str t.r, .int .u64 t.u]
def whS (A:Ar)(n m:Int)(I O:Sl):SV:= .agg [.int .u64 n, .int .i64 m, .run 64 (ax eTs [] A fun _=>I), .run 64 (ax eTs [] A fun _=>O)]
attribute [local irreducible] vc
theorem Ew(a:Int):GFn 182 (fun A=> [.int .u64 a]) (fun A=> .bool false):=by
 refine aC aP ar ak Tryz.func182 (.one) fun A hA=> ?_
 cbv
 repeat' (first| (with_reducible first|exact vT|exact vD hA|exact vE hA|refine vA ?_ ?_) | (intro hc;cbv))
 all_goals (subst hA;simp [-List.getD_eq_getElem?_getD,sS])
noncomputable def CL:Ct:=fun A args=>match args with
 | [.int .u64 a] =>some (none, .bool false)
 |_=>none
noncomputable def gw1:Ar->Pu:=aq 182 CL (gk8)
theorem Hf:az Tryz.prog gl0 (gw1 std):=by
 refine ao (mz) ⟨_,Tryz.func182,rfl,by decide⟩ ?_
 · intro args p r h hp
   unfold CL at h
   split at h<;>cases h
   exact Ew _
theorem Ex(a b:Int):GFn 128 (fun A=> [.int .u64 a, .int .u64 b]) (fun A=> .int .i64 (A.ti fun _=>cr a b)):=by
 refine aC Hf ar ak Tryz.func128 (.one) fun A hA=> ?_
 cbv
 repeat' (first| (with_reducible first|exact vT|exact vD hA|exact vE hA|refine vA ?_ ?_) | (intro hc;cbv))
 all_goals (subst hA;simp [sS] at*)
 all_goals (unfold cr)
 all_goals first
  | (rw [if_pos (by assumption)];done)
  | (rw [if_neg (by omega),if_pos (by omega)];done)
  | (rw [if_neg (by omega),if_neg (by omega)];done)
noncomputable def CM:Ct:=fun A args=>match args with
 | [.int .u64 a, .int .u64 b] =>some (none, .int .i64 (A.ti fun _=>cr a b))
 |_=>none
noncomputable def gw2:Ar->Pu:=aq 128 CM (gw1)
theorem Qt:az Tryz.prog gl0 (gw2 std):=by
 refine ao (Hf) ⟨_,Tryz.func128,rfl,by decide⟩ ?_
 · intro args p r h hp
   unfold CM at h
   split at h<;>cases h
   exact Ex _ _
theorem Hg(s t:Int)(r q:List UInt8):GFn 99 (fun A=> [gY A s r,gY A t q]) (fun A=> .int .i64 (A.ti fun _=>c8 s r t q)):=by
 refine aC aP ar ak Tryz.func99 (.one) fun A hA=> ?_
 cbv
 repeat' (first| (with_reducible first|exact vT|exact vD hA|exact vE hA|refine vA ?_ ?_) | (intro hc;cbv))
 all_goals (subst hA;simp [sS,ga] at*)
 all_goals first
  |omega
  | (rw [gA,if_pos (by assumption)];done)
  | (rw [gA,if_neg (fun h=>(by assumption:s=t-> ¬r=q) h.1 h.2),if_pos hc];done)
  | (rw [gA,if_neg (fun h=>(by assumption:s=t-> ¬r=q) h.1 h.2),if_pos (by rcases Int.lt_or_le s t with h|h;(exact .inl h);exact .inr (hc h))];done)
  | (rw [gA,if_neg (fun h=>(by assumption:s=t-> ¬r=q) h.1 h.2),if_neg (by rintro (h|h);(exact absurd h (by omega));exact hc.2 h.1 h.2)];done)
theorem Hh(s:Int)(r:List UInt8):GFn 80 (fun A=> [gY A s r]) (fun A=> .bool (A.tb fun _=>decide (r.length<=300))):=by
 refine aC aP ar ak Tryz.func80 (.one) fun A hA=> ?_
 cbv
 repeat' (first| (with_reducible first|exact vT|exact vD hA|exact vE hA|refine vA ?_ ?_) | (intro hc;cbv))
 all_goals (subst hA;simp [sS] at*)
 all_goals omega
noncomputable def Hi:Ct:=fun A args=>match args with
 | [.agg [.int .u32 s, .str r], .agg [.int .u32 t, .str q]] =>some (none, .int .i64 (A.ti fun _=>c8 s r t q))
 |_=>none
noncomputable def Hj:Ct:=fun A args=>match args with
 | [.agg [.int .u32 s, .str r]] =>some (none, .bool (A.tb fun _=>decide (r.length<=300)))
 |_=>none
noncomputable def gw3:Ar->Pu:=aq 99 Hi (aq 80 Hj (gw2))
theorem zx:az Tryz.prog gl0 (gw3 std):=by
 refine ao (ao (Qt) ⟨_,Tryz.func80,rfl,by decide⟩ ?_) ⟨_,Tryz.func99,rfl,by decide⟩ ?_
 · intro args p r h hp
   unfold Hj at h
   split at h<;>cases h
   exact Hh _ _
 · intro args p r h hp
   unfold Hi at h
   split at h<;>cases h
   exact Hg _ _ _ _
def cx (a b:Tm):Int:=if cr a.u b.u=0 then c8 a.s a.r b.s b.r else cr a.u b.u
theorem CN(a b:Tm):orL [cr a.u b.u,c8 a.s a.r b.s b.r] =cx a b:=by
 simp only [orL,cx]
 split
 · split
   · rename_i h;exact h.symm
   · rfl
 · rfl
theorem Bv(a b:Tm):GFn 77 (fun A=> [tmS A a,tmS A b]) (fun A=> .int .i64 (A.ti fun _=>cx a b)):=by
 refine aC zx ar ak Tryz.func77 (.one) fun A hA=> ?_
 cbv
 repeat' (first| (with_reducible first|exact vT|exact vD hA|exact vE hA|refine vA ?_ ?_) | (intro hc;cbv))
 all_goals (subst hA;simp only [sS])
 · exact ⟨⟨_,q2 _ _⟩,by omega⟩
 · rw [kX yg (q2 _ _),CN]
def iR (a b:Tm):Bool:=decide (cx a b<0)
theorem zy(a b:Tm):iR a b=decide (a.u<b.u∨a.u=b.u∧c8 a.s a.r b.s b.r<0):=by
 unfold iR cx
 congr 1
 rw [eq_iff_iff]
 by_cases h:cr a.u b.u=0
 · rw [if_pos h]
   have:a.u=b.u:=by unfold cr at h;split at h;omega;split at h<;>omega
   constructor
   · intro h2;exact .inr ⟨this,h2⟩
   · rintro (h2|h2);omega;exact h2.2
 · rw [if_neg h]
   unfold cr at h ⊢
   constructor
   · intro h2;split at h2;(rename_i h3;exact .inl h3);split at h2<;>omega
   · rintro (h2|h2)
     · rw [if_pos h2];omega
     · rw [if_neg (by omega),if_neg (by omega)] at h;omega
theorem Kj(a b:Tm):(bif decide (a.u<b.u) then true else bif a.u==b.u then decide (c8 a.s a.r b.s b.r<0) else false)=decide (a.u<b.u∨a.u=b.u∧c8 a.s a.r b.s b.r<0):=by
 by_cases h1:a.u<b.u
 · simp [h1]
 · by_cases h2:a.u=b.u
   · simp [h2]
   · simp [h1,h2]
theorem Ey(a b:Tm):GFn 153 (fun A=> [tmS A a,tmS A b]) (fun A=> .bool (A.tb fun _=>iR a b)):=by
 refine aC zx ar ak Tryz.func153 (.one) fun A hA=> ?_
 cbv
 repeat' (first| (with_reducible first|exact vT|exact vD hA|exact vE hA|refine vA ?_ ?_) | (intro hc;cbv))
 all_goals (subst hA;simp only [sS,zy] at*)
 all_goals first
  | (simp;done)
  |exact Kj a b
  | (simp at*;omega)
noncomputable def zA:Ct:=fun A args=>match args with
 | [.agg [.int .u32 s, .str r, .int .u64 u], .agg [.int .u32 s', .str r', .int .u64 u']] =>some (none, .int .i64 (A.ti fun _=>cx ⟨s,r,u⟩ ⟨s',r',u'⟩))
 |_=>none
noncomputable def CO:Ct:=fun A args=>match args with
 | [.agg [.int .u32 s, .str r, .int .u64 u], .agg [.int .u32 s', .str r', .int .u64 u']] =>some (none, .bool (A.tb fun _=>iR ⟨s,r,u⟩ ⟨s',r',u'⟩))
 |_=>none
noncomputable def gw4:Ar->Pu:=aq 77 zA (aq 153 CO (gw3))
theorem Qu:az Tryz.prog gl0 (gw4 std):=by
 refine ao (ao (zx) ⟨_,Tryz.func153,rfl,by decide⟩ ?_) ⟨_,Tryz.func77,rfl,by decide⟩ ?_
 · intro args p r h hp
   unfold CO at h
   split at h<;>cases h
   exact Ey ⟨_,_,_⟩ ⟨_,_,_⟩
 · intro args p r h hp
   unfold zA at h
   split at h<;>cases h
   exact Bv ⟨_,_,_⟩ ⟨_,_,_⟩
end Go.Vd
namespace Go.Vd
open Ieee
variable {V:Nat} {n:Int}
theorem pd(h:V≠0)(e:Nat):(V*2 ^ e).log2=V.log2+e:=by
 have hp:0<2 ^ e:=Nat.two_pow_pos e
 have hne:V*2 ^ e≠0:=Nat.mul_ne_zero h (by omega)
 rw [Nat.log2_eq_iff hne]
 have h1:=Nat.log2_self_le h
 have h2:= @Nat.lt_log2_self V
 refine ⟨by rw [Nat.pow_add];exact Nat.mul_le_mul_right _ h1, ?_⟩
 rw [show V.log2+e+1=(V.log2+1)+e by omega,Nat.pow_add]
 exact Nat.mul_lt_mul_of_pos_right h2 hp
theorem pe(way:Toward)(neg:Bool)(n d:Nat):way.cut neg (n*2 ^ d) d=n:=by
 unfold Toward.cut
 rcases Nat.eq_zero_or_pos n with rfl|hn
 · simp
   cases way<;>simp
 · have hl:(n*2 ^ d).log2=n.log2+d:=pd (by omega) d
   have hm:min d ((n*2 ^ d).log2+2)=d:=by rw [hl];omega
   have hp:0<2 ^ d:=Nat.two_pow_pos d
   simp only [hm,Nat.one_shiftLeft,Nat.mul_div_cancel _ hp,Nat.mul_mod_left]
   cases way<;>simp<;>omega
theorem Kk(way:Toward)(neg:Bool)(n:Nat):way.cut neg n 0=n:=by
 have:=pe way neg n 0
 simpa using this
def eG (V:Nat):Nat:=(V.log2+1022)*4503599627370496+V*2 ^(52 - V.log2)
theorem vd(h0:V≠0)(hV:V<9007199254740992):V.log2<=52:=by
 have:V.log2<53:=(Nat.log2_lt h0).2 (by simpa using hV)
 omega
theorem CP(h0:V≠0)(hV:V<9007199254740992):4503599627370496<=V*2 ^(52 - V.log2)∧V*2 ^(52 - V.log2)<9007199254740992:=by
 have hl:=vd h0 hV
 have h1:=Nat.log2_self_le h0
 have h2:= @Nat.lt_log2_self V
 constructor
 · have:=Nat.mul_le_mul_right (2 ^(52 - V.log2)) h1
   rw [<-Nat.pow_add,show V.log2+(52 - V.log2)=52 by omega] at this
   simpa using this
 · have:=Nat.mul_lt_mul_of_pos_right h2 (Nat.two_pow_pos (52 - V.log2))
   rw [<-Nat.pow_add,show V.log2+1+(52 - V.log2)=53 by omega] at this
   simpa using this
theorem wQ(s:Bool)(h0:V≠0)(hV:V<9007199254740992)(e:Nat):double.nearest s (V*2 ^ e) (-(e:Int))=double.word s (eG V):=by
 have hl:=vd h0 hV
 obtain ⟨k1,k2⟩:=CP h0 hV
 have hne:V*2 ^ e≠0:=Nat.mul_ne_zero h0 (by have:=Nat.two_pow_pos e;omega)
 have hfb:double.fractionBits=52:=rfl
 have hlp:double.leastPlace= -1074:=by rfl
 have hbin:double.binade=4503599627370496:=by rfl
 have hinf:double.infRung=9218868437227405312:=by rfl
 have hlast:max (-(e:Int)+((V*2 ^ e).log2:Nat) - (double.fractionBits:Nat)) double.leastPlace=(V.log2:Int) - 52:=by
  rw [pd h0,hfb,hlp];omega
 unfold Format.nearest
 rw [if_neg hne]
 simp only [hlast]
 have hkept:Toward.even.cut s ((V*2 ^ e)<<<(-(e:Int) - ((V.log2:Int) - 52)).toNat) (((V.log2:Int) - 52) - -(e:Int)).toNat=V*2 ^(52 - V.log2):=by
  rcases Nat.lt_or_ge (52 - V.log2) e with hc|hc
  · have e1:(-(e:Int) - ((V.log2:Int) - 52)).toNat=0:=by omega
    have e2:(((V.log2:Int) - 52) - -(e:Int)).toNat=e - (52 - V.log2):=by omega
    rw [e1,e2,Nat.shiftLeft_zero]
    have e3:V*2 ^ e=(V*2 ^(52 - V.log2))*2 ^(e - (52 - V.log2)):=by
     rw [Nat.mul_assoc,<-Nat.pow_add,show 52 - V.log2+(e - (52 - V.log2))=e by omega]
    rw [e3,pe]
  · have e1:(-(e:Int) - ((V.log2:Int) - 52)).toNat=52 - V.log2 - e:=by omega
    have e2:(((V.log2:Int) - 52) - -(e:Int)).toNat=0:=by omega
    rw [e1,e2,Kk,Nat.shiftLeft_eq,Nat.mul_assoc,<-Nat.pow_add,show e+(52 - V.log2 - e)=52 - V.log2 by omega]
 rw [hkept,hlp,hbin,hinf]
 have e4:((V.log2:Int) - 52 - -1074).toNat=V.log2+1022:=by omega
 rw [e4]
 have e5:min ((V.log2+1022)*4503599627370496+V*2 ^(52 - V.log2)) 9218868437227405312=eG V:=by
  unfold eG
  generalize V*2 ^(52 - V.log2)=K at k1 k2 ⊢
  clear hkept hlast hne
  generalize V.log2=l at hl ⊢
  clear hlp hbin hinf
  omega
 rw [e5]
theorem Hk(s:Bool)(h0:V≠0)(hV:V<9007199254740992):double.read (double.word s (eG V))= .number s (V*2 ^(52 - V.log2)) (-((52 - V.log2:Nat):Int)):=by
 have hl:=vd h0 hV
 obtain ⟨k1,k2⟩:=CP h0 hV
 have hlp:double.leastPlace= -1074:=by rfl
 have hbin:double.binade=4503599627370496:=by rfl
 have hinf:double.infRung=9218868437227405312:=by rfl
 have hsw:double.signWeight=9223372036854775808:=by rfl
 have hr:eG V<9218868437227405312∧4503599627370496<=eG V:=by
  unfold eG
  generalize V*2 ^(52 - V.log2)=K at k1 k2 ⊢
  generalize V.log2=l at hl ⊢
  clear hlp hbin hinf hsw
  omega
 have hr0:eG V<9223372036854775808:=Nat.lt_trans hr.1 (by decide)
 have hneg:(double.word s (eG V) / double.signWeight % 2==1)=s:=by
  unfold Format.word
  rw [hsw]
  cases s
  · simp [Nat.div_eq_of_lt hr0]
  · simp only [if_true]
    rw [Nat.add_div_left _ (by decide:0<9223372036854775808),Nat.div_eq_of_lt hr0]
    rfl
 have hrung:double.word s (eG V) % double.signWeight=eG V:=by
  unfold Format.word
  rw [hsw]
  cases s
  · simp [Nat.mod_eq_of_lt hr0]
  · simp only [if_true]
    rw [Nat.add_mod_left,Nat.mod_eq_of_lt hr0]
 unfold Format.read
 simp only [hneg,hrung]
 rw [if_neg (by rw [hbin];exact Nat.not_lt.2 hr.2),if_pos (by rw [hinf];exact hr.1),hbin,hlp]
 obtain ⟨K,hK⟩: ∃ K,K=V*2 ^(52 - V.log2):=⟨_,rfl⟩
 have hru:eG V / 4503599627370496=V.log2+1023∧eG V % 4503599627370496=K - 4503599627370496:=by
  unfold eG
  rw [<-hK] at k1 k2 ⊢
  clear hneg hrung hr hr0 hlp hbin hinf hsw hK
  generalize V.log2=l at hl ⊢
  omega
 rw [hru.1,hru.2,<-hK]
 rw [<-hK] at k1
 have q1:4503599627370496+(K - 4503599627370496)=K:=by omega
 have q2:(-1074:Int)+((V.log2+1023 - 1:Nat):Int)= -((52 - V.log2:Nat):Int):=by omega
 rw [q1,q2]
def pw (e:Nat):Int:=Int.ofNat (2 ^ e)
def isZ (x:Nat)(n:Int):Prop:= ∃(s:Bool) (e:Nat),double.read x= .number s (n.natAbs*2 ^ e) (-(e:Int))∧(n<0->s=true)∧(0<n->s=false)
theorem Hl(s:Bool):double.read (double.word s 0)= .number s 0 (-1074):=by cases s<;>decide
theorem Hm(s:Bool)(hn:n.natAbs<9007199254740992)(e:Nat)(h1:n<0->s=true)(h2:0<n->s=false):isZ (double.write (.number s (n.natAbs*2 ^ e) (-(e:Int)))) n:=by
 unfold Format.write
 simp only
 rcases Nat.eq_zero_or_pos n.natAbs with h0|h0
 · rw [h0,Nat.zero_mul]
   obtain ⟨k,hk⟩: ∃ k:Nat,k=1074:=⟨_,rfl⟩
   refine ⟨s,k, ?_,h1,h2⟩
   unfold Format.nearest
   rw [if_pos rfl,Hl,h0,Nat.zero_mul,hk]
   rfl
 · rw [wQ s (by omega) hn]
   exact ⟨s,_,Hk s (by omega) hn,h1,h2⟩
theorem Ez{s:Bool}{e u:Nat}(h1:n<0->s=true)(h2:0<n->s=false):signed s (n.natAbs*2 ^ e) u=n*pw (e+u):=by
 have key:((n.natAbs*2 ^ e)<<<u:Nat)=n.natAbs*2 ^(e+u):=by rw [Nat.shiftLeft_eq,Nat.mul_assoc,<-Nat.pow_add]
 unfold signed
 rw [key,Int.natCast_mul]
 have hq:((2 ^(e+u):Nat):Int)=pw (e+u):=rfl
 rw [hq]
 rcases Int.lt_trichotomy n 0 with hn|hn|hn
 · rw [h1 hn,if_pos rfl,<-Int.neg_mul,show -((n.natAbs:Nat):Int)=n by omega]
 · subst hn;cases s<;>simp
 · rw [h2 hn,if_neg (by simp),show ((n.natAbs:Nat):Int)=n by omega]
theorem CQ(hn:n.natAbs<9007199254740992):isZ (FloatKind.f64.nearest n) n:=by
 have:=Hm (decide (n<0)) hn 0 (fun h=>decide_eq_true h) (fun h=>decide_eq_false (by omega))
 simpa [FloatKind.nearest,FloatKind.encode,FloatKind.format] using this
theorem wq{x:Nat}(hx:isZ x n):(FloatKind.f64.decode x).toInt .zero=some n:=by
 obtain ⟨s,e,r1,h1,h2⟩:=hx
 have:FloatKind.f64.decode x= .number s (n.natAbs*2 ^ e) (-(e:Int)):=r1
 rw [this]
 unfold Datum.toInt Datum.integral
 have e1:(-(e:Int)).toNat=0:=by omega
 have e2:(- -(e:Int)).toNat=e:=by omega
 simp only [e1,e2,Nat.shiftLeft_zero,pe]
 have:=Ez (s:=s) (e:=0) (u:=0) h1 h2
 rw [Nat.pow_zero,Nat.mul_one,show pw (0+0)=1 from rfl,Int.mul_one] at this
 rw [this]
end Go.Vd
namespace Go.Vd
open Ieee
end Go.Vd
namespace Go.Vd
open Go.Proofs Ieee
variable {t n i:Int} {r:SV}
theorem wu{P:Program}{gl:Nat->SV}{f:FuncId}{k o:Nat}{l rest:List SV}(h:cS P gl f (.agg (.any::l)::rest) r):cS P gl f (.agg (.ptr k o::l)::rest) r:=by
 intro w ρ rw N vs hfr hrw hg ha
 refine h w ρ rw N vs hfr hrw hg ?_
 match vs,ha with
 |v::vs,⟨h1,h2⟩=>
  refine ⟨?_,h2⟩
  cases h1 with
  |agg cs _ hl hone hh hm=>
   refine .agg cs _ hl hone (fun i v s hv hs=> ?_) fun s hs hr=> ?_
   · cases i with
     |zero=>cases hs;exact .any _
     |succ i=>exact hh (i+1) v s hv hs
   · rcases List.mem_cons.1 hs with rfl|hs
     · cases hr
     · exact hm s (List.mem_cons_of_mem _ hs) hr
attribute [local irreducible] vc
theorem EA(a b:Nat):GFn 171 (fun A=> [.cpx a b]) (fun A=> .flt (A.tn fun _=>b)):=by
 refine aC aP ar ak Tryz.func171 (.one) fun A hA=> ?_
 cbv
 repeat' (first| (with_reducible first|exact vT|exact vD hA|exact vE hA|refine vA ?_ ?_) | (intro hc;cbv))
 all_goals (subst hA;simp only [sS])
theorem Hn(a b:Nat):GFn 172 (fun A=> [.cpx a b]) (fun A=> .flt (A.tn fun _=>a)):=by
 refine aC aP ar ak Tryz.func172 (.one) fun A hA=> ?_
 cbv
 repeat' (first| (with_reducible first|exact vT|exact vD hA|exact vE hA|refine vA ?_ ?_) | (intro hc;cbv))
 all_goals (subst hA;simp only [sS])
def ofR (t:Int):Nat:=FloatKind.f64.nearest (t / 64 % 64)
def ofI (t:Int):Nat:=FloatKind.f64.nearest (t % 64)
theorem wU{n:Int}(h:0<=n∧n<18446744073709551616):IntKind.u64.wrap n=n:=by rw [IntKind.wrap_u64];omega
theorem Kl(t:Int)(h0:0<=t∧t<18446744073709551616):GFn 213 (fun A=> [.int .u64 t]) (fun A=> .cpx (A.tn fun _=>ofR t) (A.tn fun _=>ofI t)):=by
 refine aC aP ar ak Tryz.func213 (.one) fun A hA=> ?_
 cbv
 repeat' (first| (with_reducible first|exact vT|exact vD hA|exact vE hA|refine vA ?_ ?_) | (intro hc;cbv))
 all_goals (subst hA;simp only [sS] at*)
 all_goals first
  |decide
  | (unfold ofR;congr 1;rw [Int.tdiv_eq_ediv_of_nonneg h0.1,wU (by omega),Int.tmod_eq_emod_of_nonneg (by omega)])
  | (unfold ofI;congr 1;rw [Int.tmod_eq_emod_of_nonneg h0.1])
noncomputable def CS:Ct:=fun A args=>match args with
 | [.cpx a b] =>some (none, .flt (A.tn fun _=>b))
 |_=>none
noncomputable def Ho:Ct:=fun A args=>match args with
 | [.cpx a b] =>some (none, .flt (A.tn fun _=>a))
 |_=>none
noncomputable def LU:Ct:=fun A args=>match args with
 | [.int .u64 t] =>some (some (A.tp fun _=>0<=t∧t<18446744073709551616), .cpx (A.tn fun _=>ofR t) (A.tn fun _=>ofI t))
 |_=>none
noncomputable def gw5:Ar->Pu:=aq 171 CS (aq 172 Ho (aq 213 LU (gw4)))
theorem zB:az Tryz.prog gl0 (gw5 std):=by
 refine ao (ao (ao (Qu) ⟨_,Tryz.func213,rfl,by decide⟩ ?_) ⟨_,Tryz.func172,rfl,by decide⟩ ?_) ⟨_,Tryz.func171,rfl,by decide⟩ ?_
 · intro args p r h hp
   unfold LU at h
   split at h<;>cases h
   exact Kl _ hp
 · intro args p r h hp
   unfold Ho at h
   split at h<;>cases h
   exact Hn _ _
 · intro args p r h hp
   unfold CS at h
   split at h<;>cases h
   exact EA _ _
theorem Hp{x:Nat}{n:Int}(h:isZ x n):((FloatKind.f64.decode x).toInt .zero).getD 0=n:=by
 have h2:=wq h
 have h2:(FloatKind.f64.decode x).toInt .zero=some n:=h2
 rw [h2];rfl
theorem Hq{x:Nat}{n:Int}(h:isZ x n)(hb:0<=n∧n<64): ∃ n,(FloatKind.f64.decode x).toInt .zero=some n∧IntKind.i64.min<=n∧n<=IntKind.i64.max:=by
 refine ⟨n,wq h, ?_, ?_⟩
 · have:IntKind.i64.min= -9223372036854775808:=by decide
   omega
 · have:IntKind.i64.max=9223372036854775807:=by decide
   omega
theorem LV{t:Int}(h:0<=t):isZ (ofI t) (t % 64):=CQ (by omega)
theorem LW{t:Int}(h:0<=t):isZ (ofR t) (t / 64 % 64):=CQ (by omega)
theorem EB(a b t:Int)(h0:0<=t∧t<18446744073709551616):GFn 195 (fun A=> [.agg [.any, .clo 171 [], .int .u64 a, .int .u64 b], .int .u64 t]) (fun A=> .int .i64 (A.ti fun _=>t % 64)):=by
 refine aC zB ar ak Tryz.func195 (.one) fun A hA=> ?_
 cbv
 repeat' (first| (with_reducible first|exact vT|exact vD hA|exact vE hA|refine vA ?_ ?_) | (intro hc;cbv))
 all_goals (subst hA;simp only [sS] at*)
 all_goals first
  |exact h0
  |exact Hq (LV h0.1) (by omega)
  |exact Hp (LV h0.1)
theorem EC(a b t:Int)(h0:0<=t∧t<18446744073709551616):GFn 195 (fun A=> [.agg [.any, .clo 172 [], .int .u64 a, .int .u64 b], .int .u64 t]) (fun A=> .int .i64 (A.ti fun _=>t / 64 % 64)):=by
 refine aC zB ar ak Tryz.func195 (.one) fun A hA=> ?_
 cbv
 repeat' (first| (with_reducible first|exact vT|exact vD hA|exact vE hA|refine vA ?_ ?_) | (intro hc;cbv))
 all_goals (subst hA;simp only [sS] at*)
 all_goals first
  |exact h0
  |exact Hq (LW h0.1) (by omega)
  |exact Hp (LW h0.1)
def fz (q:Bool)(t:Int):Int:=if q=true then t % 64 else t / 64 % 64
def ve:SV->Bool
 | .ptr _ _=>true
 | .any=>true
 |_=>false
noncomputable def zC:Ct:=fun A args=>match args with
 | [.agg [x, .clo f [], .int .u64 a, .int .u64 b], .int .u64 t] =>bif ve x then (bif Nat.beq f 171 then some (some (A.tp fun _=>0<=t∧t<18446744073709551616), .int .i64 (A.ti fun _=>fz true t))
     else bif Nat.beq f 172 then some (some (A.tp fun _=>0<=t∧t<18446744073709551616), .int .i64 (A.ti fun _=>fz false t)) else none) else none
 |_=>none
theorem Bw{args:List SV}{p:Option Prop}(h:zC std args=some (p,r))(hp:aK p):cS Tryz.prog gl0 195 args r:=by
 unfold zC at h
 split at h
 · rename_i x f a b t
   cases hb:ve x<;>rw [hb] at h<;>simp only [cond_true,cond_false,reduceCtorEq] at h
   have key: ∀ {f':Nat} {r':SV},cS Tryz.prog gl0 195 [.agg [.any, .clo f' [], .int .u64 a, .int .u64 b], .int .u64 t] r'->cS Tryz.prog gl0 195 [.agg [x, .clo f' [], .int .u64 a, .int .u64 b], .int .u64 t] r':=fun hg=>by
    unfold ve at hb
    split at hb
    · exact wu hg
    · exact hg
    · cases hb
   cases hq:Nat.beq f 171<;>rw [hq] at h<;>simp only [cond_true,cond_false,reduceCtorEq] at h
   · cases hs:Nat.beq f 172<;>rw [hs] at h<;>simp only [cond_true,cond_false,reduceCtorEq,sIE,pIE] at h
     obtain ⟨rfl,rfl⟩:=h
     obtain rfl:=nQE hs
     exact key (EC _ _ _ hp)
   · simp only [sIE,pIE] at h
     obtain ⟨rfl,rfl⟩:=h
     obtain rfl:=nQE hq
     exact key (EB _ _ _ hp)
 · cases h
noncomputable def gw6:Ar->Pu:=aq 195 zC gw5
theorem Qv:az Tryz.prog gl0 (gw6 std):=ao zB ⟨_,Tryz.func195,rfl,by decide⟩ fun args p r h hp=>Bw h hp
theorem ED(n t:Int)(h:0<=n∧n<=t∧t<18446744073709551616):GFn 148 (fun A=> [.int .u64 n, .int .u64 t]) (fun A=> .int .u64 (A.ti fun _=>t / 64 - n / 64)):=by
 refine aC aP ar ak Tryz.func148 (.one) fun A hA=> ?_
 cbv
 repeat' (first| (with_reducible first|exact vT|exact vD hA|exact vE hA|refine vA ?_ ?_) | (intro hc;cbv))
 all_goals (subst hA;simp only [sS] at*)
 all_goals first
  |decide
  | (rw [Int.tdiv_eq_ediv_of_nonneg (by omega),Int.tdiv_eq_ediv_of_nonneg (by omega),wU (n:=t / 64) (by omega),wU (n:=n / 64) (by omega),wU (by omega)])
theorem EE(m:Int):GFn 82 (fun A=> [.int .i64 m]) (fun A=> .bool (A.tb fun _=>decide (0<=m∧m<=256))):=by
 refine aC aP ar ak Tryz.func82 (.one) fun A hA=> ?_
 cbv
 repeat' (first| (with_reducible first|exact vT|exact vD hA|exact vE hA|refine vA ?_ ?_) | (intro hc;cbv))
 all_goals (subst hA;simp only [sS] at*)
 all_goals first
  |exact id
  | (intro h;exact h)
  | (intro h;exact ⟨h,h⟩)
  | (by_cases h1:(0:Int)<=m<;>simp [h1])
noncomputable def CT:Ct:=fun A args=>match args with
 | [.int .u64 n, .int .u64 t] =>some (some (A.tp fun _=>0<=n∧n<=t∧t<18446744073709551616), .int .u64 (A.ti fun _=>t / 64 - n / 64))
 |_=>none
noncomputable def CU:Ct:=fun A args=>match args with
 | [.int .i64 m] =>some (none, .bool (A.tb fun _=>decide (0<=m∧m<=256)))
 |_=>none
noncomputable def gw7:Ar->Pu:=aq 148 CT (aq 82 CU (gw6))
theorem zD:az Tryz.prog gl0 (gw7 std):=by
 refine ao (ao (Qv) ⟨_,Tryz.func82,rfl,by decide⟩ ?_) ⟨_,Tryz.func148,rfl,by decide⟩ ?_
 · intro args p r h hp
   unfold CU at h
   split at h<;>cases h
   exact EE _
 · intro args p r h hp
   unfold CT at h
   split at h<;>cases h
   exact ED _ _ hp
def fe (q:Bool)(t n i:Int):Bool:=
 if t<=n then false else (if q=true then decide (t / 64 - n / 64=0) else decide (1<=t / 64 - n / 64∧t / 64 - n / 64<=63))&& decide (fz q t=i)
theorem CV{q:Bool}(h:t<=n):fe q t n i=false:=by unfold fe;rw [if_pos h]
theorem zE(h: ¬t<=n):(bif bif decide (0<=t / 64 - n / 64) then decide (t / 64 - n / 64<=0) else false then fz true t==i else false)=fe true t n i:=by
 unfold fe
 rw [if_neg h,if_pos rfl,Bool.eq_iff_iff]
 by_cases h1:t / 64 - n / 64<=0
 · have h2:t / 64 - n / 64=0:=by omega
   simp [h2]
 · have h2: ¬t / 64 - n / 64=0:=by omega
   simp [h1,h2]
theorem wv(h: ¬t<=n):(bif bif decide (1<=t / 64 - n / 64) then decide (t / 64 - n / 64<=63) else false then fz false t==i else false)=fe false t n i:=by
 unfold fe
 rw [if_neg h,if_neg (by decide),Bool.eq_iff_iff]
 by_cases h1:1<=t / 64 - n / 64<;>by_cases h2:t / 64 - n / 64<=63<;>simp [h1,h2]
theorem Hr(s u i n:Int)(r:List UInt8)(hu:0<=u∧u<18446744073709551616)(hn:0<=n):GFn 173 (fun A=> [.agg [.any, .clo 171 [], .int .u64 0, .int .u64 0], .agg [.int .u32 s, .str r, .int .u64 u], .int .i64 i, .int .u64 n]) (fun A=> .bool (A.tb fun _=>fe true u n i)):=by
 refine aC zD ar ak Tryz.func173 (.one) fun A hA=> ?_
 cbv
 repeat' (first| (with_reducible first|exact vT|exact vD hA|exact vE hA|refine vA ?_ ?_) | (intro hc;cbv))
 all_goals (subst hA;simp only [sS] at*)
 all_goals first
  |exact hu
  |exact id
  | (intro h;exact ⟨h,h⟩)
  | (intro h;exact ⟨⟨h,h⟩,hu⟩)
  | (intro h;rw [h];rfl)
  | (intro h;rw [h];exact ⟨rfl,rfl⟩)
  |exact (CV (of_decide_eq_true hc)).symm
  |exact zE (of_decide_eq_false hc)
  |exact wv (of_decide_eq_false hc)
  | (have:=of_decide_eq_false hc;exact ⟨by omega,by omega,by omega⟩)
theorem Hs(s u i n:Int)(r:List UInt8)(hu:0<=u∧u<18446744073709551616)(hn:0<=n):GFn 173 (fun A=> [.agg [.any, .clo 172 [], .int .u64 1, .int .u64 63], .agg [.int .u32 s, .str r, .int .u64 u], .int .i64 i, .int .u64 n]) (fun A=> .bool (A.tb fun _=>fe false u n i)):=by
 refine aC zD ar ak Tryz.func173 (.one) fun A hA=> ?_
 cbv
 repeat' (first| (with_reducible first|exact vT|exact vD hA|exact vE hA|refine vA ?_ ?_) | (intro hc;cbv))
 all_goals (subst hA;simp only [sS] at*)
 all_goals first
  |exact hu
  |exact id
  | (intro h;exact ⟨h,h⟩)
  | (intro h;exact ⟨⟨h,h⟩,hu⟩)
  | (intro h;rw [h];rfl)
  | (intro h;rw [h];exact ⟨rfl,rfl⟩)
  |exact (CV (of_decide_eq_true hc)).symm
  |exact zE (of_decide_eq_false hc)
  |exact wv (of_decide_eq_false hc)
  | (have:=of_decide_eq_false hc;exact ⟨by omega,by omega,by omega⟩)
noncomputable def EF:Ct:=fun A args=>match args with
 | [.agg [x, .clo f [], .int .u64 a, .int .u64 b], .agg [.int .u32 s, .str r, .int .u64 u], .int .i64 i, .int .u64 n] =>bif ve x then (bif Nat.beq f 171 then some (some (A.tp fun _=>(a=0∧b=0)∧(0<=u∧u<18446744073709551616)∧0<=n), .bool (A.tb fun _=>fe true u n i))
     else bif Nat.beq f 172 then some (some (A.tp fun _=>(a=1∧b=63)∧(0<=u∧u<18446744073709551616)∧0<=n), .bool (A.tb fun _=>fe false u n i)) else none) else none
 |_=>none
theorem EG{args:List SV}{p:Option Prop}(h:EF std args=some (p,r))(hp:aK p):cS Tryz.prog gl0 173 args r:=by
 unfold EF at h
 split at h
 · rename_i x f a b s r u i n
   cases hb:ve x<;>rw [hb] at h<;>simp only [cond_true,cond_false,reduceCtorEq] at h
   have key: ∀ {l rest:List SV} {r':SV},cS Tryz.prog gl0 173 (.agg (.any::l)::rest) r'->cS Tryz.prog gl0 173 (.agg (x::l)::rest) r':=fun hg=>by
    unfold ve at hb
    split at hb
    · exact wu hg
    · exact hg
    · cases hb
   cases hq:Nat.beq f 171<;>rw [hq] at h<;>simp only [cond_true,cond_false,reduceCtorEq] at h
   · cases hs:Nat.beq f 172<;>rw [hs] at h<;>simp only [cond_true,cond_false,reduceCtorEq,sIE,pIE] at h
     obtain ⟨rfl,rfl⟩:=h
     obtain rfl:=nQE hs
     obtain ⟨⟨rfl,rfl⟩,h1,h2⟩:=hp
     exact key (Hs _ _ _ _ _ h1 h2)
   · simp only [sIE,pIE] at h
     obtain ⟨rfl,rfl⟩:=h
     obtain rfl:=nQE hq
     obtain ⟨⟨rfl,rfl⟩,h1,h2⟩:=hp
     exact key (Hr _ _ _ _ _ h1 h2)
 · cases h
noncomputable def gw8:Ar->Pu:=aq 173 EF gw7
theorem Ht:az Tryz.prog gl0 (gw8 std):=ao zD ⟨_,Tryz.func173,rfl,by decide⟩ fun args p r h hp=>EG h hp
def E64:Sl:=List.replicate 64 []
def fg (m:Int):Bool:=decide (0<=m∧m<=256)
def rY (n m:Int):Int:=if fg m=true then n else 0
def rZ (m:Int):Int:=if fg m=true then m else 0
def r9 (m:Int):Int:=if fg m=true then 0 else 1
theorem vf(i:Nat):E64.getD i [] = [] :=by
 unfold E64
 rw [List.getD_eq_getElem?_getD,List.getElem?_replicate]
 split<;>rfl
theorem vg:ba 64 1 (fun _ _=>SV.nils) (ax eTs [] std fun _=>E64):=fun i j hi hj=>by
 obtain rfl:j=0:=by omega
 have e:ax eTs [] std (fun _=>E64) i 0=aF eT T0 3 std fun _=> [] :=by
  show aF eT T0 3 std (fun _=>E64.getD i [])=_
  rw [vf]
 rw [e]
 exact .nils _ _
theorem ww(n m:Int):GFn 33 (fun A=> [.int .u64 n, .int .i64 m]) (fun A=> .tup [whS A (A.ti fun _=>rY n m) (A.ti fun _=>rZ m) E64 E64, .int .i64 (A.ti fun _=>r9 m)]):=by
 refine aC Ht ar ak Tryz.func33 (.none) fun A hA=> ?_
 cbv
 repeat' (first| (with_reducible first|exact vT|exact vD hA|exact vE hA|refine vA ?_ ?_) | (intro hc;cbv))
 all_goals (subst hA;simp only [sS] at*)
 all_goals first
  |exact vg
  | (have h1:fg m=true:=by simpa [fg] using hc
     first| (unfold rY;rw [if_pos h1];done) | (unfold rZ;rw [if_pos h1];done) | (unfold r9;rw [if_pos h1];done))
  | (have h1: ¬fg m=true:=by
      have hc':(!fg m)=true:=hc
      rw [Bool.not_eq_true'] at hc'
      rw [hc'];decide
     first| (unfold rY;rw [if_neg h1];done) | (unfold rZ;rw [if_neg h1];done) | (unfold r9;rw [if_neg h1];done))
noncomputable def Hu:Ct:=fun A args=>match args with
 | [.int .u64 n, .int .i64 m] =>some (none, .tup [whS A (A.ti fun _=>rY n m) (A.ti fun _=>rZ m) E64 E64, .int .i64 (A.ti fun _=>r9 m)])
 |_=>none
noncomputable def gw9:Ar->Pu:=aq 33 Hu (gw8)
theorem Qw:az Tryz.prog gl0 (gw9 std):=by
 refine ao (Ht) ⟨_,Tryz.func33,rfl,by decide⟩ ?_
 · intro args p r h hp
   unfold Hu at h
   split at h<;>cases h
   exact ww _ _
end Go.Vd
set_option maxHeartbeats 8000000
namespace Go.Vd
open Go.Proofs
variable {I O:Sl}
theorem ce{a b:Nat}(h:b=a+1)(hb:a<=1000000000000):IntKind.i64.wrap ((a:Int)+1)=(b:Int):=by
 rw [w64 (by omega)];omega
theorem eH{b:Bool}(h:(!b)=false):b=true:=by cases b<;>simp at h ⊢
theorem nI{b:Bool}(h:(!b)=true):b=false:=by cases b<;>simp at h ⊢
theorem tX{T:Sl}{f:Nat->Nat->SV}(h:ai eTs [] 1 64 f):sv1 (.run 64 f) (.run 64 (ax eTs [] std fun _=>ab eTs [] 1 64 f)):=⟨_,rfl,h.reps.2⟩
theorem fF{n m:Int}{f g:Nat->Nat->SV}(hf:ai eTs [] 1 64 f)(hg:ai eTs [] 1 64 g):sv2 (.agg [.int .u64 n, .int .i64 m, .run 64 f, .run 64 g]) (whS std n m (ab eTs [] 1 64 f) (ab eTs [] 1 64 g)):=
 ⟨_,rfl,rfl,rfl,tX (T:= []) hf,tX (T:= []) hg,trivial⟩
def qb (A:Ar)(L:Unit->List Tm):SV:= .frs 113 3 (A.tn fun _=>(L ()).length) (ax eT T0 A L)
attribute [local irreducible] vc
theorem Bx(L:List Tm)(hL:L.length<=1000000):GFn 133 (fun A=> [aF eT T0 3 A fun _=>L]) (fun A=>qb A fun _=>L):=by
 refine aC aP ar ak Tryz.func133 (.fresh 113 3) fun A hA=> ?_
 cbv
 repeat' (first| (with_reducible first|exact vT|exact vD hA|exact vE hA|refine vA ?_ ?_) | (intro hc;cbv))
 all_goals (subst hA;simp [sS] at*)
 all_goals first
  |omega
  | (have hq:=hc (by assumption);rw [hq];rfl)
  | (have hq:=hc (by assumption);rw [hq];intro i j hi;exact absurd hi (by simp))
  | (apply c7;(exact (au.nil.cat (au.lit L)).congr rfl (List.nil_append L));(first| (simp;done) |omega|rfl);rfl)
def sl (T:Sl)(i:Nat):List Tm:=T.getD i []
def bx (I O:Sl):Nat->List Tm
 |0=> []
 |n+1=>bx I O n++(sl I n++sl O n)
@[irreducible] def aR (I O:Sl):List Tm:=bx I O 64
theorem fh(I O:Sl):aR I O=bx I O 64:=by unfold aR;rfl
theorem zF(I O:Sl): ∀ {n m:Nat},n<=m->(bx I O n).length<=(bx I O m).length
 |n,0,h=>by obtain rfl:n=0:=by omega
            exact Nat.le_refl _
 |n,m+1,h=>by
  rcases Nat.lt_or_ge n (m+1) with h1|h1
  · have:=zF I O (n:=n) (m:=m) (by omega)
    simp only [bx,List.length_append]
    omega
  · obtain rfl:n=m+1:=by omega
    exact Nat.le_refl _
def tmQ (t:Tm):Prop:=0<=t.u∧t.u<18446744073709551616
def whQ (I O:Sl):Prop:=(I.length=64∧O.length=64)∧((aR I O).length<=100000∧ ∀ t∈aR I O,tmQ t)
theorem Oh{i n:Nat}(h:i<n):(sl I i).length+(sl O i).length+(bx I O i).length<=(bx I O n).length:=by
 have:=zF I O (n:=i+1) (m:=n) (by omega)
 simp only [bx,List.length_append] at this
 omega
theorem fA(h:whQ I O){i:Nat}(hi:i<64):(sl I i).length+(sl O i).length+(bx I O i).length<=100000:=by have h1:=h.2.1;rw [fh] at h1;exact Nat.le_trans (Oh hi) h1
theorem zG{t:Tm} : ∀ {n:Nat},t∈bx I O n↔ ∃ i,i<n∧(t∈sl I i∨t∈sl O i)
 |0=>by simp [bx]
 |n+1=>by
  simp only [bx,List.mem_append,zG (n:=n)]
  constructor
  · rintro (⟨i,hi,h⟩ |h)
    · exact ⟨i,by omega,h⟩
    · exact ⟨n,by omega,h⟩
  · rintro ⟨i,hi,h⟩
    rcases Nat.lt_or_ge i n with h1|h1
    · exact .inl ⟨i,h1,h⟩
    · obtain rfl:i=n:=by omega
      exact .inr h
noncomputable def zH:Ct:=fun A args=>match args with
 | [.slc n 3 f] =>some (some (A.tp fun _=>ai eT T0 3 n f∧n<=1000000),qb A fun _=>ab eT T0 3 n f)
 |_=>none
noncomputable def gwa:Ar->Pu:=aq 133 zH (gw9)
theorem Qx:az Tryz.prog gl0 (gwa std):=by
 refine ao (Qw) ⟨_,Tryz.func133,rfl,by decide⟩ ?_
 · intro args p r h hp
   unfold zH at h
   split at h<;>cases h
   exact aJ (Bx _ (by rw [aN hp.1];exact hp.2)) ⟨hp.1.sv,trivial⟩
theorem Hw(n m:Int)(I O:Sl)(hQ:whQ I O):GFn 75 (fun A=> [whS A n m I O]) (fun A=>qb A fun _=>aR I O):=by
 refine aC aP ar ak Tryz.func75 (.fresh 113 3) fun A hA=> ?_
 cbv
 repeat' (first| (with_reducible first|exact vT|exact vD hA|exact vE hA|refine vA ?_ ?_) | (intro hc;cbv))
 refine ⟨⟨{p:Nat×List Tm // p.1<=64∧p.2=bx I O p.1},fun b p=> [(3, .own b),(5, .int .i64 (p.1.1:Nat))],fun b p=> [(b, .row 113 3 (A.tn fun _=>p.1.2.length) (ax eT T0 A fun _=>p.1.2))],fun p=>64 - p.1.1,true⟩,⟨⟨(0, []),Nat.zero_le _,rfl⟩, ?_⟩, ?_⟩
 · cbv
   subst hA
   simp [-List.getD_eq_getElem?_getD,sS]
 · rintro ⟨⟨i,M⟩,hx⟩
   have hi:i<=64:=hx.1
   have hM:M=bx I O i:=hx.2
   rcases Nat.lt_or_ge i 64 with hlt|hge
   · have hb:=fA hQ hlt
     rw [<-hM] at hb
     obtain ⟨i',hi'⟩: ∃ i',i'=i+1:=⟨_,rfl⟩
     obtain ⟨L1,hL1⟩: ∃ L1,L1=sl I i:=⟨_,rfl⟩
     obtain ⟨L2,hL2⟩: ∃ L2,L2=sl O i:=⟨_,rfl⟩
     rw [<-hL1,<-hL2] at hb
     have e1:I.getD i [] =L1:=hL1.symm
     have e2:O.getD i [] =L2:=hL2.symm
     obtain ⟨M',hM'⟩: ∃ M',M'=M++(L1++L2):=⟨_,rfl⟩
     have hMM:M'=bx I O i':=by rw [hM',hi',hM,hL1,hL2];rfl
     cbv
     repeat' (first| (with_reducible first|exact vT|exact vD hA|exact vE hA|refine vA ?_ ?_) | (intro hc;cbv))
     all_goals first
      | (fail_if_success (refine Exists.intro ?_ ?_)
         subst hA
         simp only [sS,iNE,e1,e2] at*
         first
          |exact ⟨by omega,by omega⟩
          |omega)
      | (exfalso
         subst hA
         simp only [sS,iNE] at*
         have:=of_decide_eq_false hc
         omega)
      | (refine ⟨⟨(i',M'),by show i'<=64;omega,hMM⟩, ?_,show 64 - i'<64 - i by omega⟩
         cbv
         subst hA
         simp [-List.getD_eq_getElem?_getD,sS,e1,e2]
         refine ⟨ce hi' (by omega), ?_, ?_⟩
         · rw [hM'];simp;omega
         · exact c7 (((au.lit M).cat (au.lit L1)).cat (au.lit L2)) (by rw [hM'];simp;omega) (by rw [hM',List.append_assoc]))
   · have hie:i=64:=by omega
     subst hie
     cbv
     repeat' (first| (with_reducible first|exact vT|exact vD hA|exact vE hA|refine vA ?_ ?_) | (intro hc;cbv))
     all_goals first
      | (exfalso
         subst hA
         simp only [sS,iNE] at*
         have hq:decide ((64:Int)<64)=true:=by assumption
         have:=of_decide_eq_true hq
         omega)
      | (subst hA
         simp only [sS]
         rw [hM,<-fh]
         first
          |done
          |exact (au.lit _).eqr)
noncomputable def Hx:Ct:=fun A args=>match args with
 | [.agg [.int .u64 n, .int .i64 m, .run 64 f, .run 64 g]] =>some (some (A.tp fun _=>(ai eTs [] 1 64 f∧ai eTs [] 1 64 g)∧whQ (ab eTs [] 1 64 f) (ab eTs [] 1 64 g)),qb A fun _=>aR (ab eTs [] 1 64 f) (ab eTs [] 1 64 g))
 |_=>none
noncomputable def gwb:Ar->Pu:=aq 75 Hx (gwa)
theorem zI:az Tryz.prog gl0 (gwb std):=by
 refine ao (Qx) ⟨_,Tryz.func75,rfl,by decide⟩ ?_
 · intro args p r h hp
   unfold Hx at h
   split at h<;>cases h
   exact aJ (Hw _ _ _ _ hp.2) ⟨fF hp.1.1 hp.1.2,trivial⟩
end Go.Vd
