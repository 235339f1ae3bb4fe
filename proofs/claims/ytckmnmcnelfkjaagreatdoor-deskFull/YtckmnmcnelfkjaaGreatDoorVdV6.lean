/- Shards: insert. -/
import Derived.Test.YtckmnmcnelfkjaaGreatDoorVdI2
import Derived.WalkKit
import Derived.LoopTactic
import Derived.LoopN
import Derived.StillTailTactics
import Derived.Shelf.SlSortCmp.WholeK
import Derived.Test.YtckmnmcnelfkjaaGreatDoorVdH3
import Derived.Test.YtckmnmcnelfkjaaGreatDoorProg
import Derived.Shelf.SlGeneric
import Derived.Ground.SlsfProg
import Derived.Shelf.SlSortCmp.NoneTotal
set_option linter.unusedVariables false
set_option linter.unusedSimpArgs false
set_option maxRecDepth 100000
set_option maxHeartbeats 8000000
namespace Go.Vd
open Go.Proofs
variable {L:List Ent} {e:Ent}
noncomputable def Qa:Ar->Xt:=fun A=> { meth:=fun _ _=>none,wt:=fun f e k n g rest=>bif Nat.beq f 143 &&(Nat.beq e 69 && Nat.beq k 8) then (match rest with
 | [.int .i64 i, .slc 1 8 h] =>some (some (A.tp fun _=>(0<=i∧i<=(n:Int))∧n<=1000000),A.nadd n 1,A.cat (A.toNat i) g (A.cat 1 h (A.shift g (A.toNat i))))
 |_=>none) else none }
theorem Ka(g:Nat->Nat->SV)(k:Nat)(h:Nat->Nat->SV):l7 g k h=bd k g (bd 1 h (aI g k)):=by
 funext a b
 unfold l7 bd aI
 by_cases h1:a<k
 · rw [if_pos h1,if_pos h1]
 · rw [if_neg h1,if_neg h1]
   by_cases h2:a=k
   · rw [if_pos h2,if_pos (by omega),show a - k=0 by omega]
   · rw [if_neg h2,if_neg (by omega),show k+(a - k - 1)=a - 1 by omega]
theorem N0:XtOk Tryz.prog gl0 (Qa std):=by
 refine ⟨(fun t name f h=>by cases h), ?_⟩
 intro f e k n g rest p n' g' hw hp
 unfold Qa at hw
 simp only at hw
 cases hb:(Nat.beq f 143 &&(Nat.beq e 69 && Nat.beq k 8))<;>rw [hb] at hw<;>simp only [cond_true,cond_false,reduceCtorEq] at hw
 simp only [bAE] at hb
 obtain rfl:=nQE hb.1
 obtain rfl:=nQE hb.2.1
 obtain rfl:=nQE hb.2.2
 split at hw
 · simp only [sIE,pIE] at hw
   obtain ⟨rfl,rfl,rfl⟩:=hw
   rename_i i h
   have h2:=NZ gl0 n g i h hp.1 hp.2
   rw [Ka] at h2
   exact ⟨⟨_,Tryz.func143,rfl,by decide⟩,h2⟩
 · cases hw
def p8 (A:Ar)(L:Unit->List Ent):SV:= .frs 69 8 (A.tn fun _=>(L ()).length) (ax eE E0 A L)
attribute [local irreducible] vc
theorem Bj(L:List Ent)(hL:L.length<=1000000):GFn 132 (fun A=> [aF eE E0 8 A fun _=>L]) (fun A=>p8 A fun _=>L):=by
 refine aC aP ar ak Tryz.func132 (.fresh 69 8) fun A hA=> ?_
 cbv
 repeat' (first| (with_reducible first|exact vT|exact vD hA|exact vE hA|refine vA ?_ ?_) | (intro hc;cbv))
 all_goals (subst hA;simp [sS] at*)
 all_goals first
  |omega
  | (have hq:=hc (by assumption);rw [hq];rfl)
  | (have hq:=hc (by assumption);rw [hq];intro i j hi;exact absurd hi (by simp))
  | (apply c7;(exact (au.nil.cat (au.lit L)).congr rfl (List.nil_append L));(first| (simp;done) |omega|rfl);rfl)
noncomputable def yV:Ct:=fun A args=>match args with
 | [.slc n 8 f] =>some (some (A.tp fun _=>ai eE E0 8 n f∧n<=1000000),p8 A fun _=>ab eE E0 8 n f)
 |_=>none
noncomputable def gs4:Ar->Pu:=aq 132 yV (gs3)
theorem yW:az Tryz.prog gl0 (gs4 std):=by
 refine ao (P9) ⟨_,Tryz.func132,rfl,by decide⟩ ?_
 · intro args p r h hp
   unfold yV at h
   split at h<;>cases h
   exact aJ (Bj _ (by rw [aN hp.1];exact hp.2)) ⟨hp.1.sv,trivial⟩
def dP (L:List Ent)(e:Ent):List Ent:=if (shR L && eR e)=true then (if has L e.s e.r=true then L else if L.length=128 then L else L.take (pos L e.s e.r)++ [e] ++L.drop (pos L e.s e.r)) else L
def g6 (L:List Ent)(e:Ent):Int:=if (shR L && eR e)=true then (if has L e.s e.r=true then 6 else if L.length=128 then 7 else 0) else 1
theorem jh{b:Bool}(h:(!b)=false):b=true:=by cases b<;>simp at h ⊢
theorem Qb(h:(bif shR L then eR e else false)=false):dP L e=L∧g6 L e=1:=by
 have h2: ¬(shR L && eR e)=true:=by cases h1:shR L<;>simp [h1] at h ⊢;exact h
 unfold dP g6
 rw [if_neg h2,if_neg h2]
 exact ⟨rfl,rfl⟩
theorem j0(h:(bif shR L then eR e else false)=true):(shR L && eR e)=true:=by
 cases h1:shR L<;>simp [h1] at h ⊢;exact h
theorem GW(h:(bif shR L then eR e else false)=true)(h2:has L e.s e.r=true):dP L e=L∧g6 L e=6:=by
 unfold dP g6
 rw [if_pos (j0 h),if_pos (j0 h),if_pos h2,if_pos h2]
 exact ⟨rfl,rfl⟩
theorem GX(h:(bif shR L then eR e else false)=true)(h2:has L e.s e.r=false)(h3:L.length=128):dP L e=L∧g6 L e=7:=by
 unfold dP g6
 rw [if_pos (j0 h),if_pos (j0 h),h2]
 simp [h3]
theorem yX(h:(bif shR L then eR e else false)=true)(h2:has L e.s e.r=false)(h3: ¬L.length=128):dP L e=L.take (pos L e.s e.r)++ [e] ++L.drop (pos L e.s e.r)∧g6 L e=0:=by
 unfold dP g6
 rw [if_pos (j0 h),if_pos (j0 h),h2]
 simp [h3]
theorem mA(h:shR L=true):uZ L=true∧L.length<=128:=by
 simp only [shR,bAE,decide_eq_true_eq] at h
 exact ⟨h.2,h.1⟩
theorem N1{L M:List Ent}{p n:Nat}(hp:p<=L.length)(hn:n=L.length+1)(hM:M=L.take p++ [e] ++L.drop p):
 ba n 8 (bd p (ax eE E0 std fun _=>L) (bd 1 (bf [[SV.int .u32 e.s,SV.str e.r,SV.int .i64 e.st,SV.str e.pan,SV.int .u64 e.am,SV.str e.code,SV.int .i64 e.tr,SV.int .i64 e.ca]]) (aI (ax eE E0 std fun _=>L) p))) (ax eE E0 std fun _=>M):=by
 have h:=(au.cut (enc:=eE) (d:=E0) (k:=8) L p hp).cat ((au.one (enc:=eE) (d:=E0) (CC e)).cat ((au.lit (enc:=eE) (d:=E0) (k:=8) L).shift (m:=L.length - p) p (by omega)))
 refine c7 h (by omega) ?_
 rw [hM,List.take_of_length_le (l:=L.drop p) (by rw [List.length_drop];exact Nat.le_refl _),List.append_assoc]
theorem wN(L:List Ent)(s st am tr ca:Int)(r pan code:List UInt8)(hL:L.length<=1000000)(hS: ∀ i,enS (L.getD i E0))(hp:pan.length<=100000)(hcc:code.length<=1000000):GFn 92 (fun A=> [aF eE E0 8 A fun _=>L, .agg [.int .u32 s, .str r, .int .i64 st, .str pan, .int .u64 am, .str code, .int .i64 tr, .int .i64 ca]]) (fun A=> .tup [aF eE E0 8 A fun _=>dP L ⟨s,r,st,pan,am,code,tr,ca⟩, .int .i64 (A.ti fun _=>g6 L ⟨s,r,st,pan,am,code,tr,ca⟩)]):=by
 refine aC yW N0 ak Tryz.func92 (.none) fun A hA=> ?_
 cbv
 repeat' (first| (with_reducible first|exact vT|exact vD hA|exact vE hA|refine vA ?_ ?_) | (intro hc;cbv))
 all_goals (subst hA;simp only [sS,bh,aY] at*)
 all_goals first
  |exact ⟨aY L,hL⟩
  |exact ⟨trivial,hL⟩
  |exact ⟨aY L,hL,hS⟩
  |exact ⟨trivial,hL,hS⟩
  | (intro h;exact ⟨h,hp,hcc⟩)
  | (intro h;simp only [Bool.true_and,Bool.beq_eq_decide_eq,decide_eq_true_eq];exact h)
  | (have hr:(bif shR L then eR ⟨s,r,st,pan,am,code,tr,ca⟩ else false)=false:=by rw [Bool.not_eq_true'] at hc;exact hc
     have h1:=Qb hr
     first
      | (rw [h1.1];done)
      | (rw [h1.1];exact (au.lit _).eqr)
      | (rw [h1.2];done))
  | (have hq:(!bif shR L then eR ⟨s,r,st,pan,am,code,tr,ca⟩ else false)=false:=by assumption
     have hr:=jh hq
     have hs:shR L=true:=by cases h:shR L<;>simp [h] at hr ⊢
     have h0:=mA hs
     first
      |exact ⟨aY L,hL,h0.1⟩
      |exact ⟨trivial,hL,h0.1⟩
      | (have h2:has L s r=true:=by assumption
         have h1:=GW (e:=⟨s,r,st,pan,am,code,tr,ca⟩) hr h2
         first
          | (rw [h1.1];done)
          | (rw [h1.1];exact (au.lit _).eqr)
          | (rw [h1.2];done))
      | (have h2:has L s r=false:=by assumption
         have h3:((L.length:Int)==128)=true:=by assumption
         have h1:=GX (e:=⟨s,r,st,pan,am,code,tr,ca⟩) hr h2 (by simp at h3;omega)
         first
          | (rw [h1.1];done)
          | (rw [h1.1];exact (au.lit _).eqr)
          | (rw [h1.2];done))
      | (have h2:has L s r=false:=by assumption
         have h3:((L.length:Int)==128)=false:=by assumption
         have h1:=yX (e:=⟨s,r,st,pan,am,code,tr,ca⟩) hr h2 (by simp at h3;omega)
         have hpl:=GT L s r
         first
          |exact ⟨⟨Int.natCast_nonneg _,Int.ofNat_le.2 hpl⟩,hL⟩
          | (rw [h1.1];simp;omega)
          | (rw [h1.2];done)
          | (simp only [Int.toNat_natCast];exact N1 (e:=⟨s,r,st,pan,am,code,tr,ca⟩) hpl (by rw [h1.1];simp;omega) h1.1)
)
)
noncomputable def tQ:Ct:=fun A args=>match args with
 | [.slc n 8 f, .agg [.int .u32 s, .str r, .int .i64 st, .str pan, .int .u64 am, .str code, .int .i64 tr, .int .i64 ca]] =>some (some (A.tp fun _=>(ai eE E0 8 n f∧n<=1000000∧ ∀ i,enS ((ab eE E0 8 n f).getD i E0))∧pan.length<=100000∧code.length<=1000000), .tup [aF eE E0 8 A fun _=>dP (ab eE E0 8 n f) ⟨s,r,st,pan,am,code,tr,ca⟩, .int .i64 (A.ti fun _=>g6 (ab eE E0 8 n f) ⟨s,r,st,pan,am,code,tr,ca⟩)])
 |_=>none
noncomputable def gs5:Ar->Pu:=aq 92 tQ (gs4)
theorem Qc:az Tryz.prog gl0 (gs5 std):=by
 refine ao (yW) ⟨_,Tryz.func92,rfl,by decide⟩ ?_
 · intro args p r h hp
   unfold tQ at h
   split at h<;>cases h
   exact aJ (wN _ _ _ _ _ _ _ _ _ (by rw [aN hp.1.1];exact hp.1.2.1) hp.1.2.2 hp.2.1 hp.2.2) ⟨hp.1.1.sv,⟨_,rfl,rfl,rfl,rfl,rfl,rfl,rfl,rfl,rfl,trivial⟩,trivial⟩
end Go.Vd
namespace Go.Vd
open Go.Proofs
variable {L:List Ent} {z:Int} {e:Ent}
theorem yY: ∀ {L:List Ent} {s:Int} {r:List UInt8} {t:Nat},t<pos L s r->ltK s r (L.getD t E0)=true
 | [],s,r,t,h=>by simp [pos] at h
 |e::L,s,r,t,h=>by
  unfold pos at h
  rw [List.takeWhile_cons] at h
  by_cases h1:ltK s r e=true
  · rw [if_pos h1,List.length_cons] at h
    cases t with
    |zero=>exact h1
    |succ t=>exact yY (L:=L) (by unfold pos;omega)
  · rw [if_neg h1] at h;simp at h
theorem GY: ∀ {L:List Ent} {s:Int} {r:List UInt8},pos L s r<L.length->ltK s r (L.getD (pos L s r) E0)=false
 | [],s,r,h=>by simp at h
 |e::L,s,r,h=>by
  unfold pos at h ⊢
  rw [List.takeWhile_cons] at h ⊢
  by_cases h1:ltK s r e=true
  · rw [if_pos h1,List.length_cons] at h ⊢
    exact GY (L:=L) (by unfold pos;rw [List.length_cons] at h;omega)
  · rw [if_neg h1]
    simpa using h1
theorem CF(hasc:k7 L){s:Int}{r:List UInt8}{t:Nat}(h1:pos L s r<=t)(h2:t<L.length):ltK s r (L.getD t E0)=false:=by
 cases hq:ltK s r (L.getD t E0)
 · rfl
 · have:=rN hasc h1 h2 hq
   rw [GY (by omega)] at this
   cases this
theorem N2(hasc:k7 L){s:Int}{r:List UInt8}(h:has L s r=true):pos L s r<L.length∧kE s r (L.getD (pos L s r) E0)=true:=
 (GU hasc (fun _ ht=>yY ht) (fun _ h1 h2=>CF hasc h1 h2)).1 h
def swL (L:List Ent)(z:Int)(e:Ent):List Ent:=if (shR L && eR e)=true then (if has L e.s e.r=true then (if (L.getD (pos L e.s e.r) E0).st=z then L.set (pos L e.s e.r) e else L) else L) else L
def swC (L:List Ent)(z:Int)(e:Ent):Int:=if (shR L && eR e)=true then (if has L e.s e.r=true then (if (L.getD (pos L e.s e.r) E0).st=z then 0 else 8) else 5) else 1
theorem RV(h:(bif shR L then eR e else false)=false):swL L z e=L∧swC L z e=1:=by
 have h2: ¬(shR L && eR e)=true:=by cases h1:shR L<;>simp [h1] at h ⊢;exact h
 unfold swL swC
 rw [if_neg h2,if_neg h2]
 exact ⟨rfl,rfl⟩
theorem RW(h:(bif shR L then eR e else false)=true)(h2:has L e.s e.r=false):swL L z e=L∧swC L z e=5:=by
 unfold swL swC
 rw [if_pos (j0 h),if_pos (j0 h),h2]
 simp
theorem RX(h:(bif shR L then eR e else false)=true)(h2:has L e.s e.r=true)(h3: ¬(L.getD (pos L e.s e.r) E0).st=z):swL L z e=L∧swC L z e=8:=by
 unfold swL swC
 rw [if_pos (j0 h),if_pos (j0 h),if_pos h2,if_pos h2,if_neg h3,if_neg h3]
 exact ⟨rfl,rfl⟩
theorem RY(h:(bif shR L then eR e else false)=true)(h2:has L e.s e.r=true)(h3:(L.getD (pos L e.s e.r) E0).st=z):swL L z e=L.set (pos L e.s e.r) e∧swC L z e=0:=by
 unfold swL swC
 rw [if_pos (j0 h),if_pos (j0 h),if_pos h2,if_pos h2,if_pos h3,if_pos h3]
 exact ⟨rfl,rfl⟩
theorem l8{b:Bool}(h:(!b)=true):b=false:=by cases b<;>simp at h ⊢
attribute [local irreducible] vc
theorem Bk(L:List Ent)(z s st am tr ca:Int)(r pan code:List UInt8)(hL:L.length<=1000000)(hS: ∀ i,enS (L.getD i E0))(hp:pan.length<=100000)(hcc:code.length<=1000000):GFn 94 (fun A=> [aF eE E0 8 A fun _=>L, .int .i64 z, .agg [.int .u32 s, .str r, .int .i64 st, .str pan, .int .u64 am, .str code, .int .i64 tr, .int .i64 ca]]) (fun A=> .tup [aF eE E0 8 A fun _=>swL L z ⟨s,r,st,pan,am,code,tr,ca⟩, .int .i64 (A.ti fun _=>swC L z ⟨s,r,st,pan,am,code,tr,ca⟩)]):=by
 refine aC yW ar ak Tryz.func94 (.none) fun A hA=> ?_
 obtain ⟨E,hE⟩: ∃ E:Ent,E=⟨s,r,st,pan,am,code,tr,ca⟩:=⟨_,rfl⟩
 rw [<-hE]
 cbv
 repeat' (first| (with_reducible first|exact vT|exact vD hA|exact vE hA|refine vA ?_ ?_) | (intro hc;cbv))
 all_goals (subst hA;simp only [sS,bh,aY] at*)
 all_goals first
  |exact ⟨aY L,hL⟩
  |exact ⟨trivial,hL⟩
  |exact ⟨aY L,hL,hS⟩
  |exact ⟨trivial,hL,hS⟩
  | (intro h;exact ⟨h,hp,hcc⟩)
  | (intro h;simp only [Bool.true_and,Bool.beq_eq_decide_eq,decide_eq_true_eq];exact h)
  | (have hr:(bif shR L then eR ⟨s,r,st,pan,am,code,tr,ca⟩ else false)=false:=l8 hc
     rw [<-hE] at hr
     have h1:=RV (z:=z) hr
     first
      | (rw [h1.1];done)
      | (rw [h1.1];exact (au.lit _).eqr)
      | (rw [h1.2];done))
  | (have hq:(!bif shR L then eR ⟨s,r,st,pan,am,code,tr,ca⟩ else false)=false:=by assumption
     have hr:=jh hq
     have hs:shR L=true:=by cases h:shR L<;>simp [h] at hr ⊢
     have h0:=mA hs
     rw [<-hE] at hr
     have eS:E.s=s:=by rw [hE]
     have eR':E.r=r:=by rw [hE]
     first
      |exact ⟨aY L,hL,h0.1⟩
      |exact ⟨trivial,hL,h0.1⟩
      | (have h2:(!has L s r)=true:=by assumption
         have h1:=RW (z:=z) hr (by rw [eS,eR'];exact l8 h2)
         first
          | (rw [h1.1];done)
          | (rw [h1.1];exact (au.lit _).eqr)
          | (rw [h1.2];done))
      | (have h2:(!has L s r)=false:=by assumption
         have h3:=N2 ((gZ L).1 h0.1) (jh h2)
         first
          |exact ⟨Int.natCast_nonneg _,Int.ofNat_lt.2 h3.1⟩
          | (have h4:((L.getD ((pos L s r:Nat):Int).toNat { s:=0,r:= [],st:=0,pan:= [],am:=0,code:= [],tr:=0,ca:=0 }).st !=z)=true:=by assumption
             have h1:=RX (z:=z) hr (by rw [eS,eR'];exact jh h2) (by rw [eS,eR'];rw [Int.toNat_natCast] at h4;exact (bne_iff_ne).1 h4)
             first
              | (rw [h1.1];done)
              | (rw [h1.1];exact (au.lit _).eqr)
              | (rw [h1.2];done))
          | (have h4:((L.getD ((pos L s r:Nat):Int).toNat { s:=0,r:= [],st:=0,pan:= [],am:=0,code:= [],tr:=0,ca:=0 }).st !=z)=false:=by assumption
             have h1:=RY (z:=z) hr (by rw [eS,eR'];exact jh h2) (by rw [eS,eR'];rw [Int.toNat_natCast] at h4;exact bne_eq_false_iff_eq.1 h4)
             rw [eS,eR'] at h1
             first
              | (rw [h1.1];simp;done)
              | (rw [h1.2];done)
              | (rw [Int.toNat_natCast]
                 exact c7 ((au.lit L).rset' (i:=pos L s r) h3.1 ⟨s,r,st,pan,am,code,tr,ca⟩ rfl (CC ⟨s,r,st,pan,am,code,tr,ca⟩)) (by rw [h1.1];simp) (by rw [h1.1,hE]))
)
)
)
noncomputable def yZ:Ct:=fun A args=>match args with
 | [.slc n 8 f, .int .i64 z, .agg [.int .u32 s, .str r, .int .i64 st, .str pan, .int .u64 am, .str code, .int .i64 tr, .int .i64 ca]] =>some (some (A.tp fun _=>(ai eE E0 8 n f∧n<=1000000∧ ∀ i,enS ((ab eE E0 8 n f).getD i E0))∧pan.length<=100000∧code.length<=1000000), .tup [aF eE E0 8 A fun _=>swL (ab eE E0 8 n f) z ⟨s,r,st,pan,am,code,tr,ca⟩, .int .i64 (A.ti fun _=>swC (ab eE E0 8 n f) z ⟨s,r,st,pan,am,code,tr,ca⟩)])
 |_=>none
noncomputable def gs6:Ar->Pu:=aq 94 yZ (gs5)
theorem Qd:az Tryz.prog gl0 (gs6 std):=by
 refine ao (Qc) ⟨_,Tryz.func94,rfl,by decide⟩ ?_
 · intro args p r h hp
   unfold yZ at h
   split at h<;>cases h
   exact aJ (Bk _ _ _ _ _ _ _ _ _ _ (by rw [aN hp.1.1];exact hp.1.2.1) hp.1.2.2 hp.2.1 hp.2.2) ⟨hp.1.1.sv,rfl,⟨_,rfl,rfl,rfl,rfl,rfl,rfl,rfl,rfl,rfl,trivial⟩,trivial⟩
end Go.Vd
namespace Go.Vd
open Go.Proofs
variable {L:List Ent}
attribute [local irreducible] vc
theorem Bl(s:Int)(r:List UInt8):GFn 80 (fun A=> [gY A s r]) (fun A=> .bool (A.tb fun _=>decide (r.length<=300))):=by
 refine aC aP ar ak Tryz.func80 (.one) fun A hA=> ?_
 cbv
 repeat' (first| (with_reducible first|exact vT|exact vD hA|exact vE hA|refine vA ?_ ?_) | (intro hc;cbv))
 all_goals (subst hA;simp [sS] at*)
 all_goals omega
noncomputable def y6:Ct:=fun A args=>match args with
 | [.agg [.int .u32 s, .str r]] =>some (none, .bool (A.tb fun _=>decide (r.length<=300)))
 |_=>none
noncomputable def gs7:Ar->Pu:=aq 80 y6 (gs6)
theorem GZ:az Tryz.prog gl0 (gs7 std):=by
 refine ao (Qd) ⟨_,Tryz.func80,rfl,by decide⟩ ?_
 · intro args p r h hp
   unfold y6 at h
   split at h<;>cases h
   exact Bl _ _
def shE (e:Ent):Bool:=decide (e.r.length<=300∧e.pan.length<=300∧e.code.length<=300)
theorem Bm(s st am tr ca:Int)(r pan code:List UInt8):GFn 129 (fun A=> [.agg [.int .u32 s, .str r, .int .i64 st, .str pan, .int .u64 am, .str code, .int .i64 tr, .int .i64 ca]]) (fun A=> .bool (A.tb fun _=>shE ⟨s,r,st,pan,am,code,tr,ca⟩)):=by
 refine aC GZ ar ak Tryz.func129 (.one) fun A hA=> ?_
 cbv
 repeat' (first| (with_reducible first|exact vT|exact vD hA|exact vE hA|refine vA ?_ ?_) | (intro hc;cbv))
 all_goals (subst hA;try simp [sS,shE] at*)
 all_goals first
  | (rw [Bool.eq_iff_iff];simp;omega)
noncomputable def y7:Ct:=fun A args=>match args with
 | [.agg [.int .u32 s, .str r, .int .i64 st, .str pan, .int .u64 am, .str code, .int .i64 tr, .int .i64 ca]] =>some (none, .bool (A.tb fun _=>shE ⟨s,r,st,pan,am,code,tr,ca⟩))
 |_=>none
noncomputable def gs8:Ar->Pu:=aq 129 y7 (gs7)
theorem G0:az Tryz.prog gl0 (gs8 std):=by
 refine ao (GZ) ⟨_,Tryz.func129,rfl,by decide⟩ ?_
 · intro args p r h hp
   unfold y7 at h
   split at h<;>cases h
   exact Bm _ _ _ _ _ _ _ _
def shL (L:List Ent):Bool:=decide (L.length<=200)&& L.all shE
theorem mB :shL L=true↔L.length<=200∧ ∀ e∈L,shE e=true:=by simp [shL]
theorem Qe{i:Nat}(hi:i<L.length)(h:shE (L.getD i E0)=false):shL L=false:=by
 cases e:shL L
 · rfl
 · have:=(mB.1 e).2 (L.getD i E0) (by rw [List.getD_eq_getElem?_getD,gEE hi];exact List.getElem_mem hi)
   rw [h] at this
   cases this
theorem N3(h: ∀ j,j<L.length->shE (L.getD j E0)=true):shL L=decide (L.length<=200):=by
 have:L.all shE=true:=List.all_eq_true.2 fun d hd=>by
  obtain ⟨j,hj,e⟩:=List.getElem_of_mem hd
  have:=h j hj
  rw [List.getD_eq_getElem?_getD,gEE hj] at this
  exact e▸this
 unfold shL
 rw [this,Bool.and_true]
theorem N4(h: ¬L.length<=200):shL L=false:=by simp [shL,h]
theorem Bn(L:List Ent)(hL:L.length<=9223372036854775807):GFn 79 (fun A=> [aF eE E0 8 A fun _=>L]) (fun A=> .bool (A.tb fun _=>shL L)):=by
 refine aC G0 ar ak Tryz.func79 (.one) fun A hA=> ?_
 cbv
 repeat' (first| (with_reducible first|exact vT|exact vD hA|exact vE hA|refine vA ?_ ?_) | (intro hc;cbv))
 refine ⟨⟨{i:Nat // i<=L.length∧i<=200∧ ∀ j,j<i->shE (L.getD j E0)=true},fun b i=> [(3, .int .i64 (i.1:Nat))],fun b i=> [],fun i=>L.length - i.1,true⟩,⟨⟨0,by omega,by omega,by simp⟩, ?_⟩, ?_⟩
 · cbv
   subst hA
   simp [-List.getD_eq_getElem?_getD,sS]
 · rintro ⟨i,hx⟩
   have hi:=hx.1
   have hi2:=hx.2.1
   have h0:=hx.2.2
   obtain ⟨e,he⟩: ∃ e,e=L.getD i E0:=⟨_,rfl⟩
   have hg:L.getD i { s:=0,r:= [],st:=0,pan:= [],am:=0,code:= [],tr:=0,ca:=0 } =e:=he.symm
   by_cases hlt:i<L.length∧i<200
   · have hno:=fun h=>Qe (L:=L) hlt.1 (he▸h)
     cbv
     repeat' (first| (with_reducible first|exact vT|exact vD hA|exact vE hA|refine vA ?_ ?_) | (intro hc;cbv))
     all_goals first
      | (fail_if_success (refine Exists.intro ?_ ?_)
         clear h0
         subst hA
         simp [-List.getD_eq_getElem?_getD,sS,hg] at*
         first
          |done
          |exact ⟨(show (0:Int)<=((i:Nat):Int) by omega),(show ((i:Nat):Int)<((L.length:Nat):Int) by omega)⟩
          |exact hno hc
          |omega
          | (exfalso;omega)
)
      | (obtain ⟨i',hi'⟩: ∃ i',i'=i+1:=⟨_,rfl⟩
         have hk:shE e=true:=by
          clear h0
          subst hA
          simp [-List.getD_eq_getElem?_getD,sS,hg] at hc
          exact hc
         refine ⟨⟨i',by omega,by omega,fun j hj=> ?_⟩, ?_,show L.length - i'<L.length - i by omega⟩
         · rcases Nat.lt_or_ge j i with h|h
           · exact h0 j h
           · obtain rfl:j=i:=by omega
             rw [<-he];exact hk
         · cbv
           subst hA
           simp [-List.getD_eq_getElem?_getD,sS]
           exact cC hi' (by omega))
   · have hans:shL L=decide (L.length<=200):=by
      by_cases hb:L.length<=200
      · exact N3 fun j hj=>h0 j (by omega)
      · rw [N4 hb,decide_eq_false hb]
     cbv
     repeat' (first| (with_reducible first|exact vT|exact vD hA|exact vE hA|refine vA ?_ ?_) | (intro hc;cbv))
     all_goals first
      | (exfalso
         clear h0
         subst hA
         simp [-List.getD_eq_getElem?_getD,sS,hg] at hc
         omega)
      | (exfalso
         clear h0
         subst hA
         rename_i q
         simp [-List.getD_eq_getElem?_getD,sS,hg] at q
         omega)
      | (clear h0
         subst hA
         simp [-List.getD_eq_getElem?_getD,sS,hg] at*
         first
          |done
          | (rw [hans,Bool.eq_iff_iff];simp;omega)
          | (rw [hans];simp;done)
          |omega
          | (intros;omega)
)
noncomputable def y8:Ct:=fun A args=>match args with
 | [.slc n 8 f] =>some (some (A.tp fun _=>ai eE E0 8 n f∧n<=9223372036854775807), .bool (A.tb fun _=>shL (ab eE E0 8 n f)))
 |_=>none
theorem N5{x y:Ent}(h0:x.s=y.s)(h1:x.r=y.r)(h2:x.st=y.st)(h3:x.pan=y.pan)(h4:x.am=y.am)(h5:x.code=y.code)(h6:x.tr=y.tr)(h7:x.ca=y.ca):x=y:=by cases x;cases y;simp_all
theorem El(L M:List Ent)(hL:L.length<=1000000):GFn 27 (fun A=> [aF eE E0 8 A fun _=>L,aF eE E0 8 A fun _=>M]) (fun A=> .bool (A.tb fun _=>decide (L=M))):=by
 refine aC aP ar ak Tryz.func27 (.one) fun A hA=> ?_
 cbv
 repeat' (first| (with_reducible first|exact vT|exact vD hA|exact vE hA|refine vA ?_ ?_) | (intro hc;cbv))
 rotate_right
 all_goals first
  | (fail_if_success (refine Exists.intro ?_ ?_)
     subst hA
     simp [sS] at*
     first|done| (intro e;subst e;exact absurd rfl (by assumption)))
  |skip
 have hl:L.length=M.length:=by subst hA;simp [sS] at hc;omega
 refine ⟨⟨{i:Nat // i<=L.length∧L.take i=M.take i},fun b i=> [(5, .int .i64 (i.1:Nat))],fun b i=> [],fun i=>L.length - i.1,true⟩,⟨⟨0,by omega,rfl⟩, ?_⟩, ?_⟩
 · cbv
   subst hA
   simp [-List.getD_eq_getElem?_getD,sS]
 · rintro ⟨i,hx⟩
   have hi:=hx.1
   have hz:=hx.2
   obtain ⟨e,he⟩: ∃ e,e=L.getD i E0:=⟨_,rfl⟩
   obtain ⟨g,hgg⟩: ∃ g,g=M.getD i E0:=⟨_,rfl⟩
   have h1:L.getD i { s:=0,r:= [],st:=0,pan:= [],am:=0,code:= [],tr:=0,ca:=0 } =e:=he.symm
   have h2:M.getD i { s:=0,r:= [],st:=0,pan:= [],am:=0,code:= [],tr:=0,ca:=0 } =g:=hgg.symm
   have hne: ¬e=g-> ¬L=M:=fun hn hLM=>hn (by rw [he,hgg,hLM])
   rcases Nat.lt_or_ge i L.length with hlt|hge
   · cbv
     repeat' (first| (with_reducible first|exact vT|exact vD hA|exact vE hA|refine vA ?_ ?_) | (intro hc;cbv))
     all_goals first
      | (fail_if_success (refine Exists.intro ?_ ?_)
         clear hz
         subst hA
         simp [-List.getD_eq_getElem?_getD,sS,h1,h2] at*
         first
          |done
          |exact ⟨(show (0:Int)<=((i:Nat):Int) by omega),(show ((i:Nat):Int)<((M.length:Nat):Int) by omega)⟩
          |omega
          | (apply hne;intro h;subst h;simp at hc;done)
          | (intro hLM;refine hne ?_ hLM;intro h;subst h;simp at hc;done)
)
      | (obtain ⟨i',hi'⟩: ∃ i',i'=i+1:=⟨_,rfl⟩
         have hk:e=g:=by
          clear hz hne
          subst hA
          simp [-List.getD_eq_getElem?_getD,sS,h1,h2] at hc
          exact N5 hc.1 hc.2.1 hc.2.2.1 hc.2.2.2.1 hc.2.2.2.2.1 hc.2.2.2.2.2.1 hc.2.2.2.2.2.2.1 hc.2.2.2.2.2.2.2
         refine ⟨⟨i',by omega, ?_⟩, ?_,show L.length - i'<L.length - i by omega⟩
         · rw [hi',<-bk (d:=E0) hlt,<-bk (d:=E0) (show i<M.length by omega),hz,<-he,<-hgg,hk]
         · cbv
           subst hA
           simp [-List.getD_eq_getElem?_getD,sS]
           exact cC hi' (by omega))
   · have hie:i=L.length:=by omega
     rw [hie,List.take_length,hl,List.take_length] at hz
     cbv
     repeat' (first| (with_reducible first|exact vT|exact vD hA|exact vE hA|refine vA ?_ ?_) | (intro hc;cbv))
     all_goals first
      | (exfalso;clear hz;subst hA;simp [-List.getD_eq_getElem?_getD,sS] at hc;omega)
      | (exfalso;clear hz;subst hA;rename_i q;simp [-List.getD_eq_getElem?_getD,sS] at q;omega)
      | (subst hA
         simp [-List.getD_eq_getElem?_getD,sS,hz] at*)
noncomputable def CG:Ct:=fun A args=>match args with
 | [.slc n 8 f, .slc m 8 g] =>some (some (A.tp fun _=>(ai eE E0 8 n f∧ai eE E0 8 m g)∧n<=1000000), .bool (A.tb fun _=>decide (ab eE E0 8 n f=ab eE E0 8 m g)))
 |_=>none
noncomputable def gs9:Ar->Pu:=aq 79 y8 (aq 27 CG (gs8))
theorem y9:az Tryz.prog gl0 (gs9 std):=by
 refine ao (ao (G0) ⟨_,Tryz.func27,rfl,by decide⟩ ?_) ⟨_,Tryz.func79,rfl,by decide⟩ ?_
 · intro args p r h hp
   unfold CG at h
   split at h<;>cases h
   exact aJ (El _ _ (by rw [aN hp.1.1];exact hp.2)) ⟨hp.1.1.sv,hp.1.2.sv,trivial⟩
 · intro args p r h hp
   unfold y8 at h
   split at h<;>cases h
   exact aJ (Bn _ (by rw [aN hp.1];exact hp.2)) ⟨hp.1.sv,trivial⟩
end Go.Vd
namespace Go.Vd
variable {r:List UInt8} {A B:List Ent} {L:List Ent} {s:Int} {e:Ent}
theorem CH{s t:Int}{r q:List UInt8}(h: ¬c8 s r t q<0)(hn: ¬(s=t∧r=q)):c8 t q s r<0:=by
 rw [qV] at*
 rcases Int.lt_trichotomy s t with h1|h1|h1
 · exact absurd (.inl h1) h
 · subst h1
   rcases uW r q with ⟨h2,_⟩ | ⟨h2,_⟩ | ⟨h2,_⟩
   · exact absurd (.inr ⟨rfl,h2⟩) h
   · exact absurd ⟨rfl,h2⟩ hn
   · exact .inr ⟨rfl,h2⟩
 · exact .inl h1
theorem nD{i:Nat}(h:i<L.length):L.getD i E0∈L:=by
 rw [List.getD_eq_getElem?_getD,gEE h];exact List.getElem_mem h
theorem d6{i:Nat}(h:i<L.length):L[i] =L.getD i E0:=by simp [List.getD_eq_getElem?_getD,h]
theorem za :k7 L↔(∀ x∈L,eR x=true)∧L.Pairwise fun x y=>c9 x y<0:=by
 constructor
 · intro h
   refine ⟨fun x hx=> ?_, ?_⟩
   · obtain ⟨i,hi,rfl⟩:=List.getElem_of_mem hx
     rw [d6 hi]
     exact (h i hi).1
   · rw [List.pairwise_iff_getElem]
     intro i j hi hj hij
     rw [d6 hi,d6 hj]
     exact nC h hij hj
 · rintro ⟨h1,h2⟩ j hj
   refine ⟨h1 _ (nD hj),fun h0=> ?_⟩
   rw [List.pairwise_iff_getElem] at h2
   have:=h2 (j - 1) j (by omega) hj (by omega)
   rw [d6 (by omega),d6 hj] at this
   exact this
structure Sp (A B:List Ent) (s:Int) (r:List UInt8):Prop where
 ra: ∀ a∈A,eR a=true
 rb: ∀ b∈B,eR b=true
 pa:A.Pairwise fun x y=>c9 x y<0
 pb:B.Pairwise fun x y=>c9 x y<0
 la: ∀ a∈A,c8 a.s a.r s r<0
 lb: ∀ b∈B,c8 s r b.s b.r<0
theorem Sp.asc(h:Sp A B s r)(he:eR e=true)(hs:e.s=s)(hr:e.r=r):k7 (A++e::B):=by
 rw [za]
 refine ⟨fun x hx=> ?_, ?_⟩
 · rcases List.mem_append.1 hx with hx|hx
   · exact h.ra x hx
   · rcases List.mem_cons.1 hx with rfl|hx
     · exact he
     · exact h.rb x hx
 · rw [List.pairwise_append]
   have hcr: ∀ b∈B,c9 e b<0:=fun b hb=>by unfold c9;rw [hs,hr];exact h.lb b hb
   refine ⟨h.pa,List.pairwise_cons.2 ⟨hcr,h.pb⟩,fun a ha b hb=> ?_⟩
   have h1:c9 a e<0:=by unfold c9;rw [hs,hr];exact h.la a ha
   rcases List.mem_cons.1 hb with rfl|hb
   · exact h1
   · exact nB h1 (hcr b hb)
theorem Sp.kA(h:Sp A B s r){a:Ent}(ha:a∈A):kE s r a=false:=by
 cases hk:kE s r a
 · rfl
 · have:=rP hk
   unfold ltK at this
   have h2:=h.la a ha
   rw [decide_eq_true h2] at this
   cases this
theorem Sp.pos(h:Sp A B s r)(hs:e.s=s)(hr:e.r=r):pos (A++e::B) s r=A.length:=by
 unfold Vd.pos
 rw [List.takeWhile_append_of_pos (fun a ha=>by unfold ltK;exact decide_eq_true (h.la a ha)),List.takeWhile_cons,if_neg (by rw [rP (eF.2 ⟨hs,hr⟩)];simp),List.append_nil]
theorem G1{A:List Ent}(h: ∀ a∈A,kE s r a=false):A.find? (kE s r)=none:=by
 rw [List.find?_eq_none]
 intro x hx
 rw [h x hx]
 simp
theorem Sp.fnd(h:Sp A B s r)(hs:e.s=s)(hr:e.r=r):fnd (A++e::B) s r=e∧has (A++e::B) s r=true:=by
 have hk:kE s r e=true:=eF.2 ⟨hs,hr⟩
 constructor
 · unfold Vd.fnd
   rw [List.find?_append,G1 fun a ha=>h.kA ha,List.find?_cons,hk]
   rfl
 · unfold has
   simp [hk]
theorem Sp.oth{s s':Int}{r r':List UInt8}(hn: ¬(e.s=s'∧e.r=r')):Vd.fnd (A++e::B) s' r'=Vd.fnd (A++B) s' r'∧has (A++e::B) s' r'=has (A++B) s' r':=by
 have hk:kE s' r' e=false:=Ej hn
 constructor
 · unfold Vd.fnd
   rw [List.find?_append,List.find?_append,List.find?_cons,hk]
 · unfold has
   simp [hk]
theorem Qf(h:has L s r=false){x:Ent}(hx:x∈L):kE s r x=false:=by
 unfold has at h
 rw [List.any_eq_false] at h
 exact Bool.eq_false_iff.2 (h x hx)
theorem Sp.of(hasc:k7 L)(hn:has L s r=false):Sp (L.take (Vd.pos L s r)) (L.drop (Vd.pos L s r)) s r:=by
 have h2:=za.1 hasc
 have hpl:=GT L s r
 refine ⟨fun a ha=>h2.1 a (List.mem_of_mem_take ha),fun b hb=>h2.1 b (List.mem_of_mem_drop hb),h2.2.sublist (List.take_sublist _ _),h2.2.sublist (List.drop_sublist _ _),fun a ha=> ?_,fun b hb=> ?_⟩
 · obtain ⟨i,hi,rfl⟩:=List.getElem_of_mem ha
   rw [List.length_take] at hi
   rw [List.getElem_take,d6 (by omega)]
   have:=yY (L:=L) (s:=s) (r:=r) (t:=i) (by omega)
   unfold ltK at this
   exact of_decide_eq_true this
 · have hm:=List.mem_of_mem_drop hb
   have hk:=Qf hn hm
   obtain ⟨i,hi,rfl⟩:=List.getElem_of_mem hb
   rw [List.length_drop] at hi
   rw [List.getElem_drop] at hk ⊢
   rw [d6 (by omega)] at hk ⊢
   have:=CF hasc (s:=s) (r:=r) (t:=Vd.pos L s r+i) (by omega) (by omega)
   unfold ltK at this
   exact CH (of_decide_eq_false this) fun h=>by rw [eF.2 h] at hk;cases hk
theorem Kb(h:g6 L e=0):shR L=true∧eR e=true∧has L e.s e.r=false∧ ¬L.length=128∧L.length<=128∧Sp (L.take (pos L e.s e.r)) (L.drop (pos L e.s e.r)) e.s e.r∧dP L e=L.take (pos L e.s e.r)++e::L.drop (pos L e.s e.r)∧L=L.take (pos L e.s e.r)++L.drop (pos L e.s e.r):=by
 by_cases h1:(shR L && eR e)=true
 · have h2:shR L=true∧eR e=true:=by simpa using h1
   have h3:=mA h2.1
   have hb:(bif shR L then eR e else false)=true:=by rw [h2.1,h2.2];rfl
   cases h4:has L e.s e.r
   · by_cases h5:L.length=128
     · rw [(GX hb h4 h5).2] at h;cases h
     · have h6:=(yX hb h4 h5).1
       refine ⟨h2.1,h2.2,rfl,h5,h3.2,Sp.of ((gZ L).1 h3.1) h4, ?_,(List.take_append_drop _ _).symm⟩
       rw [h6,List.append_assoc];rfl
   · rw [(GW hb h4).2] at h;cases h
 · unfold g6 at h
   rw [if_neg h1] at h
   cases h
theorem Kc(h:Sp A B e.s e.r)(he:eR e=true)(hl:A.length+B.length<128):shR (A++e::B)=true∧has (A++e::B) e.s e.r=true∧fnd (A++e::B) e.s e.r=e∧pos (A++e::B) e.s e.r=A.length:=by
 refine ⟨CD (by simp;omega) (h.asc he rfl rfl),(h.fnd rfl rfl).2,(h.fnd rfl rfl).1,h.pos rfl rfl⟩
end Go.Vd
namespace Go.Vd
open Go.Proofs
abbrev Tbl:=List (List Ent)
def eEs:En (List Ent):=fun A b=> [aF eE E0 8 A b]
theorem N6:Inj eEs 1:=fun x y h=>by
 obtain ⟨s,h1,h2⟩:=h 0 (by omega)
 exact GR.row (d:=E0) h1 h2
theorem rQ{n:Nat}{f:Nat->Nat->SV}{x:List Ent}(h:au eE E0 8 n f x): ∀ j,j<1->Ceq (ap [SV.slc n 8 f] j) (ap (eEs std fun _=>x) j):=by
 intro j hj
 obtain rfl:j=0:=by omega
 exact h.cell
theorem aT(T:Tbl):ab eEs [] 1 T.length (ax eEs [] std fun _=>T)=T:=eA N6 T
theorem bg(T:Tbl):ai eEs [] 1 T.length (ax eEs [] std fun _=>T):=f9 T
def enQ (e:Ent):Prop:=(0<=e.s∧e.s<4294967296)∧e.r.length<=1000000∧e.pan.length<=100000∧e.code.length<=1000000
theorem Em{e:Ent}(h:enQ e):enS e:=⟨h.2.2.1,h.2.2.2⟩
def tbQ (T:Tbl):Prop:=T.length<=1000000∧(∀ i,(T.getD i []).length<=1000000)∧ ∀ i j,enQ ((T.getD i []).getD j E0)
def cnt (T:Tbl):Nat:=(T.map List.length).sum
theorem nE(T:Tbl){i:Nat}(hi:i<T.length):cnt (T.take (i+1))=cnt (T.take i)+(T.getD i []).length:=by
 unfold cnt
 rw [<-bk (d:= []) hi,List.map_append,List.sum_append]
 simp
theorem zb(T:Tbl)(i:Nat):cnt (T.take i)<=cnt T:=by
 unfold cnt
 conv=>rhs;rw [<-List.take_append_drop i T]
 rw [List.map_append,List.sum_append]
 omega
def rS (n i:Nat)(e:Ent):Bool:=decide (dK e.s e.r (n:Int)=(i:Int))
def g7 (T:Tbl)(i:Nat):Bool:=shR (T.getD i [])&&(T.getD i []).all (rS T.length i)
def szR (m:Int)(n:Int):Bool:=(decide (0<=m)&& decide (m<=128))&&(decide (1<=n)&& decide (n<=16))
def tbR (m:Int)(T:Tbl):Bool:=szR m (T.length:Int)&&((List.range T.length).all (g7 T)&& decide ((cnt T:Int)<=m))
theorem RZ{p:Ent->Bool}{L:List Ent}(h: ∀ k,k<L.length->p (L.getD k E0)=true):L.all p=true:=by
 rw [List.all_eq_true]
 intro x hx
 obtain ⟨k,hk,rfl⟩:=List.getElem_of_mem hx
 rw [d6 hk]
 exact h k hk
theorem N7{p:Ent->Bool}{L:List Ent}{k:Nat}(hk:k<L.length)(h:p (L.getD k E0)=false):L.all p=false:=by
 rw [Bool.eq_false_iff]
 intro h2
 rw [List.all_eq_true] at h2
 rw [h2 _ (nD hk)] at h
 cases h
theorem Qg{m:Int}{T:Tbl}{i:Nat}(hi:i<T.length)(h:g7 T i=false):tbR m T=false:=by
 have:(List.range T.length).all (g7 T)=false:=by
  rw [Bool.eq_false_iff]
  intro h2
  rw [List.all_eq_true] at h2
  rw [h2 i (List.mem_range.2 hi)] at h
  cases h
 unfold tbR
 rw [this]
 simp
theorem N8{T:Tbl}(h: ∀ j,j<T.length->g7 T j=true):(List.range T.length).all (g7 T)=true:=by
 rw [List.all_eq_true]
 intro j hj
 exact h j (List.mem_range.1 hj)
theorem Qh{m:Int}{T:Tbl}(h:szR m (T.length:Int)=true)(ha:(List.range T.length).all (g7 T)=true):cnt T<=2048:=by
 have h1:T.length<=16:=by simp [szR] at h;omega
 have h2: ∀ i,i<=T.length->cnt (T.take i)<=128*i:=fun i=>by
  induction i with
  |zero=>intro _;simp [cnt]
  |succ i ih=>
   intro hi
   rw [nE T (by omega)]
   have:=ih (by omega)
   rw [List.all_eq_true] at ha
   have h3:=ha i (List.mem_range.2 (by omega))
   unfold g7 shR at h3
   simp only [bAE,decide_eq_true_eq] at h3
   omega
 have:=h2 T.length (Nat.le_refl _)
 rw [List.take_length] at this
 omega
attribute [local irreducible] vc
theorem Eo(m n:Int):GFn 81 (fun A=> [.int .i64 m, .int .i64 n]) (fun A=> .bool (A.tb fun _=>szR m n)):=by
 refine aC aP ar ak Tryz.func81 (.one) fun A hA=> ?_
 cbv
 repeat' (first| (with_reducible first|exact vT|exact vD hA|exact vE hA|refine vA ?_ ?_) | (intro hc;cbv))
 all_goals (subst hA;simp [sS,szR] at*)
 all_goals first
  | (rw [Bool.eq_iff_iff];simp;omega)
noncomputable def CI:Ct:=fun A args=>match args with
 | [.int .i64 m, .int .i64 n] =>some (none, .bool (A.tb fun _=>szR m n))
 |_=>none
theorem Bo(m:Int)(T:Tbl)(hT:T.length<=1000000)(hc0:cnt T<=1000000):GFn 91 (fun A=> [.agg [.int .i64 m,aF eEs [] 1 A fun _=>T]]) (fun A=> .int .i64 (A.ti fun _=>(cnt T:Int))):=by
 refine aC aP ar ak Tryz.func91 (.one) fun A hA=> ?_
 cbv
 repeat' (first| (with_reducible first|exact vT|exact vD hA|exact vE hA|refine vA ?_ ?_) | (intro hc;cbv))
 refine ⟨⟨{p:Nat×Nat // p.1<=T.length∧p.2=cnt (T.take p.1)},fun b p=> [(3, .int .i64 (p.1.2:Nat)),(9, .int .i64 (p.1.1:Nat))],fun b p=> [],fun p=>T.length - p.1.1,true⟩,⟨⟨(0,0),by omega,rfl⟩, ?_⟩, ?_⟩
 · cbv
   subst hA
   simp [-List.getD_eq_getElem?_getD,sS]
 · rintro ⟨⟨i,q⟩,hx⟩
   have hi:i<=T.length:=hx.1
   have hq:q=cnt (T.take i):=hx.2
   rcases Nat.lt_or_ge i T.length with hlt|hge
   · have h1:=nE T hlt
     have h2:=zb T (i+1)
     obtain ⟨i',hi'⟩: ∃ i',i'=i+1:=⟨_,rfl⟩
     obtain ⟨q',hq'⟩: ∃ q',q'=cnt (T.take i'):=⟨_,rfl⟩
     rw [<-hi',<-hq,<-hq'] at h1
     rw [<-hi',<-hq'] at h2
     cbv
     repeat' (first| (with_reducible first|exact vT|exact vD hA|exact vE hA|refine vA ?_ ?_) | (intro hc;cbv))
     all_goals first
      | (fail_if_success (refine Exists.intro ?_ ?_)
         subst hA
         simp [-List.getD_eq_getElem?_getD,sS] at*
         first
          |done
          |omega
)
      | (refine ⟨⟨(i',q'),by omega,hq'⟩, ?_,show T.length - i'<T.length - i by omega⟩
         cbv
         subst hA
         simp [-List.getD_eq_getElem?_getD,sS]
         exact ⟨by rw [w64 (by omega)];omega,cC hi' (by omega)⟩)
   · have hie:i=T.length:=by omega
     rw [hie,List.take_length] at hq
     cbv
     repeat' (first| (with_reducible first|exact vT|exact vD hA|exact vE hA|refine vA ?_ ?_) | (intro hc;cbv))
     all_goals first
      | (exfalso;subst hA;simp [-List.getD_eq_getElem?_getD,sS] at hc;omega)
      | (exfalso;subst hA;rename_i q;simp [-List.getD_eq_getElem?_getD,sS] at q;omega)
      | (subst hA
         simp only [sS]
         exact congrArg Int.ofNat hq)
noncomputable def zd:Ct:=fun A args=>match args with
 | [.agg [.int .i64 m, .slc n 1 f]] =>some (some (A.tp fun _=>ai eEs [] 1 n f∧n<=1000000∧cnt (ab eEs [] 1 n f)<=1000000), .int .i64 (A.ti fun _=>(cnt (ab eEs [] 1 n f):Int)))
 |_=>none
noncomputable def gv1:Ar->Pu:=aq 81 CI (aq 91 zd (gs9))
theorem ze:az Tryz.prog gl0 (gv1 std):=by
 refine ao (ao (y9) ⟨_,Tryz.func91,rfl,by decide⟩ ?_) ⟨_,Tryz.func81,rfl,by decide⟩ ?_
 · intro args p r h hp
   unfold zd at h
   split at h<;>cases h
   exact aJ (Bo _ _ (by rw [aN hp.1];exact hp.2.1) hp.2.2) ⟨⟨_,rfl,rfl,hp.1.sv,trivial⟩,trivial⟩
 · intro args p r h hp
   unfold CI at h
   split at h<;>cases h
   exact Eo _ _
def lB (m n:Int):Int:=if szR m n=true then m else 0
def nF (m n:Int):Tbl:=if szR m n=true then List.replicate n.toNat [] else []
def lC (m n:Int):Int:=if szR m n=true then 0 else 1
theorem Qi{m n:Int}(h:szR m n=true):lB m n=m∧nF m n=List.replicate n.toNat [] ∧lC m n=0:=by unfold lB nF lC;rw [h];simp
theorem Qj{m n:Int}(h:szR m n=false):lB m n=0∧nF m n= [] ∧lC m n=1:=by unfold lB nF lC;rw [h];simp
theorem G2(m n:Int):GFn 32 (fun A=> [.int .i64 m, .int .i64 n]) (fun A=> .tup [.agg [.int .i64 (A.ti fun _=>lB m n),aF eEs [] 1 A fun _=>nF m n], .int .i64 (A.ti fun _=>lC m n)]):=by
 refine aC ze ar ak Tryz.func32 (.none) fun A hA=> ?_
 cbv
 repeat' (first| (with_reducible first|exact vT|exact vD hA|exact vE hA|refine vA ?_ ?_) | (intro hc;cbv))
 all_goals (subst hA;simp only [sS] at*)
 all_goals first
  | (have h:=Qj (l8 hc)
     first
      | (rw [h.1];done)
      | (rw [h.2.1];rfl)
      | (rw [h.2.2];done))
  | (have h0:=jh hc
     have h:=Qi h0
     have h1:1<=n∧n<=16:=by simp [szR] at h0;omega
     first
      | (rw [h.1];done)
      | (rw [h.2.1];simp;done)
      | (rw [h.2.2];done)
      | (simp;omega)
      | (refine c7 (au.fill (enc:=eEs) (d:= []) (x:= []) (fun j hj=> ?_) (fun i=>rfl)) (by rw [h.2.1];simp) h.2.1.symm
         obtain rfl:j=0:=by omega
         exact .nils _ _))
noncomputable def iV1:Nat->Option Func:=bY 113 Tryz.f113 (bY 154 Tryz.f154 (bY 111 Tryz.f111 noI))
theorem Qk:gF Tryz.prog iV1:=bc (bc (bc ak Tryz.func111 (by kernel_rfl)) Tryz.func154 (by kernel_rfl)) Tryz.func113 (by kernel_rfl)
theorem Bp(m:Int)(T:Tbl)(hQ:tbQ T):GFn 64 (fun A=> [.agg [.int .i64 m,aF eEs [] 1 A fun _=>T]]) (fun A=> .bool (A.tb fun _=>tbR m T)):=by
 refine aC ze ar Qk Tryz.func64 (.one) fun A hA=> ?_
 cbv
 repeat' (first| (with_reducible first|exact vT|exact vD hA|exact vE hA|refine vA ?_ ?_) | (intro hc;cbv))
 · subst hA
   simp only [sS] at hc ⊢
   unfold tbR
   rw [l8 hc]
   rfl
 have hsz:szR m (T.length:Int)=true:=by
  rw [hA] at hc
  exact jh hc
 clear hc
 refine ⟨⟨{i:Nat // i<=T.length∧ ∀ j,j<i->g7 T j=true},fun b i=> [(18, .int .i64 (i.1:Nat))],fun b i=> [],fun i=>T.length - i.1,true⟩,⟨⟨0,by omega,by simp⟩, ?_⟩, ?_⟩
 · cbv
   subst hA
   simp [-List.getD_eq_getElem?_getD,sS]
 · rintro ⟨i,hx⟩
   have hi:=hx.1
   have hz:=hx.2
   have hT:=hQ.1
   have hTi:=hQ.2.1 i
   have hTe:=hQ.2.2 i
   obtain ⟨L,hL⟩: ∃ L,L=T.getD i [] :=⟨_,rfl⟩
   rw [<-hL] at hTi hTe
   have hgL:T.getD i [] =L:=hL.symm
   rcases Nat.lt_or_ge i T.length with hlt|hge
   · have hok:shR L=true->(∀ k,k<L.length->rS T.length i (L.getD k E0)=true)->g7 T i=true:=fun h1 h2=>by
      unfold g7
      rw [hgL,h1,RZ h2]
      rfl
     have hno: ∀ b,shR L=b->b=false∨(∃ k,k<L.length∧rS T.length i (L.getD k E0)=false)->tbR m T=false:=fun b hb h=>by
      subst hb
      refine Qg hlt ?_
      unfold g7
      rw [hgL]
      rcases h with h| ⟨k,h1,h2⟩
      · rw [h];rfl
      · rw [N7 h1 h2,Bool.and_false]
     have hEn:=fun k=>Em (hTe k)
     cbv
     repeat' (first| (with_reducible first|exact vT|exact vD hA|exact vE hA|refine vA ?_ ?_) | (intro hc;cbv))
     all_goals first
      | (fail_if_success (refine Exists.intro ?_ ?_)
         clear hz
         subst hA
         simp only [sS,iNE,hgL,aY,bh] at*
         first
          |exact ⟨trivial,hTi,hEn⟩
          |exact hc
          | (constructor<;>omega)
          | (revert hc;cases shR L<;>simp;done)
          | (refine (hno false ?_ (.inl rfl)).symm;revert hc;cases shR L<;>simp;done))
      | (exfalso
         clear hz hok hno
         subst hA
         simp only [sS,iNE,hgL,aY,bh] at*
         rename_i h1
         revert h1 hc
         cases shR L<;>simp
         done)
      | (exfalso
         clear hz hok hno
         subst hA
         simp only [sS,iNE,hgL,aY,bh] at*
         have hq:decide ((i:Int)<(T.length:Int))=false:=by assumption
         have:=of_decide_eq_false hq
         omega)
      |skip
     have hs:shR L=true:=by
      clear hz hok hno
      subst hA
      simp only [sS,iNE,hgL,aY,bh] at*
      cases hs:shR L
      · rw [hs] at hc;cases hc
      · rfl
     refine ⟨⟨{j:Nat // j<=L.length∧ ∀ k,k<j->rS T.length i (L.getD k E0)=true},fun b j=> [(8, .int .i64 (j.1:Nat))],fun b j=> [],fun j=>L.length - j.1,true⟩,⟨⟨0,by omega,by simp⟩, ?_⟩, ?_⟩
     · cbv
       subst hA
       simp [-List.getD_eq_getElem?_getD,sS,hgL]
     · rintro ⟨j,hy⟩
       have hj:=hy.1
       have hyz:=hy.2
       have hTej:=hTe j
       obtain ⟨e,he⟩: ∃ e,e=L.getD j E0:=⟨_,rfl⟩
       have hge:L.getD j { s:=0,r:= [],st:=0,pan:= [],am:=0,code:= [],tr:=0,ca:=0 } =e:=he.symm
       rw [<-he] at hTej
       have hno2:dK e.s e.r (T.length:Int)≠(i:Int)->j<L.length->tbR m T=false:=fun h1 h2=>hno _ rfl (.inr ⟨j,h2,by
        rw [<-he]
        unfold rS
        exact decide_eq_false h1⟩)
       rcases Nat.lt_or_ge j L.length with hltj|hgej
       · cbv
         repeat' (first| (with_reducible first|exact vT|exact vD hA|exact vE hA|refine vA ?_ ?_) | (intro hc;cbv))
         all_goals first
          | (fail_if_success (refine Exists.intro ?_ ?_)
             clear hz hyz hok hno
             subst hA
             simp only [sS,iNE,hgL,hge,aY,bh] at*
             first
              |exact hTej.1
              |exact ⟨Int.natCast_nonneg _,Int.ofNat_lt.2 (by assumption)⟩
              |exact (hno2 (bne_iff_ne.1 (by assumption)) hltj).symm)
          | (exfalso
             clear hz hyz hok hno hno2
             subst hA
             simp only [sS,iNE,hgL,hge,aY,bh] at*
             revert hc
             rw [hs]
             simp
             done)
          | (obtain ⟨j',hj'⟩: ∃ j',j'=j+1:=⟨_,rfl⟩
             have hst:rS T.length i e=true:=by
              clear hz hyz hok hno hno2
              subst hA
              simp only [sS,iNE,hgL,hge,aY,bh] at*
              unfold rS
              exact decide_eq_true (bne_eq_false_iff_eq.1 hc)
             refine ⟨⟨j',by omega,fun k hk=> ?_⟩, ?_,show L.length - j'<L.length - j by omega⟩
             · rcases Nat.lt_or_ge k j with h|h
               · exact hyz k h
               · obtain rfl:k=j:=by omega
                 rw [<-he];exact hst
             · cbv
               subst hA
               simp [-List.getD_eq_getElem?_getD,sS]
               exact cC hj' (by omega))
          | (exfalso
             clear hz hyz hok hno hno2
             subst hA
             simp only [sS,iNE,hgL,hge,aY,bh] at*
             have hq:decide ((j:Int)<(L.length:Int))=false:=by assumption
             have:=of_decide_eq_false hq
             omega)
       · have hje:j=L.length:=by omega
         cbv
         repeat' (first| (with_reducible first|exact vT|exact vD hA|exact vE hA|refine vA ?_ ?_) | (intro hc;cbv))
         all_goals first
          | (exfalso
             clear hz hyz hok hno hno2
             subst hA
             simp only [sS,iNE,hgL,hge,aY,bh] at*
             have hq:decide ((j:Int)<(L.length:Int))=true:=by assumption
             have:=of_decide_eq_true hq
             omega)
          | (exfalso
             clear hz hyz hok hno hno2
             subst hA
             simp only [sS,iNE,hgL,hge,aY,bh] at*
             first
              | (revert hc;rw [hs];simp;done)
              | (rename_i q;simp at q;omega)
              | (simp at hc;omega))
          | (obtain ⟨i',hi'⟩: ∃ i',i'=i+1:=⟨_,rfl⟩
             have hst:g7 T i=true:=hok hs fun k hk=>hyz k (by omega)
             refine ⟨⟨i',by omega,fun k hk=> ?_⟩, ?_,show T.length - i'<T.length - i by omega⟩
             · rcases Nat.lt_or_ge k i with h|h
               · exact hz k h
               · obtain rfl:k=i:=by omega
                 exact hst
             · cbv
               subst hA
               simp [-List.getD_eq_getElem?_getD,sS]
               exact cC hi' (by omega))
   · have hie:i=T.length:=by omega
     have hall:(List.range T.length).all (g7 T)=true:=N8 fun j hj=>hz j (by omega)
     have hcn:cnt T<=1000000:=by
      have:=Qh hsz hall
      omega
     cbv
     repeat' (first| (with_reducible first|exact vT|exact vD hA|exact vE hA|refine vA ?_ ?_) | (intro hc;cbv))
     all_goals first
      | (exfalso
         clear hz
         subst hA
         simp only [sS,iNE] at*
         have hq:decide ((i:Int)<(T.length:Int))=true:=by assumption
         have:=of_decide_eq_true hq
         omega)
      | (exfalso;clear hz;subst hA;simp [-List.getD_eq_getElem?_getD,sS] at hc;omega)
      | (exfalso;clear hz;subst hA;rename_i q;simp [-List.getD_eq_getElem?_getD,sS] at q;omega)
      | (clear hz
         subst hA
         simp only [sS,iNE,aT,bg] at*
         first
          |exact ⟨trivial,hT,hcn⟩
          | (unfold tbR;rw [hsz,hall];rfl))
noncomputable def nG:Ct:=fun A args=>match args with
 | [.agg [.int .i64 m, .slc n 1 f]] =>some (some (A.tp fun _=>ai eEs [] 1 n f∧tbQ (ab eEs [] 1 n f)), .bool (A.tb fun _=>tbR m (ab eEs [] 1 n f)))
 |_=>none
noncomputable def tT:Ct:=fun A args=>match args with
 | [.int .i64 m, .int .i64 n] =>some (none, .tup [.agg [.int .i64 (A.ti fun _=>lB m n),aF eEs [] 1 A fun _=>nF m n], .int .i64 (A.ti fun _=>lC m n)])
 |_=>none
noncomputable def gv2:Ar->Pu:=aq 64 nG (aq 32 tT (gv1))
theorem zf:az Tryz.prog gl0 (gv2 std):=by
 refine ao (ao (ze) ⟨_,Tryz.func32,rfl,by decide⟩ ?_) ⟨_,Tryz.func64,rfl,by decide⟩ ?_
 · intro args p r h hp
   unfold tT at h
   split at h<;>cases h
   exact G2 _ _
 · intro args p r h hp
   unfold nG at h
   split at h<;>cases h
   exact aJ (Bp _ _ hp.2) ⟨⟨_,rfl,rfl,hp.1.sv,trivial⟩,trivial⟩
end Go.Vd
set_option maxHeartbeats 4000000
namespace Go.Proofs
open Go.RowKit Go.Lib Go.Vd Go.Sort
theorem u7(a:Int)(w:World):Calls Tryz.prog 165 #[.int .u32 a] w fun e w'=>e= .returned (.bool false)∧w'=w:=by
 go_enter Tryz.func165,Tryz.ntmps165
 go_wp2
 go_ret
 exact ⟨rfl,rfl⟩
theorem zg(a:ByteArray)(w:World):Calls Tryz.prog 166 #[.string a] w fun e w'=>e= .returned (.bool false)∧w'=w:=by
 go_enter Tryz.func166,Tryz.ntmps166
 go_wp2
 go_ret
 exact ⟨rfl,rfl⟩
theorem N9(a b:Int)(w:World):Calls Tryz.prog 118 #[.int .u32 a, .int .u32 b] w fun e w'=>e= .returned (.int .i64 (cr a b))∧w'=w:=by
 by_cases h1:a<b
 · go_enter Tryz.func118,Tryz.ntmps118
   go_wp2_with (go_at_call 165;refine (u7 _ _).mono ?_;rintro e w' ⟨rfl,rfl⟩)
   go_ret
   exact ⟨by rw [show cr a b= -1 by unfold cr;rw [if_pos h1]];rfl,rfl⟩
 · by_cases h2:b<a
   · go_enter Tryz.func118,Tryz.ntmps118
     go_wp2_with (go_at_call 165;refine (u7 _ _).mono ?_;rintro e w' ⟨rfl,rfl⟩)
     go_ret
     exact ⟨by rw [show cr a b=1 by unfold cr;rw [if_neg (by omega),if_pos h2]];rfl,rfl⟩
   · go_enter Tryz.func118,Tryz.ntmps118
     go_wp2_with (go_at_call 165;refine (u7 _ _).mono ?_;rintro e w' ⟨rfl,rfl⟩)
     go_ret
     exact ⟨by rw [show cr a b=0 by unfold cr;rw [if_neg (by omega),if_neg (by omega)]];rfl,rfl⟩
theorem Ql(a b:ByteArray)(w:World):Calls Tryz.prog 119 #[.string a, .string b] w fun e w'=>e= .returned (.int .i64 (l6 a.data.toList b.data.toList))∧w'=w:=by
 have e1:Op.bytesLess a.toList b.toList=decide (a.data.toList<b.data.toList):=by rw [ByteArray.toList_eq,ByteArray.toList_eq];exact ga _ _
 have e2:Op.bytesLess b.toList a.toList=decide (b.data.toList<a.data.toList):=by rw [ByteArray.toList_eq,ByteArray.toList_eq];exact ga _ _
 have e3:(a.toList==b.toList)=decide (a.data.toList=b.data.toList):=by
  rw [ByteArray.toList_eq,ByteArray.toList_eq,Bool.eq_iff_iff]
  simp only [beq_iff_eq,decide_eq_true_eq]
 have hg: ∀ W,(binOp BinOp.gtr 9 (.string a) (.string b)).run Tryz.prog W= .ok (.bool (!(Op.bytesLess a.toList b.toList|| (a.toList==b.toList)))) W:=fun W=>by simp [go_sem,binOp,Op.stringOp]
 rcases uW a.data.toList b.data.toList with ⟨h1,h2,h3⟩ | ⟨h1,h3⟩ | ⟨h1,h2,h3⟩
 · rw [decide_eq_true h1] at e1
   rw [h3]
   go_enter Tryz.func119,Tryz.ntmps119
   go_wp2_with (go_at_call 166;refine (zg _ _).mono ?_;rintro e w' ⟨rfl,rfl⟩)
   all_goals try (rename_i hx;exfalso;rw [e1] at hx;exact Bool.noConfusion hx)
   go_ret
   exact ⟨rfl,rfl⟩
 · have e4:Op.bytesLess a.toList b.toList=false:=by rw [e1,h1];exact decide_eq_false (List.lt_irrefl _)
   have e5:(a.toList==b.toList)=true:=by rw [e3];exact decide_eq_true h1
   rw [e4,e5] at hg
   rw [h3]
   clear e1 e3 h1 h3
   go_enter Tryz.func119,Tryz.ntmps119
   go_wp2_with (go_at_call 166;refine (zg _ _).mono ?_;rintro e w' ⟨rfl,rfl⟩)
   go_ret
   exact ⟨rfl,rfl⟩
 · have e4:Op.bytesLess a.toList b.toList=false:=by rw [e1];exact decide_eq_false (List.lt_asymm h1)
   have e5:(a.toList==b.toList)=false:=by rw [e3];exact decide_eq_false h2
   rw [e4,e5] at hg
   rw [h3]
   clear e1 e3 h1 h3
   go_enter Tryz.func119,Tryz.ntmps119
   go_wp2_with (go_at_call 166;refine (zg _ _).mono ?_;rintro e w' ⟨rfl,rfl⟩)
   go_ret
   exact ⟨rfl,rfl⟩
theorem LQ(x y:Int)(g:Nat)(W:World)(h0:W.cell? ⟨g,0,none⟩=some (.int .i64 x))(h1:W.cell? ⟨g,1,none⟩=some (.int .i64 y)):
 Calls Tryz.prog 117 #[.slice (some ⟨g,0,none⟩) 2 2] W fun e w'=>e= .returned (.int .i64 (orL [x,y]))∧w'=W:=by
 by_cases hx:x=0
 · subst hx
   by_cases hy:y=0
   · subst hy
     rw [show orL [0,0] =0 from rfl]
     go_enter Tryz.func117,Tryz.ntmps117
     go_wp2
     refine wp_loop_rounds 3 ?_
     rw [rounds_succ]
     go_wp2
     try rw [rounds_succ]
     go_wp2
     try rw [rounds_succ]
     go_wp2
     go_ret
     exact ⟨rfl,rfl⟩
   · rw [show orL [0,y] =y by simp [orL,hy]]
     go_enter Tryz.func117,Tryz.ntmps117
     go_wp2
     refine wp_loop_rounds 2 ?_
     rw [rounds_succ]
     go_wp2
     try rw [rounds_succ]
     go_wp2
     go_ret
     exact ⟨rfl,rfl⟩
 · rw [show orL [x,y] =x by simp [orL,hx]]
   go_enter Tryz.func117,Tryz.ntmps117
   go_wp2
   refine wp_loop_rounds 1 ?_
   rw [rounds_succ]
   go_wp2
   go_ret
   exact ⟨rfl,rfl⟩
theorem Qm(W:World)(A B C:Obj):((W.alloc A).alloc B).drew.alloc C=grow (W.drewN 1) #[A,B,C] :=by
 simp only [World.alloc,World.drew,World.drewN,grow,World.mk.injEq,and_true,true_and]
 first|done| (apply Array.ext';simp)
theorem G3(W:World)(A B:Obj)(n:Nat)(os:Array Obj):grow (((W.alloc A).alloc B).drewN n) os=grow (W.drewN n) (#[A,B] ++os):=by
 simp only [World.alloc,World.drew,World.drewN,grow,World.mk.injEq,and_true,true_and]
 first|done| (apply Array.ext';simp)
theorem zh(s t:Int)(r q:ByteArray)(W:World):Calls Tryz.prog 69 #[.agg #[.int .u32 s, .string r], .agg #[.int .u32 t, .string q]] W fun e w'=>e= .returned (.int .i64 (c8 s r.data.toList t q.data.toList))∧ ∃ n os',w'=grow (W.drewN n) os':=by
 have hp:=Cq s r.data.toList t q.data.toList
 generalize hres:c8 s r.data.toList t q.data.toList=res at hp ⊢
 go_enter Tryz.func69,Tryz.ntmps69
 go_wp2
 have c0:((W.alloc (Obj.cells #[Value.int IntKind.u32 s,Value.string r] 66)).alloc (Obj.cells #[Value.int IntKind.u32 t,Value.string q] 66)).cell? ⟨W.heap.size,0,none⟩=some (.int .u32 s):=by simp
 have c1:((W.alloc (Obj.cells #[Value.int IntKind.u32 s,Value.string r] 66)).alloc (Obj.cells #[Value.int IntKind.u32 t,Value.string q] 66)).cell? ⟨W.heap.size,1,none⟩=some (.string r):=by simp
 have c2:((W.alloc (Obj.cells #[Value.int IntKind.u32 s,Value.string r] 66)).alloc (Obj.cells #[Value.int IntKind.u32 t,Value.string q] 66)).cell? ⟨W.heap.size+1,0,none⟩=some (.int .u32 t):=by simp
 have c3:((W.alloc (Obj.cells #[Value.int IntKind.u32 s,Value.string r] 66)).alloc (Obj.cells #[Value.int IntKind.u32 t,Value.string q] 66)).cell? ⟨W.heap.size+1,1,none⟩=some (.string q):=by simp
 generalize hW2:((W.alloc (Obj.cells #[Value.int IntKind.u32 s,Value.string r] 66)).alloc (Obj.cells #[Value.int IntKind.u32 t,Value.string q] 66))=W2 at c0 c1 c2 c3 ⊢
 go_still_tail 10,(by kernel_rfl)
 still_call (N9 _ _ _)
 repeat still_step
 still_call (Ql _ _ _)
 refine wpStill_nil ?_
 change wpList _ _ _ _ _ W2.drew
 have hor:=fun W h0 h1=>LQ (cr s t) (l6 r.data.toList q.data.toList) W2.heap.size W h0 h1
 rw [hp] at hor
 go_wp2_with (go_at_call 117;refine (hor _ (by simp) (by simp)).mono ?_;rintro e w' ⟨rfl,rfl⟩)
 go_ret
 refine ⟨rfl, ?_⟩
 subst hW2
 exact ⟨1,_,Qm ..⟩
theorem Qn(s t st st2 am am2 tr tr2 ca ca2:Int)(r q pan pan2 code code2:ByteArray)(W:World):Calls Tryz.prog 68 #[.agg #[.int .u32 s, .string r, .int .i64 st, .string pan, .int .u64 am, .string code, .int .i64 tr, .int .i64 ca], .agg #[.int .u32 t, .string q, .int .i64 st2, .string pan2, .int .u64 am2, .string code2, .int .i64 tr2, .int .i64 ca2]] W fun e w'=>e= .returned (.int .i64 (c8 s r.data.toList t q.data.toList))∧ ∃ n os',w'=grow (W.drewN n) os':=by
 have hk:=fun W=>zh s t r q W
 generalize c8 s r.data.toList t q.data.toList=res at hk ⊢
 go_enter Tryz.func68,Tryz.ntmps68
 go_wp2_with (go_at_call 69;refine (hk _).mono ?_;rintro e w' ⟨rfl,n,os',rfl⟩)
 go_ret
 refine ⟨rfl, ?_⟩
 exact ⟨n,_,G3 ..⟩
end Go.Proofs
namespace Go.Proofs
open Go.Shelf
def Tryz.sortEn_ren:Go.Shelf.Ren:=⟨fun|6=>67|15=>116|14=>115|28=>163|29=>164|20=>155|21=>156|22=>157|23=>158|24=>159|25=>160|26=>161|27=>162|46=>201|47=>202|48=>203|49=>204|50=>205|57=>217|n=>n,fun|22=>73|24=>69|25=>127|3=>3|39=>168|0=>0|53=>35|55=>22|4=>4|46=>204|45=>203|50=>120|5=>5|9=>9|66=>237|70=>241|76=>255|77=>256|n=>n,fun|n=>n⟩
theorem Tryz.sortEn:Go.Proofs.SlLaysF0.n6 Tryz.prog Tryz.sortEn_ren:= {
 mixed:=by kernel_rfl
 f6:=⟨Tryz.f67.name,by decide,Tryz.func67.trans (congrArg some (by kernel_rfl))⟩
 f14:=⟨Tryz.f115.name,by decide,Tryz.func115.trans (congrArg some (by kernel_rfl))⟩
 f15:=Tryz.func116.trans (congrArg some (by kernel_rfl))
 f20:=⟨Tryz.f155.name,by decide,Tryz.func155.trans (congrArg some (by kernel_rfl))⟩
 f21:=⟨Tryz.f156.name,by decide,Tryz.func156.trans (congrArg some (by kernel_rfl))⟩
 f22:=⟨Tryz.f157.name,by decide,Tryz.func157.trans (congrArg some (by kernel_rfl))⟩
 f23:=⟨Tryz.f158.name,by decide,Tryz.func158.trans (congrArg some (by kernel_rfl))⟩
 f24:=⟨Tryz.f159.name,by decide,Tryz.func159.trans (congrArg some (by kernel_rfl))⟩
 f25:=⟨Tryz.f160.name,by decide,Tryz.func160.trans (congrArg some (by kernel_rfl))⟩
 f26:=⟨Tryz.f161.name,by decide,Tryz.func161.trans (congrArg some (by kernel_rfl))⟩
 f27:=⟨Tryz.f162.name,by decide,Tryz.func162.trans (congrArg some (by kernel_rfl))⟩
 f28:=Tryz.func163.trans (congrArg some (by kernel_rfl))
 f29:=Tryz.func164.trans (congrArg some (by kernel_rfl))
 f46:=⟨Tryz.f201.name,by decide,Tryz.func201.trans (congrArg some (by kernel_rfl))⟩
 f47:=Tryz.func202.trans (congrArg some (by kernel_rfl))
 f48:=Tryz.func203.trans (congrArg some (by kernel_rfl))
 f49:=⟨Tryz.f204.name,by decide,Tryz.func204.trans (congrArg some (by kernel_rfl))⟩
 f50:=⟨Tryz.f205.name,by decide,Tryz.func205.trans (congrArg some (by kernel_rfl))⟩
 f57:=⟨Tryz.f217.name,by decide,Tryz.func217.trans (congrArg some (by kernel_rfl))⟩
 t0:=Tryz.underlying0
 a0:=Tryz.isAgg0
 z0:=Tryz.sizeOf0
 v0:=Tryz.zeroValue0
 t3:=Tryz.underlying3
 a3:=Tryz.isAgg3
 z3:=Tryz.sizeOf3
 v3:=Tryz.zeroValue3
 t4:=Tryz.underlying4
 a4:=Tryz.isAgg4
 z4:=Tryz.sizeOf4
 v4:=Tryz.zeroValue4
 t5:=Tryz.underlying5
 a5:=Tryz.isAgg5
 z5:=Tryz.sizeOf5
 v5:=Tryz.zeroValue5
 t9:=Tryz.underlying9
 a9:=Tryz.isAgg9
 z9:=Tryz.sizeOf9
 v9:=Tryz.zeroValue9
 t22:=Tryz.underlying73
 a22:=Tryz.isAgg73
 z22:=Tryz.sizeOf73
 v22:=Tryz.zeroValue73
 t25:=Tryz.underlying127
 a25:=Tryz.isAgg127
 z25:=Tryz.sizeOf127
 v25:=Tryz.zeroValue127
 t39:=Tryz.underlying168
 a39:=Tryz.isAgg168
 z39:=Tryz.sizeOf168
 v39:=Tryz.zeroValue168
 t45:=Tryz.underlying203
 a45:=Tryz.isAgg203
 z45:=Tryz.sizeOf203
 v45:=Tryz.zeroValue203
 t46:=Tryz.underlying204
 a46:=Tryz.isAgg204
 z46:=Tryz.sizeOf204
 v46:=Tryz.zeroValue204
 t50:=Tryz.underlying120
 a50:=Tryz.isAgg120
 z50:=Tryz.sizeOf120
 v50:=Tryz.zeroValue120
 t53:=Tryz.underlying35
 a53:=Tryz.isAgg35
 z53:=Tryz.sizeOf35
 v53:=Tryz.zeroValue35
 t55:=Tryz.underlying22
 a55:=Tryz.isAgg22
 z55:=Tryz.sizeOf22
 v55:=Tryz.zeroValue22
 t66:=Tryz.underlying237
 a66:=Tryz.isAgg237
 z66:=Tryz.sizeOf237
 v66:=Tryz.zeroValue237
 t70:=Tryz.underlying241
 a70:=Tryz.isAgg241
 z70:=Tryz.sizeOf241
 v70:=Tryz.zeroValue241
 t76:=Tryz.underlying255
 a76:=Tryz.isAgg255
 z76:=Tryz.sizeOf255
 v76:=Tryz.zeroValue255
 t77:=Tryz.underlying256
 a77:=Tryz.isAgg256
 z77:=Tryz.sizeOf256
 v77:=Tryz.zeroValue256 }
end Go.Proofs
namespace Go.Proofs
open Go.Shelf Go.RowKit Go.Lib Go.Vd Go.Sort
instance entInh:Inhabited Ent:=⟨E0⟩
def dQ (e:Ent):List Value:= [.int .u32 e.s, .string ⟨e.r.toArray⟩, .int .i64 e.st, .string ⟨e.pan.toArray⟩, .int .u64 e.am, .string ⟨e.code.toArray⟩, .int .i64 e.tr, .int .i64 e.ca]
noncomputable def rU (L:List Ent):Array Ent:=pdq (ltOf c9) L.toArray 0 L.toArray.size (Lib.bitLen L.toArray.size) true true
noncomputable def fM (L:List Ent):List Ent:=(rU L).toList
theorem u9(x y:Ent):ltOf c9 x y=decide (x.s<y.s∨(x.s=y.s∧x.r<y.r)):=by
 unfold ltOf c9
 rw [gA]
 by_cases h1:x.s=y.s∧x.r=y.r
 · rw [if_pos h1]
   have h2: ¬(x.s<y.s∨(x.s=y.s∧x.r<y.r)):=by
    rintro (h|h)
    · omega
    · rw [h1.2] at h;exact List.lt_irrefl _ h.2
   rw [decide_eq_false h2];decide
 · rw [if_neg h1]
   by_cases h2:x.s<y.s∨(x.s=y.s∧x.r<y.r)
   · rw [if_pos h2,decide_eq_true h2];decide
   · rw [if_neg h2,decide_eq_false h2];decide
theorem SJ(a b:List UInt8):a<b∨a=b∨b<a:=by
 rcases uW a b with ⟨h,_⟩ | ⟨h,_⟩ | ⟨h,_⟩
 · exact .inl h
 · exact .inr (.inl h)
 · exact .inr (.inr h)
theorem Qo:SWO (ltOf c9) where
 irrefl x:=by
  rw [u9]
  refine decide_eq_false ?_
  rintro (h|h)
  · omega
  · exact List.lt_irrefl _ h.2
 trans x y z h1 h2:=by
  rw [u9] at*
  simp only [decide_eq_true_eq] at*
  rcases h1 with h1| ⟨h1,h3⟩<;>rcases h2 with h2| ⟨h2,h4⟩
  · exact .inl (by omega)
  · exact .inl (by omega)
  · exact .inl (by omega)
  · exact .inr ⟨by omega,List.lt_trans h3 h4⟩
 ntrans x y z h1 h2:=by
  rw [u9] at*
  simp only [decide_eq_false_iff_not,not_or,not_and] at*
  refine ⟨by omega,fun h3 h4=> ?_⟩
  have h5:x.s=y.s:=by omega
  have h6:y.s=z.s:=by omega
  have h7:=h1.2 h5
  have h8:=h2.2 h6
  rcases SJ x.r y.r with h|h|h
  · exact h7 h
  · rw [h] at h4;exact h8 h4
  · exact h8 (List.lt_trans h h4)
theorem km(L:List Ent):(fM L).length=L.length∧(fM L).Perm L∧ ∀ i j,i<j->j<L.length->ltOf c9 ((fM L).getD j E0) ((fM L).getD i E0)=false:=by
 have h:=pdq_sorts (ltOf c9) Qo L.toArray 0 L.toArray.size (Lib.bitLen L.toArray.size) true true (Nat.zero_le _) (Nat.le_refl _) (Or.inl rfl)
 have hs:(rU L).size=L.length:=h.1.1.trans (by simp)
 have hb: ∀ j,(rU L)[j]! =(fM L).getD j E0:=fun j=>by
  unfold fM
  rw [List.getD_eq_getElem?_getD,Array.getElem?_toList,Array.getElem!_eq_getD,Array.getD_eq_getD_getElem?]
  rfl
 refine ⟨?_, ?_,fun i j hij hj=> ?_⟩
 · unfold fM;rw [Array.length_toList,hs]
 · have hp:=h.1.2.2
   have e1:((rU L).extract 0 L.toArray.size).toList=fM L:=by
    rw [<-h.1.1];unfold fM;exact congrArg Array.toList (Array.extract_size ..)
   have e2:(L.toArray.extract 0 L.toArray.size).toList=L:=by rw [Array.extract_size]
   rw [e2] at hp
   rw [<-e1]
   exact hp
 · rw [<-hb,<-hb]
   exact h.2 i j (Nat.zero_le _) hij (by simpa using hj)
theorem zj(x:Ent): ∀ v∈dQ x,v.oneCell'=true:=fun v hv=>by
 simp only [dQ,List.mem_cons,List.not_mem_nil,or_false] at hv
 rcases hv with rfl|rfl|rfl|rfl|rfl|rfl|rfl|rfl<;>rfl
theorem LR{j:Nat}(hj:j<8):j=0∨j=1∨j=2∨j=3∨j=4∨j=5∨j=6∨j=7:=by omega
theorem R0(s:ByteArray):(⟨s.data.toList.toArray⟩:ByteArray)=s:=by apply ByteArray.ext;simp
theorem Kd{w:World}{rw:Nat->Prop}{L:List UInt8}{v:Value}(h:RelC w rw v (.str L)):v= .string ⟨L.toArray⟩:=by
 generalize hs:SV.str L=t at h
 cases h with
 |str s=>cases hs;rw [R0]
 |_=>cases hs
theorem Ke{w:World}{rw:Nat->Prop}{k:IntKind}{n:Int}{v:Value}(h:RelC w rw v (.int k n)):v= .int k n:=by
 generalize hs:SV.int k n=t at h
 cases h with
 |int=>cases hs;rfl
 |_=>cases hs
theorem Kf{w:World}{rw:Nat->Prop}{e:Ent}{j:Nat}(hj:j<8){v:Value}(h:RelC w rw v (ap (eE std fun _=>e) j)):(dQ e)[j]? =some v:=by
 rcases LR hj with rfl|rfl|rfl|rfl|rfl|rfl|rfl|rfl
 all_goals
  simp only [eE,ap,sS] at h
  first
   | (rw [Ke h];rfl)
   | (rw [Kd h];rfl)
theorem Kg(w:World)(rw:Nat->Prop)(e:Ent){j:Nat}(hj:j<8){v:Value}(h:(dQ e)[j]? =some v):RelC w rw v (ap (eE std fun _=>e) j):=by
 rcases LR hj with rfl|rfl|rfl|rfl|rfl|rfl|rfl|rfl<;>cases h
 · exact .int _ _
 · exact .str ⟨e.r.toArray⟩
 · exact .int _ _
 · exact .str ⟨e.pan.toArray⟩
 · exact .int _ _
 · exact .str ⟨e.code.toArray⟩
 · exact .int _ _
 · exact .int _ _
theorem rV(L:List Ent){i j:Nat}(hi:i<L.length)(hj:j<8):(flatK dQ 8 L.toArray)[i*8+j]? =(dQ (L.getD i E0))[j]? :=by
 have h8:(dQ (L.getD i E0)).length=8:=rfl
 have hlt:i*8+j<(flatK dQ 8 L.toArray).size:=by rw [size_flatK];simp;omega
 have h:=get_flatK dQ 8 L.toArray (i*8+j) (by rw [size_flatK] at hlt;exact hlt)
 rw [show (i*8+j) / 8=i by omega,show (i*8+j) % 8=j by omega,getElem!_pos (flatK dQ 8 L.toArray) (i*8+j) hlt] at h
 rw [Array.getElem?_eq_getElem hlt,h]
 have e1:L.toArray[i]! =L.getD i E0:=by
  rw [getElem!_pos L.toArray i (by simpa using hi),List.getD_eq_getElem?_getD,List.getElem?_eq_getElem hi]
  simp
 rw [e1,List.getElem?_eq_getElem (by omega),getElem!_pos (dQ (L.getD i E0)) j (by omega)]
theorem G4(blk off size:Nat)(w:World):CmpLays Tryz.prog 68 #[] dQ 8 c9 blk off size w:=
 fun _ _ _ _ x y=>Qn x.s y.s x.st y.st x.am y.am x.tr y.tr x.ca y.ca ⟨x.r.toArray⟩ ⟨y.r.toArray⟩ ⟨x.pan.toArray⟩ ⟨y.pan.toArray⟩ ⟨x.code.toArray⟩ ⟨y.code.toArray⟩ _
theorem Oa(gl:Nat->SV)(n:Nat)(g:Nat->Nat->SV)(hr:ai eE E0 8 n g)(hn0:n<=1000000):
 DN Tryz.prog gl 67 69 8 n g [.clo 68 []] (ax eE E0 std fun _=>fM (ab eE E0 8 n g)):=by
 intro w ρ rw N v vs xs hrw hgl hv hown hone hrel hargs
 obtain ⟨L,hL⟩: ∃ L,L=ab eE E0 8 n g:=⟨_,rfl⟩
 have hRep:au eE E0 8 n g L:=hL▸hr.reps
 rw [<-hL]
 clear hL hr
 have hn:=hRep.1
 subst hn
 match vs,hargs with
 | [v1],⟨r1,_⟩=>
   have e1:v1= .func (.func 68) #[] #[] :=by
    generalize hs:SV.clo 68 [] =t at r1
    cases r1 with
    |clo f cs l hl h hm=>
     cases hs
     have:cs= #[] :=Array.eq_empty_of_size_eq_zero hl
     rw [this]
    |_=>cases hs
   subst e1
   have hxl:xs.length=L.length*8:=hown.1
   have hxs:xs=(flatK dQ 8 L.toArray).toList:=by
    apply List.ext_getElem?
    intro t
    rcases Nat.lt_or_ge t (L.length*8) with ht|ht
    · have h1:=rV L (i:=t / 8) (j:=t % 8) (by omega) (Nat.mod_lt _ (by decide))
      rw [show t / 8*8+t % 8=t by omega] at h1
      have h3:(flatK dQ 8 L.toArray).toList[t]? =(flatK dQ 8 L.toArray)[t]? :=Array.getElem?_toList
      rw [h3,h1,List.getElem?_eq_getElem (show t<xs.length by omega)]
      have h2:=hrel (t / 8) (t % 8) xs[t] (by omega) (Nat.mod_lt _ (by decide)) (by rw [show t / 8*8+t % 8=t by omega];exact List.getElem?_eq_getElem (by omega))
      exact (Kf (Nat.mod_lt _ (by decide)) (RelC.ceq (hRep.2 _ _ (by omega) (Nat.mod_lt _ (by decide))) h2)).symm
    · rw [List.getElem?_eq_none (by omega),List.getElem?_eq_none (by simp;omega)]
   rcases hown.2 with ⟨⟨a,rfl⟩,h0⟩ | ⟨blk,cap,cur,rfl,hc0,hC,hnc,hcm,hcs,htk⟩
   · have hl0:L= [] :=List.eq_nil_of_length_eq_zero h0
     subst hl0
     refine (AnyF.slices_SortFunc_none Tryz.sortEn a 0 _ w).mono fun en w' hq=> ?_
     obtain ⟨rfl,rfl⟩:=hq
     exact ⟨rfl,xs,hown,hone,⟨rfl,rfl,rfl,Nat.le_refl _,fun _ _ _=>rfl⟩,fun _ _ i j u hi=>absurd hi (Nat.not_lt_zero _)⟩
   · obtain ⟨mk,hh,hmk⟩:=hC
     obtain rfl:mk=(0,0):=by
      rcases hmk with h| ⟨_,h⟩
      · exact h
      · exact absurd h (by decide)
     have hblk:blk<w.heap.size:=(Array.getElem?_eq_some_iff.1 hh).1
     have hH:HoldsK dQ 8 w blk 0 L.toArray:=fun t ht=>by
      rw [size_flatK] at ht
      have ht':t<L.length*8:=by simpa using ht
      have h3:(flatK dQ 8 L.toArray)[t]? =cur[t]? :=by
       have h4:(flatK dQ 8 L.toArray)[t]? =xs[t]? :=by rw [hxs];exact Array.getElem?_toList.symm
       rw [h4,<-htk,List.getElem?_take_of_lt ht',Array.getElem?_toList]
      have ht2:t<(flatK dQ 8 L.toArray).size:=by rw [size_flatK];exact ht
      refine ⟨?_, ?_⟩
      · rw [Nat.zero_add,getElem!_pos (flatK dQ 8 L.toArray) t ht2,World.cell?]
        simp only [hh]
        rw [<-h3,Array.getElem?_eq_getElem ht2]
        rfl
      · rw [World.frozen?]
        simp only [hh]
        simp
     have hsrt:=km L
     have h:=AnyQ.slices_SortFunc_eq Tryz.sortEn 8 Tryz.isAgg69 Tryz.sizeOf69 dQ (fun _=>rfl) zj c9 Qo 68 #[] blk 0 cap L.toArray w (enters_of Tryz.func68 (by kernel_rfl) rfl) (G4 blk 0 L.toArray.size w) hH hblk (by simp;omega)
     rw [show L.toArray.size=L.length by simp] at h
     refine h.mono fun en w' hq=> ?_
     obtain ⟨rfl,m,os,rfl⟩:=hq
     rw [show pdq (ltOf c9) L.toArray 0 L.length (Lib.bitLen L.length) true true=rU L by unfold rU;rw [show L.toArray.size=L.length by simp]]
     obtain ⟨D,hD⟩: ∃ D,D=fM L:=⟨_,rfl⟩
     have hA:rU L=D.toArray:=by rw [hD];unfold fM;simp
     rw [<-hD] at hsrt ⊢
     rw [hA]
     clear hD hA h
     obtain ⟨F,hF⟩: ∃ F,F=flatK dQ 8 D.toArray:=⟨_,rfl⟩
     have hFs:F.size=L.length*8:=by rw [hF,size_flatK];simp [hsrt.1]
     have hcl:L.length*8<=cur.size:=by rw [hcs];exact Nat.mul_le_mul_right 8 hnc
     obtain ⟨cur2,hcur2⟩: ∃ cur2,cur2=putCells id 0 F cur:=⟨_,rfl⟩
     have hz2:cur2.size=cur.size:=by rw [hcur2];simp [putCells]
     have htk2:cur2.toList.take (L.length*8)=F.toList:=by
      apply List.ext_getElem?
      intro t
      rcases Nat.lt_or_ge t (L.length*8) with ht|ht
      · rw [List.getElem?_take_of_lt ht,Array.getElem?_toList,Array.getElem?_toList,hcur2]
        simp only [putCells,Array.getElem?_mapIdx]
        rw [Array.getElem?_eq_getElem (show t<cur.size by omega),Array.getElem?_eq_getElem (show t<F.size by omega),Option.map_some,if_pos ⟨Nat.zero_le _,by omega⟩,Nat.sub_zero,getElem!_pos F t (by omega)]
        rfl
      · rw [List.getElem?_eq_none (by rw [List.length_take];omega),List.getElem?_eq_none (by rw [Array.length_toList,hFs];exact ht)]
     have hhp: ∀ b,b<w.heap.size->(sortWorldK dQ 8 w blk 0 m D.toArray os).heap[b]? =if b=blk then some (.cells cur2 69 (0,0)) else w.heap[b]? :=fun b hb=>by
      unfold sortWorldK
      rw [heap_grow_old _ _ (by show b<(putRow id _ blk 0 _).heap.size;rw [size_putRow];exact hb)]
      show (w.heap.modify blk (onCells (putCells id 0 (flatK dQ 8 D.toArray))))[b]? =_
      rw [Array.getElem?_modify]
      by_cases e:b=blk
      · subst e
        rw [if_pos rfl,if_pos rfl,hh,hcur2,hF]
        rfl
      · rw [if_neg (fun e'=>e e'.symm),if_neg e]
     refine ⟨rfl,F.toList,⟨by rw [Array.length_toList,hFs], .inr ⟨blk,cap,cur2,rfl,hc0, .of ((hhp blk hblk).trans (if_pos rfl)),hnc,hcm,hz2.trans hcs,htk2⟩⟩, ?_,⟨rfl,rfl,rfl, ?_,fun b hb hne=> ?_⟩, ?_⟩
     · intro u hu
       obtain ⟨t,ht⟩:=List.mem_iff_getElem?.1 hu
       have hts:t<L.length*8:=by
        have:=(List.getElem?_eq_some_iff.1 ht).1
        rw [Array.length_toList,hFs] at this
        exact this
       have h1:=rV D (i:=t / 8) (j:=t % 8) (by omega) (Nat.mod_lt _ (by decide))
       rw [show t / 8*8+t % 8=t by omega,<-hF,<-Array.getElem?_toList,ht] at h1
       exact zj _ u (List.mem_of_getElem? h1.symm)
     · unfold sortWorldK
       rw [size_grow]
       show w.heap.size<=(putRow id _ blk 0 _).heap.size+_
       rw [size_putRow]
       exact Nat.le_add_right _ _
     · rw [hhp b hb,if_neg (fun e=>hne (by rw [e,aV hc0]))]
     · intro rw' _ i j u hi hj hu
       rw [Array.getElem?_toList,hF,rV D (by omega) hj] at hu
       exact Kg _ _ _ hj hu
end Go.Proofs
set_option maxHeartbeats 8000000
namespace Go.Vd
open Go.Proofs
def p9 (A:Ar)(L:Unit->Tbl):SV:= .frs 73 1 (A.tn fun _=>(L ()).length) (ax eEs [] A L)
attribute [local irreducible] vc
theorem Bq(T:Tbl)(hT:T.length<=1000000):GFn 131 (fun A=> [aF eEs [] 1 A fun _=>T]) (fun A=>p9 A fun _=>T):=by
 refine aC aP ar ak Tryz.func131 (.fresh 73 1) fun A hA=> ?_
 cbv
 repeat' (first| (with_reducible first|exact vT|exact vD hA|exact vE hA|refine vA ?_ ?_) | (intro hc;cbv))
 all_goals (subst hA;simp [sS] at*)
 all_goals first
  |omega
  | (have hq:=hc (by assumption);rw [hq];rfl)
  | (have hq:=hc (by assumption);rw [hq];intro i j hi;exact absurd hi (by simp))
  | (apply c7;(exact (au.nil.cat (au.lit T)).congr rfl (List.nil_append T));(first| (simp;done) |omega|rfl);rfl)
noncomputable def zk:Ct:=fun A args=>match args with
 | [.slc n 1 f] =>some (some (A.tp fun _=>ai eEs [] 1 n f∧n<=1000000),p9 A fun _=>ab eEs [] 1 n f)
 |_=>none
theorem Br(L:List Ent)(hL:L.length<=1000000):GFn 132 (fun A=> [aF eE E0 8 A fun _=>L]) (fun A=>aF eE E0 8 A fun _=>L):=by
 refine aC aP ar ak Tryz.func132 (.none) fun A hA=> ?_
 cbv
 repeat' (first| (with_reducible first|exact vT|exact vD hA|exact vE hA|refine vA ?_ ?_) | (intro hc;cbv))
 all_goals (subst hA;simp [sS] at*)
 all_goals first
  |omega
  | (have hq:=hc (by assumption);rw [hq];rfl)
  | (have hq:=hc (by assumption);rw [hq];intro i j hi;exact absurd hi (by simp))
  | (apply c7;(exact (au.nil.cat (au.lit L)).congr rfl (List.nil_append L));(first| (simp;done) |omega|rfl);rfl)
noncomputable def zl:Ct:=fun A args=>match args with
 | [.slc n 8 f] =>some (some (A.tp fun _=>ai eE E0 8 n f∧n<=1000000),aF eE E0 8 A fun _=>ab eE E0 8 n f)
 |_=>none
noncomputable def gv3:Ar->Pu:=aq 131 zk (aq 132 zl (gv2))
theorem zm:az Tryz.prog gl0 (gv3 std):=by
 refine ao (ao (zf) ⟨_,Tryz.func132,rfl,by decide⟩ ?_) ⟨_,Tryz.func131,rfl,by decide⟩ ?_
 · intro args p r h hp
   unfold zl at h
   split at h<;>cases h
   exact aJ (Br _ (by rw [aN hp.1];exact hp.2)) ⟨hp.1.sv,trivial⟩
 · intro args p r h hp
   unfold zk at h
   split at h<;>cases h
   exact aJ (Bq _ (by rw [aN hp.1];exact hp.2)) ⟨hp.1.sv,trivial⟩
theorem G5{T:Tbl}{i n:Nat}{f:Nat->Nat->SV}(h:au eE E0 8 n f (T.getD i [])): ∀ j,j<1->Ceq (ap [SV.slc n 8 f] j) (ap (eEs std fun _=>T.getD i []) j):=rQ h
theorem Bt(m:Int)(T:Tbl)(hQ:tbQ T):GFn 85 (fun A=> [.agg [.int .i64 m,aF eEs [] 1 A fun _=>T]]) (fun A=> .agg [.int .i64 m,p9 A fun _=>T]):=by
 refine aC zm ar ak Tryz.func85 (.one) fun A hA=> ?_
 cbv
 repeat' (first| (with_reducible first|exact vT|exact vD hA|exact vE hA|refine vA ?_ ?_) | (intro hc;cbv))
 · subst hA
   simp only [sS,bg]
   exact ⟨trivial,hQ.1⟩
 obtain ⟨n0,hn0⟩: ∃ n0,n0=T.length:=⟨_,rfl⟩
 refine ⟨⟨{i:Nat // i<=T.length},fun b i=> [(10, .own 4),(11, .int .i64 (n0:Nat)),(12, .int .i64 (i.1:Nat))],fun b i=> [(4, .row 73 1 (A.tn fun _=>T.length) (ax eEs [] A fun _=>T)),(0, .box 27 [.int .i64 m, .own 4])],fun i=>T.length - i.1,true⟩,⟨⟨0,by omega⟩, ?_⟩, ?_⟩
 · cbv
   subst hA
   simp [-List.getD_eq_getElem?_getD,sS,aT,hn0]
 · rintro ⟨i,hi⟩
   have hT:=hQ.1
   have hTi:=hQ.2.1 i
   rcases Nat.lt_or_ge i T.length with hlt|hge
   · obtain ⟨i',hi'⟩: ∃ i',i'=i+1:=⟨_,rfl⟩
     cbv
     repeat' (first| (with_reducible first|exact vT|exact vD hA|exact vE hA|refine vA ?_ ?_) | (intro hc;cbv))
     all_goals first
      | (fail_if_success (refine Exists.intro ?_ ?_)
         subst hA
         simp only [sS,iNE,aY,bh,bg,aT] at*
         first
          |exact ⟨trivial,hTi⟩
          | (constructor<;>omega))
      | (exfalso
         subst hA
         simp only [sS,iNE,aY,bh,bg,aT] at*
         have:=of_decide_eq_false hc
         omega)
      | (refine ⟨⟨i',by omega⟩, ?_,show T.length - i'<T.length - i by omega⟩
         cbv
         subst hA
         simp [-List.getD_eq_getElem?_getD,sS]
         refine ⟨cC hi' (by omega), ?_⟩
         have h:=(au.lit (enc:=eEs) (d:= []) (k:=1) T).rset' (i:=i) hlt (T.getD i []) (l:= [SV.slc _ 8 _]) rfl (G5 (au.lit (enc:=eE) (d:=E0) (k:=8) (T.getD i [])))
         rw [yf] at h
         first
          |exact h.eqr
          | (simp only [bh];exact h.eqr)
)
   · have hie:i=T.length:=by omega
     cbv
     repeat' (first| (with_reducible first|exact vT|exact vD hA|exact vE hA|refine vA ?_ ?_) | (intro hc;cbv))
     all_goals first
      | (exfalso
         subst hA
         simp only [sS,iNE,aY,bh,bg,aT] at*
         have hq:decide ((i:Int)<(n0:Int))=true:=by assumption
         have:=of_decide_eq_true hq
         omega)
      | (subst hA;simp [sS];done)
theorem G6{T:Tbl}{i:Nat}(hi:i<T.length):(T.take (i+1)).flatten=(T.take i).flatten++T.getD i [] :=by
 rw [<-bk (d:= []) hi,List.flatten_append]
 simp
theorem rW(T:Tbl):T.flatten.length=cnt T:=by unfold cnt;rw [List.length_flatten]
theorem wP(T:Tbl)(hT:T.length<=1000000)(hTi: ∀ i,(T.getD i []).length<=1000000)(hc0:cnt T<=1000000):GFn 66 (fun A=> [aF eEs [] 1 A fun _=>T]) (fun A=>p8 A fun _=>T.flatten):=by
 refine aC aP ar ak Tryz.func66 (.fresh 69 8) fun A hA=> ?_
 cbv
 repeat' (first| (with_reducible first|exact vT|exact vD hA|exact vE hA|refine vA ?_ ?_) | (intro hc;cbv))
 refine ⟨⟨{p:Nat×List Ent // p.1<=T.length∧p.2=(T.take p.1).flatten},fun b p=> [(3, .own b),(8, .int .i64 (p.1.1:Nat))],fun b p=> [(b, .row 69 8 (A.tn fun _=>p.1.2.length) (ax eE E0 A fun _=>p.1.2))],fun p=>T.length - p.1.1,true⟩,⟨⟨(0, []),Nat.zero_le _,rfl⟩, ?_⟩, ?_⟩
 · cbv
   subst hA
   simp [-List.getD_eq_getElem?_getD,sS]
 · rintro ⟨⟨i,M⟩,hx⟩
   have hi:i<=T.length:=hx.1
   have hM:M=(T.take i).flatten:=hx.2
   have hTl:=hTi i
   have hMl:M.length=cnt (T.take i):=by rw [hM,rW]
   have hcl:=zb T i
   rcases Nat.lt_or_ge i T.length with hlt|hge
   · obtain ⟨i',hi'⟩: ∃ i',i'=i+1:=⟨_,rfl⟩
     obtain ⟨M',hM'⟩: ∃ M',M'=M++T.getD i [] :=⟨_,rfl⟩
     have hMM:M'=(T.take i').flatten:=by rw [hM',hi',G6 hlt,hM]
     cbv
     repeat' (first| (with_reducible first|exact vT|exact vD hA|exact vE hA|refine vA ?_ ?_) | (intro hc;cbv))
     all_goals first
      | (fail_if_success (refine Exists.intro ?_ ?_)
         subst hA
         simp only [sS,iNE,aY,bh,bg,aT] at*
         first
          | (constructor<;>omega)
          |omega)
      | (exfalso
         subst hA
         simp only [sS,iNE,aY,bh,bg,aT] at*
         have:=of_decide_eq_false hc
         omega)
      | (refine ⟨⟨(i',M'),by omega,hMM⟩, ?_,show T.length - i'<T.length - i by omega⟩
         cbv
         subst hA
         simp [-List.getD_eq_getElem?_getD,sS]
         refine ⟨cC hi' (by omega), ?_, ?_⟩
         · rw [hM'];simp
         · exact c7 ((au.lit M).cat (au.lit (T.getD i []))) (by rw [hM'];simp) hM'.symm)
   · have hie:i=T.length:=by omega
     rw [hie,List.take_length] at hM
     cbv
     repeat' (first| (with_reducible first|exact vT|exact vD hA|exact vE hA|refine vA ?_ ?_) | (intro hc;cbv))
     all_goals first
      | (exfalso
         subst hA
         simp only [sS,iNE,aY,bh,bg,aT] at*
         have hq:decide ((i:Int)<(T.length:Int))=true:=by assumption
         have:=of_decide_eq_true hq
         omega)
      | (subst hA
         simp only [sS]
         rw [hM]
         first
          |done
          |exact (au.lit _).eqr)
noncomputable def tV:Ct:=fun A args=>match args with
 | [.slc n 1 f] =>some (some (A.tp fun _=>ai eEs [] 1 n f∧n<=1000000∧(∀ i,((ab eEs [] 1 n f).getD i []).length<=1000000)∧cnt (ab eEs [] 1 n f)<=1000000),p8 A fun _=>(ab eEs [] 1 n f).flatten)
 |_=>none
noncomputable def zn:Ct:=fun A args=>match args with
 | [.agg [.int .i64 m, .slc n 1 f]] =>some (some (A.tp fun _=>ai eEs [] 1 n f∧tbQ (ab eEs [] 1 n f)), .agg [.int .i64 m,p9 A fun _=>ab eEs [] 1 n f])
 |_=>none
noncomputable def gv4:Ar->Pu:=aq 66 tV (aq 85 zn (gv3))
theorem G7:az Tryz.prog gl0 (gv4 std):=by
 refine ao (ao (zm) ⟨_,Tryz.func85,rfl,by decide⟩ ?_) ⟨_,Tryz.func66,rfl,by decide⟩ ?_
 · intro args p r h hp
   unfold zn at h
   split at h<;>cases h
   exact aJ (Bt _ _ hp.2) ⟨⟨_,rfl,rfl,hp.1.sv,trivial⟩,trivial⟩
 · intro args p r h hp
   unfold tV at h
   split at h<;>cases h
   exact aJ (wP _ (by rw [aN hp.1];exact hp.2.1) hp.2.2.1 hp.2.2.2) ⟨hp.1.sv,trivial⟩
end Go.Vd
namespace Go.Vd
open Go.Proofs
variable {m:Int} {T:Tbl}
noncomputable def Kh:Ar->Xt:=fun A=> { meth:=fun _ _=>none,sl:= [67],wt:=fun f e k n g rest=>bif Nat.beq f 67 &&(Nat.beq e 69 && Nat.beq k 8) then (match rest with
 | [.clo c []] =>bif Nat.beq c 68 then some (some (A.tp fun _=>ai eE E0 8 n g∧n<=1000000),n,ax eE E0 A fun _=>fM (ab eE E0 8 n g)) else none
 |_=>none) else none }
theorem Ob:XtOk Tryz.prog gl0 (Kh std):=by
 refine ⟨(fun t name f h=>by cases h), ?_⟩
 intro f e k n g rest p n' g' hw hp
 unfold Kh at hw
 simp only at hw
 cases hb:(Nat.beq f 67 &&(Nat.beq e 69 && Nat.beq k 8))<;>rw [hb] at hw<;>simp only [cond_true,cond_false,reduceCtorEq] at hw
 simp only [bAE] at hb
 obtain rfl:=nQE hb.1
 obtain rfl:=nQE hb.2.1
 obtain rfl:=nQE hb.2.2
 split at hw
 · rename_i c
   cases hb2:Nat.beq c 68<;>rw [hb2] at hw<;>simp only [cond_true,cond_false,reduceCtorEq,sIE,pIE] at hw
   obtain rfl:=nQE hb2
   obtain ⟨rfl,rfl,rfl⟩:=hw
   refine ⟨⟨_,Tryz.func67,rfl,by decide⟩, ?_⟩
   have h2:=Oa gl0 n g hp.1 hp.2
   rw [show inW 67 (Kh std).sl=true from rfl]
   exact h2
 · cases hw
noncomputable def alT (m:Int)(T:Tbl):List Ent:=if tbR m T=true then fM T.flatten else []
theorem Ep(h:tbR m T=true):alT m T=fM T.flatten:=by unfold alT;rw [if_pos h]
theorem LS(h:tbR m T=false):alT m T= [] :=by unfold alT;rw [h];rfl
theorem ji(h:tbR m T=true):cnt T<=128∧(cnt T:Int)<=m∧T.length<=16∧1<=T.length:=by
 unfold tbR szR at h
 simp only [bAE,decide_eq_true_eq] at h
 omega
attribute [local irreducible] vc
theorem G8(m:Int)(T:Tbl)(hQ:tbQ T):GFn 25 (fun A=> [.agg [.int .i64 m,aF eEs [] 1 A fun _=>T]]) (fun A=>aF eE E0 8 A fun _=>alT m T):=by
 refine aC G7 Ob ak Tryz.func25 (.none) fun A hA=> ?_
 cbv
 repeat' (first| (with_reducible first|exact vT|exact vD hA|exact vE hA|refine vA ?_ ?_) | (intro hc;cbv))
 all_goals (subst hA;simp only [sS,bg,aT,aY,bh] at*)
 all_goals first
  |exact ⟨trivial,hQ⟩
  | (have h1:=LS (l8 hc)
     first
      | (rw [h1];rfl)
      | (rw [h1];simp))
  | (have hR:=jh hc
     have h1:=Ep hR
     have h2:=ji hR
     have h3:=rW T
     have h4:=(km T.flatten).1
     first
      |exact ⟨trivial,hQ.1,hQ.2.1,by omega⟩
      |exact ⟨trivial,by omega⟩
      | (rw [h1,h4];done)
      | (rw [h1,h4];exact (au.lit _).eqr' h4.symm)
      | (rw [h1];exact (au.lit _).eqr' h4)
)
end Go.Vd
namespace Go.Vd
open Go.Proofs
variable {r:List UInt8} {T:Tbl} {s:Int}
noncomputable def pc:Ct:=fun A args=>match args with
 | [.agg [.int .i64 m, .slc n 1 f]] =>some (some (A.tp fun _=>ai eEs [] 1 n f∧tbQ (ab eEs [] 1 n f)),aF eE E0 8 A fun _=>alT m (ab eEs [] 1 n f))
 |_=>none
noncomputable def gv5:Ar->Pu:=aq 25 pc (gv4)
theorem zp:az Tryz.prog gl0 (gv5 std):=by
 refine ao (G7) ⟨_,Tryz.func25,rfl,by decide⟩ ?_
 · intro args p r h hp
   unfold pc at h
   split at h<;>cases h
   exact aJ (G8 _ _ hp.2) ⟨⟨_,rfl,rfl,hp.1.sv,trivial⟩,trivial⟩
theorem G9(s:Int)(r:List UInt8)(n:Int):dK s r n= -1∨(dF s r=true∧0<=dK s r n∧dK s r n<n):=by
 unfold dK
 by_cases h:dF s r=true∧1<=n∧n<=16
 · rw [if_pos h]
   right
   refine ⟨h.1,Int.natCast_nonneg _, ?_⟩
   have:=Nat.mod_lt (fnv (iO 6 s.toNat++r)) (show 0<n.toNat by omega)
   omega
 · rw [if_neg h];exact .inl rfl
def shi (T:Tbl)(s:Int)(r:List UInt8):Int:=dK s r (T.length:Int)
def shl (T:Tbl)(s:Int)(r:List UInt8):List Ent:=T.getD (shi T s r).toNat []
def lkE (T:Tbl)(s:Int)(r:List UInt8):Ent:=if shi T s r<0 then E0 else fnd (shl T s r) s r
def lkB (T:Tbl)(s:Int)(r:List UInt8):Bool:=if shi T s r<0 then false else has (shl T s r) s r
theorem Ki(h:shi T s r<0):lkE T s r=E0∧lkB T s r=false:=by unfold lkE lkB;rw [if_pos h,if_pos h];exact ⟨rfl,rfl⟩
theorem rX(h: ¬shi T s r<0):lkE T s r=fnd (shl T s r) s r∧lkB T s r=has (shl T s r) s r:=by unfold lkE lkB;rw [if_neg h,if_neg h];exact ⟨rfl,rfl⟩
attribute [local irreducible] vc
theorem Er(m:Int)(T:Tbl)(s:Int)(r:List UInt8)(hQ:tbQ T)(hs:0<=s∧s<4294967296):GFn 65 (fun A=> [.agg [.int .i64 m,aF eEs [] 1 A fun _=>T], .agg [.int .u32 s, .str r]]) (fun A=> .tup [.int .i64 (A.ti fun _=>shi T s r),u6 A fun _=>lkE T s r, .bool (A.tb fun _=>lkB T s r)]):=by
 refine aC zp ar ak Tryz.func65 (.one) fun A hA=> ?_
 have hsh:dK s r (T.length:Int)=shi T s r:=rfl
 have hin:=G9 s r (T.length:Int)
 rw [hsh] at hin
 have hin2:=hin.imp_right And.right
 have hin3: ¬shi T s r<0->0<=shi T s r∧shi T s r<(T.length:Int):=fun h=>by omega
 clear hin hin2
 have hTi:=hQ.2.1 (shi T s r).toNat
 cbv
 repeat' (first| (with_reducible first|exact vT|exact vD hA|exact vE hA|refine vA ?_ ?_) | (intro hc;cbv))
 all_goals (subst hA;simp only [sS,bg,aT,aY,bh,hsh] at*)
 all_goals first
  |exact hs
  | (have h1:=of_decide_eq_true hc
     have h2:=Ki h1
     first
      | (rw [h2.1];rfl)
      |exact h2.2.symm)
  | (have h1:=of_decide_eq_false hc
     have h2:=rX h1
     unfold shl at h2
     first
      |exact hin3 h1
      |exact ⟨trivial,hTi⟩
      | (rw [h2.1];done)
      |exact h2.2.symm
)
noncomputable def CJ:Ct:=fun A args=>match args with
 | [.agg [.int .i64 m, .slc n 1 f], .agg [.int .u32 s, .str r]] =>some (some (A.tp fun _=>(ai eEs [] 1 n f∧tbQ (ab eEs [] 1 n f))∧0<=s∧s<4294967296), .tup [.int .i64 (A.ti fun _=>shi (ab eEs [] 1 n f) s r),u6 A fun _=>lkE (ab eEs [] 1 n f) s r, .bool (A.tb fun _=>lkB (ab eEs [] 1 n f) s r)])
 |_=>none
noncomputable def gv6:Ar->Pu:=aq 65 CJ (gv5)
theorem Ha:az Tryz.prog gl0 (gv6 std):=by
 refine ao (zp) ⟨_,Tryz.func65,rfl,by decide⟩ ?_
 · intro args p r h hp
   unfold CJ at h
   split at h<;>cases h
   exact aJ (Er _ _ _ _ hp.1.2 hp.2) ⟨⟨_,rfl,rfl,hp.1.1.sv,trivial⟩,⟨_,rfl,rfl,rfl,trivial⟩,trivial⟩
def gc (m:Int)(T:Tbl)(s:Int)(r:List UInt8):Ent:=if tbR m T=true then lkE T s r else E0
def iQ (m:Int)(T:Tbl)(s:Int)(r:List UInt8):Bool:=if tbR m T=true then lkB T s r else false
theorem zq{m:Int}(h:tbR m T=true):gc m T s r=lkE T s r∧iQ m T s r=lkB T s r:=by unfold gc iQ;rw [if_pos h,if_pos h];exact ⟨rfl,rfl⟩
theorem SK{m:Int}(h:tbR m T=false):gc m T s r=E0∧iQ m T s r=false:=by unfold gc iQ;rw [h];exact ⟨rfl,rfl⟩
theorem Es(m:Int)(T:Tbl)(s:Int)(r:List UInt8)(hQ:tbQ T)(hs:0<=s∧s<4294967296):GFn 23 (fun A=> [.agg [.int .i64 m,aF eEs [] 1 A fun _=>T], .agg [.int .u32 s, .str r]]) (fun A=> .tup [u6 A fun _=>gc m T s r, .bool (A.tb fun _=>iQ m T s r)]):=by
 refine aC Ha ar ak Tryz.func23 (.one) fun A hA=> ?_
 cbv
 repeat' (first| (with_reducible first|exact vT|exact vD hA|exact vE hA|refine vA ?_ ?_) | (intro hc;cbv))
 all_goals (subst hA;simp only [sS,bg,aT,aY,bh] at*)
 all_goals first
  |exact ⟨trivial,hQ⟩
  |exact ⟨⟨trivial,hQ⟩,hs⟩
  | (have h2:=SK (s:=s) (r:=r) (l8 hc)
     first
      | (rw [h2.1];rfl)
      |exact h2.2.symm)
  | (have h2:=zq (s:=s) (r:=r) (jh hc)
     first
      | (rw [h2.1];done)
      |exact h2.2.symm
)
noncomputable def kH:Ct:=fun A args=>match args with
 | [.agg [.int .i64 m, .slc n 1 f], .agg [.int .u32 s, .str r]] =>some (some (A.tp fun _=>(ai eEs [] 1 n f∧tbQ (ab eEs [] 1 n f))∧0<=s∧s<4294967296), .tup [u6 A fun _=>gc m (ab eEs [] 1 n f) s r, .bool (A.tb fun _=>iQ m (ab eEs [] 1 n f) s r)])
 |_=>none
noncomputable def gv7:Ar->Pu:=aq 23 kH (gv6)
theorem tW:az Tryz.prog gl0 (gv7 std):=by
 refine ao (Ha) ⟨_,Tryz.func23,rfl,by decide⟩ ?_
 · intro args p r h hp
   unfold kH at h
   split at h<;>cases h
   exact aJ (Es _ _ _ _ hp.1.2 hp.2) ⟨⟨_,rfl,rfl,hp.1.1.sv,trivial⟩,⟨_,rfl,rfl,rfl,trivial⟩,trivial⟩
end Go.Vd
