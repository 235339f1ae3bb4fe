/- Wheels: the same; a short one. -/
import Derived.Test.YtckmnmcnelfkjaaGreatDoorVdWG
import Derived.Test.YtckmnmcnelfkjaaGreatDoorVdWC
import Derived.StillTail
import Derived.Deep.Quiet
import Derived.Test.YtckmnmcnelfkjaaGreatDoorVdV6
import Derived.Shelf.SlGeneric
import Derived.Shelf.SlSortCmp.WholeK
import Derived.Ground.SlsfProg
import Derived.Test.YtckmnmcnelfkjaaGreatDoorProg
import Derived.Shelf.SlSortCmp.NoneTotal
set_option linter.unusedVariables false
set_option linter.unusedSimpArgs false
set_option maxRecDepth 100000
set_option maxHeartbeats 8000000
namespace Go.Vd
open Go.Proofs
variable {n m n' m':Int} {I O I' O':Sl}
@[irreducible] def EI (I J:Sl):Bool:=decide (I=J)
theorem zS{I J:Sl} :EI I J=true↔I=J:=by unfold EI;exact decide_eq_true_iff
@[irreducible] def eqW (n m:Int) (I O:Sl) (n' m':Int) (I' O':Sl):Bool:=(EI I I' && EI O O')&&(decide (n=n')&& decide (m=m'))
theorem vj :eqW n m I O n' m' I' O'=true↔(I=I'∧O=O')∧n=n'∧m=m':=by
 unfold eqW
 rw [bAE,bAE,bAE,zS,zS,decide_eq_true_eq,decide_eq_true_eq]
theorem QF(h: ¬(I=I'∧O=O')):eqW n m I O n' m' I' O'=false:=by
 cases hb:eqW n m I O n' m' I' O'
 · rfl
 · exact absurd (vj.1 hb).1 h
theorem Ol(h:I=I'∧O=O'):eqW n m I O n' m' I' O'=(bif n==n' then m==m' else false):=by
 rw [Bool.eq_iff_iff,vj]
 by_cases h1:n=n'<;>by_cases h2:m=m'<;>simp [h,h1,h2]
attribute [local irreducible] vc
theorem BA(n m n' m':Int)(I O I' O':Sl)(hQ:whQ I O)(hQ':whQ I' O'):GFn 35 (fun A=> [whS A n m I O,whS A n' m' I' O']) (fun A=> .bool (A.tb fun _=>eqW n m I O n' m' I' O')):=by
 refine aC HB ar ak Tryz.func35 (.one) fun A hA=> ?_
 cbv
 repeat' (first| (with_reducible first|exact vT|exact vD hA|exact vE hA|refine vA ?_ ?_) | (intro hc;cbv))
 refine ⟨⟨{i:Nat // i<=64∧ ∀ j,j<i->sl I j=sl I' j∧sl O j=sl O' j},fun b i=> [(5, .int .i64 (i.1:Nat))],fun b i=> [],fun i=>64 - i.1,true⟩,⟨⟨0,Nat.zero_le _,fun j hj=>absurd hj (by omega)⟩, ?_⟩, ?_⟩
 · cbv
   subst hA
   simp [-List.getD_eq_getElem?_getD,sS]
 · rintro ⟨i,hx⟩
   have hi:i<=64:=hx.1
   have hj:=hx.2
   rcases Nat.lt_or_ge i 64 with hlt|hge
   · obtain ⟨i',hi'⟩: ∃ i',i'=i+1:=⟨_,rfl⟩
     obtain ⟨L1,hL1⟩: ∃ L,L=sl I i:=⟨_,rfl⟩
     obtain ⟨L2,hL2⟩: ∃ L,L=sl O i:=⟨_,rfl⟩
     obtain ⟨M1,hM1⟩: ∃ L,L=sl I' i:=⟨_,rfl⟩
     obtain ⟨M2,hM2⟩: ∃ L,L=sl O' i:=⟨_,rfl⟩
     have e1:I.getD i [] =L1:=hL1.symm
     have e2:O.getD i [] =L2:=hL2.symm
     have e3:I'.getD i [] =M1:=hM1.symm
     have e4:O'.getD i [] =M2:=hM2.symm
     have hb:=fA hQ hlt
     have hb':=fA hQ' hlt
     rw [<-hL1,<-hL2] at hb
     rw [<-hM1,<-hM2] at hb'
     have hyes:L1=M1->L2=M2-> ∀ j,j<i'->sl I j=sl I' j∧sl O j=sl O' j:=fun h1 h2 j h3=>by
      rcases Nat.lt_or_ge j i with h4|h4
      · exact hj j h4
      · obtain rfl:j=i:=by omega
        rw [<-hL1,<-hL2,<-hM1,<-hM2];exact ⟨h1,h2⟩
     have hno: ¬(L1=M1∧L2=M2)->eqW n m I O n' m' I' O'=false:=fun h=>QF fun e=>h (by rw [hL1,hL2,hM1,hM2,e.1,e.2];exact ⟨rfl,rfl⟩)
     obtain ⟨b1,hb1⟩: ∃ b,b=eqT L1 M1:=⟨_,rfl⟩
     obtain ⟨b2,hb2⟩: ∃ b,b=eqT L2 M2:=⟨_,rfl⟩
     have hbb:(b1=true∧b2=true)↔(L1=M1∧L2=M2):=by rw [hb1,hb2,vi,vi]
     cbv
     repeat' (first| (with_reducible first|exact vT|exact vD hA|exact vE hA|refine vA ?_ ?_) | (intro hc;cbv))
     all_goals first
      | (exfalso
         subst hA
         simp only [sS,iNE] at*
         have hq:decide ((i:Int)<64)=false:=by assumption
         have:=of_decide_eq_false hq
         omega)
      | (fail_if_success (refine Exists.intro ?_ ?_)
         subst hA
         clear hyes
         simp only [sS,iNE,e1,e2,e3,e4,fd,cd,<-hb1,<-hb2] at*
         first
          |exact ⟨by omega,by omega⟩
          |exact ⟨⟨trivial,trivial⟩,by omega,by omega⟩
          |exact fun h=>h
          |exact fun h=>⟨h,h⟩
          |exact fun h=>⟨h,by omega,by omega⟩
          |exact fun h=>⟨⟨h,h⟩,by omega,by omega⟩
          |exact fun h=>⟨⟨h,h⟩,⟨trivial,trivial⟩,by omega,by omega⟩
          |exact fun h=>by rw [h];rfl
          | (refine (hno fun e=> ?_).symm
             have h1:=hbb.2 e
             rw [h1.1,h1.2] at hc
             cases hc)
)
      | (have hn:b1=true∧b2=true:=by
          subst hA
          clear hyes hno
          simp only [sS,iNE,e1,e2,e3,e4,fd,cd,<-hb1,<-hb2] at*
          cases b1
          · cases hc
          · cases b2
            · cases hc
            · exact ⟨rfl,rfl⟩
         have hn2:=hbb.1 hn
         refine ⟨⟨i',by omega,hyes hn2.1 hn2.2⟩, ?_,show 64 - i'<64 - i by omega⟩
         cbv
         subst hA
         simp [-List.getD_eq_getElem?_getD,sS]
         exact ce hi' (by omega))
   · have hie:i=64:=by omega
     subst hie
     have hfin:=Ol (n:=n) (m:=m) (n':=n') (m':=m') (show I=I'∧O=O' from ⟨ck hQ.1.1 hQ'.1.1 fun j h=>(hj j h).1,ck hQ.1.2 hQ'.1.2 fun j h=>(hj j h).2⟩)
     cbv
     repeat' (first| (with_reducible first|exact vT|exact vD hA|exact vE hA|refine vA ?_ ?_) | (intro hc;cbv))
     all_goals first
      | (exfalso
         subst hA
         simp only [sS,iNE] at*
         have hq:decide ((64:Int)<64)=true:=by assumption
         have:=of_decide_eq_true hq
         omega)
      | (subst hA
         simp only [sS,hfin]
         first
          |done
          |exact fun h=>h
          |exact fun h=>⟨h,h⟩
          | (intro h;rw [h];rfl)
          | (intro h;rw [h];exact ⟨rfl,rfl⟩))
noncomputable def nM:Ct:=fun A args=>match args with
 | [.agg [.int .u64 n, .int .i64 m, .run 64 f, .run 64 g], .agg [.int .u64 n', .int .i64 m', .run 64 f', .run 64 g']] =>some (some (A.tp fun _=>((ai eTs [] 1 64 f∧ai eTs [] 1 64 g)∧whQ (ab eTs [] 1 64 f) (ab eTs [] 1 64 g))∧((ai eTs [] 1 64 f'∧ai eTs [] 1 64 g')∧whQ (ab eTs [] 1 64 f') (ab eTs [] 1 64 g'))), .bool (A.tb fun _=>eqW n m (ab eTs [] 1 64 f) (ab eTs [] 1 64 g) n' m' (ab eTs [] 1 64 f') (ab eTs [] 1 64 g')))
 |_=>none
noncomputable def gws:Ar->Pu:=aq 35 nM (gwr)
theorem QG:az Tryz.prog gl0 (gws std):=by
 refine ao (HB) ⟨_,Tryz.func35,rfl,by decide⟩ ?_
 · intro args p r h hp
   unfold nM at h
   split at h<;>cases h
   exact aJ (BA _ _ _ _ _ _ _ _ hp.1.2 hp.2.2) ⟨fF hp.1.1.1 hp.1.1.2,fF hp.2.1.1 hp.2.1.2,trivial⟩
end Go.Vd
namespace Go.Vd
open Go.Proofs
def kdW (A:Ar)(fam n:Nat)(I:Sl):Blk:= .kids ⟨113,3,n,fun x=>A.tn fun _=>(I.getD x []).length,fun x=>ax eT T0 A fun _=>I.getD x [],none,fam,none⟩
def qe (A:Ar)(n m:Int)(I O:Sl)(kb:Nat)(ls:Nat):Lp:=⟨Option {i:Nat // i<64},
 fun b x=>match x with
  |some i=> [(ls, .int .i64 (i.1:Nat))]
  |none=> [(ls, .int .i64 64)],
 fun b x=>match x with
  |some i=> [(b,kdW A (b+1) i.1 I),(b+2,kdW A (b+3) i.1 O),(kb, .box 31 [.int .u64 n, .int .i64 m, .mrun b (b+1) i.1 64 (ax eTs [] A fun _=>I), .mrun (b+2) (b+3) i.1 64 (ax eTs [] A fun _=>O)])]
  |none=> [(b,kdW A (b+1) 64 I),(b+2,kdW A (b+3) 64 O),(kb, .box 31 [.int .u64 n, .int .i64 m, .krun b (b+1) 64, .krun (b+2) (b+3) 64])],
 fun x=>match x with
  |some i=>64 - i.1
  |none=>0,true⟩
theorem bS(I:Sl){n:Nat} :ba n 1 (fun i _=>SV.slc ((I.getD i []).length) 3 (ax eT T0 std fun _=>I.getD i [])) (ax eTs [] std fun _=>I):=fun i j hi hj=>by
 obtain rfl:j=0:=by omega
 exact .refl _
theorem bm(n k:Nat)(f:Nat->Nat->SV):ba n k f f=True:=eq_true fun i j _ _=> .refl _
theorem jM(I:Sl)(i n:Nat):ba n 1 (fun x _=>SV.slc (if x=i then (I.getD i []).length else (I.getD x []).length) 3 (if x=i then ax eT { s:=0,r:= [],u:=0 } std fun _=>I.getD i [] else ax eT T0 std fun _=>I.getD x [])) (fun x _=>SV.slc ((I.getD x []).length) 3 (ax eT T0 std fun _=>I.getD x []))=True:=eq_true fun x j _ _=>by
 by_cases h:x=i
 · subst h;simp only [if_true];exact .refl _
 · simp only [if_neg h];exact .refl _
attribute [local irreducible] vc
theorem BB(n m:Int)(I O:Sl)(hQ:whQ I O):GFn 86 (fun A=> [whS A n m I O]) (fun A=>whS A n m I O):=by
 refine aC zI ar ak Tryz.func86 (.none) fun A hA=> ?_
 cbv
 repeat' (first| (with_reducible first|exact vT|exact vD hA|exact vE hA|refine vA ?_ ?_) | (intro hc;cbv))
 refine ⟨qe A n m I O 0 4,⟨some ⟨0,by omega⟩, ?_⟩, ?_⟩
 · cbv
   subst hA
   simp [-List.getD_eq_getElem?_getD,sS,bm]
 · rintro (_| ⟨i,hi⟩)
   · cbv
     repeat' (first| (with_reducible first|exact vT|exact vD hA|exact vE hA|refine vA ?_ ?_) | (intro hc;cbv))
     all_goals first
      | (exfalso;subst hA;simp only [sS] at hc;exact absurd hc (by decide))
      | (subst hA;simp only [sS];done)
      | (subst hA;simp only [sS];exact bS _)
   · have h1:=fA hQ hi
     obtain ⟨i',hi'⟩: ∃ i',i'=i+1:=⟨_,rfl⟩
     cbv
     repeat' (first| (with_reducible first|exact vT|exact vD hA|exact vE hA|refine vA ?_ ?_) | (intro hc;cbv))
     all_goals first
      | (exfalso;have hq: ¬((i:Nat):Int)<64:=of_decide_eq_false (by subst hA;exact hc);omega)
      | (fail_if_success (refine Exists.intro ?_ ?_)
         subst hA
         simp only [sS,iNE,fd,cd] at*
         first
          |done
          |exact ⟨by omega,by omega⟩
          |exact ⟨trivial,by unfold sl at h1;omega⟩
          |omega
          | (constructor<;>omega))
      |skip
     by_cases h:i'<64
     · refine ⟨some ⟨i',h⟩, ?_,show 64 - i'<64 - i by omega⟩
       cbv
       subst hA
       simp [-List.getD_eq_getElem?_getD,sS,bm,cd,jM]
       exact ⟨ce hi' (by omega),hi'.symm⟩
     · refine ⟨none, ?_,show 0<64 - i by omega⟩
       cbv
       subst hA
       simp [-List.getD_eq_getElem?_getD,sS,bm,cd,jM]
       exact ⟨by rw [w64 (by omega)];omega,by omega⟩
end Go.Vd
namespace Go.Vd
open Go.Proofs
def whT (A:Ar)(n m:Int)(I O:Unit->Sl):SV:= .agg [.int .u64 n, .int .i64 m, .run 64 (ax eTs [] A I), .run 64 (ax eTs [] A O)]
theorem zT(n:Int)(i:Nat):sl (bI n []) i= [] :=by
 rcases Nat.lt_or_ge i 64 with h|h
 · rw [cw h];rfl
 · unfold sl;rw [List.getD_eq_getElem?_getD,List.getElem?_eq_none (by rw [bH];exact h)];rfl
theorem HC(n:Int)(i:Nat):sl (bO n []) i= [] :=by
 rcases Nat.lt_or_ge i 64 with h|h
 · rw [cH h];rfl
 · unfold sl;rw [List.getD_eq_getElem?_getD,List.getElem?_eq_none (by rw [bZ];exact h)];rfl
theorem Om{n:Int}{L:List Tm}{t:Tm}(hq:t.u / 64=n / 64){s:Nat}(hs:(s:Int)=t.u % 64):bI n (L++ [t])=(bI n L).set s (sl (bI n L) s++ [t])∧bO n (L++ [t])=bO n L:=by
 have hs2:s<64:=by omega
 constructor
 · refine ck (bH _ _) (by rw [List.length_set];exact bH _ _) fun i hi=> ?_
   rw [cw hi,gO (bH _ _) hs2,cw hs2,cw hi,List.filter_append]
   by_cases e:i=s
   · subst e
     rw [if_pos rfl,List.filter_cons_of_pos (by unfold inI;rw [decide_eq_true_eq];omega)]
     rfl
   · rw [if_neg e,List.filter_cons_of_neg (by unfold inI;rw [decide_eq_true_eq];omega)]
     simp
 · refine ck (bZ _ _) (bZ _ _) fun i hi=> ?_
   rw [cH hi,cH hi,List.filter_append,List.filter_cons_of_neg (by unfold inO;rw [decide_eq_true_eq];omega)]
   simp
attribute [local irreducible] vc
theorem EJ{n:Int}{L:List Tm}(hl:L.length<=100000)(hT: ∀ t∈L,tmQ t):whQ (bI n L) (bO n L):=
 ⟨⟨bH _ _,bZ _ _⟩,by rw [(kI n L).length_eq];exact hl,fun t ht=>hT t ((kI n L).mem_iff.1 ht)⟩
end Go.Vd
namespace Go.Vd
open Go.Proofs
theorem sb{m:Int} :fg m=true↔0<=m∧m<=256:=by unfold fg;exact decide_eq_true_iff
attribute [local irreducible] vc
end Go.Vd
namespace Go.Vd
open Go
section
variable {P:Program} {md:Region.Mode} {ops:Array Oper} {C:World->Prop}
def t8 (P:Program)(md:Region.Mode)(ops:Array Oper)(C:World->Prop)(n:Nat)(L:Array Bool->Act->Prop):Nat->Array Bool->Act->Prop
 |0,d,a=>L d a
 |f+1,d,a=>Region.ready md ops d≠ [] ∧ ∀ i∈Region.ready md ops d,i<n∧qOp P ops C i (t8 P md ops C n L f (d.setIfInBounds i true)) a
theorem wA{n g:Nat}{L:Array Bool->Act->Prop}{Q:Exit->Act->World->Prop}(hL: ∀ d a w,C w->L d a->wpAny P md ops Q g d a w):
 ∀(f:Nat) (d:Array Bool) (a:Act) (w:World),C w->t8 P md ops C n L f d a->wpAny P md ops Q (f+g) d a w
 |0,d,a,w,hw,h=>by rw [Nat.zero_add];exact hL d a w hw h
 |f+1,d,a,w,hw,h=>by
  rw [show f+1+g=(f+g)+1 by omega]
  exact ⟨fun e=>absurd e h.1,fun i hi=>wpOp_of_qOp hw (fun a' w' hw' h'=>wA hL f _ a' w' hw' h') (h.2 i hi).2⟩
theorem BC{n i:Nat}{o:Oper}{v:Value}{L:Array Bool->Act->Prop}(ho:ops[i]? =some o)(hsel: ∀(j:Nat) (o:Oper) cs b,ops[j]? =some o->o.op≠ .select cs b)
 (h1:Region.sinkB md ops n=true) (h2:Region.chainB md ops n=true) (hn:n<ops.size) (hin:i<n) (hL: ∀ d a,L d a-> ∀ j∈Region.ready md ops d,n<=j):
 ∀(f:Nat) (d:Array Bool) (a:Act),HeadInv md ops n d->
  (∀ j oj,ops[j]? =some oj->j≠i->d.getD j true=false->(∀ e∈oj.after,Region.binds md e=true->e.on≠i)->o.apart ops oj=true)->
  i∈Region.ready md ops d->YieldsIn P ops C o v a->t8 P md ops C n L f (d.setIfInBounds i true) (a.put o.dst v)->t8 P md ops C n L (f+1) d a:=by
 intro f
 induction f with
 |zero=>
  intro d a inv _ hr hy H
  have hun:=(mem_ready.1 hr).1
  refine ⟨fun e=>(by rw [e] at hr;cases hr),fun j hj=> ?_⟩
  have hjn:j<n:=Nat.lt_of_not_le fun h=>tail_waits h1 h2 hn inv _ i rfl hin hun j h hj
  refine ⟨hjn, ?_⟩
  by_cases e:j=i
  · subst e;exact hy.qOp ho H
  · have:=hL _ _ H j (ready_mono hj e)
    omega
 |succ f ih=>
  intro d a inv hfree hr hy H
  have hun:=(mem_ready.1 hr).1
  refine ⟨fun e=>(by rw [e] at hr;cases hr),fun j hj=> ?_⟩
  have hjn:j<n:=Nat.lt_of_not_le fun h=>tail_waits h1 h2 hn inv _ i rfl hin hun j h hj
  refine ⟨hjn, ?_⟩
  by_cases e:j=i
  · subst e;exact hy.qOp ho H
  · have h3:=(H.2 j (ready_mono hj e)).2
    obtain ⟨hju,oj,hoj,hall⟩:=mem_ready.1 hj
    have hnot: ∀ x∈oj.after,Region.binds md x=true->x.on≠i:=fun x hx hb he=>by
     have h4:=hall x hx hb
     rw [he,getD_both hun] at h4
     cases h4
    have h5:=qOp_put hoj (hfree j oj hoj e hju hnot) (fun cs b=>hsel i o cs b ho) (fun cs b=>hsel j oj cs b hoj) hy h3
    refine qOp_mono (fun a' h6=>ih (d.setIfInBounds j true) a' (inv.set hj hjn) (fun k ok hk hki hku hno=> ?_) (ready_mono hr (Ne.symm e)) h6.1 ?_) h5
    · refine hfree k ok hk hki ?_ hno
      by_cases e2:j=k
      · subst e2;exact hju
      · rwa [getD_set_ne true e2] at hku
    · rw [Array.setIfInBounds_comm _ _ e]
      exact h6.2
theorem wB{n g:Nat}{R:Act->Prop}(hsel:Region.noSelect ops=true)(h1:Region.sinkB md ops n=true)(h2:Region.chainB md ops n=true)(hn:n<ops.size):
 ∀(l:List Oper) (k:Nat) (d:Array Bool) (a:Act),(∀ j,j<l.length->l[j]? =ops[k+j]?)->k+l.length=n->HeadInv md ops n d->
  Region.lexHead md ops g l.length k d=true->wpQuiet P ops C R l a->t8 P md ops C n (fun d' a'=>Region.seqB md ops g n d'=true∧R a') l.length d a
 | [],k,d,a,_,hk,_,hB,h=>by
   obtain rfl:k=n:=by simpa using hk
   exact ⟨by simpa [Region.lexHead] using hB,h⟩
 |o::l,k,d,a,hl,hk,inv,hB,h=>by
  have h0:ops[k]? =some o:=by simpa using (hl 0 (by simp)).symm
  simp only [List.length_cons,Region.lexHead,bAE] at hB
  simp only [List.length_cons] at hk
  have hr:k∈Region.ready md ops d:=by simpa using hB.1.1
  have hq:qOp P ops C k (wpQuiet P ops C R l) a:=by unfold qOp;simp only [h0];exact h
  obtain ⟨v,hy,hK⟩:=yieldsIn_of_qOp h0 hq
  refine BC h0 (Region.noSelect_spec hsel) h1 h2 hn (by omega) (fun d' a' hd=>seqB_ready hd.1) l.length d a inv (Region.free_spec h0 hB.1.2) hr hy ?_
  exact wB hsel h1 h2 hn l (k+1) _ _ (fun j hj=>by have:=hl (j+1) (by simp;omega);simpa [Nat.add_assoc,Nat.add_comm 1 j] using this) (by omega) (inv.set hr (by omega)) hB.2 hK
theorem nN{id:Nat}{Q:Exit->Act->World->Prop}{a:Act}{w:World}{l:List Oper}(n:Nat)(hm:P.follows .mixedOrders=true)(hB:Region.lexTailB .any l.toArray n=true)
 (hC:C { w with drawn:=w.drawn+1 }) (h:wpQuiet P l.toArray C (fun a'=> ∀ w',C w'->wpList P l.toArray Q (l.drop n) a' w') (l.take n) a):(Code.region id l.toArray true).wp P Q a w:=by
 simp only [Region.lexTailB,bAE,decide_eq_true_eq] at hB
 obtain ⟨⟨⟨⟨hsel,hn⟩,h1⟩,h2⟩,hlex⟩:=hB
 have hn':n<l.length:=by simpa using hn
 have htl:(l.take n).length=n:=by simp;omega
 have hdl:(l.drop n).length=l.toArray.size - n:=by simp
 have inv0:HeadInv .any l.toArray n (Array.replicate l.toArray.size false):=
  ⟨by simp,fun j oj _ hl=>(by rw [getD_replicate_false] at hl;cases hl),fun t _ ht=>getD_in (by simpa using ht) (getD_replicate_false _ _)⟩
 have H:=wB (md:= .any) (g:=l.toArray.size - n) (R:=fun a'=> ∀ w',C w'->wpList P l.toArray Q (l.drop n) a' w') hsel h1 h2 hn (l.take n) 0 _ a (fun j hj=>by
  have hj':j<n:=by rw [htl] at hj;exact hj
  simp [hj']) (by simpa using htl) inv0 (by rw [htl];exact hlex) h
 refine wp_region_any hm ?_
 have:=wA (Q:=Q) (g:=l.toArray.size - n) (fun d a' w' hw' hd=>by
  have:=wpAny_of_seq (md:= .any) (Q':=Q) (l.drop n) n d a' w' (fun j=>by simp [List.getElem?_drop]) (by rw [hdl];exact hd.1) (hd.2 w' hw')
  rwa [hdl] at this) _ _ _ _ hC H
 rw [htl,show n+(l.toArray.size - n)=l.toArray.size by omega] at this
 exact this
end
end Go.Vd
set_option maxHeartbeats 4000000
namespace Go.Proofs
open Go.RowKit Go.Lib Go.Vd Go.Sort
theorem vk(a:Int)(w:World):Calls Tryz.prog 182 #[.int .u64 a] w fun e w'=>e= .returned (.bool false)∧w'=w:=by
 go_enter Tryz.func182,Tryz.ntmps182
 go_wp2
 go_ret
 exact ⟨rfl,rfl⟩
theorem On(a b:Int)(w:World):Calls Tryz.prog 128 #[.int .u64 a, .int .u64 b] w fun e w'=>e= .returned (.int .i64 (cr a b))∧w'=w:=by
 by_cases h1:a<b
 · go_enter Tryz.func128,Tryz.ntmps128
   go_wp2_with (go_at_call 182;refine (vk _ _).mono ?_;rintro e w' ⟨rfl,rfl⟩)
   go_ret
   exact ⟨by rw [show cr a b= -1 by unfold cr;rw [if_pos h1]];rfl,rfl⟩
 · by_cases h2:b<a
   · go_enter Tryz.func128,Tryz.ntmps128
     go_wp2_with (go_at_call 182;refine (vk _ _).mono ?_;rintro e w' ⟨rfl,rfl⟩)
     go_ret
     exact ⟨by rw [show cr a b=1 by unfold cr;rw [if_neg (by omega),if_pos h2]];rfl,rfl⟩
   · go_enter Tryz.func128,Tryz.ntmps128
     go_wp2_with (go_at_call 182;refine (vk _ _).mono ?_;rintro e w' ⟨rfl,rfl⟩)
     go_ret
     exact ⟨by rw [show cr a b=0 by unfold cr;rw [if_neg (by omega),if_neg (by omega)]];rfl,rfl⟩
theorem Oo(a b:Int)(w:World):Calls Tryz.prog 128 #[.int .u64 a, .int .u64 b] w fun e w'=>e= .returned (.int .i64 (cr a b))∧ ∃ q os',w'=grow (w.drewN q) os':=
 (On a b w).mono fun e w' ⟨h1,h2⟩=>⟨h1,0, #[],by rw [h2,grow_empty];rfl⟩
theorem Oq(s t u v:Int)(r q:ByteArray)(W:World):Calls Tryz.prog 77 #[.agg #[.int .u32 s, .string r, .int .u64 u], .agg #[.int .u32 t, .string q, .int .u64 v]] W fun e w'=>e= .returned (.int .i64 (cx ⟨s,r.data.toList,u⟩ ⟨t,q.data.toList,v⟩))∧ ∃ n os',w'=grow (W.drewN n) os':=by
 have hp:=CN ⟨s,r.data.toList,u⟩ ⟨t,q.data.toList,v⟩
 have hk:=fun W=>zh s t r q W
 simp only at hp
 generalize cx ⟨s,r.data.toList,u⟩ ⟨t,q.data.toList,v⟩=res at hp ⊢
 generalize c8 s r.data.toList t q.data.toList=ky at hp hk
 go_enter Tryz.func77,Tryz.ntmps77
 go_wp2
 generalize hW2:((W.alloc (Obj.cells #[Value.int IntKind.u32 s,Value.string r,Value.int IntKind.u64 u] 113)).alloc (Obj.cells #[Value.int IntKind.u32 t,Value.string q,Value.int IntKind.u64 v] 113))=W2
 have hs2:W2.heap.size=W.heap.size+2:=by rw [<-hW2];simp
 have c0: ∀ n os,(grow (W2.drewN n) os).cell? ⟨W.heap.size,0,none⟩=some (.int .u32 s):=cell_grown (by rw [hs2];show W.heap.size<_;omega) (by rw [<-hW2];simp)
 have c1: ∀ n os,(grow (W2.drewN n) os).cell? ⟨W.heap.size,1,none⟩=some (.string r):=cell_grown (by rw [hs2];show W.heap.size<_;omega) (by rw [<-hW2];simp)
 have c2: ∀ n os,(grow (W2.drewN n) os).cell? ⟨W.heap.size,2,none⟩=some (.int .u64 u):=cell_grown (by rw [hs2];show W.heap.size<_;omega) (by rw [<-hW2];simp)
 have d0: ∀ n os,(grow (W2.drewN n) os).cell? ⟨W.heap.size+1,0,none⟩=some (.int .u32 t):=cell_grown (by rw [hs2];show W.heap.size+1<_;omega) (by rw [<-hW2];simp)
 have d1: ∀ n os,(grow (W2.drewN n) os).cell? ⟨W.heap.size+1,1,none⟩=some (.string q):=cell_grown (by rw [hs2];show W.heap.size+1<_;omega) (by rw [<-hW2];simp)
 have d2: ∀ n os,(grow (W2.drewN n) os).cell? ⟨W.heap.size+1,2,none⟩=some (.int .u64 v):=cell_grown (by rw [hs2];show W.heap.size+1<_;omega) (by rw [<-hW2];simp)
 refine nN (C:=fun w'=> ∃ p:GrownBy,w'=grow (W2.drewN p.n) p.os) 10 (by kernel_rfl) (by kernel_rfl) ⟨⟨1, #[]⟩,by rw [grow_empty];rfl⟩ ?_
 simp only [List.take_succ_cons,List.take_zero,List.drop_succ_cons,List.drop_zero]
 repeat (quiet_step (first| (go_at_call 128;refine Calls.grown_of (Oo _ _ _)) | (go_at_call 69;refine Calls.grown_of (hk _))))
 refine wpQuiet_nil ?_
 intro w' hw'
 obtain ⟨⟨nq,osq⟩,rfl⟩:=hw'
 simp only
 generalize hW3:grow (W2.drewN nq) osq=W3
 have hor:=fun W h0 h1=>LQ (cr u v) ky W3.heap.size W h0 h1
 rw [hp] at hor
 go_wp2_with (go_at_call 117;refine (hor _ (by simp) (by simp)).mono ?_;rintro e w' ⟨rfl,rfl⟩)
 go_ret
 refine ⟨rfl, ?_⟩
 subst hW3 hW2
 rw [G3,alloc_eq_grow,grow_grow]
 exact ⟨_,_,rfl⟩
end Go.Proofs
namespace Go.Proofs
open Go.Shelf
def Tryz.sortTm_ren:Go.Shelf.Ren:=⟨fun|6=>76|15=>116|14=>127|28=>163|29=>164|20=>174|21=>175|22=>176|23=>177|24=>178|25=>179|26=>180|27=>181|46=>209|47=>202|48=>203|49=>210|50=>211|57=>219|n=>n,fun|22=>28|24=>113|25=>131|3=>3|39=>168|0=>0|53=>35|55=>22|4=>4|46=>204|45=>203|50=>120|5=>5|9=>9|66=>237|70=>241|76=>255|77=>256|n=>n,fun|n=>n⟩
theorem Tryz.sortTm:Go.Proofs.SlLaysF0.n6 Tryz.prog Tryz.sortTm_ren:= {
 mixed:=by kernel_rfl
 f6:=⟨Tryz.f76.name,by decide,Tryz.func76.trans (congrArg some (by kernel_rfl))⟩
 f14:=⟨Tryz.f127.name,by decide,Tryz.func127.trans (congrArg some (by kernel_rfl))⟩
 f15:=Tryz.func116.trans (congrArg some (by kernel_rfl))
 f20:=⟨Tryz.f174.name,by decide,Tryz.func174.trans (congrArg some (by kernel_rfl))⟩
 f21:=⟨Tryz.f175.name,by decide,Tryz.func175.trans (congrArg some (by kernel_rfl))⟩
 f22:=⟨Tryz.f176.name,by decide,Tryz.func176.trans (congrArg some (by kernel_rfl))⟩
 f23:=⟨Tryz.f177.name,by decide,Tryz.func177.trans (congrArg some (by kernel_rfl))⟩
 f24:=⟨Tryz.f178.name,by decide,Tryz.func178.trans (congrArg some (by kernel_rfl))⟩
 f25:=⟨Tryz.f179.name,by decide,Tryz.func179.trans (congrArg some (by kernel_rfl))⟩
 f26:=⟨Tryz.f180.name,by decide,Tryz.func180.trans (congrArg some (by kernel_rfl))⟩
 f27:=⟨Tryz.f181.name,by decide,Tryz.func181.trans (congrArg some (by kernel_rfl))⟩
 f28:=Tryz.func163.trans (congrArg some (by kernel_rfl))
 f29:=Tryz.func164.trans (congrArg some (by kernel_rfl))
 f46:=⟨Tryz.f209.name,by decide,Tryz.func209.trans (congrArg some (by kernel_rfl))⟩
 f47:=Tryz.func202.trans (congrArg some (by kernel_rfl))
 f48:=Tryz.func203.trans (congrArg some (by kernel_rfl))
 f49:=⟨Tryz.f210.name,by decide,Tryz.func210.trans (congrArg some (by kernel_rfl))⟩
 f50:=⟨Tryz.f211.name,by decide,Tryz.func211.trans (congrArg some (by kernel_rfl))⟩
 f57:=⟨Tryz.f219.name,by decide,Tryz.func219.trans (congrArg some (by kernel_rfl))⟩
 t0:=Tryz.underlying0
 a0:=Tryz.isAgg0
 z0:=Tryz.sizeOf0
 v0:=Tryz.zeroValue0
 t3:=Tryz.underlying3
 a3:=Tryz.isAgg3
 z3:=Tryz.sizeOf3
 v3:=Tryz.zeroValue3
 t4:=Tryz.underlying4
 a4:=Tryz.isAgg4
 z4:=Tryz.sizeOf4
 v4:=Tryz.zeroValue4
 t5:=Tryz.underlying5
 a5:=Tryz.isAgg5
 z5:=Tryz.sizeOf5
 v5:=Tryz.zeroValue5
 t9:=Tryz.underlying9
 a9:=Tryz.isAgg9
 z9:=Tryz.sizeOf9
 v9:=Tryz.zeroValue9
 t22:=Tryz.underlying28
 a22:=Tryz.isAgg28
 z22:=Tryz.sizeOf28
 v22:=Tryz.zeroValue28
 t25:=Tryz.underlying131
 a25:=Tryz.isAgg131
 z25:=Tryz.sizeOf131
 v25:=Tryz.zeroValue131
 t39:=Tryz.underlying168
 a39:=Tryz.isAgg168
 z39:=Tryz.sizeOf168
 v39:=Tryz.zeroValue168
 t45:=Tryz.underlying203
 a45:=Tryz.isAgg203
 z45:=Tryz.sizeOf203
 v45:=Tryz.zeroValue203
 t46:=Tryz.underlying204
 a46:=Tryz.isAgg204
 z46:=Tryz.sizeOf204
 v46:=Tryz.zeroValue204
 t50:=Tryz.underlying120
 a50:=Tryz.isAgg120
 z50:=Tryz.sizeOf120
 v50:=Tryz.zeroValue120
 t53:=Tryz.underlying35
 a53:=Tryz.isAgg35
 z53:=Tryz.sizeOf35
 v53:=Tryz.zeroValue35
 t55:=Tryz.underlying22
 a55:=Tryz.isAgg22
 z55:=Tryz.sizeOf22
 v55:=Tryz.zeroValue22
 t66:=Tryz.underlying237
 a66:=Tryz.isAgg237
 z66:=Tryz.sizeOf237
 v66:=Tryz.zeroValue237
 t70:=Tryz.underlying241
 a70:=Tryz.isAgg241
 z70:=Tryz.sizeOf241
 v70:=Tryz.zeroValue241
 t76:=Tryz.underlying255
 a76:=Tryz.isAgg255
 z76:=Tryz.sizeOf255
 v76:=Tryz.zeroValue255
 t77:=Tryz.underlying256
 a77:=Tryz.isAgg256
 z77:=Tryz.sizeOf256
 v77:=Tryz.zeroValue256 }
end Go.Proofs
namespace Go.Proofs
open Go.Shelf Go.RowKit Go.Lib Go.Vd Go.Sort
instance tmInh:Inhabited Tm:=⟨T0⟩
def dS (t:Tm):List Value:= [.int .u32 t.s, .string ⟨t.r.toArray⟩, .int .u64 t.u]
noncomputable def nO (L:List Tm):Array Tm:=pdq (ltOf cx) L.toArray 0 L.toArray.size (Lib.bitLen L.toArray.size) true true
noncomputable def fN (L:List Tm):List Tm:=(nO L).toList
theorem qf(x y:Tm):ltOf cx x y=true↔ltT x y:=by unfold ltOf;rw [decide_eq_true_eq,mD]
theorem zU(x y:Tm):ltOf cx x y=false↔ ¬ltT x y:=by rw [<-qf,Bool.not_eq_true]
theorem QH:SWO (ltOf cx) where
 irrefl x:=(zU x x).2 (ik x)
 trans x y z h1 h2:=(qf x z).2 (gd ((qf x y).1 h1) ((qf y z).1 h2))
 ntrans x y z h1 h2:=by
  rw [zU] at*
  intro h
  rcases qc x y with h3|h3|h3
  · exact h1 h3
  · subst h3;exact h2 h
  · exact h2 (gd h3 h)
theorem ua(L:List Tm):(fN L).length=L.length∧(fN L).Perm L∧ ∀ i j,i<j->j<L.length->ltOf cx ((fN L).getD j T0) ((fN L).getD i T0)=false:=by
 have h:=pdq_sorts (ltOf cx) QH L.toArray 0 L.toArray.size (Lib.bitLen L.toArray.size) true true (Nat.zero_le _) (Nat.le_refl _) (Or.inl rfl)
 have hs:(nO L).size=L.length:=h.1.1.trans (by simp)
 have hb: ∀ j,(nO L)[j]! =(fN L).getD j T0:=fun j=>by
  unfold fN
  rw [List.getD_eq_getElem?_getD,Array.getElem?_toList,Array.getElem!_eq_getD,Array.getD_eq_getD_getElem?]
  rfl
 refine ⟨?_, ?_,fun i j hij hj=> ?_⟩
 · unfold fN;rw [Array.length_toList,hs]
 · have hp:=h.1.2.2
   have e1:((nO L).extract 0 L.toArray.size).toList=fN L:=by
    rw [<-h.1.1];unfold fN;exact congrArg Array.toList (Array.extract_size ..)
   have e2:(L.toArray.extract 0 L.toArray.size).toList=L:=by rw [Array.extract_size]
   rw [e2] at hp
   rw [<-e1]
   exact hp
 · rw [<-hb,<-hb]
   exact h.2 i j (Nat.zero_le _) hij (by simpa using hj)
theorem zV(x:Tm): ∀ v∈dS x,v.oneCell'=true:=fun v hv=>by
 simp only [dS,List.mem_cons,List.not_mem_nil,or_false] at hv
 rcases hv with rfl|rfl|rfl<;>rfl
theorem L3{j:Nat}(hj:j<3):j=0∨j=1∨j=2:=by omega
theorem QI(s:ByteArray):(⟨s.data.toList.toArray⟩:ByteArray)=s:=by apply ByteArray.ext;simp
theorem Kq{w:World}{rw:Nat->Prop}{L:List UInt8}{v:Value}(h:RelC w rw v (.str L)):v= .string ⟨L.toArray⟩:=by
 generalize hs:SV.str L=t at h
 cases h with
 |str s=>cases hs;rw [QI]
 |_=>cases hs
theorem Kr{w:World}{rw:Nat->Prop}{k:IntKind}{n:Int}{v:Value}(h:RelC w rw v (.int k n)):v= .int k n:=by
 generalize hs:SV.int k n=t at h
 cases h with
 |int=>cases hs;rfl
 |_=>cases hs
theorem Kt{w:World}{rw:Nat->Prop}{e:Tm}{j:Nat}(hj:j<3){v:Value}(h:RelC w rw v (ap (eT std fun _=>e) j)):(dS e)[j]? =some v:=by
 rcases L3 hj with rfl|rfl|rfl
 all_goals
  simp only [eT,ap,sS] at h
  first
   | (rw [Kr h];rfl)
   | (rw [Kq h];rfl)
theorem Ku(w:World)(rw:Nat->Prop)(e:Tm){j:Nat}(hj:j<3){v:Value}(h:(dS e)[j]? =some v):RelC w rw v (ap (eT std fun _=>e) j):=by
 rcases L3 hj with rfl|rfl|rfl<;>cases h
 · exact .int _ _
 · exact .str ⟨e.r.toArray⟩
 · exact .int _ _
theorem pg(L:List Tm){i j:Nat}(hi:i<L.length)(hj:j<3):(flatK dS 3 L.toArray)[i*3+j]? =(dS (L.getD i T0))[j]? :=by
 have h3a:(dS (L.getD i T0)).length=3:=rfl
 have hlt:i*3+j<(flatK dS 3 L.toArray).size:=by rw [size_flatK];simp;omega
 have h:=get_flatK dS 3 L.toArray (i*3+j) (by rw [size_flatK] at hlt;exact hlt)
 rw [show (i*3+j) / 3=i by omega,show (i*3+j) % 3=j by omega,getElem!_pos (flatK dS 3 L.toArray) (i*3+j) hlt] at h
 rw [Array.getElem?_eq_getElem hlt,h]
 have e1:L.toArray[i]! =L.getD i T0:=by
  rw [getElem!_pos L.toArray i (by simpa using hi),List.getD_eq_getElem?_getD,List.getElem?_eq_getElem hi]
  simp
 rw [e1,List.getElem?_eq_getElem (by omega),getElem!_pos (dS (L.getD i T0)) j (by omega)]
theorem HD(blk off size:Nat)(w:World):CmpLays Tryz.prog 77 #[] dS 3 cx blk off size w:=
 fun _ _ _ _ x y=>Oq x.s y.s x.u y.u ⟨x.r.toArray⟩ ⟨y.r.toArray⟩ _
theorem Kv(gl:Nat->SV)(n:Nat)(g:Nat->Nat->SV)(hr:ai eT T0 3 n g)(hn0:n<=1000000):
 DN Tryz.prog gl 76 113 3 n g [.clo 77 []] (ax eT T0 std fun _=>fN (ab eT T0 3 n g)):=by
 intro w ρ rw N v vs xs hrw hgl hv hown hone hrel hargs
 obtain ⟨L,hL⟩: ∃ L,L=ab eT T0 3 n g:=⟨_,rfl⟩
 have hRep:au eT T0 3 n g L:=hL▸hr.reps
 rw [<-hL]
 clear hL hr
 have hn:=hRep.1
 subst hn
 match vs,hargs with
 | [v1],⟨r1,_⟩=>
   have e1:v1= .func (.func 77) #[] #[] :=by
    generalize hs:SV.clo 77 [] =t at r1
    cases r1 with
    |clo f cs l hl h hm=>
     cases hs
     have:cs= #[] :=Array.eq_empty_of_size_eq_zero hl
     rw [this]
    |_=>cases hs
   subst e1
   have hxl:xs.length=L.length*3:=hown.1
   have hxs:xs=(flatK dS 3 L.toArray).toList:=by
    apply List.ext_getElem?
    intro t
    rcases Nat.lt_or_ge t (L.length*3) with ht|ht
    · have h1:=pg L (i:=t / 3) (j:=t % 3) (by omega) (Nat.mod_lt _ (by decide))
      rw [show t / 3*3+t % 3=t by omega] at h1
      have h3:(flatK dS 3 L.toArray).toList[t]? =(flatK dS 3 L.toArray)[t]? :=Array.getElem?_toList
      rw [h3,h1,List.getElem?_eq_getElem (show t<xs.length by omega)]
      have h2:=hrel (t / 3) (t % 3) xs[t] (by omega) (Nat.mod_lt _ (by decide)) (by rw [show t / 3*3+t % 3=t by omega];exact List.getElem?_eq_getElem (by omega))
      exact (Kt (Nat.mod_lt _ (by decide)) (RelC.ceq (hRep.2 _ _ (by omega) (Nat.mod_lt _ (by decide))) h2)).symm
    · rw [List.getElem?_eq_none (by omega),List.getElem?_eq_none (by simp;omega)]
   rcases hown.2 with ⟨⟨a,rfl⟩,h0⟩ | ⟨blk,cap,cur,rfl,hc0,hC,hnc,hcm,hcs,htk⟩
   · have hl0:L= [] :=List.eq_nil_of_length_eq_zero h0
     subst hl0
     refine (AnyF.slices_SortFunc_none Tryz.sortTm a 0 _ w).mono fun en w' hq=> ?_
     obtain ⟨rfl,rfl⟩:=hq
     exact ⟨rfl,xs,hown,hone,⟨rfl,rfl,rfl,Nat.le_refl _,fun _ _ _=>rfl⟩,fun _ _ i j u hi=>absurd hi (Nat.not_lt_zero _)⟩
   · obtain ⟨mk,hh,hmk⟩:=hC
     obtain rfl:mk=(0,0):=by
      rcases hmk with h| ⟨_,h⟩
      · exact h
      · exact absurd h (by decide)
     have hblk:blk<w.heap.size:=(Array.getElem?_eq_some_iff.1 hh).1
     have hH:HoldsK dS 3 w blk 0 L.toArray:=fun t ht=>by
      rw [size_flatK] at ht
      have ht':t<L.length*3:=by simpa using ht
      have h3:(flatK dS 3 L.toArray)[t]? =cur[t]? :=by
       have h4:(flatK dS 3 L.toArray)[t]? =xs[t]? :=by rw [hxs];exact Array.getElem?_toList.symm
       rw [h4,<-htk,List.getElem?_take_of_lt ht',Array.getElem?_toList]
      have ht2:t<(flatK dS 3 L.toArray).size:=by rw [size_flatK];exact ht
      refine ⟨?_, ?_⟩
      · rw [Nat.zero_add,getElem!_pos (flatK dS 3 L.toArray) t ht2,World.cell?]
        simp only [hh]
        rw [<-h3,Array.getElem?_eq_getElem ht2]
        rfl
      · rw [World.frozen?]
        simp only [hh]
        simp
     have hsrt:=ua L
     have h:=AnyQ.slices_SortFunc_eq Tryz.sortTm 3 Tryz.isAgg113 Tryz.sizeOf113 dS (fun _=>rfl) zV cx QH 77 #[] blk 0 cap L.toArray w (enters_of Tryz.func77 (by kernel_rfl) rfl) (HD blk 0 L.toArray.size w) hH hblk (by simp;omega)
     rw [show L.toArray.size=L.length by simp] at h
     refine h.mono fun en w' hq=> ?_
     obtain ⟨rfl,m,os,rfl⟩:=hq
     rw [show pdq (ltOf cx) L.toArray 0 L.length (Lib.bitLen L.length) true true=nO L by unfold nO;rw [show L.toArray.size=L.length by simp]]
     obtain ⟨D,hD⟩: ∃ D,D=fN L:=⟨_,rfl⟩
     have hA:nO L=D.toArray:=by rw [hD];unfold fN;simp
     rw [<-hD] at hsrt ⊢
     rw [hA]
     clear hD hA h
     obtain ⟨F,hF⟩: ∃ F,F=flatK dS 3 D.toArray:=⟨_,rfl⟩
     have hFs:F.size=L.length*3:=by rw [hF,size_flatK];simp [hsrt.1]
     have hcl:L.length*3<=cur.size:=by rw [hcs];exact Nat.mul_le_mul_right 3 hnc
     obtain ⟨cur2,hcur2⟩: ∃ cur2,cur2=putCells id 0 F cur:=⟨_,rfl⟩
     have hz2:cur2.size=cur.size:=by rw [hcur2];simp [putCells]
     have htk2:cur2.toList.take (L.length*3)=F.toList:=by
      apply List.ext_getElem?
      intro t
      rcases Nat.lt_or_ge t (L.length*3) with ht|ht
      · rw [List.getElem?_take_of_lt ht,Array.getElem?_toList,Array.getElem?_toList,hcur2]
        simp only [putCells,Array.getElem?_mapIdx]
        rw [Array.getElem?_eq_getElem (show t<cur.size by omega),Array.getElem?_eq_getElem (show t<F.size by omega),Option.map_some,if_pos ⟨Nat.zero_le _,by omega⟩,Nat.sub_zero,getElem!_pos F t (by omega)]
        rfl
      · rw [List.getElem?_eq_none (by rw [List.length_take];omega),List.getElem?_eq_none (by rw [Array.length_toList,hFs];exact ht)]
     have hhp: ∀ b,b<w.heap.size->(sortWorldK dS 3 w blk 0 m D.toArray os).heap[b]? =if b=blk then some (.cells cur2 113 (0,0)) else w.heap[b]? :=fun b hb=>by
      unfold sortWorldK
      rw [heap_grow_old _ _ (by show b<(putRow id _ blk 0 _).heap.size;rw [size_putRow];exact hb)]
      show (w.heap.modify blk (onCells (putCells id 0 (flatK dS 3 D.toArray))))[b]? =_
      rw [Array.getElem?_modify]
      by_cases e:b=blk
      · subst e
        rw [if_pos rfl,if_pos rfl,hh,hcur2,hF]
        rfl
      · rw [if_neg (fun e'=>e e'.symm),if_neg e]
     refine ⟨rfl,F.toList,⟨by rw [Array.length_toList,hFs], .inr ⟨blk,cap,cur2,rfl,hc0, .of ((hhp blk hblk).trans (if_pos rfl)),hnc,hcm,hz2.trans hcs,htk2⟩⟩, ?_,⟨rfl,rfl,rfl, ?_,fun b hb hne=> ?_⟩, ?_⟩
     · intro u hu
       obtain ⟨t,ht⟩:=List.mem_iff_getElem?.1 hu
       have hts:t<L.length*3:=by
        have:=(List.getElem?_eq_some_iff.1 ht).1
        rw [Array.length_toList,hFs] at this
        exact this
       have h1:=pg D (i:=t / 3) (j:=t % 3) (by omega) (Nat.mod_lt _ (by decide))
       rw [show t / 3*3+t % 3=t by omega,<-hF,<-Array.getElem?_toList,ht] at h1
       exact zV _ u (List.mem_of_getElem? h1.symm)
     · unfold sortWorldK
       rw [size_grow]
       show w.heap.size<=(putRow id _ blk 0 _).heap.size+_
       rw [size_putRow]
       exact Nat.le_add_right _ _
     · rw [hhp b hb,if_neg (fun e=>hne (by rw [e,aV hc0]))]
     · intro rw' _ i j u hi hj hu
       rw [Array.getElem?_toList,hF,pg D (by omega) hj] at hu
       exact Ku _ _ _ hj hu
end Go.Proofs
set_option maxHeartbeats 8000000
namespace Go.Vd
open Go.Proofs
variable {n m:Int} {I O:Sl}
noncomputable def xW:Ar->Xt:=fun A=> { wl:= [197],sl:= [76],go:= [86,75,145,147],meth:=fun _ _=>none,wt:=(fun f e k n g rest=>bif Nat.beq f 197 &&(Nat.beq e 113 && Nat.beq k 3) then (match rest with
 | [.int .i64 i, .slc 1 3 h] =>some (some (A.tp fun _=>(0<=i∧i<=(n:Int))∧n<=1000000),A.nadd n 1,A.cat (A.toNat i) g (A.cat 1 h (A.shift g (A.toNat i))))
 |_=>none) else bif Nat.beq f 76 &&(Nat.beq e 113 && Nat.beq k 3) then (match rest with
 | [.clo c []] =>bif Nat.beq c 77 then some (some (A.tp fun _=>ai eT T0 3 n g∧n<=1000000),n,ax eT T0 A fun _=>fN (ab eT T0 3 n g)) else none
 |_=>none) else none) }
theorem Kw(g:Nat->Nat->SV)(k:Nat)(h:Nat->Nat->SV):l7 g k h=bd k g (bd 1 h (aI g k)):=by
 funext a b
 unfold l7 bd aI
 by_cases h1:a<k
 · rw [if_pos h1,if_pos h1]
 · rw [if_neg h1,if_neg h1]
   by_cases h2:a=k
   · rw [if_pos h2,if_pos (by omega),show a - k=0 by omega]
   · rw [if_neg h2,if_neg (by omega),show k+(a - k - 1)=a - 1 by omega]
theorem ub:XtOk Tryz.prog gl0 (xW std):=by
 refine ⟨(fun t name f h=>by cases h), ?_⟩
 intro f e k n g rest p n' g' hw hp
 unfold xW at hw
 simp only at hw
 cases hb:(Nat.beq f 197 &&(Nat.beq e 113 && Nat.beq k 3))<;>rw [hb] at hw<;>simp only [cond_true,cond_false] at hw
 · cases hb3:(Nat.beq f 76 &&(Nat.beq e 113 && Nat.beq k 3))<;>rw [hb3] at hw<;>simp only [cond_true,cond_false,reduceCtorEq] at hw
   simp only [bAE] at hb3
   obtain rfl:=nQE hb3.1
   obtain rfl:=nQE hb3.2.1
   obtain rfl:=nQE hb3.2.2
   split at hw
   · rename_i c
     cases hb2:Nat.beq c 77<;>rw [hb2] at hw<;>simp only [cond_true,cond_false,reduceCtorEq,sIE,pIE] at hw
     obtain rfl:=nQE hb2
     obtain ⟨rfl,rfl,rfl⟩:=hw
     refine ⟨⟨_,Tryz.func76,rfl,by decide⟩, ?_⟩
     have h2:=Kv gl0 n g hp.1 hp.2
     rw [show inW 76 (xW std).sl=true from rfl]
     exact h2
   · cases hw
 · simp only [bAE] at hb
   obtain rfl:=nQE hb.1
   obtain rfl:=nQE hb.2.1
   obtain rfl:=nQE hb.2.2
   split at hw
   · simp only [sIE,pIE] at hw
     obtain ⟨rfl,rfl,rfl⟩:=hw
     rename_i i h
     have h2:=Oj gl0 n g i h hp.1 hp.2
     rw [Kw] at h2
     refine ⟨⟨_,Tryz.func197,rfl,by decide⟩, ?_⟩
     rw [show inW 197 (xW std).sl=false from rfl]
     exact h2
   · cases hw
noncomputable def k9 (n m:Int)(I O:Sl):List Tm:=if wR n m I O=true then bL I O else []
theorem qg(h:wR n m I O=true):k9 n m I O=bL I O:=by unfold k9;rw [if_pos h]
theorem R6(h:wR n m I O=false):k9 n m I O= [] :=by unfold k9;rw [h];rfl
theorem Ot{M:List Tm}(h:cy M):fN M=nJ M:=by
 obtain ⟨h1,h2,h3⟩:=ua M
 have hu:cy (fN M):=(h2.pairwise_iff fun {a b} =>il).2 h
 refine (wy h ?_ fun x=>h2.mem_iff).symm
 unfold dq
 unfold cy at hu
 rw [List.pairwise_iff_getElem] at hu ⊢
 intro i j hi hj hij
 have a:=mE (hu i j hi hj hij)
 have b:=(zU _ _).1 (h3 i j hij (by omega))
 rw [List.getD_eq_getElem?_getD,List.getD_eq_getElem?_getD,gEE hi,gEE hj] at b
 simp only [Option.getD_some] at b
 rcases qc (fN M)[i] (fN M)[j] with h4|h4|h4
 · exact h4
 · exact absurd h4 a
 · exact absurd h4 b
attribute [local irreducible] vc
theorem zW(n m:Int)(I O:Sl)(hQ:whQ I O)(hn:0<=n):GFn 28 (fun A=> [whS A n m I O]) (fun A=>aF eT T0 3 A fun _=>k9 n m I O):=by
 refine aC mF ub ak Tryz.func28 (.none) fun A hA=> ?_
 cbv
 repeat' (first| (with_reducible first|exact vT|exact vD hA|exact vE hA|refine vA ?_ ?_) | (intro hc;cbv))
 all_goals (subst hA;simp only [sS,ay hQ.1.1,ay hQ.1.2,ah hQ.1.1,ah hQ.1.2,fd,cd] at*)
 all_goals first
  |exact ⟨⟨⟨trivial,trivial⟩,hQ⟩,hn⟩
  |exact ⟨⟨trivial,trivial⟩,hQ⟩
  | (have h1:=R6 (nI hc)
     rw [h1]
     first
      |rfl
      |simp)
  | (have hR:=eH hc
     have h1:=qg hR
     have h2:=dC.1 hR
     have h3:fN (aR I O)=bL I O:=Ot h2.2.2.1
     have h4:(bL I O).length=(aR I O).length:=jm _
     have h5:=hQ.2.1
     first
      |exact ⟨trivial,by omega⟩
      | (rw [h1,h4];done)
      | (rw [h1,h4,h3];exact (au.lit _).eqr' h4.symm)
      | (rw [h1,h3];exact (au.lit _).eqr' h4.symm)
)
noncomputable def jN:Ct:=fun A args=>match args with
 | [.agg [.int .u64 n, .int .i64 m, .run 64 f, .run 64 g]] =>some (some (A.tp fun _=>((ai eTs [] 1 64 f∧ai eTs [] 1 64 g)∧whQ (ab eTs [] 1 64 f) (ab eTs [] 1 64 g))∧0<=n),aF eT T0 3 A fun _=>k9 n m (ab eTs [] 1 64 f) (ab eTs [] 1 64 g))
 |_=>none
noncomputable def ph (n m:Int)(I O:Sl)(s:Int)(r:List UInt8):Int:=if wR n m I O=true then fdT (aR I O) s r else 0
noncomputable def pk (n m:Int)(I O:Sl)(s:Int)(r:List UInt8):Bool:=if wR n m I O=true then hkT (aR I O) s r else false
theorem EK(h:wR n m I O=true)(s:Int)(r:List UInt8):ph n m I O s r=fdT (aR I O) s r∧pk n m I O s r=hkT (aR I O) s r:=by unfold ph pk;rw [if_pos h,if_pos h];exact ⟨rfl,rfl⟩
theorem R7(h:wR n m I O=false)(s:Int)(r:List UInt8):ph n m I O s r=0∧pk n m I O s r=false:=by unfold ph pk;rw [h];exact ⟨rfl,rfl⟩
theorem EL(n m s:Int)(I O:Sl)(r:List UInt8)(hQ:whQ I O)(hn:0<=n):GFn 29 (fun A=> [whS A n m I O,gY A s r]) (fun A=> .tup [.int .u64 (A.ti fun _=>ph n m I O s r), .bool (A.tb fun _=>pk n m I O s r)]):=by
 refine aC mF ar ak Tryz.func29 (.one) fun A hA=> ?_
 cbv
 repeat' (first| (with_reducible first|exact vT|exact vD hA|exact vE hA|refine vA ?_ ?_) | (intro hc;cbv))
 all_goals (subst hA;simp only [sS,ay hQ.1.1,ay hQ.1.2,ah hQ.1.1,ah hQ.1.2] at*)
 all_goals first
  |exact ⟨⟨⟨trivial,trivial⟩,hQ⟩,hn⟩
  |exact ⟨⟨trivial,trivial⟩,hQ⟩
  | (have h1:=R7 (nI hc) s r
     first
      |exact h1.1.symm
      |exact h1.2.symm)
  | (have h1:=EK (eH hc) s r
     first
      |exact h1.1.symm
      |exact h1.2.symm)
noncomputable def qh:Ct:=fun A args=>match args with
 | [.agg [.int .u64 n, .int .i64 m, .run 64 f, .run 64 g], .agg [.int .u32 s, .str r]] =>some (some (A.tp fun _=>((ai eTs [] 1 64 f∧ai eTs [] 1 64 g)∧whQ (ab eTs [] 1 64 f) (ab eTs [] 1 64 g))∧0<=n), .tup [.int .u64 (A.ti fun _=>ph n m (ab eTs [] 1 64 f) (ab eTs [] 1 64 g) s r), .bool (A.tb fun _=>pk n m (ab eTs [] 1 64 f) (ab eTs [] 1 64 g) s r)])
 |_=>none
noncomputable def gwl:Ar->Pu:=aq 28 jN (aq 29 qh (gwd))
theorem pm:az Tryz.prog gl0 (gwl std):=by
 refine ao (ao (mF) ⟨_,Tryz.func29,rfl,by decide⟩ ?_) ⟨_,Tryz.func28,rfl,by decide⟩ ?_
 · intro args p r h hp
   unfold qh at h
   split at h<;>cases h
   exact aJ (EL _ _ _ _ _ _ hp.1.2 hp.2) ⟨fF hp.1.1.1 hp.1.1.2,⟨_,rfl,rfl,rfl,trivial⟩,trivial⟩
 · intro args p r h hp
   unfold jN at h
   split at h<;>cases h
   exact aJ (zW _ _ _ _ hp.1.2 hp.2) ⟨fF hp.1.1.1 hp.1.1.2,trivial⟩
end Go.Vd
namespace Go.Vd
open Go.Proofs
def ahT (x y:Tm):Bool:=decide (cx y x<0)
theorem vl{x y:Tm} :ahT x y=true↔ltT y x:=by unfold ahT;rw [decide_eq_true_eq,mD]
def de (L:List Tm)(x:Tm):Nat:=(L.takeWhile (ahT x)).length
theorem im: ∀(L:List Tm) (x:Tm),de L x<=L.length
 | [],x=>Nat.le_refl _
 |y::L,x=>by
  have:=im L x
  unfold de at this ⊢
  rw [List.takeWhile_cons]
  split
  · simpa using this
  · simp
theorem C2: ∀ {L:List Tm} {x:Tm} {i:Nat},i<=L.length->(∀ t,t<i->ahT x (L.getD t T0)=true)->(i<L.length->ahT x (L.getD i T0)=false)->de L x=i
 | [],x,i,h,_,_=>by simp at h;subst h;rfl
 |y::L,x,0,_,_,h=>by
  have:=h (by simp)
  simp only [List.getD_cons_zero] at this
  unfold de
  rw [List.takeWhile_cons,this]
  rfl
 |y::L,x,i+1,h,h1,h2=>by
  have h0:=h1 0 (by omega)
  simp only [List.getD_cons_zero] at h0
  have ih:=C2 (L:=L) (x:=x) (i:=i) (by simpa using h) (fun t ht=>by simpa using h1 (t+1) (by omega)) (fun hh=>by simpa using h2 (by simpa using hh))
  unfold de at ih ⊢
  rw [List.takeWhile_cons,h0,if_pos rfl,List.length_cons,ih]
def srT (L:List Tm)(x:Tm)(i j:Nat):Prop:=i<=j∧j<=L.length∧(∀ t,t<i->ahT x (L.getD t T0)=true)∧ ∀ t,j<=t->t<L.length->ahT x (L.getD t T0)=false
theorem HE{L:List Tm}(h:dq L){i j:Nat}(hij:i<j)(hj:j<L.length):ltT (L.getD i T0) (L.getD j T0):=by
 have:=List.pairwise_iff_getElem.1 h i j (by omega) hj hij
 rwa [List.getD_eq_getElem?_getD,List.getD_eq_getElem?_getD,gEE hj,gEE (show i<L.length by omega)]
theorem L4{L:List Tm}(h:dq L){x:Tm}{i j:Nat}(hij:i<=j)(hj:j<L.length)(hl:ahT x (L.getD j T0)=true):ahT x (L.getD i T0)=true:=by
 rcases Nat.lt_or_ge i j with h2|h2
 · rw [vl] at*
   exact gd (HE h h2 hj) hl
 · obtain rfl:i=j:=by omega
   exact hl
theorem Ou{i j m:Nat}(hm:m=(i+j) / 2)(hi:i<=1000000000)(hj:j<=1000000000):std.conv .i64 (std.shr .u64 (std.conv .u64 (std.add .i64 (Int.ofNat i) (Int.ofNat j))) 1)=Int.ofNat m:=by
 show IntKind.i64.wrap ((IntKind.u64.wrap (IntKind.i64.wrap ((i:Int)+(j:Int)))).fdiv (2 ^(min (1:Int).toNat IntKind.u64.bits)))=(m:Int)
 have e0:IntKind.i64.wrap ((i:Int)+(j:Int))=(i:Int)+(j:Int):=w64 (by omega)
 have e1:IntKind.u64.wrap ((i:Int)+(j:Int))=(i:Int)+(j:Int):=by rw [IntKind.wrap_u64];omega
 have e2:(2:Int)^(min (1:Int).toNat IntKind.u64.bits)=2:=by decide
 rw [e0,e1,e2,Int.fdiv_eq_ediv_of_nonneg _ (by decide),w64 (by omega)]
 omega
attribute [local irreducible] vc
theorem Kx(L:List Tm)(x:Tm)(hL:L.length<=1000000)(hasc:dq L):GFn 196 (fun A=> [aF eT T0 3 A fun _=>L,tmS A x, .clo 77 []]) (fun A=> .tup [.int .i64 (A.ti fun _=>(de L x:Int)), .any]):=by
 refine aC pm ar ak Tryz.func196 (.one) fun A hA=> ?_
 cbv
 repeat' (first| (with_reducible first|exact vT|exact vD hA|exact vE hA|refine vA ?_ ?_) | (intro hc;cbv))
 obtain ⟨n0,hn0⟩: ∃ n0,n0=L.length:=⟨_,rfl⟩
 refine ⟨⟨{p:Nat×Nat // srT L x p.1 p.2},fun b p=> [(9, .int .i64 (p.1.1:Nat)),(10, .int .i64 (p.1.2:Nat))],fun b p=> [],fun p=>p.1.2 - p.1.1,true⟩,⟨⟨(0,n0),by omega,by omega,(fun t ht=>absurd ht (by omega)),fun t h1 h2=>absurd h1 (by omega)⟩, ?_⟩, ?_⟩
 · cbv
   subst hA
   simp [-List.getD_eq_getElem?_getD,sS,hn0]
 · rintro ⟨⟨i,j⟩,hx⟩
   have hij:i<=j:=hx.1
   have hjL:j<=L.length:=hx.2.1
   have h1: ∀ t,t<i->ahT x (L.getD t T0)=true:=hx.2.2.1
   have h2: ∀ t,j<=t->t<L.length->ahT x (L.getD t T0)=false:=hx.2.2.2
   rcases Nat.lt_or_ge i j with hlt|hge
   · obtain ⟨m,hm⟩: ∃ m,m=(i+j) / 2:=⟨_,rfl⟩
     have hmi:i<=m:=by omega
     have hmj:m<j:=by omega
     have hmL:m<L.length:=by omega
     obtain ⟨e,he⟩: ∃ e,e=L.getD m T0:=⟨_,rfl⟩
     have hg:L.getD m { s:=0,r:= [],u:=0 } =e:=he.symm
     obtain ⟨m',hm'⟩: ∃ m',m'=m+1:=⟨_,rfl⟩
     have hyes:cx e x<0->srT L x m' j:=fun hk=>by
      have hk:ahT x e=true:=decide_eq_true hk
      exact ⟨by omega,hjL,fun t ht=>L4 hasc (show t<=m by omega) hmL (he▸hk),h2⟩
     have hno: ¬cx e x<0->srT L x i m:=fun hk=>by
      have hk:ahT x e=false:=decide_eq_false hk
      refine ⟨hmi,by omega,h1,fun t ht1 ht2=> ?_⟩
      cases hq:ahT x (L.getD t T0)
      · rfl
      · have:=L4 hasc ht1 ht2 hq
        rw [<-he,hk] at this
        cases this
     have hmid:=Ou hm (by omega) (by omega)
     clear h1 h2
     cbv
     repeat' (first| (with_reducible first|exact vT|exact vD hA|exact vE hA|refine vA ?_ ?_) | (intro hc;cbv))
     all_goals first
      | (fail_if_success (refine Exists.intro ?_ ?_)
         clear hyes hno
         subst hA
         simp only [hmid] at*
         simp only [sS,iNE,hg,gB] at*
         first
          |done
          |exact ⟨(show (0:Int)<=((m:Nat):Int) by omega),(show ((m:Nat):Int)<((L.length:Nat):Int) by omega)⟩
          |decide
          |omega
          | (exfalso
             have hq:decide ((i:Int)<(j:Int))=false:=by assumption
             have:=of_decide_eq_false hq
             omega)
)
      | (have hk:cx e x<0:=by
          clear hyes hno
          subst hA
          simp only [hmid] at hc
          simp only [sS,iNE,hg,gB] at hc
          exact of_decide_eq_true hc
         refine ⟨⟨(m',j),hyes hk⟩, ?_,show j - m'<j - i by omega⟩
         cbv
         subst hA
         simp only [hmid]
         simp [-List.getD_eq_getElem?_getD,sS]
         exact ce hm' (by omega))
      | (have hk: ¬cx e x<0:=by
          clear hyes hno
          subst hA
          simp only [hmid] at hc
          simp only [sS,iNE,hg,gB] at hc
          exact of_decide_eq_false hc
         refine ⟨⟨(i,m),hno hk⟩, ?_,show m - i<j - i by omega⟩
         cbv
         subst hA
         simp only [hmid]
         simp [-List.getD_eq_getElem?_getD,sS])
   · obtain rfl:i=j:=by omega
     have hp:de L x=i:=C2 hjL h1 fun h=>h2 i (Nat.le_refl _) h
     clear h1 h2
     cbv
     repeat' (first| (with_reducible first|exact vT|exact vD hA|exact vE hA|refine vA ?_ ?_) | (intro hc;cbv))
     all_goals first
      | (exfalso
         subst hA
         simp only [sS,iNE] at*
         have hq:decide ((i:Int)<(i:Int))=true:=by assumption
         have:=of_decide_eq_true hq
         omega)
      | (subst hA
         simp only [sS,iNE,hp] at*
         first
          |done
          |exact fun h=>h
          |exact fun h=>⟨h,h⟩
          | (intro h;have h2:i<L.length:=by simpa using h
             first
              |exact ⟨⟨h,h⟩,(show (0:Int)<=((i:Nat):Int) by omega),(show ((i:Nat):Int)<((L.length:Nat):Int) by omega)⟩
              |exact ⟨h,h⟩
              |exact ⟨h,h,h⟩)
          | (intro h;rw [h];rfl)
)
noncomputable def L5:Ct:=fun A args=>match args with
 | [.slc n 3 f, .agg [.int .u32 s, .str r, .int .u64 u], .clo 77 []] =>some (some (A.tp fun _=>(ai eT T0 3 n f∧n<=1000000)∧dq (ab eT T0 3 n f)), .tup [.int .i64 (A.ti fun _=>(de (ab eT T0 3 n f) ⟨s,r,u⟩:Int)), .any])
 |_=>none
noncomputable def gwm:Ar->Pu:=aq 196 L5 (gwl)
theorem QJ:az Tryz.prog gl0 (gwm std):=by
 refine ao (pm) ⟨_,Tryz.func196,rfl,by decide⟩ ?_
 · intro args p r h hp
   unfold L5 at h
   split at h<;>cases h
   exact aJ (Kx _ ⟨_,_,_⟩ (by rw [aN hp.1.1];exact hp.1.2) hp.2) ⟨hp.1.1.sv,⟨_,rfl,rfl,rfl,rfl,trivial⟩,rfl,trivial⟩
end Go.Vd
namespace Go.Vd
open Go.Proofs
variable {r:List UInt8} {n m s u:Int} {I O:Sl}
noncomputable def iWs:Nat->Option Func:=bY 75 Tryz.f75 (bY 86 Tryz.f86 (bY 145 Tryz.f145 (bY 147 Tryz.f147 (bY 124 Tryz.f124 (bY 125 Tryz.f125 (bY 146 Tryz.f146 (bY 109 Tryz.f109 noI)))))))
theorem zX:gF Tryz.prog iWs:=bc (bc (bc (bc (bc (bc (bc (bc ak Tryz.func109 (by kernel_rfl)) Tryz.func146 (by kernel_rfl)) Tryz.func125 (by kernel_rfl)) Tryz.func124 (by kernel_rfl)) Tryz.func147 (by kernel_rfl)) Tryz.func145 (by kernel_rfl)) Tryz.func86 (by kernel_rfl)) Tryz.func75 (by kernel_rfl)
def EM (n:Nat)(g:Ar->Pu):Ar->Pu:=fun A f args=>bif Nat.beq f n then none else g A f args
theorem Ky{P:Program}{gl:Nat->SV}{g:Ar->Pu}(n:Nat)(h:az P gl (g std)):az P gl (EM n g std):=by
 intro f args p r e hp
 have e1:EM n g std f args=bif Nat.beq f n then none else g std f args:=rfl
 rw [e1] at e
 cases hb:Nat.beq f n<;>rw [hb] at e
 · exact h f args p r e hp
 · cases e
noncomputable def gwn:Ar->Pu:=EM 75 gwm
theorem zY:az Tryz.prog gl0 (gwn std):=Ky _ QJ
theorem C3: ∀ {L:List Tm} {x:Tm} {k:Nat},k<de L x->ahT x (L.getD k T0)=true
 | [],x,k,h=>by simp [de] at h
 |y::L,x,k,h=>by
  unfold de at h
  rw [List.takeWhile_cons] at h
  split at h
  · rename_i hy
    cases k with
    |zero=>simpa using hy
    |succ k=>simpa using C3 (L:=L) (x:=x) (k:=k) (by unfold de;simpa using h)
  · simp at h
theorem C4: ∀ {L:List Tm} {x:Tm},de L x<L.length->ahT x (L.getD (de L x) T0)=false
 | [],x,h=>by simp at h
 |y::L,x,h=>by
  unfold de at h ⊢
  rw [List.takeWhile_cons] at h ⊢
  split
  · rename_i hy
    rw [hy] at h
    simpa [de] using C4 (L:=L) (x:=x) (by unfold de;simpa using h)
  · rename_i hy
    simpa using hy
theorem Ov{L:List Tm}{x:Tm}(h: ∀ y∈L,¬y=x):bP L x=L.take (de L x)++x::L.drop (de L x):=by
 refine CW (im L x) (fun k hk=> ?_) fun hp=> ?_
 · have:=vl.1 (C3 hk)
   cases hb:iR x (L.getD k T0)
   · rfl
   · exact absurd this (zJ (jK.1 hb))
 · have h1:=C4 hp
   rw [jK]
   have h2: ¬ltT (L.getD (de L x) T0) x:=fun e=>by rw [vl.2 e] at h1;cases h1
   rcases qc x (L.getD (de L x) T0) with h3|h3|h3
   · exact h3
   · exact absurd h3.symm (h _ (iS hp))
   · exact absurd h3 h2
theorem ej(u:Int):fz true u=u % 64:=rfl
theorem qi(u:Int):fz false u=u / 64 % 64:=rfl
theorem pn{B:Sl}{z:Nat}{s u:Int}(hz:z<64)(hl:B.length=64)(h: ∀ y∈sl B z,¬y=⟨s,r,u⟩):ba 64 1 (fun x _=>SV.slc (if x=z then (B.getD z []).length+1 else (B.getD x []).length) 3
 (if x=z then bd (de (B.getD z []) ⟨s,r,u⟩) (ax eT { s:=0,r:= [],u:=0 } std fun _=>B.getD z []) (bd 1 (bf [[SV.int IntKind.u32 s,SV.str r,SV.int IntKind.u64 u]]) (aI (ax eT { s:=0,r:= [],u:=0 } std fun _=>B.getD z []) (de (B.getD z []) ⟨s,r,u⟩))) else ax eT T0 std fun _=>B.getD x []))
 (ax eTs [] std fun _=>B.set z (bP (sl B z) ⟨s,r,u⟩)):=fun x j hx hj=>by
 obtain rfl:j=0:=by omega
 obtain ⟨L,hL⟩: ∃ L,L=B.getD z [] :=⟨_,rfl⟩
 have e:(B.set z (bP (sl B z) ⟨s,r,u⟩)).getD x [] =if x=z then bP L ⟨s,r,u⟩ else B.getD x [] :=by rw [hL];exact gO hl hz _ x
 have hi:=Ov (L:=L) (x:=⟨s,r,u⟩) (by rw [hL];exact h)
 have hp:=im L ⟨s,r,u⟩
 rw [<-hL]
 show Ceq _ (aF eT T0 3 std fun _=>(B.set z (bP (sl B z) ⟨s,r,u⟩)).getD x [])
 rw [e]
 by_cases hxs:x=z
 · simp only [if_pos hxs]
   have h1:=(((au.lit (enc:=eT) (d:=T0) (k:=3) L).take (de L ⟨s,r,u⟩) hp).cat ((au.one (Oe ⟨s,r,u⟩)).cat ((au.lit (enc:=eT) (d:=T0) (k:=3) L).shift (m:=L.length - de L ⟨s,r,u⟩) (de L ⟨s,r,u⟩) (by omega))))
   have h2:L.take (de L ⟨s,r,u⟩)++([⟨s,r,u⟩] ++(L.drop (de L ⟨s,r,u⟩)).take (L.length - de L ⟨s,r,u⟩))=bP L ⟨s,r,u⟩:=by
    rw [List.take_of_length_le (l:=L.drop _) (by rw [List.length_drop];exact Nat.le_refl _),hi]
    rfl
   exact (h1.congr (n':=L.length+1) (by omega) h2).cell
 · simp only [if_neg hxs]
   exact .refl _
theorem HF{I:Sl}(h:I.length=64):au eTs [] 1 64 (fun i _=>SV.slc ((I.getD i []).length) 3 (ax eT T0 std fun _=>I.getD i [])) I:=⟨h,bS I⟩
theorem qj{I:Sl}(h:I.length=64):ai eTs [] 1 64 (fun i _=>SV.slc ((I.getD i []).length) 3 (ax eT T0 std fun _=>I.getD i [])):=⟨I,HF h⟩
theorem mG{I:Sl}(h:I.length=64):ab eTs [] 1 64 (fun i _=>SV.slc ((I.getD i []).length) 3 (ax eT T0 std fun _=>I.getD i []))=I:=kX CK (HF h)
noncomputable def dD (n m:Int)(I O:Sl)(s:Int)(r:List UInt8)(u:Int):Int:=
 if wR n m I O=true then (if hkT (aR I O) s r=true then 6 else if u<=n then 1 else if 63<u / 64 - n / 64 then 9 else if m<=((aR I O).length:Int) then 7 else 0) else 1
noncomputable def gj (n m:Int)(I O:Sl)(s:Int)(r:List UInt8)(u:Int):Sl:=if dD n m I O s r u=0∧u / 64=n / 64 then I.set (u % 64).toNat (bP (sl I (u % 64).toNat) ⟨s,r,u⟩) else I
noncomputable def gk (n m:Int)(I O:Sl)(s:Int)(r:List UInt8)(u:Int):Sl:=if dD n m I O s r u=0∧ ¬u / 64=n / 64 then O.set (u / 64 % 64).toNat (bP (sl O (u / 64 % 64).toNat) ⟨s,r,u⟩) else O
theorem mH(h: ¬dD n m I O s r u=0):gj n m I O s r u=I∧gk n m I O s r u=O:=by
 unfold gj gk
 rw [if_neg (fun e=>h e.1),if_neg (fun e=>h e.1)]
 exact ⟨rfl,rfl⟩
theorem HG(h:dD n m I O s r u=0)(h2:u / 64=n / 64):gj n m I O s r u=I.set (u % 64).toNat (bP (sl I (u % 64).toNat) ⟨s,r,u⟩)∧gk n m I O s r u=O:=by
 unfold gj gk
 rw [if_pos ⟨h,h2⟩,if_neg (fun e=>e.2 h2)]
 exact ⟨rfl,rfl⟩
theorem C5(h:dD n m I O s r u=0)(h2: ¬u / 64=n / 64):gj n m I O s r u=I∧gk n m I O s r u=O.set (u / 64 % 64).toNat (bP (sl O (u / 64 % 64).toNat) ⟨s,r,u⟩):=by
 unfold gj gk
 rw [if_neg (fun e=>h2 e.2),if_pos ⟨h,h2⟩]
 exact ⟨rfl,rfl⟩
theorem EN(h:wR n m I O=false):dD n m I O s r u=1:=by unfold dD;rw [h];rfl
theorem EO(h:wR n m I O=true)(h1:hkT (aR I O) s r=true):dD n m I O s r u=6:=by unfold dD;rw [if_pos h,if_pos h1]
theorem HH(h:wR n m I O=true)(h1:hkT (aR I O) s r=false)(h2:u<=n):dD n m I O s r u=1:=by unfold dD;rw [if_pos h,h1,if_neg (by decide),if_pos h2]
theorem L6(h:wR n m I O=true)(h1:hkT (aR I O) s r=false)(h2: ¬u<=n)(h3:63<u / 64 - n / 64):dD n m I O s r u=9:=by unfold dD;rw [if_pos h,h1,if_neg (by decide),if_neg h2,if_pos h3]
theorem L7(h:wR n m I O=true)(h1:hkT (aR I O) s r=false)(h2: ¬u<=n)(h3: ¬63<u / 64 - n / 64)(h4:m<=((aR I O).length:Int)):dD n m I O s r u=7:=by unfold dD;rw [if_pos h,h1,if_neg (by decide),if_neg h2,if_neg h3,if_pos h4]
theorem EP(h:wR n m I O=true)(h1:hkT (aR I O) s r=false)(h2: ¬u<=n)(h3: ¬63<u / 64 - n / 64)(h4: ¬m<=((aR I O).length:Int)):dD n m I O s r u=0:=by unfold dD;rw [if_pos h,h1,if_neg (by decide),if_neg h2,if_neg h3,if_neg h4]
attribute [local irreducible] vc
theorem BD(n m s u:Int)(I O:Sl)(r:List UInt8)(hQ:whQ I O)(hn:0<=n∧n<18446744073709551616)(hu:0<=u∧u<18446744073709551616):GFn 96 (fun A=> [whS A n m I O,gY A s r, .int .u64 u]) (fun A=> .tup [whT A n m (fun _=>gj n m I O s r u) (fun _=>gk n m I O s r u), .int .i64 (A.ti fun _=>dD n m I O s r u)]):=by
 refine aC zY ub zX Tryz.func96 (.none) fun A hA=> ?_
 cbv
 repeat' (first| (with_reducible first|exact vT|exact vD hA|exact vE hA|refine vA ?_ ?_) | (intro hc;cbv))
 refine ⟨qe A n m I O 4 4,⟨some ⟨0,by omega⟩, ?_⟩, ?_⟩
 · cbv
   subst hA
   simp [-List.getD_eq_getElem?_getD,sS,bm]
 · rintro (_| ⟨i,hi⟩)
   rotate_left 1
   · have h1:=fA hQ hi
     obtain ⟨i',hi'⟩: ∃ i',i'=i+1:=⟨_,rfl⟩
     cbv
     repeat' (first| (with_reducible first|exact vT|exact vD hA|exact vE hA|refine vA ?_ ?_) | (intro hc;cbv))
     all_goals first
      | (exfalso;subst hA;have hq:std.lt (Int.ofNat i) 64=false:=by assumption
         have: ¬((i:Nat):Int)<64:=of_decide_eq_false hq
         omega)
      | (fail_if_success (refine Exists.intro ?_ ?_)
         subst hA
         simp only [sS,iNE,fd,cd] at*
         first
          |done
          |exact ⟨by omega,by omega⟩
          |exact ⟨trivial,by unfold sl at h1;omega⟩
          |omega
          | (constructor<;>omega))
      |skip
     by_cases h:i'<64
     · refine ⟨some ⟨i',h⟩, ?_,show 64 - i'<64 - i by omega⟩
       cbv
       subst hA
       simp [-List.getD_eq_getElem?_getD,sS,bm,cd,jM]
       exact ⟨ce hi' (by omega),hi'.symm⟩
     · refine ⟨none, ?_,show 0<64 - i by omega⟩
       cbv
       subst hA
       simp [-List.getD_eq_getElem?_getD,sS,bm,cd,jM]
       exact ⟨by rw [w64 (by omega)];omega,by omega⟩
   · have rI:=qj hQ.1.1
     have rO:=qj hQ.1.2
     have lI:=mG hQ.1.1
     have lO:=mG hQ.1.2
     have hQ1:=hQ.2.1
     have q1:IntKind.u64.wrap (u / 64 - n / 64)=u / 64 - n / 64∨u<=n:=by
      rcases Int.lt_or_le n u with h|h
      · exact .inl (wU (by omega))
      · exact .inr h
     cbv
     repeat' (first| (with_reducible first|exact vT|exact vD hA|exact vE hA|refine vA ?_ ?_) | (intro hc;cbv))
     all_goals (try (exfalso;subst hA;simp only [sS] at hc;exact absurd hc (by decide)))
     all_goals first
      | (fail_if_success (refine Exists.intro ?_ ?_)
         subst hA
         simp only [sS,ay hQ.1.1,ay hQ.1.2,ah hQ.1.1,ah hQ.1.2,rI,rO,lI,lO] at*
         first
          |done
          |exact ⟨⟨⟨trivial,trivial⟩,hQ⟩,hn.1⟩
          |exact ⟨⟨trivial,trivial⟩,hQ⟩
          | (have h2:decide (u<=n)=false:=by assumption
             have h2:=of_decide_eq_false h2
             exact ⟨hn.1,by omega,hu.2⟩)
          | (have hR:(!wR n m I O)=true:=by assumption
             have h1:=EN (s:=s) (r:=r) (u:=u) (nI hR)
             have h2:=mH (by rw [h1];decide)
             first
              | (rw [h1];done)
              | (rw [h2.1];exact bS _)
              | (rw [h2.2];exact bS _))
          | (have hR:(!wR n m I O)=false:=by assumption
             have hR:=eH hR
             have hH:hkT (aR I O) s r=true:=by assumption
             have h1:=EO (u:=u) hR hH
             have h2:=mH (by rw [h1];decide)
             first
              | (rw [h1];done)
              | (rw [h2.1];exact bS _)
              | (rw [h2.2];exact bS _))
          | (have hR:(!wR n m I O)=false:=by assumption
             have hR:=eH hR
             have hH:hkT (aR I O) s r=false:=by assumption
             have hU:decide (u<=n)=true:=by assumption
             have h1:=HH hR hH (of_decide_eq_true hU)
             have h2:=mH (by rw [h1];decide)
             first
              | (rw [h1];done)
              | (rw [h2.1];exact bS _)
              | (rw [h2.2];exact bS _))
          | (have hR:(!wR n m I O)=false:=by assumption
             have hR:=eH hR
             have hH:hkT (aR I O) s r=false:=by assumption
             have hU:decide (u<=n)=false:=by assumption
             have hF:decide (63<u / 64 - n / 64)=true:=by assumption
             have h1:=L6 hR hH (of_decide_eq_false hU) (of_decide_eq_true hF)
             have h2:=mH (by rw [h1];decide)
             first
              | (rw [h1];done)
              | (rw [h2.1];exact bS _)
              | (rw [h2.2];exact bS _))
)
      |skip
     refine ⟨⟨{p:Nat×List Tm // p.1<=64∧p.2=bx I O p.1},fun b p=> [(3, .own b),(5, .int .i64 (p.1.1:Nat))],fun b p=> [(b, .row 113 3 (A.tn fun _=>p.1.2.length) (ax eT T0 A fun _=>p.1.2))],fun p=>64 - p.1.1,true⟩,⟨⟨(0, []),Nat.zero_le _,rfl⟩, ?_⟩, ?_⟩
     · cbv
       subst hA
       simp [-List.getD_eq_getElem?_getD,sS,bm]
     · rintro ⟨⟨i,M⟩,hx⟩
       have hi:i<=64:=hx.1
       have hM:M=bx I O i:=hx.2
       rcases Nat.lt_or_ge i 64 with hlt|hge
       · have hb:=fA hQ hlt
         rw [<-hM] at hb
         obtain ⟨i',hi'⟩: ∃ i',i'=i+1:=⟨_,rfl⟩
         obtain ⟨L1,hL1⟩: ∃ L1,L1=sl I i:=⟨_,rfl⟩
         obtain ⟨L2,hL2⟩: ∃ L2,L2=sl O i:=⟨_,rfl⟩
         rw [<-hL1,<-hL2] at hb
         have e1:I.getD i [] =L1:=hL1.symm
         have e2:O.getD i [] =L2:=hL2.symm
         obtain ⟨M',hM'⟩: ∃ M',M'=M++(L1++L2):=⟨_,rfl⟩
         have hMM:M'=bx I O i':=by rw [hM',hi',hM,hL1,hL2];rfl
         cbv
         repeat' (first| (with_reducible first|exact vT|exact vD hA|exact vE hA|refine vA ?_ ?_) | (intro hc;cbv))
         all_goals (try (exfalso;subst hA;have hq:std.lt (Int.ofNat i) 64=false:=by assumption
                         have: ¬((i:Nat):Int)<64:=of_decide_eq_false hq
                         omega))
         all_goals first
          | (fail_if_success (refine Exists.intro ?_ ?_)
             subst hA
             simp only [sS,iNE,e1,e2] at*
             first
              |exact ⟨by omega,by omega⟩
              |omega)
          | (refine ⟨⟨(i',M'),by show i'<=64;omega,hMM⟩, ?_,show 64 - i'<64 - i by omega⟩
             cbv
             subst hA
             simp [-List.getD_eq_getElem?_getD,sS,e1,e2,bm]
             refine ⟨ce hi' (by omega), ?_, ?_⟩
             · rw [hM'];simp;omega
             · exact c7 (((au.lit M).cat (au.lit L1)).cat (au.lit L2)) (by rw [hM'];simp;omega) (by rw [hM',List.append_assoc]))
       · have hie:i=64:=by omega
         subst hie
         have hML:M=aR I O:=by rw [hM,<-fh]
         cbv
         repeat' (first| (with_reducible first|exact vT|exact vD hA|exact vE hA|refine vA ?_ ?_) | (intro hc;cbv))
         all_goals (try (exfalso;subst hA;simp only [sS] at hc;exact absurd hc (by decide)))
         all_goals first
          | (subst hA
             simp only [sS,ay hQ.1.1,ay hQ.1.2,ah hQ.1.1,ah hQ.1.2,rI,rO,lI,lO]
             done)
          | (subst hA
             have hR:std.not (std.tb fun _=>wR n m (ab eTs [] 1 64 (ax eTs [] std fun _=>I)) (ab eTs [] 1 64 (ax eTs [] std fun _=>O)))=false:=by assumption
             simp only [sS,iNE,ay hQ.1.1,ay hQ.1.2,ah hQ.1.1,ah hQ.1.2,rI,rO,lI,lO,ej,qi,fd,cd] at*
             have hR:=eH hR
             have hH:hkT (aR I O) s r=false:=by assumption
             have hU:decide (u<=n)=false:=by assumption
             have hF:decide (63<u / 64 - n / 64)=false:=by assumption
             have hU:=of_decide_eq_false hU
             have hF:=of_decide_eq_false hF
             have hW:=dC.1 hR
             first
              |done
              |exact hu
              |exact ⟨hn.1,by omega,hu.2⟩
              |exact ⟨by omega,by omega⟩
              | (have hm0:decide (m<=(M.length:Int))=true:=by assumption
                 have hm:=of_decide_eq_true hm0
                 rw [hML] at hm
                 have h1:=L7 hR hH hU hF hm
                 have h2:=mH (by rw [h1];decide)
                 first
                  | (rw [h1];done)
                  | (rw [h2.1];exact bS _)
                  | (rw [h2.2];exact bS _))
              | (have hm0:decide (m<=(M.length:Int))=false:=by assumption
                 have hm:=of_decide_eq_false hm0
                 rw [hML] at hm
                 have h0:=EP hR hH hU hF hm
                 have hz1:(u % 64).toNat<64:=by omega
                 have hz2:(u / 64 % 64).toNat<64:=by omega
                 have hb1:=fA hQ hz1
                 have hb2:=fA hQ hz2
                 unfold sl at hb1 hb2
                 have ha1:=(hW.2.1 _ hz1).1.2
                 have ha2:=(hW.2.1 _ hz2).2.2
                 have hp1:=im (I.getD (u % 64).toNat []) ⟨s,r,u⟩
                 have hp2:=im (O.getD (u / 64 % 64).toNat []) ⟨s,r,u⟩
                 have hne: ∀ y∈aR I O,¬y=⟨s,r,u⟩:=fun y hy=>mE ((t7 (t:=⟨s,r,u⟩)).1 hH y hy)
                 have hn1: ∀ y∈sl I (u % 64).toNat,¬y=⟨s,r,u⟩:=fun y hy=>hne y (fJ.2 ⟨_,hz1, .inl hy⟩)
                 have hn2: ∀ y∈sl O (u / 64 % 64).toNat,¬y=⟨s,r,u⟩:=fun y hy=>hne y (fJ.2 ⟨_,hz2, .inr hy⟩)
                 first
                  |exact h0.symm
                  |exact ⟨⟨trivial,by omega⟩,ha1⟩
                  |exact ⟨⟨trivial,by omega⟩,ha2⟩
                  |exact ⟨⟨Int.natCast_nonneg _,Int.ofNat_le.2 hp1⟩,by omega⟩
                  |exact ⟨⟨Int.natCast_nonneg _,Int.ofNat_le.2 hp2⟩,by omega⟩
                  | (have hq:(u / 64 - n / 64==0)=true:=by assumption
                     have hq2:u / 64=n / 64:=by simp at hq;omega
                     have h2:=HG h0 hq2
                     first
                      | (rw [h2.1];exact pn hz1 hQ.1.1 hn1)
                      | (rw [h2.2];exact bS _))
                  | (have hq:(u / 64 - n / 64==0)=false:=by assumption
                     have hq2: ¬u / 64=n / 64:=by simp at hq;omega
                     have h2:=C5 h0 hq2
                     first
                      | (rw [h2.2];exact pn hz2 hQ.1.2 hn2)
                      | (rw [h2.1];exact bS _))
)
)
end Go.Vd
