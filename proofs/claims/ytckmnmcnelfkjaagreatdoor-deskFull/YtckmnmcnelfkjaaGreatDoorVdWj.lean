/- Desks: a request for which there is no room, and one for which there is. -/
import Derived.Test.YtckmnmcnelfkjaaGreatDoorVdJO
import Derived.Test.YtckmnmcnelfkjaaGreatDoorVdRow2
import Derived.Lib.SmallJoins
import Derived.Test.YtckmnmcnelfkjaaGreatDoorRows
import Derived.Test.YtckmnmcnelfkjaaGreatDoorCards
import Derived.Test.YtckmnmcnelfkjaaGreatDoorTie
import Derived.Test.YtckmnmcnelfkjaaGreatDoorVdH3
import Derived.ProofKit
import Derived.LaidMore
import Derived.OpenShut
import Derived.Stop.Joined
import Derived.SevenTiedAt
import Derived.Lib.LaidTab
import Derived.Test.YtckmnmcnelfkjaaGreatDoorVdJC
set_option linter.unusedVariables false
set_option linter.unusedSimpArgs false
set_option maxRecDepth 100000
set_option maxHeartbeats 40000000
namespace Go.Vd
open Go.Proofs
variable {room:Bool}
theorem Rt{e:Ent}(h:shE e=true)(hs:0<=e.s∧e.s<4294967296):enQ e:=by
 simp only [shE,decide_eq_true_eq] at h
 exact ⟨hs,by omega,by omega,by omega⟩
theorem Ru{T:Tbl}(h:tSh T=true)(hS: ∀ i j,0<=((T.getD i []).getD j E0).s∧((T.getD i []).getD j E0).s<4294967296):tbQ T:=by
 unfold tSh at h
 simp only [bAE,decide_eq_true_eq,List.all_eq_true] at h
 have hm: ∀ i,i<T.length->shL (T.getD i [])=true:=fun i hi=>by
  rw [List.getD_eq_getElem?_getD,gEE hi]
  exact h.2.1 _ (List.getElem_mem hi)
 have h0: ∀ i,¬i<T.length->T.getD i [] = [] :=fun i hi=>by rw [List.getD_eq_getElem?_getD,List.getElem?_eq_none (by omega)];rfl
 refine ⟨by omega,fun i=> ?_,fun i j=> ?_⟩
 · by_cases hi:i<T.length
   · have:=(mB.1 (hm i hi)).1;omega
   · rw [h0 i hi];simp
 · by_cases hi:i<T.length
   · by_cases hj:j<(T.getD i []).length
     · exact Rt ((mB.1 (hm i hi)).2 _ (nD hj)) (hS i j)
     · rw [List.getD_eq_getElem?_getD,List.getElem?_eq_none (by omega)];exact kt
   · rw [h0 i hi];exact kt
theorem Ic{T:Tbl}{nw:Int}{I O:Sl}{R:List K2}(h:so T I O R=true)(hS: ∀ i j,0<=((T.getD i []).getD j E0).s∧((T.getD i []).getD j E0).s<4294967296)(hI:I.length=64)(hO:O.length=64)(hnw:0<=nw∧nw<18446744073709551616)(hTm: ∀ t∈aR I O,tmQ t):dkQ T nw I O R:=by
 unfold so sn at h
 simp only [bAE,decide_eq_true_eq] at h
 exact ⟨Ru h.1.1 hS,⟨⟨hI,hO⟩,by have:=(vp.1 h.1.2).2;omega,hTm⟩,by have:=h.2.2;omega,hnw⟩
theorem S7{D:Dk}{v:Int}{d:Dl}(hQ:dkQ D.T D.nw D.I D.O D.R)(hd:evQ d)(hw:0<=D.w∧D.nw+D.w<18446744073709551616):tbQ (doD D v d room).T∧whQ (doD D v d room).I (doD D v d room).O:=by
 have hE:enQ (doS D v d).e:=EY (Aq hQ.1) hd
 have hc:=C8 (n:=D.nw) (m:=D.wm) (s:=d.s) (r:=d.r) hQ.2.1 hQ.2.2.2.1
 unfold doD
 split
 · refine ⟨?_, ?_⟩
   · show tbQ (if _ then _ else if _ then _ else _)
     split
     · exact hQ.1
     · split
       · exact QW hQ.1 hE
       · exact OH hQ.1 hE
   · show whQ (fO _ _ _ _ _ _ _ _) (fP _ _ _ _ _ _ _ _)
     unfold fO fP
     split
     · exact hQ.2.1
     · split
       · exact OC hc ⟨by have:=hQ.2.2.2.1;omega,hw.2⟩
       · exact hc
 · exact ⟨hQ.1,hQ.2.1⟩
theorem Rv{D:Dk}{v:Int}{d:Dl}(hI:D.I.length=64)(hO:D.O.length=64):(doD D v d room).I.length=64∧(doD D v d room).O.length=64:=by
 unfold doD
 split
 · show (fO _ _ _ _ _ _ _ _).length=64∧(fP _ _ _ _ _ _ _ _).length=64
   unfold fO fP
   constructor<;>split<;>first|assumption|skip
   · split
     · exact KA (Ag hI)
     · exact Ag hI
   · split
     · exact KB (Ah hO)
     · exact Ah hO
 · exact ⟨hI,hO⟩
theorem Ss(D:Dk)(v:Int)(d:Dl)(room:Bool):(doD D v d room).nw=D.nw∧(doD D v d room).wm=D.wm∧(doD D v d room).tm=D.tm:=by
 unfold doD
 split<;>exact ⟨rfl,rfl,rfl⟩
theorem KR(w t m n q tm:Int)(T:Tbl)(nw wm:Int)(I O:Sl)(R:List K2):dkE w t m n q tm T nw wm I O R w t m n q tm T nw wm I O R=true:=by
 have h:eqW nw wm I O nw wm I O=true:=vj.2 ⟨⟨rfl,rfl⟩,rfl,rfl⟩
 unfold dkE
 rw [h]
 simp
theorem KS{w t m n q tm:Int}{T:Tbl}{nw wm:Int}{I O:Sl}{R:List K2}{k am s:Int}{pan r code:List UInt8}{room:Bool}{D:Dk}{LA LI:List Dl}{E:Int}
 (hD:doD ⟨w,t,m,n,q,tm,T,nw,wm,I,O,R⟩ 1 ⟨k,pan,am,s,r,code⟩ room=D) (hLA:doA ⟨w,t,m,n,q,tm,T,nw,wm,I,O,R⟩ 1 ⟨k,pan,am,s,r,code⟩ room=LA) (hLI:doI ⟨w,t,m,n,q,tm,T,nw,wm,I,O,R⟩ 1 ⟨k,pan,am,s,r,code⟩ room=LI) (hE:doE ⟨w,t,m,n,q,tm,T,nw,wm,I,O,R⟩ 1 ⟨k,pan,am,s,r,code⟩ room=E)
 (hQ:dkQ T nw I O R) (hd:evQ ⟨k,pan,am,s,r,code⟩) (h1:dkR w t m n q tm T nw wm I O R=true) (h2:dR k am s pan r code=true) (hk:k=1) (hh:iQ tm T s r=false):
 E=0∧(tbQ D.T∧whQ D.I D.O∧0<=D.nw)∧IntKind.u64.wrap (nw+w)=nw+w∧
 ((room=false∨((alT tm T).length:Int)=m)->LI= [] ∧LA= [⟨2, [],0,s,r, [57,54]⟩] ∧dkE D.w D.t D.m D.n D.q D.tm D.T D.nw D.wm D.I D.O D.R w t m n q tm T nw wm I O R=true∧dkQ D.T D.nw D.I D.O D.R)∧
 (¬(room=false∨((alT tm T).length:Int)=m)->LA= [] ∧LI= [⟨k,pan,am,s,r,code⟩] ∧iQ D.tm D.T s r=true∧(gc D.tm D.T s r).st=1∧pk D.nw D.wm D.I D.O s r=true∧ph D.nw D.wm D.I D.O s r=nw+w):=by
 have hok:(⟨w,t,m,n,q,tm,T,nw,wm,I,O,R⟩:Dk).ok=true:=h1
 obtain ⟨⟨hm,htm,_,hT⟩,⟨hwm,hnw,hR⟩,_,_⟩:=ll hok
 have hb:1<=w∧w<=4000:=(Ax hm).1
 have hnw:nw<=4611686018427387904:=hnw
 have h0:0<=nw:=hQ.2.2.2.1
 have hlk:lkB T s r=false:=(zq hT).2.symm.trans hh
 obtain ⟨g0,g1,g2⟩:=Dm (d:=⟨k,pan,am,s,r,code⟩) (room:=room) hok h0 hQ.2.1.1.1 hQ.2.1.1.2 h2 hk hlk
 have hq:=S7 (D:=⟨w,t,m,n,q,tm,T,nw,wm,I,O,R⟩) (v:=1) (room:=room) hQ hd ⟨by show 0<=w;omega,by show nw+w<_;omega⟩
 have hn:=(Ss ⟨w,t,m,n,q,tm,T,nw,wm,I,O,R⟩ 1 ⟨k,pan,am,s,r,code⟩ room).1
 rw [hD] at g1 g2 hq hn
 rw [hLI,hLA] at g1 g2
 rw [hE] at g0
 have hwr:IntKind.u64.wrap (nw+w)=nw+w:=by rw [IntKind.wrap_u64];omega
 refine ⟨g0,⟨hq.1,hq.2,by rw [hn];exact h0⟩,hwr,fun hx=> ?_,fun hx=> ?_⟩
 · obtain ⟨e1,e2,e3⟩:=g1 hx
   rw [e3]
   exact ⟨e1,e2,KR _ _ _ _ _ _ _ _ _ _ _ _,hQ⟩
 · obtain ⟨e1,e2,e3,e4,e5,e6,e7⟩:=g2 hx
   have f1:=zq (s:=s) (r:=r) e3
   have f2:=OT e6 e7
   exact ⟨e1,e2,f1.2.trans e5,by rw [f1.1,e4],f2.1,f2.2⟩
theorem S8{a b:Bool}(h:(true &&(bif !a then true else b)==false)=true):a=true:=by cases a<;>simp at h ⊢
theorem S9{a:Bool}{c:Prop}[Decidable c]{b:Bool}(h:(true &&(bif bif !a then true else !decide c then true else b)==false)=true):c:=by
 by_cases hc:c
 · exact hc
 · cases a<;>simp [hc] at h
theorem OU{a b c d e:Bool}(h:(bif bif bif bif !a then true else !b then true else !c then true else !d then true else e)=false):a=true∧b=true∧c=true∧d=true∧e=false:=by
 cases a<;>cases b<;>cases c<;>cases d<;>simp at h ⊢
 exact h
theorem Ta{a m:Int}(h:(bif !room then true else a==m)=true):room=false∨a=m:=by cases room<;>simp at h ⊢;exact h
theorem Tb{a m:Int}(h:(bif !room then true else a==m)=false): ¬(room=false∨a=m):=by cases room<;>simp at h ⊢;exact h
theorem BS:bV Tryz.prog gl0 8 ny:=az.ct mz ⟨_,Tryz.func8,rfl,by decide⟩ fun _=>rfl
theorem BT:bV Tryz.prog gl0 26 nA:=az.ct mz ⟨_,Tryz.func26,rfl,by decide⟩ fun _=>rfl
theorem Fe:bV Tryz.prog gl0 29 qh:=az.ct pm ⟨_,Tryz.func29,rfl,by decide⟩ fun _=>rfl
noncomputable def gjl:Ar->Pu:=aq 6 sA (aq 7 pF (aq 8 ny (aq 19 lk (aq 26 nA (aq 24 p7 (aq 23 kH (aq 13 E9 (aq 25 pc (aq 11 sq (aq 29 qh (noC)))))))))))
theorem Rw:az Tryz.prog gl0 (gjl std):=by
 refine aD (aD (aD (aD (aD (aD (aD (aD (aD (aD (aD (aP) Fe) BP) wC) KN) nW) sk) BT) jQ) BS) Av) BR
attribute [local irreducible] vc
theorem wS(w t m n q tm:Int)(T:Tbl)(nw wm:Int)(I O:Sl)(R:List K2)(k am s:Int)(pan r code:List UInt8)(room:Bool)(hT:T.length<=9223372036854775807)(hTi: ∀ i,(T.getD i []).length<=9223372036854775807)(hS: ∀ i j,0<=((T.getD i []).getD j E0).s∧((T.getD i []).getD j E0).s<4294967296)(hI:I.length=64)(hO:O.length=64)(hnw:0<=nw∧nw<18446744073709551616)(hTm: ∀ t∈aR I O,tmQ t)(hR:R.length<=9223372036854775807)(hs:0<=s∧s<4294967296):GFn 5 (fun A=> [dkS A w t m n q tm T nw wm I O R, .agg [.int .i64 k, .str pan, .int .u64 am, .int .u32 s, .str r, .str code], .bool room]) (fun A=> .bool true):=by
 refine aC Rw ar ak Tryz.func5 (.one) fun A hA=> ?_
 have lT:ab eEs [] 1 (A.tn fun _=>T.length) (ax eEs [] A fun _=>T)=T:=by subst hA;exact aT T
 have lI:ab eTs [] 1 64 (ax eTs [] A fun _=>I)=I:=by subst hA;exact ah hI
 have lO:ab eTs [] 1 64 (ax eTs [] A fun _=>O)=O:=by subst hA;exact ah hO
 have lR:ab eKy K0 2 (A.tn fun _=>R.length) (ax eKy K0 A fun _=>R)=R:=by subst hA;exact cD R
 have lR':ab eKy K0 2 (A.tn fun _=>R.length) (ax eKy (0, []) A fun _=>R)=R:=by subst hA;exact cD R
 obtain ⟨D,hD⟩: ∃ D,doD ⟨w,t,m,n,q,tm,T,nw,wm,I,O,R⟩ 1 ⟨k,pan,am,s,r,code⟩ room=D:=⟨_,rfl⟩
 obtain ⟨LA,hLA⟩: ∃ L,doA ⟨w,t,m,n,q,tm,T,nw,wm,I,O,R⟩ 1 ⟨k,pan,am,s,r,code⟩ room=L:=⟨_,rfl⟩
 obtain ⟨LI,hLI⟩: ∃ L,doI ⟨w,t,m,n,q,tm,T,nw,wm,I,O,R⟩ 1 ⟨k,pan,am,s,r,code⟩ room=L:=⟨_,rfl⟩
 obtain ⟨E,hE⟩: ∃ E,doE ⟨w,t,m,n,q,tm,T,nw,wm,I,O,R⟩ 1 ⟨k,pan,am,s,r,code⟩ room=E:=⟨_,rfl⟩
 have hDl:D.I.length=64∧D.O.length=64:=by rw [<-hD];exact Rv hI hO
 have lT2:ab eEs [] 1 (A.tn fun _=>D.T.length) (ax eEs [] A fun _=>D.T)=D.T:=by subst hA;exact aT _
 have lI2:ab eTs [] 1 64 (ax eTs [] A fun _=>D.I)=D.I:=by subst hA;exact ah hDl.1
 have lO2:ab eTs [] 1 64 (ax eTs [] A fun _=>D.O)=D.O:=by subst hA;exact ah hDl.2
 have lR2:ab eKy K0 2 (A.tn fun _=>D.R.length) (ax eKy (0, []) A fun _=>D.R)=D.R:=by subst hA;exact cD _
 refine mJ rfl rfl ?_
 refine dJ fun H hH=> ?_
 cbv
 repeat' (first| (with_reducible first|exact vT|exact vD hA|exact vE hA|refine vA ?_ ?_) | (intro hc;cbv))
 iterate 14
  all_goals first
   | (subst hH;(try simp only [lT,lI,lO,lR,lR',hD,hLA,hLI,hE,lT2,lI2,lO2,lR2]);first| (refine dJ fun H hH=> ?_;cbv;repeat' (first| (with_reducible first|exact vT|exact vD hA|exact vE hA|refine vA ?_ ?_) | (intro hc;cbv))) | (cbv;repeat' (first| (with_reducible first|exact vT|exact vD hA|exact vE hA|refine vA ?_ ?_) | (intro hc;cbv))))
   |skip
 all_goals first
  | (intro hc;refine dJ fun H hH=> ?_;refine qZ 22 fun H2 hH2=> ?_;cbv;repeat' (first| (with_reducible first|exact vT|exact vD hA|exact vE hA|refine vA ?_ ?_) | (intro hc;cbv)))
  |skip
 all_goals first
  | (subst hH2;(try simp only [lT,lI,lO,lR,lR',hD,hLA,hLI,hE,lT2,lI2,lO2,lR2]);cbv;repeat' (first| (with_reducible first|exact vT|exact vD hA|exact vE hA|refine vA ?_ ?_) | (intro hc;cbv)))
  |skip
 all_goals first
  | (subst hH;(try simp only [lT,lI,lO,lR,lR',hD,hLA,hLI,hE,lT2,lI2,lO2,lR2]);cbv;repeat' (first| (with_reducible first|exact vT|exact vD hA|exact vE hA|refine vA ?_ ?_) | (intro hc;cbv)))
  |skip
 all_goals (subst hA;simp only [sS,bg,aT,fK,cD,ay hI,ah hI,ay hO,ah hO,ay hDl.1,ah hDl.1,ay hDl.2,ah hDl.2] at*)
 all_goals first
  |done
  |exact absurd hc (by decide)
  |exact fun h=>h
  |exact ⟨⟨trivial,⟨trivial,trivial⟩,trivial⟩,hT,hTi,hR⟩
  | (intro h;rw [h];rfl)
  |exact fun h=>⟨h,h⟩
  |exact fun h=>⟨h,⟨trivial,⟨trivial,trivial⟩,trivial⟩,Ic (S8 h) hS hI hO hnw hTm⟩
  |exact fun h=>⟨h,by have:=S9 h;omega⟩
  | (obtain ⟨g1,g2,g3,g4,g5⟩:=OU (by with_reducible assumption)
     have hQ:=Ic g1 hS hI hO hnw hTm
     have hd:evQ ⟨k,pan,am,s,r,code⟩:=by
      have g2:=of_decide_eq_true g2
      exact ⟨hs,by show r.length<=1000000;omega,by show pan.length<=100000;omega,by show code.length<=1000000;omega⟩
     first
      |exact ⟨⟨trivial,hQ.1⟩,hs⟩
      |exact fun h=>⟨h,trivial,hQ.1⟩
      |exact ⟨⟨⟨trivial,⟨trivial,trivial⟩,trivial⟩,hQ⟩,hd⟩
      | (have hh:iQ tm T s r=false:=by with_reducible assumption
         have hk:k=1:=by simpa using g5
         obtain ⟨f0,⟨f1,f2,f3⟩,f4,f5,f6⟩:=KS hD hLA hLI hE hQ hd g3 g4 hk hh
         subst f0
         first
          |exact absurd hc (by decide)
          |exact ⟨⟨trivial,f1⟩,hs⟩
          |exact ⟨⟨⟨trivial,trivial⟩,f2⟩,f3⟩
          | (have hx:=Tb (room:=room) (a:=((alT tm T).length:Int)) (m:=m) (by with_reducible assumption)
             obtain ⟨a1,a2,a3,a4,a5,a6⟩:=f6 hx
             subst a1 a2
             first
              |exact fun h=>⟨h,by decide,by decide⟩
              | (simp [a3,a4,a5,a6,f4];done)
)
          | (have hx:=Ta (room:=room) (a:=((alT tm T).length:Int)) (m:=m) (by with_reducible assumption)
             obtain ⟨a1,a2,a3,a4⟩:=f5 hx
             subst a1 a2
             first
              |exact fun h=>⟨h,by decide,by decide⟩
              |exact fun h=>⟨⟨h,h⟩,⟨⟨trivial,⟨trivial,trivial⟩,trivial⟩,trivial,⟨trivial,trivial⟩,trivial⟩,a4,hQ.2.1⟩
              | (simp [a3];done)
)
)
)
end Go.Vd
namespace Go.Vd
open Go.Proofs Go.ChangeShapes Go.WideShapes Go.ChangeAt Go.RowKit Go.Joins Go.Deep Go.WideElems
section
variable {H:Type} {enc:TypeId×Value->H} {P:Program}
theorem Rx{α:Type}{cs:Array α}(h:cs.size=6): ∃ c0 c1 c2 c3 c4 c5,cs= #[c0,c1,c2,c3,c4,c5] :=by
 obtain ⟨l⟩:=cs
 match l,h with
 | [c0,c1,c2,c3,c4,c5],_=>exact ⟨c0,c1,c2,c3,c4,c5,rfl⟩
theorem Id{W:World}{b0 base:Nat}{spare:Nat->Bool}{held:Bool}{r:Reach}{t:TypeId}{f0 f1 f2 f3 f4 f5:Field}{v:Value}{d:DataW H}{p:List MemPlace}(hs:P.underlying t=some (.struct #[f0,f1,f2,f3,f4,f5]))(hone:oneCellFields P #[f0,f1,f2,f3,f4,f5] =true)(hC:P.cellsOf t=6)
 (hv:Value.okWide P W r b0 t v) (h:DataW.Trod enc P W base spare held t v d p):
 ∃(v0 v1 v2 v3 v4 v5:Value) (y0 y1 y2 y3 y4 y5:DataW H×List MemPlace) (n:Nat),v= .agg #[v0,v1,v2,v3,v4,v5] ∧d= .agg [y0.1,y1.1,y2.1,y3.1,y4.1,y5.1] ∧p=y0.2++(y1.2++(y2.2++(y3.2++(y4.2++y5.2))))∧
  DataW.trod enc P W base spare held n f0.type [v0] =some y0∧DataW.trod enc P W base spare held n f1.type [v1] =some y1∧DataW.trod enc P W base spare held n f2.type [v2] =some y2∧DataW.trod enc P W base spare held n f3.type [v3] =some y3∧DataW.trod enc P W base spare held n f4.type [v4] =some y4∧DataW.trod enc P W base spare held n f5.type [v5] =some y5:=by
 obtain ⟨cs,rfl,hsz⟩:=okWide_struct hs hv
 obtain ⟨c0,c1,c2,c3,c4,c5,rfl⟩:=Rx (hsz.trans hC)
 obtain ⟨fuel,hf⟩:=h
 obtain ⟨xs,n,_,hx,hl,hlen,hf⟩:=DataW.trod_struct hs hf
 match xs,hlen with
 | [y0,y1,y2,y3,y4,y5],_=>
   obtain ⟨o0,k0⟩:=hone_of hone 0 f0 rfl
   have h0:=hf 0 f0 rfl
   obtain ⟨o1,k1⟩:=hone_of hone 1 f1 rfl
   have h1:=hf 1 f1 rfl
   obtain ⟨o2,k2⟩:=hone_of hone 2 f2 rfl
   have h2:=hf 2 f2 rfl
   obtain ⟨o3,k3⟩:=hone_of hone 3 f3 rfl
   have h3:=hf 3 f3 rfl
   obtain ⟨o4,k4⟩:=hone_of hone 4 f4 rfl
   have h4:=hf 4 f4 rfl
   obtain ⟨o5,k5⟩:=hone_of hone 5 f5 rfl
   have h5:=hf 5 f5 rfl
   simp only [pIE] at hx
   exact ⟨c0,c1,c2,c3,c4,c5,y0,y1,y2,y3,y4,y5,n,rfl,by simpa using hx.1,by simpa using hx.2,by simpa [Value.cells,o0,k0] using h0,by simpa [Value.cells,o1,k1] using h1,by simpa [Value.cells,o2,k2] using h2,by simpa [Value.cells,o3,k3] using h3,by simpa [Value.cells,o4,k4] using h4,by simpa [Value.cells,o5,k5] using h5⟩
theorem KT{w:World}{ρ:Nat->Value}{rw N:Nat->Prop}{u0 u1 u2 u3 u4 u5:Value}{s0 s1 s2 s3 s4 s5:SV}(h0:one u0)(h1:one u1)(h2:one u2)(h3:one u3)(h4:one u4)(h5:one u5)
 (r0:Rel w ρ rw N u0 s0) (r1:Rel w ρ rw N u1 s1) (r2:Rel w ρ rw N u2 s2) (r3:Rel w ρ rw N u3 s3) (r4:Rel w ρ rw N u4 s4) (r5:Rel w ρ rw N u5 s5):Rel w ρ rw N (.agg #[u0,u1,u2,u3,u4,u5]) (.agg [s0,s1,s2,s3,s4,s5]):=by
 refine .agg0 _ _ rfl ?_ ?_
 · intro v hv
   simp at hv
   rcases hv with rfl|rfl|rfl|rfl|rfl|rfl<;>assumption
 · intro i v s hv hs
   match i with
   |0=>simp at hv hs;subst hv hs;exact r0
   |1=>simp at hv hs;subst hv hs;exact r1
   |2=>simp at hv hs;subst hv hs;exact r2
   |3=>simp at hv hs;subst hv hs;exact r3
   |4=>simp at hv hs;subst hv hs;exact r4
   |5=>simp at hv hs;subst hv hs;exact r5
   |n+6=>simp at hv
theorem Ie{z:Int}(h:(Lit.int .u32 z).wf=true):0<=z∧z<4294967296:=by
 simp [Lit.wf] at h
 have e1:IntKind.u32.min=0:=by decide
 have e2:IntKind.u32.max=4294967295:=by decide
 rw [e1,e2] at h
 exact ⟨h.1,by omega⟩
end
end Go.Vd
namespace Go.Vd
theorem Ig{z:Int}(h:(Lit.int .u64 z).wf=true):0<=z∧z<18446744073709551616:=by
 simp [Lit.wf] at h
 have e1:IntKind.u64.min=0:=by decide
 have e2:IntKind.u64.max=18446744073709551615:=by decide
 rw [e1,e2] at h
 omega
section
open Go.Proofs Go.ChangeShapes Go.WideShapes Go.ChangeAt Go.RowKit Go.Joins
variable {H:Type} {enc:TypeId×Value->H} {P:Program} {w:World} {base:Nat} {spare:Nat->Bool} {held:Bool}
end
end Go.Vd
namespace Go.Vd
open Go.Proofs Go.ChangeShapes Go.WideShapes Go.ChangeAt Go.RowKit Go.Joins Go.Deep Go.WideElems
section
variable {H:Type} {enc:TypeId×Value->H} {P:Program} {w:World} {base:Nat} {sp:Nat->Bool} {held:Bool}
theorem Su{fuel:Nat}{e:TypeId}{f0 f1 f2:Field}{cs:List Value}{a b c:Int}{p:List MemPlace}(hs:P.underlying e=some (.struct #[f0,f1,f2]))(hone:oneCellFields P #[f0,f1,f2] =true)
 (h0:P.underlying f0.type=some (.int .i64)) (h1:P.underlying f1.type=some (.int .i64)) (h2:P.underlying f2.type=some (.int .i64)) (hC:P.cellsOf e=3)
 (h:DataW.trod enc P w base sp held fuel e cs=some (.agg [.lit (.int .i64 a), .lit (.int .i64 b), .lit (.int .i64 c)],p)):cs= [.int .i64 a, .int .i64 b, .int .i64 c] :=by
 obtain ⟨xs,n,_,hx,hl,hlen,hf⟩:=DataW.trod_struct hs h
 rw [hC] at hl
 match xs,hlen with
 | [y0,y1,y2],_=>
   match cs,hl with
   | [c0,c1,c2],_=>
     obtain ⟨o0,k0⟩:=hone_of hone 0 f0 rfl
     have g0:=hf 0 f0 rfl
     obtain ⟨o1,k1⟩:=hone_of hone 1 f1 rfl
     have g1:=hf 1 f1 rfl
     obtain ⟨o2,k2⟩:=hone_of hone 2 f2 rfl
     have g2:=hf 2 f2 rfl
     rw [o0,k0] at g0
     rw [o1,k1] at g1
     rw [o2,k2] at g2
     obtain ⟨z0,e0,i0,_⟩:=DataW.trod_int h0 g0
     obtain ⟨z1,e1,i1,_⟩:=DataW.trod_int h1 g1
     obtain ⟨z2,e2,i2,_⟩:=DataW.trod_int h2 g2
     simp only [pIE] at hx
     have hx1:=hx.1
     simp at e0 e1 e2
     subst i0 i1 i2
     simp at hx1
     obtain ⟨r0,r1,r2⟩:=hx1
     subst r0 r1 r2 e0 e1 e2
     rfl
theorem vB{fuel n:Nat}{t e:TypeId}{f0 f1 f2:Field}{cs:List Value}{L:List (Int×Int×Int)}{p:List MemPlace}(ht:P.underlying t=some (.array n e))(hs:P.underlying e=some (.struct #[f0,f1,f2]))(hone:oneCellFields P #[f0,f1,f2] =true)
 (h0:P.underlying f0.type=some (.int .i64)) (h1:P.underlying f1.type=some (.int .i64)) (h2:P.underlying f2.type=some (.int .i64)) (hC:P.cellsOf e=3)
 (h:DataW.trod enc P w base sp held fuel t cs=some (.agg (L.map fun x=> .agg [.lit (.int .i64 x.1), .lit (.int .i64 x.2.1), .lit (.int .i64 x.2.2)]),p)):
 cs.length=P.cellsOf t∧L.length=n∧ ∀ i x,L[i]? =some x->(cs.drop (i*3)).take 3= [.int .i64 x.1, .int .i64 x.2.1, .int .i64 x.2.2] :=by
 obtain ⟨xs,m,_,hx,hl,hlen,hf⟩:=DataW.trod_array ht h
 simp only [pIE] at hx
 have hx1:L.map (fun x=>(DataW.agg [.lit (.int .i64 x.1), .lit (.int .i64 x.2.1), .lit (.int .i64 x.2.2)] :DataW H))=xs.map (·.1):=by simpa using hx.1
 have hLl:L.length=n:=by
  have:=congrArg List.length hx1
  simp at this
  omega
 refine ⟨hl,hLl,fun i x hi=> ?_⟩
 have hin:i<n:=by
  rw [<-hLl]
  exact (List.getElem?_eq_some_iff.1 hi).1
 have g:=hf i hin
 rw [hC] at g
 have hxi:xs[i]? =some xs[i] :=gEE (by omega)
 rw [hxi] at g
 have h3:(DataW.agg [.lit (.int .i64 x.1), .lit (.int .i64 x.2.1), .lit (.int .i64 x.2.2)] :DataW H)=xs[i].1:=by
  have:=congrArg (·[i]?) hx1
  simp [hi,hxi] at this
  exact this
 have g':DataW.trod enc P w base sp held m e ((cs.drop (i*3)).take 3)=some (.agg [.lit (.int .i64 x.1), .lit (.int .i64 x.2.1), .lit (.int .i64 x.2.2)],xs[i].2):=by
  rw [g,h3]
 exact Su hs hone h0 h1 h2 hC g'
end
def pG:List (Int×Int×Int):= [(2,3,19),(3,1,6),(4,1,12),(7,1,10),(11,1,6),(12,1,6),(37,2,12),(38,2,6),(39,2,2),(41,2,8),(44,4,25),(48,5,999),(49,1,3),(90,1,42),(120,5,999)]
theorem AE:Tryz.prog.globalNamed "paydesk/field.known" =some 1:=by kernel_rfl
def Dn (w:World):Prop:= ∃ cs,w.var? Tryz.prog "paydesk/field.known" =some cs∧cs.size=45∧ ∀ j,j<45->cs[j]? =some (.int .i64 (kY.getD j 0))
theorem KU: ∀ j,j<45-> ∃ x,pG[j / 3]? =some x∧([x.1,x.2.1,x.2.2] :List Int)[j % 3]? =some (kY.getD j 0):=by
 intro j hj
 have h: ∀ j:Fin 45,∃ x:Fin 15,pG[j.val / 3]? =pG[x.val]? ∧((pG[x.val]?).bind fun x=>([x.1,x.2.1,x.2.2] :List Int)[j.val % 3]?)=some (kY.getD j.val 0):=by decide+kernel
 obtain ⟨x,h1,h2⟩:=h ⟨j,hj⟩
 simp only at h1 h2
 rw [<-h1] at h2
 obtain ⟨y,h3,h4⟩:=Option.bind_eq_some_iff.1 h2
 exact ⟨y,h3,h4⟩
theorem AF:Tryz.prog.globalNamed "paydesk/deal.types" =some 0:=by kernel_rfl
def Do (w:World):Prop:= ∃ cs,w.var? Tryz.prog "paydesk/deal.types" =some cs∧cs.size=7∧ ∀ j,j<7->cs[j]? =some (.string ⟨(kZ.getD j []).toArray⟩)
section
variable {H:Type} {enc:TypeId×Value->H} {P:Program} {w:World} {base:Nat} {sp:Nat->Bool} {held:Bool}
theorem vC{fuel n:Nat}{t e:TypeId}{cs:List Value}{L:List (List UInt8)}{p:List MemPlace}(ht:P.underlying t=some (.array n e))(he:P.underlying e=some .string)(hC:P.cellsOf e=1)
 (h:DataW.trod enc P w base sp held fuel t cs=some (.agg (L.map fun x=> .lit (.string x)),p)):
 cs.length=P.cellsOf t∧L.length=n∧ ∀(i:Nat) (x:List UInt8),L[i]? =some x->cs[i]? =some (.string ⟨x.toArray⟩):=by
 obtain ⟨xs,m,_,hx,hl,hlen,hf⟩:=DataW.trod_array ht h
 simp only [pIE] at hx
 have hx1:L.map (fun x=>(DataW.lit (.string x):DataW H))=xs.map (·.1):=by simpa using hx.1
 have hLl:L.length=n:=by
  have:=congrArg List.length hx1
  simp at this
  omega
 refine ⟨hl,hLl,fun i x hi=> ?_⟩
 have hin:i<n:=by
  rw [<-hLl]
  exact (List.getElem?_eq_some_iff.1 hi).1
 have g:=hf i hin
 rw [hC] at g
 have hxi:xs[i]? =some xs[i] :=gEE (by omega)
 rw [hxi] at g
 have h3:(DataW.lit (.string x):DataW H)=xs[i].1:=by
  have:=congrArg (·[i]?) hx1
  simp [hi,hxi] at this
  exact this
 obtain ⟨s,e1,e2,_⟩:=DataW.trod_string he g
 have e3:(DataW.lit (.string x):DataW H)= .lit (.string s.data.toList):=h3.trans (congrArg Prod.fst e2)
 injection e3 with e3
 injection e3 with e3
 have e4:=congrArg (·[0]?) e1
 simp [List.getElem?_drop] at e4
 rw [e4,e3]
end
theorem Ry{w:World}(hh:Dn w∧Do w):iv gl0 w fun _=>False:=by
 obtain ⟨⟨cs0,hv0,hz0,hc0⟩,cs1,hv1,hz1,hc1⟩:=hh
 have hne: ∀ g,g≠1->g≠0->gl0 g= .val (.pointer (some ⟨g,0,none⟩)):=fun g hg hg0=>by
  unfold gl0
  split
  · first|exact absurd rfl hg0|exact absurd rfl hg
  · first|exact absurd rfl hg|exact absurd rfl hg0
  · rfl
 refine ⟨fun g ρ N=> ?_,fun g k f e=> ?_⟩
 · by_cases hg:g=0
   · subst hg
     show Rel w ρ (fun _=>False) N _ (.rop 7 fun j=> .str (kZ.getD j []))
     refine .rop ⟨0,0,none⟩ 7 _ (fun j=> .string ⟨(kZ.getD j []).toArray⟩) rfl (fun j hj=>⟨?_,rfl,fun e=>e⟩) (fun j _=>by have:=RelC.str (w:=w) (rw:=fun _=>False) ⟨(kZ.getD j []).toArray⟩;simpa using this)
     rw [add_plain,Nat.zero_add,World.var?_cell AF hv1]
     exact hc1 j hj
   · by_cases hg0:g=1
     · subst hg0
       show Rel w ρ (fun _=>False) N _ (.rop 45 fun j=> .int .i64 (kY.getD j 0))
       refine .rop ⟨1,0,none⟩ 45 _ (fun j=> .int .i64 (kY.getD j 0)) rfl (fun j hj=>⟨?_,rfl,fun e=>e⟩) (fun j _=> .int _ _)
       rw [add_plain,Nat.zero_add,World.var?_cell AE hv0]
       exact hc0 j hj
     · rw [hne g hg0 hg];exact .val _
 · by_cases hg:g=0
   · subst hg
     have e2:(SV.rop 7 fun j=> .str (kZ.getD j []))= .rop k f:=e
     cases e2
     refine ⟨?_,fun e=>e⟩
     unfold World.var? at hv1
     rw [AF] at hv1
     simp only [Option.bind_some] at hv1
     split at hv1
     · rename_i cs t b hc
       injection hv1 with hv1
       exact ⟨cs,t,b,hc,by rw [hv1];exact hz1⟩
     · cases hv1
   · by_cases hg0:g=1
     · subst hg0
       have e2:(SV.rop 45 fun j=> .int .i64 (kY.getD j 0))= .rop k f:=e
       cases e2
       refine ⟨?_,fun e=>e⟩
       unfold World.var? at hv0
       rw [AE] at hv0
       simp only [Option.bind_some] at hv0
       split at hv0
       · rename_i cs t b hc
         injection hv0 with hv0
         exact ⟨cs,t,b,hc,by rw [hv0];exact hz0⟩
       · cases hv0
     · rw [hne g hg0 hg] at e;cases e
end Go.Vd
namespace Go.Proofs.YtckmnmcnelfkjaaGreatDoor
open Go.ChangeShapes Go.WideShapes Go.ChangeAt Go.ChangeMaps Go.RowKit Go.Joins
def uj:List (String×DataW Unit):= [("paydesk/field.known",Rows.laid_paydesk_field_known),("paydesk/deal.types",Rows.laid_paydesk_deal_types)]
theorem Tryz.own:ownKnob Tryz.prog.godebug=none:=by kernel_rfl
theorem Tryz.laidOut:laidOutB Tryz.prog=true:=by kernel_rfl
theorem tKn:(Tryz.prog.globals[1]?).map (·.type)=some 258:=by kernel_rfl
theorem cKn:Tryz.prog.cellsOf 258=45:=by kernel_rfl
theorem Tc:Tryz.prog.cellsOf 234=3:=by kernel_rfl
theorem dKn:(Rows.laid_paydesk_field_known:DataW Unit)= .agg (Vd.pG.map fun x=> .agg [.lit (.int .i64 x.1), .lit (.int .i64 x.2.1), .lit (.int .i64 x.2.2)]):=by kernel_rfl
theorem tTy:(Tryz.prog.globals[0]?).map (·.type)=some 173:=by kernel_rfl
theorem cTy:Tryz.prog.cellsOf 173=7:=by kernel_rfl
theorem Td:Tryz.prog.cellsOf 9=1:=by kernel_rfl
theorem dTy:(Rows.laid_paydesk_deal_types:DataW Unit)= .agg (Vd.kZ.map fun x=> .lit (.string x)):=by kernel_rfl
theorem KV(os:Os)(args:Array Value):laidMetH Tryz.prog uj ((World.doorLaid Tryz.prog 2000 os).forCall (fun _ _=>0) ⟨#[],args, []⟩).memory:=
 laidMetH_of_parts3 (fuel:=8) (laidMet_of_run' 8 (by kernel_rfl) (by kernel_rfl)) (by kernel_rfl) (by kernel_rfl)
theorem Ff{W:World}(h:laidMetH Tryz.prog uj W):Vd.Dn W∧Vd.Do W:=by
 rw [MakeChecks.laidMetH_plain _ _ _ (by kernel_rfl)] at h
 obtain ⟨ps,⟨g3,t3,cs3,f3,p3,q3,hg3,ht3,hv3,hd3,⟨g4,t4,cs4,f4,p4,q4,hg4,ht4,hv4,hd4,_,_⟩,_⟩,_,_⟩:=h
 refine ⟨?_, ?_⟩
 · obtain rfl:=Option.some.inj (Vd.AE.symm.trans hg3)
   obtain rfl:=Option.some.inj (tKn.symm.trans ht3)
   rw [dKn] at hd3
   obtain ⟨hl,hn,hx⟩:=Vd.vB Tryz.underlying258 Tryz.underlying234 (by kernel_rfl) Tryz.underlying3 Tryz.underlying3 Tryz.underlying3 Tc hd3
   rw [cKn] at hl
   refine ⟨cs3,hv3,by simpa using hl,fun j hj=> ?_⟩
   obtain ⟨x,h1,h2⟩:=Vd.KU j hj
   have h3:=hx _ x h1
   have h4:=congrArg (·[j % 3]?) h3
   rw [List.getElem?_take_of_lt (by omega),List.getElem?_drop,show j / 3*3+j % 3=j by omega] at h4
   rw [<-Array.getElem?_toList,h4]
   have h5:=congrArg (Option.map (Value.int .i64)) h2
   rw [<-List.getElem?_map] at h5
   exact h5
 · obtain rfl:=Option.some.inj (Vd.AF.symm.trans hg4)
   obtain rfl:=Option.some.inj (tTy.symm.trans ht4)
   rw [dTy] at hd4
   obtain ⟨hl,hn,hx⟩:=Vd.vC Tryz.underlying173 Tryz.underlying9 Td hd4
   rw [cTy] at hl
   refine ⟨cs4,hv4,by simpa using hl,fun j hj=> ?_⟩
   rw [<-Array.getElem?_toList]
   refine hx j _ ?_
   rw [List.getD_eq_getElem?_getD,List.getElem?_eq_getElem (by exact hj)]
   rfl
end Go.Proofs.YtckmnmcnelfkjaaGreatDoor
namespace Go.Vd
open Go.Proofs Go.ChangeShapes Go.WideShapes Go.ChangeAt Go.RowKit Go.Joins Go.Deep Go.WideElems
variable {α:Type}
theorem cKy:Tryz.prog.cellsOf 66=2:=by kernel_rfl
theorem cTm:Tryz.prog.cellsOf 113=3:=by kernel_rfl
theorem cEn:Tryz.prog.cellsOf 69=8:=by kernel_rfl
theorem Te:Tryz.prog.cellsOf 28=1:=by kernel_rfl
theorem Tf:Tryz.prog.cellsOf 73=1:=by kernel_rfl
theorem Tg:Tryz.prog.cellsOf 25=1:=by kernel_rfl
theorem Th:Tryz.prog.cellsOf 32=1:=by kernel_rfl
theorem Ti:Tryz.prog.cellsOf 29=64:=by kernel_rfl
theorem cTb:Tryz.prog.cellsOf 27=2:=by kernel_rfl
theorem cWh:Tryz.prog.cellsOf 31=130:=by kernel_rfl
theorem cRu:Tryz.prog.cellsOf 24=5:=by kernel_rfl
theorem cDk:Tryz.prog.cellsOf 34=138:=by kernel_rfl
theorem cI:Tryz.prog.cellsOf 3=1:=by kernel_rfl
theorem cU:Tryz.prog.cellsOf 22=1:=by kernel_rfl
theorem cU3:Tryz.prog.cellsOf 35=1:=by kernel_rfl
theorem Rz:Tryz.prog.cellsOf 9=1:=by kernel_rfl
theorem mO{l:List α}{a b i:Nat}(h:i<b):((l.drop a).take b)[i]? =l[a+i]? :=by
 rw [List.getElem?_take_of_lt h,List.getElem?_drop]
theorem AG{l:List α}{i:Nat}(h:i<l.length):(l.drop i).take 1= [l[i]] :=by
 rw [List.take_one,List.head?_drop,gEE h]
 rfl
section
variable {H:Type} {enc:TypeId×Value->H} {W:World}
noncomputable abbrev trd (enc:TypeId×Value->H) (W:World) (n:Nat) (t:TypeId) (l:List Value):Option (DataW H×List MemPlace):=DataW.trod enc Tryz.prog W 0 (fun _=>true) true n t l
abbrev rlC (W:World) (v:Value) (s:SV):Prop:=Vd.one v∧RelC W (fun _=>False) v s
def els (W:World)(l:List Value)(k:Nat)(ss:List SV):Prop:= ∀ j,j<k-> ∃ v,l[j]? =some v∧rlC W v (ap ss j)
section
variable {n:Nat} {t e:TypeId} {l:List Value} {x:DataW H×List MemPlace}
theorem uk{o k j:Nat}{ss:List SV}(h:els W ((l.drop o).take k) k ss)(hj:j<k): ∃ v,l[o+j]? =some v∧rlC W v (ap ss j):=by
 obtain ⟨v,h1,h2⟩:=h j hj
 rw [mO hj] at h1
 exact ⟨v,h1,h2⟩
theorem eK{k:IntKind}(o:Nat)(hu:Tryz.prog.underlying t=some (.int k))(ho:o<l.length)(h:trd enc W n t ((l.drop o).take 1)=some x): ∃ z,l[o]? =some (.int k z)∧(Lit.int k z).wf=true:=by
 rw [AG ho] at h
 obtain ⟨z,e,_,w⟩:=DataW.trod_int hu h
 simp only [List.cons.injEq,and_true] at e
 exact ⟨z,by rw [gEE ho,e],w⟩
theorem AH(o:Nat)(ho:o<l.length)(h:trd enc W n 9 ((l.drop o).take 1)=some x): ∃ s,l[o]? =some (.string s):=by
 rw [AG ho] at h
 obtain ⟨z,e,_,_⟩:=DataW.trod_string Tryz.underlying9 h
 simp only [List.cons.injEq,and_true] at e
 exact ⟨z,by rw [gEE ho,e]⟩
theorem fld{fs:Array Field}(hu:Tryz.prog.underlying t=some (.struct fs))(h:trd enc W n t l=some x): ∃ m,∀(i:Nat) (F:Field),fs[i]? =some F-> ∃ y,trd enc W m F.type ((l.drop F.offset).take (Tryz.prog.cellsOf F.type))=some y:=by
 obtain ⟨xs,m,_,_,_,hlen,hf⟩:=DataW.trod_struct hu h
 refine ⟨m,fun i F hF=> ?_⟩
 have h1:=hf i F hF
 have hi:i<xs.length:=by
  rw [hlen]
  exact (Array.getElem?_eq_some_iff.1 hF).1
 exact ⟨xs[i],h1.trans (gEE hi)⟩
theorem AJ(hl:l.length=2)(h:trd enc W n 66 l=some x): ∃ a:K2,(0<=a.1∧a.1<4294967296)∧els W l 2 (eKy std fun _=>a):=by
 obtain ⟨m,hf⟩:=fld Tryz.underlying66 h
 obtain ⟨_,q0⟩:=hf 0 _ rfl
 obtain ⟨_,q1⟩:=hf 1 _ rfl
 simp only [List.getElem_toArray,List.getElem_cons_zero,List.getElem_cons_succ,cU3,Rz] at q0 q1
 obtain ⟨z,e0,w⟩:=eK 0 Tryz.underlying35 (by omega) q0
 obtain ⟨s,e1⟩:=AH 1 (by omega) q1
 refine ⟨(z,s.data.toList),Ie w,fun j hj=> ?_⟩
 match j,hj with
 |0,_=>exact ⟨_,e0,rfl, .int _ _⟩
 |1,_=>exact ⟨_,e1,rfl, .str _⟩
theorem RA(hl:l.length=3)(h:trd enc W n 113 l=some x): ∃ a:Tm,tmQ a∧els W l 3 (eT std fun _=>a):=by
 obtain ⟨m,hf⟩:=fld Tryz.underlying113 h
 obtain ⟨_,q0⟩:=hf 0 _ rfl
 obtain ⟨_,q1⟩:=hf 1 _ rfl
 simp only [List.getElem_toArray,List.getElem_cons_zero,List.getElem_cons_succ,cKy,cU] at q0 q1
 obtain ⟨k,_,ek⟩:=AJ (by rw [List.length_take,List.length_drop];omega) q0
 obtain ⟨z,e2,w⟩:=eK 2 Tryz.underlying22 (by omega) q1
 obtain ⟨v0,g0,r0⟩:=uk ek (j:=0) (by decide)
 obtain ⟨v1,g1,r1⟩:=uk ek (j:=1) (by decide)
 refine ⟨⟨k.1,k.2,z⟩,Ig w,fun j hj=> ?_⟩
 match j,hj with
 |0,_=>exact ⟨_,g0,r0⟩
 |1,_=>exact ⟨_,g1,r1⟩
 |2,_=>exact ⟨_,e2,rfl, .int _ _⟩
def Fg (a:Ent):Prop:=0<=a.s∧a.s<4294967296
theorem RB(hl:l.length=8)(h:trd enc W n 69 l=some x): ∃ a:Ent,Fg a∧els W l 8 (eE std fun _=>a):=by
 obtain ⟨m,hf⟩:=fld Tryz.underlying69 h
 obtain ⟨_,q0⟩:=hf 0 _ rfl
 obtain ⟨_,q1⟩:=hf 1 _ rfl
 obtain ⟨_,q2⟩:=hf 2 _ rfl
 obtain ⟨_,q3⟩:=hf 3 _ rfl
 obtain ⟨_,q4⟩:=hf 4 _ rfl
 obtain ⟨_,q5⟩:=hf 5 _ rfl
 obtain ⟨_,q6⟩:=hf 6 _ rfl
 simp only [List.getElem_toArray,List.getElem_cons_zero,List.getElem_cons_succ,cKy,cU,cI,Rz] at q0 q1 q2 q3 q4 q5 q6
 obtain ⟨k,hk,ek⟩:=AJ (by rw [List.length_take,List.length_drop];omega) q0
 obtain ⟨v0,g0,r0⟩:=uk ek (j:=0) (by decide)
 obtain ⟨v1,g1,r1⟩:=uk ek (j:=1) (by decide)
 obtain ⟨z2,e2,_⟩:=eK 2 Tryz.underlying3 (by omega) q1
 obtain ⟨s3,e3⟩:=AH 3 (by omega) q2
 obtain ⟨z4,e4,_⟩:=eK 4 Tryz.underlying22 (by omega) q3
 obtain ⟨s5,e5⟩:=AH 5 (by omega) q4
 obtain ⟨z6,e6,_⟩:=eK 6 Tryz.underlying3 (by omega) q5
 obtain ⟨z7,e7,_⟩:=eK 7 Tryz.underlying3 (by omega) q6
 refine ⟨⟨k.1,k.2,z2,s3.data.toList,z4,s5.data.toList,z6,z7⟩,hk,fun j hj=> ?_⟩
 match j,hj with
 |0,_=>exact ⟨_,g0,r0⟩
 |1,_=>exact ⟨_,g1,r1⟩
 |2,_=>exact ⟨_,e2,rfl, .int _ _⟩
 |3,_=>exact ⟨_,e3,rfl, .str _⟩
 |4,_=>exact ⟨_,e4,rfl, .int _ _⟩
 |5,_=>exact ⟨_,e5,rfl, .str _⟩
 |6,_=>exact ⟨_,e6,rfl, .int _ _⟩
 |7,_=>exact ⟨_,e7,rfl, .int _ _⟩
theorem AK{en:En α}{d:α}{k:Nat}{B:α->Prop}(hk:0<k)(hB:B d){v:Value}(ht:Tryz.prog.underlying t=some (.slice e))(hC:Tryz.prog.cellsOf e=k)
 (one: ∀ {n l x},l.length=k->trd enc W n e l=some x-> ∃ a,B a∧els W l k (en std fun _=>a)) (h:trd enc W n t [v] =some x):
 ∃ L:List α,L.length<=maxLen∧(∀ i,B (L.getD i d))∧rlC W v (aF en d k std fun _=>L):=by
 rcases DataW.trod_slice ht h with ⟨hcs,_⟩ | ⟨a,len,cap,elems,rest,n,_,hcs,_,_,hl,hm,hel,hx,_,_⟩
 · simp only [List.cons.injEq,and_true] at hcs
   subst hcs
   exact ⟨[],Nat.zero_le _,fun i=>hB,rfl, .slc none 0 0 k _ (fun _ _=>undef) (Nat.le_refl _) (fun i j hi=>absurd hi (by omega)) (fun h=>absurd h (by omega)) (fun i j hi=>absurd hi (by omega))⟩
 · simp only [List.cons.injEq,and_true] at hcs
   subst hcs
   rw [hC] at hx
   have each: ∀ i,i<len-> ∃ x:α,B x∧ ∀ j,j<k-> ∃ v,W.cell? ((a.add (i*k)).add j)=some v∧rlC W v (ap (en std fun _=>x) j):=by
    intro i hi
    have h1:=hx i hi
    rw [gEE (by omega)] at h1
    obtain ⟨cs,hcs,hf⟩:=Option.bind_eq_some_iff.1 h1
    obtain ⟨_,hlen,hcell⟩:=World.cells?_some hcs
    obtain ⟨y,hy,hj⟩:=one hlen hf
    refine ⟨y,hy,fun j h=> ?_⟩
    obtain ⟨v,g1,g2⟩:=hj j h
    exact ⟨v,(hcell j h).trans g1,g2⟩
   obtain ⟨F,hF⟩: ∃ F:Nat->α,∀ i,i<len->B (F i)∧ ∀ j,j<k-> ∃ v,W.cell? ((a.add (i*k)).add j)=some v∧rlC W v (ap (en std fun _=>F i) j):=
    ⟨fun i=>if h:i<len then Classical.choose (each i h) else d,fun i h=>by simp only [dif_pos h];exact Classical.choose_spec (each i h)⟩
   have hadd: ∀ i j,a.add (i*k+j)=(a.add (i*k)).add j:=fun i j=>by
    unfold Addr.add
    by_cases h1:i*k=0
    · simp [h1]
    · by_cases h2:j=0
      · simp [h2]
      · rw [if_neg (by omega),if_neg h2,if_neg h1]
        simp [Nat.add_assoc]
   have hget: ∀ i,i<len->((List.range len).map F).getD i d=F i:=fun i hi=>by simp [List.getD_eq_getElem?_getD,hi]
   have hlen:((List.range len).map F).length=len:=by simp
   refine ⟨(List.range len).map F,by rw [hlen];omega,fun i=> ?_,rfl, ?_⟩
   · by_cases hi:i<len
     · rw [hget i hi];exact (hF i hi).1
     · rw [List.getD_eq_getElem?_getD,List.getElem?_eq_none (by rw [hlen];omega)];exact hB
   show RelC W (fun _=>False) _ (.slc ((List.range len).map F).length k (ax en d std fun _=>(List.range len).map F))
   rw [hlen]
   refine .slc (some a) len cap k _ (fun i j=>(W.cell? (a.add (i*k+j))).getD undef) hl (fun i j hi hj=> ?_) (fun h0=>⟨a,rfl, ?_⟩) (fun i j hi hj=> ?_)
   · obtain ⟨v,h1,h2,_⟩:=(hF i hi).2 j hj
     rw [hadd,h1]
     exact ⟨a,rfl,(hadd i j).symm▸h1,h2,fun h=>h⟩
   · obtain ⟨v,h1,_⟩:=(hF 0 h0).2 0 hk
     simpa [Addr.add] using World.cell?_spot h1
   · obtain ⟨v,h1,_,h3⟩:=(hF i hi).2 j hj
     simp only [hadd,h1,Option.getD_some]
     show RelC W _ v (ap (en std fun _=>((List.range len).map F).getD i d) j)
     rw [hget i hi]
     exact h3
theorem Tj{l:List Value}(h:l.length=1): ∃ v,l= [v] :=by
 match l,h with
 | [v],_=>exact ⟨v,rfl⟩
theorem en0:Fg E0:=⟨by decide,by decide⟩
theorem tm0:tmQ T0:=⟨by decide,by decide⟩
def KW (L:List Ent):Prop:=L.length<=maxLen∧ ∀ i,Fg (L.getD i E0)
theorem RC(hl:l.length=1)(h:trd enc W n 73 l=some x): ∃ a:List Ent,KW a∧els W l 1 (eEs std fun _=>a):=by
 obtain ⟨v,rfl⟩:=Tj hl
 obtain ⟨L,h1,h2,h3⟩:=AK (B:=Fg) (en:=eE) (by decide) en0 Tryz.underlying73 cEn RB h
 refine ⟨L,⟨h1,h2⟩,fun j hj=> ?_⟩
 obtain rfl:j=0:=by omega
 exact ⟨v,rfl,h3⟩
theorem AL{en:En α}{d:α}{k:Nat}{B:α->Prop}(hk:0<k)(hB:B d)(o:Nat)(ho:o<l.length)(ht:Tryz.prog.underlying t=some (.slice e))(hC:Tryz.prog.cellsOf e=k)
 (one: ∀ {n l x},l.length=k->trd enc W n e l=some x-> ∃ a,B a∧els W l k (en std fun _=>a)) (h:trd enc W n t ((l.drop o).take 1)=some x):
 ∃ L:List α,L.length<=maxLen∧(∀ i,B (L.getD i d))∧ ∃ v,l[o]? =some v∧rlC W v (aF en d k std fun _=>L):=by
 rw [AG ho] at h
 obtain ⟨L,h1,h2,h3⟩:=AK hk hB ht hC one h
 exact ⟨L,h1,h2,_,gEE ho,h3⟩
theorem Ih(o:Nat)(ho:o+64<=l.length)(h:trd enc W n 29 ((l.drop o).take 64)=some x):
 ∃ I:Sl,I.length=64∧(∀ i,∀ t∈I.getD i [],tmQ t)∧ ∀ i,i<64-> ∀ v,l[o+i]? =some v->rlC W v (aF eT T0 3 std fun _=>I.getD i []):=by
 obtain ⟨xs,m,_,_,_,hlen,hel⟩:=DataW.trod_array Tryz.underlying29 h
 have each: ∀ i,i<64-> ∃ L:List Tm,(∀ t∈L,tmQ t)∧ ∀ v,l[o+i]? =some v->rlC W v (aF eT T0 3 std fun _=>L):=by
  intro i hi
  have h1:=hel i hi
  rw [Te,Nat.mul_one,gEE (by omega)] at h1
  obtain ⟨L,_,hB,v,hv,hr⟩:=AL (B:=tmQ) (en:=eT) (by decide) tm0 i (by rw [List.length_take,List.length_drop];omega) Tryz.underlying28 cTm RA h1
  rw [mO hi] at hv
  refine ⟨L,fun t ht=> ?_,fun w hw=> ?_⟩
  · obtain ⟨k,hk,rfl⟩:=List.getElem_of_mem ht
    have:=hB k
    rwa [List.getD_eq_getElem?_getD,gEE hk] at this
  · rw [hv] at hw
    obtain rfl:=Option.some.inj hw
    exact hr
 let F:Nat->List Tm:=fun i=>if h:i<64 then Classical.choose (each i h) else []
 have hF: ∀ i,i<64->(∀ t∈F i,tmQ t)∧ ∀ v,l[o+i]? =some v->rlC W v (aF eT T0 3 std fun _=>F i):=fun i h=>by
  simp only [F,dif_pos h]
  exact Classical.choose_spec (each i h)
 have hget: ∀ i,i<64->((List.range 64).map F).getD i [] =F i:=fun i hi=>by simp [List.getD_eq_getElem?_getD,hi]
 refine ⟨(List.range 64).map F,by simp,fun i t ht=> ?_,fun i hi v hv=> ?_⟩
 · by_cases hi:i<64
   · rw [hget i hi] at ht
     exact (hF i hi).1 t ht
   · rw [List.getD_eq_getElem?_getD,List.getElem?_eq_none (by simp;omega)] at ht
     simp at ht
 · rw [hget i hi]
   exact (hF i hi).2 v hv
end
variable {ρ:Nat->Value} {N:Nat->Prop}
def sgs (W:World)(ρ:Nat->Value)(N:Nat->Prop)(l:List Value):Nat->List SV->Prop
 |o, [] =>l.length=o
 |o,s::ss=>(∀ i,i<wid s-> ∀ v,l[o+i]? =some v->Vd.one v∧Rel W ρ (fun _=>False) N v (atR s i))∧sgs W ρ N l (o+wid s) ss
theorem Ii{l:List Value} : ∀(ss:List SV) (o:Nat),sgs W ρ N l o ss->l.length=o+(aj ss).length∧ ∀(i:Nat) v s,l[o+i]? =some v->(aj ss)[i]? =some s->Vd.one v∧Rel W ρ (fun _=>False) N v s
 | [],o,h=>⟨h,fun i v s _ hs=>by simp [aj] at hs⟩
 |s::ss,o,h=>by
  obtain ⟨g1,g2⟩:=Ii ss _ h.2
  refine ⟨?_,fun i v t hv ht=> ?_⟩
  · rw [g1,<-cO,<-cO]
    rw [bq]
    omega
  · rw [cP] at ht
    split at ht
    · rename_i hi
      obtain rfl:=Option.some.inj ht
      exact h.1 i hi v hv
    · exact g2 (i - wid s) v t (by rw [show o+wid s+(i - wid s)=o+i by omega];exact hv) ht
theorem OV{cs:Array Value}{ss:List SV}(h:sgs W ρ N cs.toList 0 ss)(hm:bR N ss):Rel W ρ (fun _=>False) N (.agg cs) (.agg ss):=by
 obtain ⟨g1,g2⟩:=Ii _ _ h
 have hl:cs.size=(aj ss).length:=by simpa using g1
 refine .agg cs ss hl (fun v hv=> ?_) (fun i v s hv hs=>(g2 i v s (by simpa using hv) hs).2) hm
 obtain ⟨i,hi,rfl⟩:=List.getElem_of_mem hv
 refine (g2 i _ _ (by rw [Nat.zero_add];exact gEE hi) (gEE (by rw [<-hl];simpa using hi))).1
theorem sg1{l:List Value}{o:Nat}{v:Value}{s:SV}(e:l[o]? =some v)(r:rlC W v s)(hs:wid s=1)(ha:atR s 0=s): ∀ i,i<wid s-> ∀ v,l[o+i]? =some v->Vd.one v∧Rel W ρ (fun _=>False) N v (atR s i):=by
 intro i hi w hw
 obtain rfl:i=0:=by omega
 rw [Nat.add_zero,e] at hw
 obtain rfl:=Option.some.inj hw
 rw [ha]
 exact ⟨r.1,r.2.rel⟩
theorem sgr{l:List Value}{o:Nat}{I:Sl}(h: ∀ i,i<64-> ∀ v,l[o+i]? =some v->rlC W v (aF eT T0 3 std fun _=>I.getD i [])): ∀ i,i<wid (.run 64 (ax eTs [] std fun _=>I))-> ∀ v,l[o+i]? =some v->Vd.one v∧Rel W ρ (fun _=>False) N v (atR (.run 64 (ax eTs [] std fun _=>I)) i):=by
 intro i hi v hv
 have g:=h i hi v hv
 refine ⟨g.1, ?_⟩
 show Rel W ρ (fun _=>False) N v (cl (aF eT T0 3 std fun _=>I.getD i []))
 unfold cl
 cases bz (aF eT T0 3 std fun _=>I.getD i []) with
 |true=>exact g.2.rel
 |false=>exact .any _
theorem AM{I O:Sl} : ∀ {n:Nat} {t:Tm},t∈bx I O n-> ∃ i,t∈sl I i∨t∈sl O i
 |n+1,t,h=>by
  simp only [bx,List.mem_append] at h
  rcases h with h|h|h
  · exact AM h
  · exact ⟨n,Or.inl h⟩
  · exact ⟨n,Or.inr h⟩
theorem KX{base:Nat}{v:Value}{d:DataW H}{p:List MemPlace}(hv:Value.okWide Tryz.prog W .any base 34 v)(h:DataW.Trod enc Tryz.prog W 0 (fun _=>true) true 34 v d p):
 ∃(w t m n q tm:Int) (T:Tbl) (nw wm:Int) (I O:Sl) (R:List K2),((T.length<=maxLen∧ ∀ i,KW (T.getD i []))∧(I.length=64∧O.length=64)∧(0<=nw∧nw<18446744073709551616)∧(∀ t∈aR I O,tmQ t)∧R.length<=maxLen∧ ∀ i,0<=(R.getD i K0).1∧(R.getD i K0).1<4294967296)∧Rel W ρ (fun _=>False) N v (dkS std w t m n q tm T nw wm I O R):=by
 obtain ⟨cs,rfl,hsz⟩:=okWide_struct Tryz.underlying34 hv
 obtain ⟨fuel,h⟩:=h
 rw [cDk] at hsz
 simp only [Value.cells] at h
 have hl:cs.toList.length=138:=by simpa using hsz
 obtain ⟨m,hf⟩:=fld Tryz.underlying34 h
 obtain ⟨_,q0⟩:=hf 0 _ rfl
 obtain ⟨_,q1⟩:=hf 1 _ rfl
 obtain ⟨_,q2⟩:=hf 2 _ rfl
 obtain ⟨_,q3⟩:=hf 3 _ rfl
 simp only [List.getElem_toArray,List.getElem_cons_zero,List.getElem_cons_succ,cRu,cTb,cWh,Th] at q0 q1 q2 q3
 obtain ⟨R,hR1,hR2,vR,eR,rR⟩:=AL (B:=fun k:K2=>0<=k.1∧k.1<4294967296) (en:=eKy) (d:=K0) (by decide) ⟨by decide,by decide⟩ 137 (by omega) Tryz.underlying32 cKy AJ q3
 obtain ⟨m0,hf0⟩:=fld Tryz.underlying24 q0
 obtain ⟨_,a0⟩:=hf0 0 _ rfl
 obtain ⟨_,a1⟩:=hf0 1 _ rfl
 obtain ⟨_,a2⟩:=hf0 2 _ rfl
 obtain ⟨_,a3⟩:=hf0 3 _ rfl
 obtain ⟨_,a4⟩:=hf0 4 _ rfl
 simp only [List.getElem_toArray,List.getElem_cons_zero,List.getElem_cons_succ,cU,cI] at a0 a1 a2 a3 a4
 have l0:((cs.toList.drop 0).take 5).length=5:=by rw [List.length_take,List.length_drop];omega
 obtain ⟨z0,e0,_⟩:=eK 0 Tryz.underlying22 (by omega) a0
 obtain ⟨z1,e1,_⟩:=eK 1 Tryz.underlying3 (by omega) a1
 obtain ⟨z2,e2,_⟩:=eK 2 Tryz.underlying3 (by omega) a2
 obtain ⟨z3,e3,_⟩:=eK 3 Tryz.underlying3 (by omega) a3
 obtain ⟨z4,e4,_⟩:=eK 4 Tryz.underlying3 (by omega) a4
 obtain ⟨m1,hf1⟩:=fld Tryz.underlying27 q1
 obtain ⟨_,b0⟩:=hf1 0 _ rfl
 obtain ⟨_,b1⟩:=hf1 1 _ rfl
 simp only [List.getElem_toArray,List.getElem_cons_zero,List.getElem_cons_succ,Tg,cI] at b0 b1
 have l1:((cs.toList.drop 5).take 2).length=2:=by rw [List.length_take,List.length_drop];omega
 obtain ⟨z5,e5,_⟩:=eK 0 Tryz.underlying3 (by omega) b0
 obtain ⟨T,hT1,hT2,vT,e6,rT⟩:=AL (B:=KW) (en:=eEs) (d:= []) (by decide) ⟨Nat.zero_le _,fun _=>en0⟩ 1 (by omega) Tryz.underlying25 Tf RC b1
 obtain ⟨m2,hf2⟩:=fld Tryz.underlying31 q2
 obtain ⟨_,c0⟩:=hf2 0 _ rfl
 obtain ⟨_,c1⟩:=hf2 1 _ rfl
 obtain ⟨_,c2⟩:=hf2 2 _ rfl
 obtain ⟨_,c3⟩:=hf2 3 _ rfl
 simp only [List.getElem_toArray,List.getElem_cons_zero,List.getElem_cons_succ,cU,cI,Ti] at c0 c1 c2 c3
 have l2:((cs.toList.drop 7).take 130).length=130:=by rw [List.length_take,List.length_drop];omega
 obtain ⟨z7,e7,w7⟩:=eK 0 Tryz.underlying22 (by omega) c0
 obtain ⟨z8,e8,_⟩:=eK 1 Tryz.underlying3 (by omega) c1
 obtain ⟨I,hI,bI,rI⟩:=Ih 2 (by omega) c2
 obtain ⟨O,hO,bO,rO⟩:=Ih 66 (by omega) c3
 rw [mO (by decide)] at e0 e1 e2 e3 e4 e5 e6 e7 e8
 refine ⟨z0,z1,z2,z3,z4,z5,T,z7,z8,I,O,R,⟨⟨hT1,hT2⟩,⟨hI,hO⟩,Ig w7,fun t ht=> ?_,hR1,hR2⟩,OV ?_ ?_⟩
 · rw [fh] at ht
   obtain ⟨i,h|h⟩:=AM ht
   · exact bI i t h
   · exact bO i t h
 · refine ⟨sg1 e0 ⟨rfl, .int _ _⟩ rfl rfl,sg1 e1 ⟨rfl, .int _ _⟩ rfl rfl,sg1 e2 ⟨rfl, .int _ _⟩ rfl rfl,sg1 e3 ⟨rfl, .int _ _⟩ rfl rfl,sg1 e4 ⟨rfl, .int _ _⟩ rfl rfl,sg1 e5 ⟨rfl, .int _ _⟩ rfl rfl,sg1 e6 rT rfl rfl,sg1 e7 ⟨rfl, .int _ _⟩ rfl rfl,sg1 e8 ⟨rfl, .int _ _⟩ rfl rfl,sgr fun i hi v hv=>rI i hi v ?_,sgr fun i hi v hv=>rO i hi v ?_,sg1 eR rR rfl rfl,hl⟩
   · have hv:cs.toList[9+i]? =some v:=hv
     rw [mO (by omega),show 7+(2+i)=9+i by omega]
     exact hv
   · have hv:cs.toList[73+i]? =some v:=hv
     rw [mO (by omega),show 7+(66+i)=73+i by omega]
     exact hv
 · intro s hs hr k hk
   simp [dkS] at hs
   rcases hs with rfl|rfl|rfl|rfl|rfl|rfl|rfl|rfl|rfl|rfl|rfl|rfl<;>first|exact hk.elim|cases hr
end
end Go.Vd
