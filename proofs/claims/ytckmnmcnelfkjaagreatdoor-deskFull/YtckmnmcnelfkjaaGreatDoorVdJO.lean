/- Desks, mathematics: what an event makes of one. -/
import Derived.Test.YtckmnmcnelfkjaaGreatDoorVdJC
import Derived.Test.YtckmnmcnelfkjaaGreatDoorVdSeat
set_option linter.unusedVariables false
set_option linter.unusedSimpArgs false
set_option maxRecDepth 100000
set_option maxHeartbeats 8000000
namespace Go.Vd
open Go.Proofs
variable {bO:Bool}
structure Dk where
 w:Int
 t:Int
 m:Int
 n:Int
 q:Int
 tm:Int
 T:Tbl
 nw:Int
 wm:Int
 I:Sl
 O:Sl
 R:List K2
def dkT (A:Ar)(D:Unit->Dk):SV:= .agg [.int .u64 (A.ti fun _=>(D ()).w), .int .i64 (A.ti fun _=>(D ()).t), .int .i64 (A.ti fun _=>(D ()).m), .int .i64 (A.ti fun _=>(D ()).n), .int .i64 (A.ti fun _=>(D ()).q), .int .i64 (A.ti fun _=>(D ()).tm),aF eEs [] 1 A (fun _=>(D ()).T), .int .u64 (A.ti fun _=>(D ()).nw), .int .i64 (A.ti fun _=>(D ()).wm), .run 64 (ax eTs [] A fun _=>(D ()).I), .run 64 (ax eTs [] A fun _=>(D ()).O),aF eKy K0 2 A fun _=>(D ()).R]
noncomputable def Dk.ok (D:Dk):Bool:=dkR D.w D.t D.m D.n D.q D.tm D.T D.nw D.wm D.I D.O D.R
noncomputable def doW (D:Dk)(d:Dl):Ent:=gc D.tm D.T d.s d.r
noncomputable def doH (D:Dk)(d:Dl):Bool:=iQ D.tm D.T d.s d.r
noncomputable def doS (D:Dk)(v:Int)(d:Dl):Stp:=stp (doW D d) v d D.t
noncomputable def E2 (D:Dk)(v:Int)(d:Dl):Bool:=D.ok &&(vR v d && decide (j3 (doW D d) v d D.t=0))
noncomputable def doB (D:Dk)(v:Int)(d:Dl)(room:Bool):Bool:=(!doH D d && decide (¬(doS D v d).e=doW D d))&&(!room||decide (cG D.tm D.T (doS D v d).e=7))
noncomputable def doC (D:Dk)(v:Int)(d:Dl)(room:Bool):Nat:=if E2 D v d=true then (if doB D v d room=true then 1 else 2) else 0
noncomputable def doD (D:Dk)(v:Int)(d:Dl)(room:Bool):Dk:=if doC D v d room=2 then
 ⟨D.w,D.t,D.m,D.n,D.q,D.tm,if (doS D v d).e=doW D d then D.T else if doH D d=true then k8 D.tm D.T (doW D d).st (doS D v d).e else cT D.tm D.T (doS D v d).e,D.nw,D.wm,
   fO D.w D.nw D.wm D.I D.O d.s d.r (doS D v d),fP D.w D.nw D.wm D.I D.O d.s d.r (doS D v d),if (doS D v d).rc=true then D.R++ [(d.s,d.r)] else D.R⟩ else D
noncomputable def doA (D:Dk)(v:Int)(d:Dl)(room:Bool):List Dl:=if doC D v d room=2 then (doS D v d).a else if doC D v d room=1 then [⟨2, [],0,d.s,d.r, [57,54]⟩] else []
noncomputable def doI (D:Dk)(v:Int)(d:Dl)(room:Bool):List Dl:=if doC D v d room=2 then (doS D v d).i else []
noncomputable def doE (D:Dk)(v:Int)(d:Dl)(room:Bool):Int:=if doC D v d room=0 then 1 else 0
theorem Q7{D:Dk}{v:Int}{d:Dl}{room:Bool}(h:doC D v d room=0):doD D v d room=D∧doA D v d room= [] ∧doI D v d room= [] ∧doE D v d room=1:=by
 unfold doD doA doI doE
 rw [h]
 exact ⟨rfl,rfl,rfl,rfl⟩
theorem Q8{D:Dk}{v:Int}{d:Dl}{room:Bool}(h:doC D v d room=1):doD D v d room=D∧doA D v d room= [⟨2, [],0,d.s,d.r, [57,54]⟩] ∧doI D v d room= [] ∧doE D v d room=0:=by
 unfold doD doA doI doE
 rw [h]
 exact ⟨rfl,rfl,rfl,rfl⟩
noncomputable def doR (D:Dk)(d:Dl)(S:Stp)(T:Tbl)(R:List K2):Dk:=⟨D.w,D.t,D.m,D.n,D.q,D.tm,T,D.nw,D.wm,fO D.w D.nw D.wm D.I D.O d.s d.r S,fP D.w D.nw D.wm D.I D.O d.s d.r S,R⟩
theorem As{D:Dk}{v:Int}{d:Dl}{room:Bool}(h:doC D v d room=2):doD D v d room=doR D d (doS D v d) (if (doS D v d).e=doW D d then D.T else if doH D d=true then k8 D.tm D.T (doW D d).st (doS D v d).e else cT D.tm D.T (doS D v d).e) (if (doS D v d).rc=true then D.R++ [(d.s,d.r)] else D.R)∧doA D v d room=(doS D v d).a∧doI D v d room=(doS D v d).i∧doE D v d room=0:=by
 unfold doD doA doI doE doR
 rw [h]
 exact ⟨rfl,rfl,rfl,rfl⟩
section
variable {D:Dk} {v:Int} {d:Dl} {room:Bool} {W:Ent} {hb:Bool} {S:Stp} {E:Int} (hW:W=doW D d) (hhb:hb=doH D d) (hS:S=stp W v d D.t) (hE:E=j3 W v d D.t)
include hW hhb hS hE
theorem mI:doC D v d room=(bif D.ok &&(vR v d && !(E !=0)) then (bif (!hb && !decide (S.e=W))&&(!room|| (cG D.tm D.T S.e==7)) then 1 else 2) else 0):=by
 subst hE hS hhb hW
 unfold doC E2 doB
 cases D.ok<;>cases vR v d
 · rfl
 · rfl
 · rfl
 · by_cases h:j3 (doW D d) v d D.t=0
   · simp only [h,Bool.true_and,decide_true,if_true]
     show (if (!doH D d && decide (¬(doS D v d).e=doW D d)&&(!room||decide (cG D.tm D.T (doS D v d).e=7)))=true then 1 else 2)=_
     have e1:stp (doW D d) v d D.t=doS D v d:=rfl
     have e2:decide (cG D.tm D.T (doS D v d).e=7)=(cG D.tm D.T (doS D v d).e==7):=by rw [Bool.eq_iff_iff];simp
     have e3:decide (¬(doS D v d).e=doW D d)= !decide ((doS D v d).e=doW D d):=by simp
     rw [e1,e2,e3]
     generalize (cG D.tm D.T (doS D v d).e==7)=z
     generalize decide ((doS D v d).e=doW D d)=y
     cases doH D d<;>cases room<;>cases z<;>cases y<;>rfl
   · have h':(j3 (doW D d) v d D.t !=0)=true:=by simpa using h
     rw [h']
     simp [h]
theorem Mc(hO:bO=D.ok)(h:(bif !bO then true else !vR v d)=true):doD D v d room=D∧doA D v d room= [] ∧doI D v d room= [] ∧doE D v d room=1:=Q7 (by
 rw [hO] at h
 rw [mI hW hhb hS hE]
 revert h
 cases D.ok<;>cases vR v d<;>simp)
theorem H0(h:(E !=0)=true):doD D v d room=D∧doA D v d room= [] ∧doI D v d room= [] ∧doE D v d room=E:=by
 have h1:doC D v d room=0:=by
  rw [mI hW hhb hS hE,h]
  cases D.ok<;>cases vR v d<;>rfl
 have h2:=Q7 h1
 refine ⟨h2.1,h2.2.1,h2.2.2.1,h2.2.2.2.trans ?_⟩
 rw [hE] at h ⊢
 unfold j3 at h ⊢
 split at h
 · cases h
 · rename_i h3;rw [if_neg h3]
theorem Sk(hO:bO=D.ok)(h:(bif !bO then true else !vR v d)=false)(h2:(E !=0)=false)(h3:(bif !hb then !decide (S.e=W) else false)=true)(h4:(bif !room then true else cG D.tm D.T S.e==7)=true):doD D v d room=D∧doA D v d room= [⟨2, [],0,d.s,d.r, [57,54]⟩] ∧doI D v d room= [] ∧doE D v d room=0:=Q8 (by
 rw [hO] at h
 rw [mI hW hhb hS hE,h2]
 revert h h3 h4
 cases D.ok<;>cases vR v d<;>cases hb<;>cases decide (S.e=W)<;>cases room<;>cases (cG D.tm D.T S.e==7)<;>simp)
theorem Q9(hO:bO=D.ok)(h:(bif !bO then true else !vR v d)=false)(h2:(E !=0)=false)(h3:(bif !hb then !decide (S.e=W) else false)=true)(h4:(bif !room then true else cG D.tm D.T S.e==7)=false):doD D v d room=doR D d S (cT D.tm D.T S.e) (if S.rc=true then D.R++ [(d.s,d.r)] else D.R)∧doA D v d room=S.a∧doI D v d room=S.i∧doE D v d room=0:=by
 rw [hO] at h
 have h5:doC D v d room=2:=by
  rw [mI hW hhb hS hE,h2]
  revert h h3 h4
  cases D.ok<;>cases vR v d<;>cases hb<;>cases decide (S.e=W)<;>cases room<;>cases (cG D.tm D.T S.e==7)<;>simp
 have h6:=As h5
 have h7:doS D v d=S:=by rw [hS,hW];rfl
 have h8:hb=false∧ ¬S.e=W:=by
  revert h3
  cases hb<;>by_cases h9:S.e=W<;>simp [h9]
 rw [h7,<-hW,<-hhb,if_neg h8.2,h8.1] at h6
 exact h6
theorem H1(hO:bO=D.ok)(h:(bif !bO then true else !vR v d)=false)(h2:(E !=0)=false)(h3:(bif !hb then !decide (S.e=W) else false)=false)(h4:(bif hb then !decide (S.e=W) else false)=true):doD D v d room=doR D d S (k8 D.tm D.T W.st S.e) (if S.rc=true then D.R++ [(d.s,d.r)] else D.R)∧doA D v d room=S.a∧doI D v d room=S.i∧doE D v d room=0:=by
 rw [hO] at h
 have h5:doC D v d room=2:=by
  rw [mI hW hhb hS hE,h2]
  revert h h3 h4
  cases D.ok<;>cases vR v d<;>cases hb<;>cases decide (S.e=W)<;>simp
 have h6:=As h5
 have h7:doS D v d=S:=by rw [hS,hW];rfl
 have h8:hb=true∧ ¬S.e=W:=by
  revert h4
  cases hb<;>by_cases h9:S.e=W<;>simp [h9]
 rw [h7,<-hW,<-hhb,if_neg h8.2,h8.1] at h6
 exact h6
theorem Ra(hO:bO=D.ok)(h:(bif !bO then true else !vR v d)=false)(h2:(E !=0)=false)(h3:(bif !hb then !decide (S.e=W) else false)=false)(h4:(bif hb then !decide (S.e=W) else false)=false):doD D v d room=doR D d S D.T (if S.rc=true then D.R++ [(d.s,d.r)] else D.R)∧doA D v d room=S.a∧doI D v d room=S.i∧doE D v d room=0:=by
 rw [hO] at h
 have h5:doC D v d room=2:=by
  rw [mI hW hhb hS hE,h2]
  revert h h3 h4
  cases D.ok<;>cases vR v d<;>cases hb<;>cases decide (S.e=W)<;>simp
 have h6:=As h5
 have h7:doS D v d=S:=by rw [hS,hW];rfl
 have h8:S.e=W:=by
  revert h3 h4
  cases hb<;>by_cases h9:S.e=W<;>simp [h9]
 rw [h7,<-hW,<-hhb,if_pos h8] at h6
 exact h6
end
theorem Rb{e:Ent}{v:Int}{d:Dl}{n:Int}(h:(stp e v d n).rc=true):e.st=4∧(stp e v d n).e= { e with st:=6 } ∧(stp e v d n).a= [] ∧(stp e v d n).i= [] ∧(stp e v d n).t=0:=by
 revert h
 unfold stp lh jz nT iT lg nU S0
 repeat' split
 all_goals first
  | (intro h;exact (Bool.false_ne_true h).elim)
  | (intro _;refine ⟨?_,rfl,rfl,rfl,rfl⟩;assumption)
theorem OP{m:Int}{T:Tbl}{s:Int}{r:List UInt8}(h:(gc m T s r).st=4):iQ m T s r=true:=by
 unfold gc lkE at h
 unfold iQ lkB
 split at h
 · split at h
   · exact absurd h (by decide)
   · rename_i h1 h2
     rw [if_pos h1,if_neg h2]
     unfold fnd at h
     unfold has
     rw [List.any_eq_true]
     cases hf:(shl T s r).find? (kE s r) with
     |none=>rw [hf] at h;exact absurd h (by decide)
     |some x=>exact ⟨x,List.mem_of_find?_eq_some hf,List.find?_some hf⟩
 · exact absurd h (by decide)
theorem qm(a b:Ent):(a.s==b.s &&(a.r==b.r &&(a.st==b.st &&(a.pan==b.pan &&(a.am==b.am &&(a.code==b.code &&(a.tr==b.tr &&(a.ca==b.ca && true))))))))=decide (a=b):=by
 rw [Bool.eq_iff_iff]
 cases a
 cases b
 simp
theorem E3{w t m n q tm:Int}{T:Tbl}{nw wm:Int}{I O:Sl}{R:List K2}(h:dkR w t m n q tm T nw wm I O R=true):(1<=w∧w<=4000)∧nw<=4611686018427387904:=by
 unfold dkR dE g9 at h
 simp only [bAE,decide_eq_true_eq] at h
 exact ⟨h.1.1,h.2.2.1.2.1⟩
theorem Sm{a b:Bool}(h:(bif !a then true else !b)=false):a=true∧b=true:=by revert h;cases a<;>cases b<;>simp
end Go.Vd
namespace Go.Vd
variable {T:Tys} {A:Ar} {G:Pu} {X:Xt} {C:Cl} {s:St}
theorem mJ{I:Nat->Option Func}{how:How}{fn:Func}{args:List SV}{R:SV}{c:Code}(hb:fn.body=some c)(h1:(kC args && Nat.ble (len args) fn.ntmps)=true)(h:vc A T G X (inl A T G X I 12) .run c (w8 fn args) { nrm:=iW A T fn how R,ret:=iW A T fn how R,ext:=fun _ _=>False,gto:=fun _ _=>False,lbl:=fun _=>False }):uC A T G X I how fn args R:=by
 unfold uC
 rw [hb]
 simp only [h1,cond_true]
 exact h
theorem dJ{a b:Code}{K:Ks}(h: ∀ H:St->(St->Prop)->Prop,(H=fun s f=>f s)->vc A T G X C .run a s { K with nrm:=fun s'=>H s' fun s=>vc A T G X C .run b s K }):vc A T G X C .run (.seq a b) s K:=by
 rw [vc]
 exact h _ rfl
theorem pD{all b:List Oper}{K:St->Prop} : ∀(a:List Oper) (s:St),cR A T G X C all (a++b) s K=cR A T G X C all a s fun s'=>cR A T G X C all b s' K
 | [],s=>by rw [cR];rfl
 |o::l,s=>by
  rw [List.cons_append,cR,cR]
  simp only [pD l]
theorem qZ{ops:Array Oper}{p:_}{K:Ks}(n:Nat)(h: ∀ H:St->(St->Prop)->Prop,(H=fun s f=>f s)->cR A T G X C ops.toList (ops.toList.take n) s fun s'=>H s' fun s=>cR A T G X C ops.toList (ops.toList.drop n) s K.nrm):vc A T G X C .run (.region p ops false) s K:=by
 rw [vc]
 have h1:=h _ rfl
 rw [<-pD,List.take_append_drop] at h1
 exact h1
theorem KK{all l:List Oper}{K:St->Prop}(n:Nat)(h: ∀ H:St->(St->Prop)->Prop,(H=fun s f=>f s)->cR A T G X C all (l.take n) s fun s'=>H s' fun s=>cR A T G X C all (l.drop n) s K):cR A T G X C all l s K:=by
 have h1:=h _ rfl
 rw [<-pD,List.take_append_drop] at h1
 exact h1
end Go.Vd
set_option maxHeartbeats 40000000
namespace Go.Vd
open Go.Proofs
variable {r:List UInt8} {w nw wm:Int} {I O:Sl} {s:Int}
noncomputable def lk:Ct:=fun A args=>match args with
 | [.agg [.int .u64 w, .int .i64 t, .int .i64 m, .int .i64 n, .int .i64 q, .int .i64 tm, .slc k 1 f, .int .u64 nw, .int .i64 wm, .run 64 g, .run 64 g', .slc c 2 h]] =>some (some (A.tp fun _=>(ai eEs [] 1 k f∧(ai eTs [] 1 64 g∧ai eTs [] 1 64 g')∧ai eKy K0 2 c h)∧dkQ (ab eEs [] 1 k f) nw (ab eTs [] 1 64 g) (ab eTs [] 1 64 g') (ab eKy K0 2 c h)), .bool (A.tb fun _=>dkR w t m n q tm (ab eEs [] 1 k f) nw wm (ab eTs [] 1 64 g) (ab eTs [] 1 64 g') (ab eKy K0 2 c h)))
 |_=>none
theorem jQ:bV Tryz.prog gl0 19 lk:=⟨⟨_,Tryz.func19,rfl,by decide⟩,fun args p r h hp=>by
 unfold lk at h
 split at h<;>cases h
 exact aJ (HY _ _ _ _ _ _ _ _ _ _ _ _ hp.2) ⟨iU hp.1.1 hp.1.2.1.1 hp.1.2.1.2 hp.1.2.2,trivial⟩⟩
noncomputable def sj:Ct:=fun A args=>match args with
 | [.agg [.int .u64 w, .int .i64 t, .int .i64 m, .int .i64 n, .int .i64 q, .int .i64 tm, .slc k 1 f, .int .u64 nw, .int .i64 wm, .run 64 g, .run 64 g', .slc c 2 h], .agg [.int .u32 s, .str r], .agg [.int .u32 es, .str er, .int .i64 st, .str pan, .int .u64 am, .str code, .int .i64 tr, .int .i64 ca, .slc na 6 fa, .slc ni 6 fi, .int .i64 tt, .bool rc]] =>some (some (A.tp fun _=>((ai eEs [] 1 k f∧(ai eTs [] 1 64 g∧ai eTs [] 1 64 g')∧ai eKy K0 2 c h)∧ai eD D0 6 na fa∧ai eD D0 6 ni fi)∧whQ (ab eTs [] 1 64 g) (ab eTs [] 1 64 g')∧(0<=nw∧nw<=4611686018427387904)∧0<=w∧w<=4000),whT A nw wm (fun _=>fO w nw wm (ab eTs [] 1 64 g) (ab eTs [] 1 64 g') s r ⟨⟨es,er,st,pan,am,code,tr,ca⟩, [], [],tt,rc⟩) (fun _=>fP w nw wm (ab eTs [] 1 64 g) (ab eTs [] 1 64 g') s r ⟨⟨es,er,st,pan,am,code,tr,ca⟩, [], [],tt,rc⟩))
 |_=>none
theorem BL:bV Tryz.prog gl0 42 sj:=⟨⟨_,Tryz.func42,rfl,by decide⟩,fun args p r h hp=>by
 unfold sj at h
 split at h<;>cases h
 exact aJ (BK _ _ _ _ _ _ _ _ _ _ _ _ _ _ ⟨⟨_,_,_,_,_,_,_,_⟩,ab eD D0 6 _ _,ab eD D0 6 _ _,_,_⟩ hp.2.1 hp.2.2.1 hp.2.2.2) ⟨iU hp.1.1.1 hp.1.1.2.1.1 hp.1.1.2.1.2 hp.1.1.2.2,⟨_,rfl,rfl,rfl,trivial⟩,⟨_,rfl,rfl,rfl,rfl,rfl,rfl,rfl,rfl,rfl,hp.1.2.1.sv,hp.1.2.2.sv,rfl,rfl,trivial⟩,trivial⟩⟩
noncomputable def qn:Ct:=fun A args=>match args with
 | [.agg [.int .u32 s, .str r]] =>some (none,aF eD D0 6 A fun _=> [⟨2, [],0,s,r, [57,54]⟩])
 |_=>none
theorem uh:bV Tryz.prog gl0 40 qn:=⟨⟨_,Tryz.func40,rfl,by decide⟩,fun args p r h hp=>by
 unfold qn at h
 split at h<;>cases h
 exact E1 _ _⟩
noncomputable def xd:Ct:=fun A args=>match args with
 | [.agg [.int .u32 s, .str r, .int .i64 st, .str pan, .int .u64 am, .str code, .int .i64 tr, .int .i64 ca], .agg [.int .i64 v, .int .i64 k, .str dpan, .int .u64 dam, .int .u32 ds, .str dr, .str dcode], .int .i64 n] =>some (some (A.tp fun _=>(pan.length<=100000∧code.length<=1000000)∧dpan.length<=100000∧dr.length<=1000000∧dcode.length<=1000000), .tup [EV A fun _=>stp ⟨s,r,st,pan,am,code,tr,ca⟩ v ⟨k,dpan,dam,ds,dr,dcode⟩ n, .int .i64 (A.ti fun _=>j3 ⟨s,r,st,pan,am,code,tr,ca⟩ v ⟨k,dpan,dam,ds,dr,dcode⟩ n)])
 |_=>none
theorem At:bV Tryz.prog gl0 38 xd:=⟨⟨_,Tryz.func38,rfl,by decide⟩,fun args p r h hp=>by
 unfold xd at h
 split at h<;>cases h
 exact KD _ _ _ _ _ _ _ _ _ _ _ _ _ _ _ _ hp.1.1 hp.1.2 hp.2.1 hp.2.2.1 hp.2.2.2⟩
noncomputable def mK:Ct:=fun A args=>match args with
 | [.agg [.int .u64 w, .int .i64 t, .int .i64 m, .int .i64 n, .int .i64 q, .int .i64 tm, .slc k 1 f, .int .u64 nw, .int .i64 wm, .run 64 g, .run 64 g', .slc c 2 h]] =>some (some (A.tp fun _=>(ai eEs [] 1 k f∧(ai eTs [] 1 64 g∧ai eTs [] 1 64 g')∧ai eKy K0 2 c h)∧dkQ (ab eEs [] 1 k f) nw (ab eTs [] 1 64 g) (ab eTs [] 1 64 g') (ab eKy K0 2 c h)),dkF A w t m n q tm (fun _=>ab eEs [] 1 k f) nw wm (fun _=>ab eTs [] 1 64 g) (fun _=>ab eTs [] 1 64 g') (fun _=>ab eKy K0 2 c h))
 |_=>none
theorem nV:bV Tryz.prog gl0 37 mK:=⟨⟨_,Tryz.func37,rfl,by decide⟩,fun args p r h hp=>by
 unfold mK at h
 split at h<;>cases h
 exact aJ (EW _ _ _ _ _ _ _ _ _ _ _ _ hp.2) ⟨iU hp.1.1 hp.1.2.1.1 hp.1.2.1.2 hp.1.2.2,trivial⟩⟩
theorem q7:bV Tryz.prog gl0 22 lf:=az.ct HL ⟨_,Tryz.func22,rfl,by decide⟩ fun _=>rfl
theorem sk:bV Tryz.prog gl0 24 p7:=az.ct mz ⟨_,Tryz.func24,rfl,by decide⟩ fun _=>rfl
theorem nW:bV Tryz.prog gl0 23 kH:=az.ct tW ⟨_,Tryz.func23,rfl,by decide⟩ fun _=>rfl
theorem pE:bV Tryz.prog gl0 39 jJ:=az.ct zw ⟨_,Tryz.func39,rfl,by decide⟩ fun _=>rfl
theorem ui:bV Tryz.prog gl0 41 mC:=az.ct zw ⟨_,Tryz.func41,rfl,by decide⟩ fun _=>rfl
noncomputable def iJt:Nat->Option Func:=bY 42 Tryz.f42 (bY 56 Tryz.f56 noI)
theorem Rc:gF Tryz.prog iJt:=bc (bc ak Tryz.func56 (by kernel_rfl)) Tryz.func42 (by kernel_rfl)
theorem mL(S:Stp):fO w nw wm I O s r { e:=S.e,a:= [],i:= [],t:=S.t,rc:=S.rc } =fO w nw wm I O s r S:=rfl
theorem mM(S:Stp):fP w nw wm I O s r { e:=S.e,a:= [],i:= [],t:=S.t,rc:=S.rc } =fP w nw wm I O s r S:=rfl
theorem kL(S:Stp):fO w nw wm I O s r { e:=S.e,a:= [],i:= [],t:=S.t,rc:=false } =fO w nw wm I O s r S:=rfl
theorem kM(S:Stp):fP w nw wm I O s r { e:=S.e,a:= [],i:= [],t:=S.t,rc:=false } =fP w nw wm I O s r S:=rfl
noncomputable def gj6:Ar->Pu:=aq 37 mK (aq 19 lk (aq 22 lf (aq 24 p7 (aq 23 kH (aq 38 xd (aq 39 jJ (aq 41 mC (aq 42 sj (aq 40 qn (noC))))))))))
theorem Rd:az Tryz.prog gl0 (gj6 std):=by
 refine aD (aD (aD (aD (aD (aD (aD (aD (aD (aD (aP) uh) BL) ui) pE) At) nW) sk) q7) jQ) nV
noncomputable def gj7:Ar->Pu:=aq 37 mK (aq 19 lk (aq 22 lf (aq 24 p7 (aq 23 kH (aq 38 xd (aq 39 jJ (aq 41 mC (aq 95 jO (aq 96 ld (aq 40 qn (noC)))))))))))
theorem Re:az Tryz.prog gl0 (gj7 std):=by
 refine aD (aD (aD (aD (aD (aD (aD (aD (aD (aD (aD (aP) uh) qY) pC) ui) pE) At) nW) sk) q7) jQ) nV
attribute [local irreducible] vc
theorem H3(w t m n q tm:Int)(T:Tbl)(nw wm:Int)(I O:Sl)(R:List K2)(v k am s:Int)(pan r code:List UInt8)(room:Bool)(hQ:dkQ T nw I O R)(hd:evQ ⟨k,pan,am,s,r,code⟩)(hrc:(stp (gc tm T s r) v ⟨k,pan,am,s,r,code⟩ t).rc=false):GFn 13 (fun A=> [dkS A w t m n q tm T nw wm I O R, .agg [.int .i64 v, .int .i64 k, .str pan, .int .u64 am, .int .u32 s, .str r, .str code], .bool room]) (fun A=> .tup [dkT A (fun _=>doD ⟨w,t,m,n,q,tm,T,nw,wm,I,O,R⟩ v ⟨k,pan,am,s,r,code⟩ room),aF eD D0 6 A (fun _=>doA ⟨w,t,m,n,q,tm,T,nw,wm,I,O,R⟩ v ⟨k,pan,am,s,r,code⟩ room),aF eD D0 6 A (fun _=>doI ⟨w,t,m,n,q,tm,T,nw,wm,I,O,R⟩ v ⟨k,pan,am,s,r,code⟩ room), .int .i64 (A.ti fun _=>doE ⟨w,t,m,n,q,tm,T,nw,wm,I,O,R⟩ v ⟨k,pan,am,s,r,code⟩ room)]):=by
 refine aC Rd ar ak Tryz.func13 (.none) fun A hA=> ?_
 have lT:ab eEs [] 1 (A.tn fun _=>T.length) (ax eEs [] A fun _=>T)=T:=by subst hA;exact aT T
 have lI:ab eTs [] 1 64 (ax eTs [] A fun _=>I)=I:=by subst hA;exact ah hQ.2.1.1.1
 have lO:ab eTs [] 1 64 (ax eTs [] A fun _=>O)=O:=by subst hA;exact ah hQ.2.1.1.2
 have lR:ab eKy K0 2 (A.tn fun _=>R.length) (ax eKy K0 A fun _=>R)=R:=by subst hA;exact cD R
 have lR':ab eKy K0 2 (A.tn fun _=>R.length) (ax eKy (0, []) A fun _=>R)=R:=by subst hA;exact cD R
 obtain ⟨W,hW⟩: ∃ e,e=gc tm T s r:=⟨_,rfl⟩
 obtain ⟨hb,hhb⟩: ∃ b,b=iQ tm T s r:=⟨_,rfl⟩
 obtain ⟨S,hS⟩: ∃ S,S=stp W v ⟨k,pan,am,s,r,code⟩ t:=⟨_,rfl⟩
 obtain ⟨E,hE⟩: ∃ E,E=j3 W v ⟨k,pan,am,s,r,code⟩ t:=⟨_,rfl⟩
 have lW:(⟨A.ti fun _=>W.s,A.ts fun _=>W.r,A.ti fun _=>W.st,A.ts fun _=>W.pan,A.ti fun _=>W.am,A.ts fun _=>W.code,A.ti fun _=>W.tr,A.ti fun _=>W.ca⟩:Ent)=W:=by subst hA;rfl
 have lS:(⟨A.ti fun _=>S.e.s,A.ts fun _=>S.e.r,A.ti fun _=>S.e.st,A.ts fun _=>S.e.pan,A.ti fun _=>S.e.am,A.ts fun _=>S.e.code,A.ti fun _=>S.e.tr,A.ti fun _=>S.e.ca⟩:Ent)=S.e:=by subst hA;rfl
 rw [<-hW,<-hS] at hrc
 have hWQ:enQ W:=by rw [hW];exact Aq hQ.1
 have hSQ:enQ S.e:=by rw [hS];exact EY hWQ hd
 refine mJ rfl rfl ?_
 refine dJ fun H hH=> ?_
 cbv
 repeat' (first| (with_reducible first|exact vT|exact vD hA|exact vE hA|refine vA ?_ ?_) | (intro hc;cbv))
 iterate 22
  all_goals first
   | (subst hH;(try simp only [lT,lI,lO,lR,lR',<-hW,<-hhb,lW,<-hS,<-hE,lS]);first| (refine dJ fun H hH=> ?_;cbv;repeat' (first| (with_reducible first|exact vT|exact vD hA|exact vE hA|refine vA ?_ ?_) | (intro hc;cbv))) | (cbv;repeat' (first| (with_reducible first|exact vT|exact vD hA|exact vE hA|refine vA ?_ ?_) | (intro hc;cbv))))
   |skip
 all_goals first
  | (subst hA
     simp only [sS,bg,aT,ay hQ.2.1.1.1,ah hQ.2.1.1.1,ay hQ.2.1.1.2,ah hQ.2.1.1.2,fK,cD,qm] at*
     first
      |done
      | (exfalso
         have h9:S.rc=true:=by with_reducible assumption
         rw [hrc] at h9
         cases h9)
      |exact fun h=>h
      |exact fun h=>⟨h,h⟩
      | (intro h;rw [h];rfl)
      |exact ⟨⟨trivial,⟨trivial,trivial⟩,trivial⟩,hQ⟩
      | (exfalso
         have h3:(bif !hb then !decide (S.e=W) else false)=true:=by with_reducible assumption
         have h4:(bif hb then !decide (S.e=W) else false)=true:=by with_reducible assumption
         revert h3 h4
         cases hb<;>simp;done)
      |exact ⟨⟨trivial,hQ.1⟩,hd.1⟩
      |exact ⟨⟨hWQ.2.2.1,hWQ.2.2.2⟩,hd.2.2.1,hd.2.1,hd.2.2.2⟩
      |exact ⟨⟨trivial,hQ.1⟩,hSQ⟩
      |exact fun h=>⟨h,hd.2.2.1,hd.2.1,hd.2.2.2⟩
      | (refine ⟨⟨⟨trivial,⟨trivial,trivial⟩,trivial⟩,f9 _,f9 _⟩,hQ.2.1, ?_⟩
         have h1:(bif !dkR w t m n q tm T nw wm I O R then true else !vR v ⟨k,pan,am,s,r,code⟩)=false:=by with_reducible assumption
         have h2:=E3 (Sm h1).1
         exact ⟨⟨hQ.2.2.2.1,h2.2⟩,by omega,by omega⟩)
      | (have g1t:(bif !dkR w t m n q tm T nw wm I O R then true else !vR v ⟨k,pan,am,s,r,code⟩)=true:=by with_reducible assumption
         obtain ⟨e1,e2,e3,e4⟩:=Mc (D:=⟨w,t,m,n,q,tm,T,nw,wm,I,O,R⟩) (v:=v) (d:=⟨k,pan,am,s,r,code⟩) (room:=room) (W:=W) (hb:=hb) (S:=S) (E:=E) hW hhb hS hE (bO:=dkR w t m n q tm T nw wm I O R) rfl g1t
         simp only [e1,e2,e3,e4,doR,hrc,mL,mM,kL,kM,Bool.false_eq_true,if_false,bG,List.length_nil]
         try rfl
         done)
      | (have g2t:(E !=0)=true:=by with_reducible assumption
         obtain ⟨e1,e2,e3,e4⟩:=H0 (D:=⟨w,t,m,n,q,tm,T,nw,wm,I,O,R⟩) (v:=v) (d:=⟨k,pan,am,s,r,code⟩) (room:=room) (W:=W) (hb:=hb) (S:=S) (E:=E) hW hhb hS hE g2t
         simp only [e1,e2,e3,e4,doR,hrc,mL,mM,kL,kM,Bool.false_eq_true,if_false,bG,List.length_nil]
         try rfl
         done)
      | (have g1:(bif !dkR w t m n q tm T nw wm I O R then true else !vR v ⟨k,pan,am,s,r,code⟩)=false:=by with_reducible assumption
         have g2:(E !=0)=false:=by with_reducible assumption
         have g3t:(bif !hb then !decide (S.e=W) else false)=true:=by with_reducible assumption
         have g4t:(bif !room then true else cG tm T S.e==7)=true:=by with_reducible assumption
         obtain ⟨e1,e2,e3,e4⟩:=Sk (D:=⟨w,t,m,n,q,tm,T,nw,wm,I,O,R⟩) (v:=v) (d:=⟨k,pan,am,s,r,code⟩) (room:=room) (W:=W) (hb:=hb) (S:=S) (E:=E) hW hhb hS hE (bO:=dkR w t m n q tm T nw wm I O R) rfl g1 g2 g3t g4t
         simp only [e1,e2,e3,e4,doR,hrc,mL,mM,kL,kM,Bool.false_eq_true,if_false,bG,List.length_nil]
         try rfl
         done)
      | (have g1:(bif !dkR w t m n q tm T nw wm I O R then true else !vR v ⟨k,pan,am,s,r,code⟩)=false:=by with_reducible assumption
         have g2:(E !=0)=false:=by with_reducible assumption
         have g3t:(bif !hb then !decide (S.e=W) else false)=true:=by with_reducible assumption
         have g4:(bif !room then true else cG tm T S.e==7)=false:=by with_reducible assumption
         obtain ⟨e1,e2,e3,e4⟩:=Q9 (D:=⟨w,t,m,n,q,tm,T,nw,wm,I,O,R⟩) (v:=v) (d:=⟨k,pan,am,s,r,code⟩) (room:=room) (W:=W) (hb:=hb) (S:=S) (E:=E) hW hhb hS hE (bO:=dkR w t m n q tm T nw wm I O R) rfl g1 g2 g3t g4
         simp only [e1,e2,e3,e4,doR,hrc,mL,mM,kL,kM,Bool.false_eq_true,if_false,bG,List.length_nil]
         try rfl
         done)
      | (have g1:(bif !dkR w t m n q tm T nw wm I O R then true else !vR v ⟨k,pan,am,s,r,code⟩)=false:=by with_reducible assumption
         have g2:(E !=0)=false:=by with_reducible assumption
         have g3:(bif !hb then !decide (S.e=W) else false)=false:=by with_reducible assumption
         have g5t:(bif hb then !decide (S.e=W) else false)=true:=by with_reducible assumption
         obtain ⟨e1,e2,e3,e4⟩:=H1 (D:=⟨w,t,m,n,q,tm,T,nw,wm,I,O,R⟩) (v:=v) (d:=⟨k,pan,am,s,r,code⟩) (room:=room) (W:=W) (hb:=hb) (S:=S) (E:=E) hW hhb hS hE (bO:=dkR w t m n q tm T nw wm I O R) rfl g1 g2 g3 g5t
         simp only [e1,e2,e3,e4,doR,hrc,mL,mM,kL,kM,Bool.false_eq_true,if_false,bG,List.length_nil]
         try rfl
         done)
      | (have g1:(bif !dkR w t m n q tm T nw wm I O R then true else !vR v ⟨k,pan,am,s,r,code⟩)=false:=by with_reducible assumption
         have g2:(E !=0)=false:=by with_reducible assumption
         have g3:(bif !hb then !decide (S.e=W) else false)=false:=by with_reducible assumption
         have g5:(bif hb then !decide (S.e=W) else false)=false:=by with_reducible assumption
         obtain ⟨e1,e2,e3,e4⟩:=Ra (D:=⟨w,t,m,n,q,tm,T,nw,wm,I,O,R⟩) (v:=v) (d:=⟨k,pan,am,s,r,code⟩) (room:=room) (W:=W) (hb:=hb) (S:=S) (E:=E) hW hhb hS hE (bO:=dkR w t m n q tm T nw wm I O R) rfl g1 g2 g3 g5
         simp only [e1,e2,e3,e4,doR,hrc,mL,mM,kL,kM,Bool.false_eq_true,if_false,bG,List.length_nil]
         try rfl
         done)
)
end Go.Vd
namespace Go.Vd
open Go.Proofs
attribute [local irreducible] vc
theorem H4(w t m n q tm:Int)(T:Tbl)(nw wm:Int)(I O:Sl)(R:List K2)(v k am s:Int)(pan r code:List UInt8)(room:Bool)(hQ:dkQ T nw I O R)(hd:evQ ⟨k,pan,am,s,r,code⟩)(hrc:(stp (gc tm T s r) v ⟨k,pan,am,s,r,code⟩ t).rc=true):GFn 13 (fun A=> [dkS A w t m n q tm T nw wm I O R, .agg [.int .i64 v, .int .i64 k, .str pan, .int .u64 am, .int .u32 s, .str r, .str code], .bool room]) (fun A=> .tup [dkT A (fun _=>doD ⟨w,t,m,n,q,tm,T,nw,wm,I,O,R⟩ v ⟨k,pan,am,s,r,code⟩ room),aF eD D0 6 A (fun _=>doA ⟨w,t,m,n,q,tm,T,nw,wm,I,O,R⟩ v ⟨k,pan,am,s,r,code⟩ room),aF eD D0 6 A (fun _=>doI ⟨w,t,m,n,q,tm,T,nw,wm,I,O,R⟩ v ⟨k,pan,am,s,r,code⟩ room), .int .i64 (A.ti fun _=>doE ⟨w,t,m,n,q,tm,T,nw,wm,I,O,R⟩ v ⟨k,pan,am,s,r,code⟩ room)]):=by
 refine aC Re ar Rc Tryz.func13 (.none) fun A hA=> ?_
 have lT:ab eEs [] 1 (A.tn fun _=>T.length) (ax eEs [] A fun _=>T)=T:=by subst hA;exact aT T
 have lI:ab eTs [] 1 64 (ax eTs [] A fun _=>I)=I:=by subst hA;exact ah hQ.2.1.1.1
 have lO:ab eTs [] 1 64 (ax eTs [] A fun _=>O)=O:=by subst hA;exact ah hQ.2.1.1.2
 have lR:ab eKy K0 2 (A.tn fun _=>R.length) (ax eKy K0 A fun _=>R)=R:=by subst hA;exact cD R
 have lR':ab eKy K0 2 (A.tn fun _=>R.length) (ax eKy (0, []) A fun _=>R)=R:=by subst hA;exact cD R
 obtain ⟨W,hW⟩: ∃ e,e=gc tm T s r:=⟨_,rfl⟩
 obtain ⟨hb,hhb⟩: ∃ b,b=iQ tm T s r:=⟨_,rfl⟩
 obtain ⟨S,hS⟩: ∃ S,S=stp W v ⟨k,pan,am,s,r,code⟩ t:=⟨_,rfl⟩
 obtain ⟨E,hE⟩: ∃ E,E=j3 W v ⟨k,pan,am,s,r,code⟩ t:=⟨_,rfl⟩
 have lW:(⟨A.ti fun _=>W.s,A.ts fun _=>W.r,A.ti fun _=>W.st,A.ts fun _=>W.pan,A.ti fun _=>W.am,A.ts fun _=>W.code,A.ti fun _=>W.tr,A.ti fun _=>W.ca⟩:Ent)=W:=by subst hA;rfl
 have lS:(⟨A.ti fun _=>S.e.s,A.ts fun _=>S.e.r,A.ti fun _=>S.e.st,A.ts fun _=>S.e.pan,A.ti fun _=>S.e.am,A.ts fun _=>S.e.code,A.ti fun _=>S.e.tr,A.ti fun _=>S.e.ca⟩:Ent)=S.e:=by subst hA;rfl
 rw [<-hW,<-hS] at hrc
 have hWQ:enQ W:=by rw [hW];exact Aq hQ.1
 have hSQ:enQ S.e:=by rw [hS];exact EY hWQ hd
 have hst:=Rb (by rw [<-hS];exact hrc)
 rw [<-hS] at hst
 obtain ⟨hs4,hse,hsa,hsi,hs0⟩:=hst
 have hbt:hb=true:=by rw [hhb];exact OP (by rw [<-hW];exact hs4)
 have hne:decide (S.e=W)=false:=by
  refine decide_eq_false fun h=> ?_
  rw [hse] at h
  have h2:(6:Int)=W.st:=congrArg Ent.st h
  rw [hs4] at h2
  exact absurd h2 (by decide)
 have hs6:S.e.st=6:=by rw [hse]
 have hK:gm S=false:=by unfold gm stW;rw [hs0,hs6];rfl
 have hI:=(EZ (w:=w) (nw:=nw) (wm:=wm) (I:=I) (O:=O) (s:=s) (r:=r) hK (by rw [hs0];decide))
 refine mJ rfl rfl ?_
 refine dJ fun H hH=> ?_
 cbv
 repeat' (first| (with_reducible first|exact vT|exact vD hA|exact vE hA|refine vA ?_ ?_) | (intro hc;cbv))
 iterate 22
  all_goals first
   | (exfalso;clear hH lT lI lO lR lR' lW lS hQ hd hWQ hSQ hK hI hse hsa hsi hs4;subst hA;simp only [sS,qm] at*;simp [hbt,hne,hs0,hs6,hrc] at*;done)
   | (subst hH;(try simp only [lT,lI,lO,lR,lR',<-hW,<-hhb,lW,<-hS,<-hE,lS]);first| (refine dJ fun H hH=> ?_;cbv;repeat' (first| (with_reducible first|exact vT|exact vD hA|exact vE hA|refine vA ?_ ?_) | (intro hc;cbv))) | (cbv;repeat' (first| (with_reducible first|exact vT|exact vD hA|exact vE hA|refine vA ?_ ?_) | (intro hc;cbv))))
   |skip
 all_goals first
  | (exfalso;clear lT lI lO lR lR' lW lS hQ hd hWQ hSQ hK hI hse hsa hsi hs4;subst hA;simp only [sS,qm] at*;simp [hbt,hne,hs0,hs6,hrc] at*;done)
  | (subst hA
     simp only [sS,bg,aT,ay hQ.2.1.1.1,ah hQ.2.1.1.1,ay hQ.2.1.1.2,ah hQ.2.1.1.2,fK,cD,qm] at*
     first
      |done
      |exact fun h=>h
      |exact fun h=>⟨h,h⟩
      | (intro h;rw [h];rfl)
      |exact ⟨⟨trivial,⟨trivial,trivial⟩,trivial⟩,hQ⟩
      |exact ⟨⟨⟨trivial,trivial⟩,hQ.2.1⟩,hQ.2.2.2⟩
      |exact ⟨⟨trivial,hQ.1⟩,hd.1⟩
      |exact ⟨⟨hWQ.2.2.1,hWQ.2.2.2⟩,hd.2.2.1,hd.2.1,hd.2.2.2⟩
      |exact ⟨⟨trivial,hQ.1⟩,hSQ⟩
      |exact fun h=>⟨h,hd.2.2.1,hd.2.1,hd.2.2.2⟩
      | (have h1:=hQ.2.2.1;omega)
      | (have g1t:(bif !dkR w t m n q tm T nw wm I O R then true else !vR v ⟨k,pan,am,s,r,code⟩)=true:=by with_reducible assumption
         obtain ⟨e1,e2,e3,e4⟩:=Mc (D:=⟨w,t,m,n,q,tm,T,nw,wm,I,O,R⟩) (v:=v) (d:=⟨k,pan,am,s,r,code⟩) (room:=room) (W:=W) (hb:=hb) (S:=S) (E:=E) hW hhb hS hE (bO:=dkR w t m n q tm T nw wm I O R) rfl g1t
         simp only [e1,e2,e3,e4,bG,List.length_nil]
         try rfl
         done)
      | (have g2t:(E !=0)=true:=by with_reducible assumption
         obtain ⟨e1,e2,e3,e4⟩:=H0 (D:=⟨w,t,m,n,q,tm,T,nw,wm,I,O,R⟩) (v:=v) (d:=⟨k,pan,am,s,r,code⟩) (room:=room) (W:=W) (hb:=hb) (S:=S) (E:=E) hW hhb hS hE g2t
         simp only [e1,e2,e3,e4,bG,List.length_nil]
         try rfl
         done)
      | (have g1:(bif !dkR w t m n q tm T nw wm I O R then true else !vR v ⟨k,pan,am,s,r,code⟩)=false:=by with_reducible assumption
         have g2:(E !=0)=false:=by with_reducible assumption
         have g3:(bif !hb then !decide (S.e=W) else false)=false:=by rw [hbt];rfl
         have g5t:(bif hb then !decide (S.e=W) else false)=true:=by rw [hbt,hne];rfl
         obtain ⟨e1,e2,e3,e4⟩:=H1 (D:=⟨w,t,m,n,q,tm,T,nw,wm,I,O,R⟩) (v:=v) (d:=⟨k,pan,am,s,r,code⟩) (room:=room) (W:=W) (hb:=hb) (S:=S) (E:=E) hW hhb hS hE (bO:=dkR w t m n q tm T nw wm I O R) rfl g1 g2 g3 g5t
         simp only [e1,e2,e3,e4,doR,hrc,hI.1,hI.2,if_true,bG,List.length_nil]
         first
          |done
          |rfl
          | (simp;done)
          |exact yh rfl (fun j hj=>by rcases (show j=0∨j=1 by omega) with rfl|rfl<;>exact .refl _) rfl (by simp))
)
end Go.Vd
set_option maxHeartbeats 8000000
namespace Go.Vd
open Go.Proofs
theorem sm(w t m n q tm:Int)(T:Tbl)(nw wm:Int)(I O:Sl)(R:List K2)(v k am s:Int)(pan r code:List UInt8)(room:Bool)(hQ:dkQ T nw I O R)(hd:evQ ⟨k,pan,am,s,r,code⟩):cS Tryz.prog gl0 13 [dkS std w t m n q tm T nw wm I O R, .agg [.int .i64 v, .int .i64 k, .str pan, .int .u64 am, .int .u32 s, .str r, .str code], .bool room] (.tup [dkT std (fun _=>doD ⟨w,t,m,n,q,tm,T,nw,wm,I,O,R⟩ v ⟨k,pan,am,s,r,code⟩ room),aF eD D0 6 std (fun _=>doA ⟨w,t,m,n,q,tm,T,nw,wm,I,O,R⟩ v ⟨k,pan,am,s,r,code⟩ room),aF eD D0 6 std (fun _=>doI ⟨w,t,m,n,q,tm,T,nw,wm,I,O,R⟩ v ⟨k,pan,am,s,r,code⟩ room), .int .i64 (std.ti fun _=>doE ⟨w,t,m,n,q,tm,T,nw,wm,I,O,R⟩ v ⟨k,pan,am,s,r,code⟩ room)]):=by
 cases h:(stp (gc tm T s r) v ⟨k,pan,am,s,r,code⟩ t).rc
 · exact H3 w t m n q tm T nw wm I O R v k am s pan r code room hQ hd h
 · exact H4 w t m n q tm T nw wm I O R v k am s pan r code room hQ hd h
end Go.Vd
namespace Go.Vd
open Go.Proofs
variable {k:Int} {D:Dk}
noncomputable def tkC (D:Dk)(k:Int):Int:=if D.ok=true then (if 4611686018427387904 - D.nw<k then 10 else dt D.nw D.wm D.I D.O k) else 1
noncomputable def tkD (D:Dk)(k:Int):Dk:=if tkC D k=0 then ⟨D.w,D.t,D.m,D.n,D.q,D.tm,D.T,nQ D.nw D.wm D.I D.O k,D.wm,nR D.nw D.wm D.I D.O k,nS D.nw D.wm D.I D.O k,D.R⟩ else D
noncomputable def tkL (D:Dk)(k:Int):List K2:=if tkC D k=0 then (lc D.nw D.wm D.I D.O k).map (fun x=>(x.s,x.r)) else []
theorem SO(h:(!D.ok)=true):tkD D k=D∧tkL D k= [] ∧tkC D k=1:=by
 have h1:tkC D k=1:=by unfold tkC;cases hb:D.ok with
  |true=>rw [hb] at h;cases h
  |false=>rfl
 unfold tkD tkL
 rw [h1]
 exact ⟨rfl,rfl,rfl⟩
theorem Sn(h:(!D.ok)=false)(h2:4611686018427387904 - D.nw<k):tkD D k=D∧tkL D k= [] ∧tkC D k=10:=by
 have h1:tkC D k=10:=by
  unfold tkC
  cases hb:D.ok with
  |false=>rw [hb] at h;cases h
  |true=>rw [if_pos rfl,if_pos h2]
 unfold tkD tkL
 rw [h1]
 exact ⟨rfl,rfl,rfl⟩
theorem Rf(h:(!D.ok)=false)(h2: ¬4611686018427387904 - D.nw<k):tkC D k=dt D.nw D.wm D.I D.O k:=by
 unfold tkC
 cases hb:D.ok with
 |false=>rw [hb] at h;cases h
 |true=>rw [if_pos rfl,if_neg h2]
theorem SP(h:(!D.ok)=false)(h2: ¬4611686018427387904 - D.nw<k)(h3:(dt D.nw D.wm D.I D.O k !=0)=true):tkD D k=D∧tkL D k= [] ∧tkC D k=dt D.nw D.wm D.I D.O k:=by
 have h1:=Rf h h2
 have h4: ¬dt D.nw D.wm D.I D.O k=0:=by simpa using h3
 unfold tkD tkL
 rw [h1,if_neg h4,if_neg h4]
 exact ⟨rfl,rfl,rfl⟩
theorem Rg(h:(!D.ok)=false)(h2: ¬4611686018427387904 - D.nw<k)(h3:(dt D.nw D.wm D.I D.O k !=0)=false):tkD D k=⟨D.w,D.t,D.m,D.n,D.q,D.tm,D.T,nQ D.nw D.wm D.I D.O k,D.wm,nR D.nw D.wm D.I D.O k,nS D.nw D.wm D.I D.O k,D.R⟩∧tkL D k=(lc D.nw D.wm D.I D.O k).map (fun x=>(x.s,x.r))∧tkC D k=0:=by
 have h1:=Rf h h2
 have h4:dt D.nw D.wm D.I D.O k=0:=by simpa using h3
 unfold tkD tkL
 rw [h1,if_pos h4,if_pos h4]
 exact ⟨rfl,rfl,h4⟩
theorem H5:bV Tryz.prog gl0 52 uf:=az.ct pt ⟨_,Tryz.func52,rfl,by decide⟩ fun _=>rfl
noncomputable def gj8:Ar->Pu:=aq 37 mK (aq 19 lk (aq 52 uf (noC)))
theorem Rh:az Tryz.prog gl0 (gj8 std):=by
 refine aD (aD (aD (aP) H5) jQ) nV
attribute [local irreducible] vc
theorem E4(w t m n q tm:Int)(T:Tbl)(nw wm:Int)(I O:Sl)(R:List K2)(k:Int)(hQ:dkQ T nw I O R)(hk:0<=k∧k<18446744073709551616):GFn 16 (fun A=> [dkS A w t m n q tm T nw wm I O R, .int .u64 k]) (fun A=> .tup [dkT A (fun _=>tkD ⟨w,t,m,n,q,tm,T,nw,wm,I,O,R⟩ k),aF eKy K0 2 A (fun _=>tkL ⟨w,t,m,n,q,tm,T,nw,wm,I,O,R⟩ k), .int .i64 (A.ti fun _=>tkC ⟨w,t,m,n,q,tm,T,nw,wm,I,O,R⟩ k)]):=by
 refine aC Rh ar ak Tryz.func16 (.none) fun A hA=> ?_
 have lT:ab eEs [] 1 (A.tn fun _=>T.length) (ax eEs [] A fun _=>T)=T:=by subst hA;exact aT T
 have lI:ab eTs [] 1 64 (ax eTs [] A fun _=>I)=I:=by subst hA;exact ah hQ.2.1.1.1
 have lO:ab eTs [] 1 64 (ax eTs [] A fun _=>O)=O:=by subst hA;exact ah hQ.2.1.1.2
 have lR:ab eKy K0 2 (A.tn fun _=>R.length) (ax eKy K0 A fun _=>R)=R:=by subst hA;exact cD R
 have lR':ab eKy K0 2 (A.tn fun _=>R.length) (ax eKy (0, []) A fun _=>R)=R:=by subst hA;exact cD R
 refine mJ rfl rfl ?_
 refine dJ fun H hH=> ?_
 cbv
 repeat' (first| (with_reducible first|exact vT|exact vD hA|exact vE hA|refine vA ?_ ?_) | (intro hc;cbv))
 iterate 12
  all_goals first
   | (subst hH;(try simp only [lT,lI,lO,lR,lR']);first| (refine dJ fun H hH=> ?_;cbv;repeat' (first| (with_reducible first|exact vT|exact vD hA|exact vE hA|refine vA ?_ ?_) | (intro hc;cbv))) | (cbv;repeat' (first| (with_reducible first|exact vT|exact vD hA|exact vE hA|refine vA ?_ ?_) | (intro hc;cbv))))
   |skip
 all_goals first
  | (fail_if_success (refine Exists.intro ?_ ?_)
     subst hA
     simp only [sS,bg,aT,ay hQ.2.1.1.1,ah hQ.2.1.1.1,ay hQ.2.1.1.2,ah hQ.2.1.1.2,fK,cD] at*
     first
      |done
      |exact ⟨⟨trivial,⟨trivial,trivial⟩,trivial⟩,hQ⟩
      |exact ⟨⟨⟨trivial,trivial⟩,hQ.2.1⟩,hQ.2.2.2,hk⟩
      | (have g1:(!dkR w t m n q tm T nw wm I O R)=true:=by with_reducible assumption
         obtain ⟨e1,e2,e3⟩:=SO (D:=⟨w,t,m,n,q,tm,T,nw,wm,I,O,R⟩) (k:=k) g1
         simp only [e1,e2,e3,bG,List.length_nil]
         try rfl
         done)
      | (have g1:(!dkR w t m n q tm T nw wm I O R)=false:=by with_reducible assumption
         have hb:=(E3 (by simpa using g1)).2
         have hwr:IntKind.u64.wrap (4611686018427387904 - nw)=4611686018427387904 - nw:=by rw [IntKind.wrap_u64];have:=hQ.2.2.2;omega
         simp only [hwr] at*
         first
          | (have g2:decide (4611686018427387904 - nw<k)=true:=by with_reducible assumption
             obtain ⟨e1,e2,e3⟩:=Sn (D:=⟨w,t,m,n,q,tm,T,nw,wm,I,O,R⟩) (k:=k) g1 (of_decide_eq_true g2)
             simp only [e1,e2,e3,bG,List.length_nil]
             try rfl
             done)
          | (have g2:decide (4611686018427387904 - nw<k)=false:=by with_reducible assumption
             have g3:(dt nw wm I O k !=0)=true:=by with_reducible assumption
             obtain ⟨e1,e2,e3⟩:=SP (D:=⟨w,t,m,n,q,tm,T,nw,wm,I,O,R⟩) (k:=k) g1 (of_decide_eq_false g2) g3
             simp only [e1,e2,e3,bG,List.length_nil]
             try rfl
             done))
)
  |skip
 obtain ⟨L,hL⟩: ∃ L,L=lc nw wm I O k:=⟨_,rfl⟩
 obtain ⟨N,hN⟩: ∃ N,N=L.length:=⟨_,rfl⟩
 refine ⟨⟨{p:Nat×List K2 // p.1<=L.length∧p.2=(L.take p.1).map fun x=>(x.s,x.r)},fun b p=> [(10, .own b),(40,aF eT T0 3 A fun _=>L),(41, .int .i64 (N:Nat)),(42, .int .i64 (p.1.1:Nat))],fun b p=> [(b, .row 66 2 (A.tn fun _=>p.1.2.length) (ax eKy K0 A fun _=>p.1.2))],fun p=>L.length - p.1.1,true⟩,⟨⟨(0, []),Nat.zero_le _,rfl⟩, ?_⟩, ?_⟩
 · cbv
   subst hA
   simp [-List.getD_eq_getElem?_getD,sS,ah hQ.2.1.1.1,ah hQ.2.1.1.2,<-hL,<-hN]
 · rintro ⟨⟨i,M⟩,hx⟩
   have hi:i<=L.length:=hx.1
   have hM:M=(L.take i).map fun x=>(x.s,x.r):=hx.2
   obtain ⟨i',hi'⟩: ∃ i',i'=i+1:=⟨_,rfl⟩
   obtain ⟨e,he⟩: ∃ e,e=L.getD i T0:=⟨_,rfl⟩
   have hge:L.getD i { s:=0,r:= [],u:=0 } =e:=he.symm
   have hLl:L.length<=256:=by rw [hL];exact KC
   have hMl:M.length=i:=by rw [hM,List.length_map,List.length_take];omega
   obtain ⟨M',hM'⟩: ∃ M',M'=M++ [(e.s,e.r)] :=⟨_,rfl⟩
   rcases Nat.lt_or_ge i L.length with hlt|hge2
   · have hnext:M'=(L.take i').map fun x=>(x.s,x.r):=by
      rw [hM',hM,hi',<-bk (d:=T0) hlt,List.map_append,<-he]
      rfl
     cbv
     repeat' (first| (with_reducible first|exact vT|exact vD hA|exact vE hA|refine vA ?_ ?_) | (intro hc;cbv))
     all_goals first
      | (fail_if_success (refine Exists.intro ?_ ?_)
         clear hM hnext
         subst hA
         simp only [sS,iNE,hge] at*
         first
          |done
          |exact ⟨by omega,by omega⟩
          |omega
          | (exfalso;have:=of_decide_eq_false hc;omega)
)
      | (exfalso;clear hM hnext;subst hA;simp only [sS,Int.ofNat_eq_natCast] at hc;have:=of_decide_eq_false hc;omega)
      | (refine ⟨⟨(i',M'),(show i'<=L.length by omega),hnext⟩, ?_,(show L.length - i'<L.length - i by omega)⟩
         cbv
         subst hA
         simp [-List.getD_eq_getElem?_getD,sS,hge]
         trace_state
         exact ⟨cC hi' (by omega),by rw [hM'];simp,yh rfl (fun j hj=>by rcases (show j=0∨j=1 by omega) with rfl|rfl<;>exact .refl _) hM'.symm (by rw [hM'];simp)⟩)
   · have hie:i=L.length:=by omega
     rw [hie,List.take_length] at hM
     cbv
     repeat' (first| (with_reducible first|exact vT|exact vD hA|exact vE hA|refine vA ?_ ?_) | (intro hc;cbv))
     all_goals first
      | (exfalso;clear hM;subst hA;simp only [sS,Int.ofNat_eq_natCast] at hc;have:=of_decide_eq_true hc;omega)
      | (subst hA
         simp only [sS,bg,aT,ay hQ.2.1.1.1,ah hQ.2.1.1.1,ay hQ.2.1.1.2,ah hQ.2.1.1.2,fK,cD] at*
         have g1:(!dkR w t m n q tm T nw wm I O R)=false:=by with_reducible assumption
         have hb:=(E3 (by simpa using g1)).2
         have hwr:IntKind.u64.wrap (4611686018427387904 - nw)=4611686018427387904 - nw:=by rw [IntKind.wrap_u64];have:=hQ.2.2.2;omega
         simp only [hwr] at*
         have g2:decide (4611686018427387904 - nw<k)=false:=by with_reducible assumption
         have g3:(dt nw wm I O k !=0)=false:=by with_reducible assumption
         obtain ⟨e1,e2,e3⟩:=Rg (D:=⟨w,t,m,n,q,tm,T,nw,wm,I,O,R⟩) (k:=k) g1 (of_decide_eq_false g2) g3
         simp only [e1,e2,e3,bG,List.length_nil,<-hL,<-hM]
         try rfl
         done)
end Go.Vd
namespace Go.Vd
open Go.Proofs
variable {w t m n q:Int}
noncomputable def nwD (w t m n q:Int):Dk:=if dE w t m n q=true then ⟨w,t,m,n,q,m,nF m n,0,m,E64,E64, []⟩ else ⟨0,0,0,0,0,0, [],0,0,E64,E64, []⟩
def nwC (w t m n q:Int):Int:=if dE w t m n q=true then 0 else 1
theorem KL(h:dE w t m n q=true):nwD w t m n q=⟨w,t,m,n,q,m,nF m n,0,m,E64,E64, []⟩∧nwC w t m n q=0:=⟨if_pos h,if_pos h⟩
theorem SQ(h:dE w t m n q=false):nwD w t m n q=⟨0,0,0,0,0,0, [],0,0,E64,E64, []⟩∧nwC w t m n q=1:=by
 have h': ¬dE w t m n q=true:=by rw [h];decide
 exact ⟨if_neg h',if_neg h'⟩
theorem OQ(h:dE w t m n q=true):lB m n=m∧lC m n=0∧rY 0 m=0∧rZ m=m∧r9 m=0:=by
 unfold dE at h
 have h1:=of_decide_eq_true h
 have hz:szR m n=true:=by unfold szR;simp;omega
 have ho:fg m=true:=sb.2 (by omega)
 refine ⟨?_, ?_, ?_, ?_, ?_⟩
 · unfold lB;rw [if_pos hz]
 · unfold lC;rw [if_pos hz]
 · unfold rY;simp
 · unfold rZ;rw [if_pos ho]
 · unfold r9;rw [if_pos ho]
theorem H6:bV Tryz.prog gl0 32 tT:=az.ct zf ⟨_,Tryz.func32,rfl,by decide⟩ fun _=>rfl
theorem E5:bV Tryz.prog gl0 33 ql:=az.ct pt ⟨_,Tryz.func33,rfl,by decide⟩ fun _=>rfl
noncomputable def gji:Ar->Pu:=aq 18 pu (aq 32 tT (aq 33 ql (noC)))
theorem Ri:az Tryz.prog gl0 (gji std):=by
 refine aD (aD (aD (aP) E5) H6) px
attribute [local irreducible] vc
theorem H7(w t m n q:Int):GFn 9 (fun A=> [rlS A w t m n q]) (fun A=> .tup [dkT A (fun _=>nwD w t m n q), .int .i64 (A.ti fun _=>nwC w t m n q)]):=by
 refine aC Ri ar ak Tryz.func9 (.none) fun A hA=> ?_
 cbv
 repeat' (first| (with_reducible first|exact vT|exact vD hA|exact vE hA|refine vA ?_ ?_) | (intro hc;cbv))
 all_goals (subst hA;simp only [sS] at*)
 all_goals first
  | (have h1:(!dE w t m n q)=true:=by with_reducible assumption
     obtain ⟨e1,e2⟩:=SQ (by simpa using h1)
     simp only [e1,e2]
     first|done|rfl|exact bG|exact vg)
  | (have h1:(!dE w t m n q)=false:=by with_reducible assumption
     have h2:dE w t m n q=true:=by simpa using h1
     obtain ⟨f1,f2,f3,f4,f5⟩:=OQ h2
     simp only [f1,f2,f3,f4,f5] at*
     obtain ⟨e1,e2⟩:=KL h2
     simp only [e1,e2]
     first|done|rfl|exact bG|exact vg| (exfalso;simp at*;done))
end Go.Vd
namespace Go.Vd
open Go.Proofs
attribute [local irreducible] vc
theorem E6(L M:List K2)(hL:L.length<=1000000):GFn 21 (fun A=> [aF eKy K0 2 A fun _=>L,aF eKy K0 2 A fun _=>M]) (fun A=> .bool (A.tb fun _=>decide (L=M))):=by
 refine aC aP ar ak Tryz.func21 (.one) fun A hA=> ?_
 cbv
 repeat' (first| (with_reducible first|exact vT|exact vD hA|exact vE hA|refine vA ?_ ?_) | (intro hc;cbv))
 rotate_right
 all_goals first
  | (fail_if_success (refine Exists.intro ?_ ?_)
     subst hA
     simp [sS] at*
     first|done| (intro e;subst e;exact absurd rfl (by assumption)))
  |skip
 have hl:L.length=M.length:=by subst hA;simp [sS] at hc;omega
 refine ⟨⟨{i:Nat // i<=L.length∧L.take i=M.take i},fun b i=> [(5, .int .i64 (i.1:Nat))],fun b i=> [],fun i=>L.length - i.1,true⟩,⟨⟨0,by omega,rfl⟩, ?_⟩, ?_⟩
 · cbv
   subst hA
   simp [-List.getD_eq_getElem?_getD,sS]
 · rintro ⟨i,hx⟩
   have hi:=hx.1
   have hz:=hx.2
   obtain ⟨e,he⟩: ∃ e,e=L.getD i K0:=⟨_,rfl⟩
   obtain ⟨g,hgg⟩: ∃ g,g=M.getD i K0:=⟨_,rfl⟩
   have h1:L.getD i (0, [])=e:=he.symm
   have h2:M.getD i (0, [])=g:=hgg.symm
   have hne: ¬e=g-> ¬L=M:=fun hn hLM=>hn (by rw [he,hgg,hLM])
   rcases Nat.lt_or_ge i L.length with hlt|hge
   · cbv
     repeat' (first| (with_reducible first|exact vT|exact vD hA|exact vE hA|refine vA ?_ ?_) | (intro hc;cbv))
     all_goals first
      | (fail_if_success (refine Exists.intro ?_ ?_)
         clear hz
         subst hA
         simp [-List.getD_eq_getElem?_getD,sS,h1,h2] at*
         first
          |done
          |exact ⟨(show (0:Int)<=((i:Nat):Int) by omega),(show ((i:Nat):Int)<((M.length:Nat):Int) by omega)⟩
          |omega
          | (apply hne;intro h;subst h;simp at hc;done)
          | (intro hLM;refine hne ?_ hLM;intro h;subst h;simp at hc;done)
)
      | (obtain ⟨i',hi'⟩: ∃ i',i'=i+1:=⟨_,rfl⟩
         have hk:e=g:=by
          clear hz hne
          subst hA
          simp [-List.getD_eq_getElem?_getD,sS,h1,h2] at hc
          exact Prod.ext hc.1 hc.2
         refine ⟨⟨i',by omega, ?_⟩, ?_,show L.length - i'<L.length - i by omega⟩
         · rw [hi',<-bk (d:=K0) hlt,<-bk (d:=K0) (show i<M.length by omega),hz,<-he,<-hgg,hk]
         · cbv
           subst hA
           simp [-List.getD_eq_getElem?_getD,sS]
           exact cC hi' (by omega))
   · have hie:i=L.length:=by omega
     rw [hie,List.take_length,hl,List.take_length] at hz
     cbv
     repeat' (first| (with_reducible first|exact vT|exact vD hA|exact vE hA|refine vA ?_ ?_) | (intro hc;cbv))
     all_goals first
      | (exfalso;clear hz;subst hA;simp [-List.getD_eq_getElem?_getD,sS] at hc;omega)
      | (exfalso;clear hz;subst hA;rename_i q;simp [-List.getD_eq_getElem?_getD,sS] at q;omega)
      | (subst hA
         simp [-List.getD_eq_getElem?_getD,sS,hz] at*)
noncomputable def vw:Ct:=fun A args=>match args with
 | [.slc n 2 f, .slc n' 2 f'] =>some (some (A.tp fun _=>(ai eKy K0 2 n f∧ai eKy K0 2 n' f')∧n<=1000000), .bool (A.tb fun _=>decide (ab eKy K0 2 n f=ab eKy K0 2 n' f')))
 |_=>none
theorem E7:bV Tryz.prog gl0 21 vw:=⟨⟨_,Tryz.func21,rfl,by decide⟩,fun args p r h hp=>by
 unfold vw at h
 split at h<;>cases h
 exact aJ (E6 _ _ (by rw [aN hp.1.1];exact hp.2)) ⟨hp.1.1.sv,hp.1.2.sv,trivial⟩⟩
theorem E8:bV Tryz.prog gl0 34 qa:=az.ct Hd ⟨_,Tryz.func34,rfl,by decide⟩ fun _=>rfl
theorem BM:bV Tryz.prog gl0 30 nH:=az.ct Hd ⟨_,Tryz.func30,rfl,by decide⟩ fun _=>rfl
theorem BN:bV Tryz.prog gl0 35 nM:=az.ct QG ⟨_,Tryz.func35,rfl,by decide⟩ fun _=>rfl
theorem H8:bV Tryz.prog gl0 31 ug:=az.ct pt ⟨_,Tryz.func31,rfl,by decide⟩ fun _=>rfl
noncomputable def gj4:Ar->Pu:=aq 21 vw (aq 34 qa (aq 35 nM (aq 30 nH (aq 31 ug (noC)))))
theorem H9:az Tryz.prog gl0 (gj4 std):=by
 refine aD (aD (aD (aD (aD (aP) H8) BM) BN) E8) E7
noncomputable def dkE (w t m n q tm:Int)(T:Tbl)(nw wm:Int)(I O:Sl)(R:List K2)(w' t' m' n' q' tm':Int)(T':Tbl)(nw' wm':Int)(I' O':Sl)(R':List K2):Bool:=
 decide (w=w'∧t=t'∧m=m'∧n=n'∧q=q')&&(decide (tm=tm'∧T=T')&&(eqW nw wm I O nw' wm' I' O' && decide (R=R')))
theorem BO(w t m n q tm:Int)(T:Tbl)(nw wm:Int)(I O:Sl)(R:List K2)(w' t' m' n' q' tm':Int)(T':Tbl)(nw' wm':Int)(I' O':Sl)(R':List K2)(hQ:dkQ T nw I O R)(hQ':whQ I' O'):GFn 11 (fun A=> [dkS A w t m n q tm T nw wm I O R,dkS A w' t' m' n' q' tm' T' nw' wm' I' O' R']) (fun A=> .bool (A.tb fun _=>dkE w t m n q tm T nw wm I O R w' t' m' n' q' tm' T' nw' wm' I' O' R')):=by
 refine aC H9 ar ak Tryz.func11 (.one) fun A hA=> ?_
 cbv
 repeat' (first| (with_reducible first|exact vT|exact vD hA|exact vE hA|refine vA ?_ ?_) | (intro hc;cbv))
 all_goals (subst hA;try simp only [sS,bg,aT,ay hQ.2.1.1.1,ah hQ.2.1.1.1,ay hQ.2.1.1.2,ah hQ.2.1.1.2,ay hQ'.1.1,ah hQ'.1.1,ay hQ'.1.2,ah hQ'.1.2,fK,cD] at*)
 all_goals first
  |exact fun h=>h
  | (intro h;rw [h];rfl)
  |exact fun h=>⟨⟨h,h⟩,⟨trivial,trivial⟩,hQ.1⟩
  |exact fun h=>⟨⟨h,h⟩,⟨⟨trivial,trivial⟩,hQ.2.1⟩,⟨trivial,trivial⟩,hQ'⟩
  |exact fun h=>⟨⟨h,h⟩,⟨trivial,trivial⟩,hQ.2.2.1⟩
  |exact fun h=>⟨h,h⟩
  | (unfold dkE;rw [Bool.eq_iff_iff];simp [and_assoc];done)
def sn (R:List K2):Bool:=R.all (fun k=>decide (k.2.length<=300))&& decide (R.length<=200)
theorem OR{R:List K2}{i:Nat}(hi:i<R.length)(h: ¬(R.getD i K0).2.length<=300):sn R=false:=by
 unfold sn
 rw [Bool.and_eq_false_iff,List.all_eq_false]
 refine .inl ⟨R[i],List.getElem_mem hi, ?_⟩
 rw [List.getD_eq_getElem?_getD,gEE hi] at h
 simpa using h
theorem KM{R:List K2}(h: ∀ j,j<R.length->j<200->(R.getD j K0).2.length<=300):sn R=decide (R.length<=200):=by
 unfold sn
 by_cases hb:R.length<=200
 · rw [List.all_eq_true.2]
   · rfl
   intro x hx
   obtain ⟨j,hj,rfl⟩:=List.getElem_of_mem hx
   have:=h j hj (by omega)
   rw [List.getD_eq_getElem?_getD,gEE hj] at this
   exact decide_eq_true this
 · rw [decide_eq_false hb,Bool.and_false]
noncomputable def so (T:Tbl)(I O:Sl)(R:List K2):Bool:=(tSh T && shW I O)&& sn R
theorem Au(w t m n q tm:Int)(T:Tbl)(nw wm:Int)(I O:Sl)(R:List K2)(hT:T.length<=9223372036854775807)(hTi: ∀ i,(T.getD i []).length<=9223372036854775807)(hI:I.length=64)(hO:O.length=64)(hR:R.length<=9223372036854775807):GFn 7 (fun A=> [dkS A w t m n q tm T nw wm I O R]) (fun A=> .bool (A.tb fun _=>so T I O R)):=by
 refine aC H9 ar ak Tryz.func7 (.one) fun A hA=> ?_
 cbv
 repeat' (first| (with_reducible first|exact vT|exact vD hA|exact vE hA|refine vA ?_ ?_) | (intro hc;cbv))
 refine ⟨⟨{i:Nat // i<=R.length∧i<=200∧ ∀ j,j<i->(R.getD j K0).2.length<=300},fun b i=> [(3, .int .i64 (i.1:Nat))],fun b i=> [],fun i=>R.length - i.1,true⟩,⟨⟨0,by omega,by omega,by simp⟩, ?_⟩, ?_⟩
 · cbv
   subst hA
   simp [-List.getD_eq_getElem?_getD,sS]
 · rintro ⟨i,hx⟩
   have hi:=hx.1
   have hi2:=hx.2.1
   have h0:=hx.2.2
   obtain ⟨e,he⟩: ∃ e,e=R.getD i K0:=⟨_,rfl⟩
   have hg:R.getD i (0, [])=e:=he.symm
   by_cases hlt:i<R.length∧i<200
   · have hno: ¬e.2.length<=300->so T I O R=false:=fun h=>by unfold so;rw [OR hlt.1 (he▸h),Bool.and_false]
     cbv
     repeat' (first| (with_reducible first|exact vT|exact vD hA|exact vE hA|refine vA ?_ ?_) | (intro hc;cbv))
     all_goals first
      | (fail_if_success (refine Exists.intro ?_ ?_)
         clear h0
         subst hA
         simp [-List.getD_eq_getElem?_getD,sS,hg] at*
         first
          |done
          |exact ⟨(show (0:Int)<=((i:Nat):Int) by omega),(show ((i:Nat):Int)<((R.length:Nat):Int) by omega)⟩
          |exact hno (by omega)
          |exact (hno (by omega)).symm
          |omega
          | (exfalso;omega)
)
      | (obtain ⟨i',hi'⟩: ∃ i',i'=i+1:=⟨_,rfl⟩
         have hk:e.2.length<=300:=by
          clear h0
          subst hA
          simp [-List.getD_eq_getElem?_getD,sS,hg] at hc
          omega
         refine ⟨⟨i',by omega,by omega,fun j hj=> ?_⟩, ?_,show R.length - i'<R.length - i by omega⟩
         · rcases Nat.lt_or_ge j i with h|h
           · exact h0 j h
           · obtain rfl:j=i:=by omega
             rw [<-he];exact hk
         · cbv
           subst hA
           simp [-List.getD_eq_getElem?_getD,sS]
           exact cC hi' (by omega))
   · have hans:sn R=decide (R.length<=200):=KM fun j hj hj2=>h0 j (by omega)
     cbv
     repeat' (first| (with_reducible first|exact vT|exact vD hA|exact vE hA|refine vA ?_ ?_) | (intro hc;cbv))
     all_goals first
      | (exfalso;clear h0;subst hA;simp [-List.getD_eq_getElem?_getD,sS,hg] at*;omega)
      | (fail_if_success (refine Exists.intro ?_ ?_)
         clear h0
         subst hA
         simp only [sS,bg,aT,ay hI,ah hI,ay hO,ah hO] at*
         first
          |exact fun h=>h
          | (intro h;rw [h];rfl)
          |exact ⟨trivial,hT,hTi⟩
          |exact fun h=>⟨h,trivial,trivial⟩
          | (unfold so
             rw [hans,show decide ((R.length:Int)<=200)=decide (R.length<=200) from decide_eq_decide.2 (by omega)]
             cases tSh T<;>cases shW I O<;>rfl)
)
end Go.Vd
namespace Go.Vd
open Go.Proofs
noncomputable def E9:Ct:=fun A args=>match args with
 | [.agg [.int .u64 w, .int .i64 t, .int .i64 m, .int .i64 n, .int .i64 q, .int .i64 tm, .slc kk 1 f, .int .u64 nw, .int .i64 wm, .run 64 g, .run 64 g', .slc c 2 h], .agg [.int .i64 v, .int .i64 k, .str pan, .int .u64 am, .int .u32 s, .str r, .str code], .bool room] =>some (some (A.tp fun _=>((ai eEs [] 1 kk f∧(ai eTs [] 1 64 g∧ai eTs [] 1 64 g')∧ai eKy K0 2 c h)∧dkQ (ab eEs [] 1 kk f) nw (ab eTs [] 1 64 g) (ab eTs [] 1 64 g') (ab eKy K0 2 c h))∧evQ ⟨k,pan,am,s,r,code⟩), .tup [dkT A (fun _=>doD ⟨w,t,m,n,q,tm,ab eEs [] 1 kk f,nw,wm,ab eTs [] 1 64 g,ab eTs [] 1 64 g',ab eKy K0 2 c h⟩ v ⟨k,pan,am,s,r,code⟩ room),aF eD D0 6 A (fun _=>doA ⟨w,t,m,n,q,tm,ab eEs [] 1 kk f,nw,wm,ab eTs [] 1 64 g,ab eTs [] 1 64 g',ab eKy K0 2 c h⟩ v ⟨k,pan,am,s,r,code⟩ room),aF eD D0 6 A (fun _=>doI ⟨w,t,m,n,q,tm,ab eEs [] 1 kk f,nw,wm,ab eTs [] 1 64 g,ab eTs [] 1 64 g',ab eKy K0 2 c h⟩ v ⟨k,pan,am,s,r,code⟩ room), .int .i64 (A.ti fun _=>doE ⟨w,t,m,n,q,tm,ab eEs [] 1 kk f,nw,wm,ab eTs [] 1 64 g,ab eTs [] 1 64 g',ab eKy K0 2 c h⟩ v ⟨k,pan,am,s,r,code⟩ room)])
 |_=>none
theorem KN:bV Tryz.prog gl0 13 E9:=⟨⟨_,Tryz.func13,rfl,by decide⟩,fun args p r h hp=>by
 unfold E9 at h
 split at h<;>cases h
 exact aJ (sm _ _ _ _ _ _ _ _ _ _ _ _ _ _ _ _ _ _ _ _ hp.1.2 hp.2) ⟨iU hp.1.1.1 hp.1.1.2.1.1 hp.1.1.2.1.2 hp.1.1.2.2,⟨_,rfl,rfl,rfl,rfl,rfl,rfl,rfl,rfl,trivial⟩,rfl,trivial⟩⟩
noncomputable def sq:Ct:=fun A args=>match args with
 | [.agg [.int .u64 w, .int .i64 t, .int .i64 m, .int .i64 n, .int .i64 q, .int .i64 tm, .slc k 1 f, .int .u64 nw, .int .i64 wm, .run 64 g, .run 64 g', .slc c 2 h], .agg [.int .u64 w2, .int .i64 t2, .int .i64 m2, .int .i64 n2, .int .i64 q2, .int .i64 tm2, .slc k2 1 f2, .int .u64 nw2, .int .i64 wm2, .run 64 g2, .run 64 g2', .slc c2 2 h2]] =>some (some (A.tp fun _=>((ai eEs [] 1 k f∧(ai eTs [] 1 64 g∧ai eTs [] 1 64 g')∧ai eKy K0 2 c h)∧(ai eEs [] 1 k2 f2∧(ai eTs [] 1 64 g2∧ai eTs [] 1 64 g2')∧ai eKy K0 2 c2 h2))∧dkQ (ab eEs [] 1 k f) nw (ab eTs [] 1 64 g) (ab eTs [] 1 64 g') (ab eKy K0 2 c h)∧whQ (ab eTs [] 1 64 g2) (ab eTs [] 1 64 g2')), .bool (A.tb fun _=>dkE w t m n q tm (ab eEs [] 1 k f) nw wm (ab eTs [] 1 64 g) (ab eTs [] 1 64 g') (ab eKy K0 2 c h) w2 t2 m2 n2 q2 tm2 (ab eEs [] 1 k2 f2) nw2 wm2 (ab eTs [] 1 64 g2) (ab eTs [] 1 64 g2') (ab eKy K0 2 c2 h2)))
 |_=>none
theorem BP:bV Tryz.prog gl0 11 sq:=⟨⟨_,Tryz.func11,rfl,by decide⟩,fun args p r h hp=>by
 unfold sq at h
 split at h<;>cases h
 exact aJ (BO _ _ _ _ _ _ _ _ _ _ _ _ _ _ _ _ _ _ _ _ _ _ _ _ hp.2.1 hp.2.2) ⟨iU hp.1.1.1 hp.1.1.2.1.1 hp.1.1.2.1.2 hp.1.1.2.2,iU hp.1.2.1 hp.1.2.2.1.1 hp.1.2.2.1.2 hp.1.2.2.2,trivial⟩⟩
noncomputable def pF:Ct:=fun A args=>match args with
 | [.agg [.int .u64 w, .int .i64 t, .int .i64 m, .int .i64 n, .int .i64 q, .int .i64 tm, .slc k 1 f, .int .u64 nw, .int .i64 wm, .run 64 g, .run 64 g', .slc c 2 h]] =>some (some (A.tp fun _=>(ai eEs [] 1 k f∧(ai eTs [] 1 64 g∧ai eTs [] 1 64 g')∧ai eKy K0 2 c h)∧k<=9223372036854775807∧(∀ i,((ab eEs [] 1 k f).getD i []).length<=9223372036854775807)∧c<=9223372036854775807), .bool (A.tb fun _=>so (ab eEs [] 1 k f) (ab eTs [] 1 64 g) (ab eTs [] 1 64 g') (ab eKy K0 2 c h)))
 |_=>none
theorem Av:bV Tryz.prog gl0 7 pF:=⟨⟨_,Tryz.func7,rfl,by decide⟩,fun args p r h hp=>by
 unfold pF at h
 split at h<;>cases h
 exact aJ (Au _ _ _ _ _ _ _ _ _ _ _ _ (by rw [aN hp.1.1];exact hp.2.1) hp.2.2.1 (aN hp.1.2.1.1) (aN hp.1.2.1.2) (by rw [aN hp.1.2.2];exact hp.2.2.2)) ⟨iU hp.1.1 hp.1.2.1.1 hp.1.2.1.2 hp.1.2.2,trivial⟩⟩
end Go.Vd
namespace Go.Vd
open Go.Proofs
variable {r:List UInt8} {s:Int} {D:Dk}
theorem ll(h:D.ok=true):(dE D.w D.t D.m D.n D.q=true∧D.tm=D.m∧(D.T.length:Int)=D.n∧tbR D.tm D.T=true)∧(D.wm=D.m∧D.nw<=4611686018427387904∧wR D.nw D.wm D.I D.O=true)∧lj (alT D.tm D.T) (bL D.I D.O)=true∧mb (alT D.tm D.T) D.R=true:=by
 unfold Dk.ok dkR gH g9 at h
 simp only [bAE,decide_eq_true_eq] at h
 obtain ⟨h1,⟨h2,h3,h4⟩,⟨h5,h6,h7⟩,h8,h9⟩:=h
 rw [qg h7] at h8
 exact ⟨⟨h1,h2,h3,h4⟩,⟨h5,h6,h7⟩,h8,h9⟩
theorem Rj{m:Int}{T:Tbl}(h:tbR m T=true)(hb:lkB T s r=false):has (alT m T) s r=false:=by
 cases hh:has (alT m T) s r with
 |false=>rfl
 |true=>
  exfalso
  unfold has at hh
  obtain ⟨x,hx,hk⟩:=List.any_eq_true.1 hh
  have hx2:=(Df h).2 x|>.1 hx
  obtain ⟨i,hi,hxi⟩:=si.1 hx2
  have h2:=(kK h hi).2 x hxi
  have hk2:=eF.1 hk
  rw [hk2.1,hk2.2] at h2
  have h3:shi T s r=(i:Int):=h2
  have h4:=(rX (T:=T) (s:=s) (r:=r) (by rw [h3];omega)).2
  rw [hb] at h4
  have h5:has (shl T s r) s r=true:=by
   unfold shl has
   rw [h3]
   exact List.any_eq_true.2 ⟨x,by simpa using hxi,hk⟩
  rw [h5] at h4
  cases h4
theorem su{L:List Ent}(h:has L s r=false):fnd L s r=E0:=by
 unfold has at h
 unfold fnd
 rw [List.find?_eq_none.2]
 · rfl
 intro x hx hk
 rw [List.any_eq_false] at h
 exact h x hx hk
theorem sw(h:D.ok=true)(hb:lkB D.T s r=false):hkT (aR D.I D.O) s r=false:=by
 obtain ⟨⟨_,_,_,hT⟩,⟨_,_,hW⟩,ht,_⟩:=ll h
 cases hh:hkT (aR D.I D.O) s r with
 |false=>rfl
 |true=>
  exfalso
  obtain ⟨x,hx,e1,e2⟩:=qd.1 hh
  have h1:=List.all_eq_true.1 ht x (kJ.2 hx)
  rw [e1,e2,su (Rj hT hb)] at h1
  exact absurd h1 (by decide)
theorem Aw{α:Type}[DecidableEq α] : ∀ {L M:List α},L.Nodup->(∀ x∈L,x∈M)->L.length<=M.length
 | [],_,_,_=>Nat.zero_le _
 |a::L,M,hn,hs=>by
  rw [List.nodup_cons] at hn
  have ha:a∈M:=hs a List.mem_cons_self
  have:=Aw (L:=L) (M:=M.erase a) hn.2 fun x hx=>(List.mem_erase_of_ne (fun (e:x=a)=>hn.1 (by rw [<-e];exact hx))).2 (hs x (List.mem_cons_of_mem _ hx))
  rw [List.length_erase_of_mem ha] at this
  have h2:=List.length_pos_of_mem ha
  simp only [List.length_cons]
  omega
theorem Ia{L:List Tm}(h:cy L):(L.map fun x=>((x.s,x.r):K2)).Nodup:=by
 rw [List.nodup_iff_pairwise_ne,List.pairwise_map]
 refine List.Pairwise.imp (fun {a b} hab e=> ?_) h
 simp only [pIE] at e
 exact hab e
theorem Rk{L:List Ent}(h: ¬(fnd L s r).st=0): ∃ x∈L,x.s=s∧x.r=r:=by
 cases hh:has L s r with
 |false=>rw [su hh] at h;exact absurd rfl h
 |true=>
  unfold has at hh
  obtain ⟨x,hx,hk⟩:=List.any_eq_true.1 hh
  exact ⟨x,hx,eF.1 hk⟩
theorem Rl(h:D.ok=true):(aR D.I D.O).length<=cnt D.T:=by
 obtain ⟨⟨_,_,_,hT⟩,⟨_,_,hW⟩,ht,_⟩:=ll h
 have hu:cy (aR D.I D.O):=(dC.1 hW).2.2.1
 have h1:=Aw (Ia hu) (M:=(alT D.tm D.T).map fun x=>((x.s,x.r):K2)) (fun k hk=>by
  obtain ⟨x,hx,rfl⟩:=List.mem_map.1 hk
  have h2:=List.all_eq_true.1 ht x (kJ.2 hx)
  obtain ⟨y,hy,e1,e2⟩:=Rk (L:=alT D.tm D.T) (s:=x.s) (r:=x.r) (fun e=>by rw [e] at h2;exact absurd h2 (by decide))
  exact List.mem_map.2 ⟨y,hy,by rw [e1,e2]⟩)
 rw [List.length_map,List.length_map,sg hT] at h1
 exact h1
end Go.Vd
namespace Go.Vd
open Go.Proofs
variable {d:Dl}
theorem Ax{w t m n q:Int}(h:dE w t m n q=true):(1<=w∧w<=4000)∧(0<=t∧t<=16)∧(0<=m∧m<=128):=by
 have h1:=of_decide_eq_true h
 exact ⟨h1.1,h1.2.1,h1.2.2.1⟩
theorem OS(s:List UInt8):gS 2 s=s.all okB:=rfl
theorem SR(s:List UInt8):rr 37 s=(decide (s.length=12)&& s.all okB):=by
 have h:eQ FL 37=some (2,12):=rfl
 have e1:dOk 37=true:=by simp [dOk,h]
 have e2:dKd 37=2:=by simp [dKd,h]
 have e3:dSz 37=12:=by simp [dSz,h]
 unfold rr
 rw [e1,e2,e3,OS]
 by_cases h:s.length=12
 · have hne: ¬s= [] :=fun e=>by rw [e] at h;simp at h
   rw [if_pos ⟨rfl,hne,by omega,fun _=>by omega⟩]
   simp [h]
 · rw [if_neg (fun h'=>h (by have:=h'.2.2.1;have:=h'.2.2.2 (by omega);omega))]
   simp [h]
theorem wD(hd:dR d.k d.am d.s d.pan d.r d.code=true)(hk:d.k=1):vR 1 d=true∧d.code= [] ∧eR ⟨d.s,d.r,1,d.pan,d.am, [],0,0⟩=true:=by
 have h1:vR 1 d=true:=by
  unfold vR evO evK dRR
  simp [hk]
  rw [hk] at hd
  exact hd
 rw [hk] at hd
 unfold dR lA at hd
 rw [SR] at hd
 simp at hd
 refine ⟨h1,by simp [hd], ?_⟩
 unfold eR eSt unT dF
 simp [hd]
 intro x hx
 exact hd.2.1.2 x hx
theorem Dj{D:Dk}(h:D.ok=true)(hd:dR d.k d.am d.s d.pan d.r d.code=true)(hk:d.k=1)(hh:lkB D.T d.s d.r=false):
 doW D d=E0∧doH D d=false∧E2 D 1 d=true∧doS D 1 d=⟨⟨d.s,d.r,1,d.pan,d.am, [],0,0⟩, [], [⟨1,d.pan,d.am,d.s,d.r, []⟩],1,false⟩:=by
 obtain ⟨⟨hm,_,_,hT⟩,_,_,_⟩:=ll h
 obtain ⟨hv,hc,he⟩:=wD hd hk
 have hW:doW D d=E0:=by
  unfold doW
  rw [(zq hT).1]
  unfold lkE
  split
  · rfl
  · rename_i hs
    have h2:=(rX hs).2
    rw [hh] at h2
    exact su h2.symm
 have hok:lE E0 1 d D.t=true:=by
  have h3:=(Ax hm).2.1
  unfold lE rF
  rw [hv]
  simp [h3]
 refine ⟨hW, ?_, ?_, ?_⟩
 · unfold doH;rw [(zq hT).2];exact hh
 · unfold E2
   rw [h,hv,hW]
   unfold j3
   rw [if_pos hok]
   rfl
 · unfold doS
   rw [hW]
   unfold stp
   rw [if_pos hok]
   unfold lh jz
   rw [if_pos rfl,if_pos rfl]
theorem Ay: ∀ {L:List Tm} {a b:Tm},cy L->a∈L->b∈L->(a.s=b.s∧a.r=b.r)->a=b
 |x::L,a,b,h,ha,hb,e=>by
  have h2:=List.pairwise_cons.1 h
  rcases List.mem_cons.1 ha with rfl|ha'
  · rcases List.mem_cons.1 hb with rfl|hb'
    · rfl
    · exact absurd e (h2.1 b hb')
  · rcases List.mem_cons.1 hb with rfl|hb'
    · exact absurd ⟨e.1.symm,e.2.symm⟩ (h2.1 a ha')
    · exact Ay h2.2 ha' hb' e
theorem OT{n m u s:Int}{r:List UInt8}{I O:Sl}{L:List Tm}(hR:wR n m I O=true)(hl:bL I O=bP L ⟨s,r,u⟩):pk n m I O s r=true∧ph n m I O s r=u:=by
 have hu:cy (aR I O):=(dC.1 hR).2.2.1
 have hx:(⟨s,r,u⟩:Tm)∈aR I O:=by
  rw [<-kJ,hl]
  exact (eJ _ _).mem_iff.2 List.mem_cons_self
 have hk:hkT (aR I O) s r=true:=qd.2 ⟨_,hx,rfl,rfl⟩
 obtain ⟨t,ht,e1,e2,e3⟩:=uc hk
 have ht2:t=⟨s,r,u⟩:=Ay hu ht hx ⟨e1,e2⟩
 rw [(EK hR s r).2,(EK hR s r).1]
 refine ⟨hk, ?_⟩
 rw [<-e3,ht2]
theorem Dm{D:Dk}{room:Bool}(h:D.ok=true)(hn:0<=D.nw)(hI:D.I.length=64)(hO:D.O.length=64)(hd:dR d.k d.am d.s d.pan d.r d.code=true)(hk:d.k=1)(hh:lkB D.T d.s d.r=false):
 doE D 1 d room=0∧
 ((room=false∨((alT D.tm D.T).length:Int)=D.m)->doI D 1 d room= [] ∧doA D 1 d room= [⟨2, [],0,d.s,d.r, [57,54]⟩] ∧doD D 1 d room=D)∧
 (¬(room=false∨((alT D.tm D.T).length:Int)=D.m)->doA D 1 d room= [] ∧doI D 1 d room= [d] ∧tbR (doD D 1 d room).tm (doD D 1 d room).T=true∧lkE (doD D 1 d room).T d.s d.r=⟨d.s,d.r,1,d.pan,d.am, [],0,0⟩∧lkB (doD D 1 d room).T d.s d.r=true∧
   wR (doD D 1 d room).nw (doD D 1 d room).wm (doD D 1 d room).I (doD D 1 d room).O=true∧bL (doD D 1 d room).I (doD D 1 d room).O=bP (bL D.I D.O) ⟨d.s,d.r,D.nw+D.w⟩):=by
 obtain ⟨hW,hH,hOk,hS⟩:=Dj h hd hk hh
 obtain ⟨⟨hm,htm,_,hT⟩,⟨hwm,hnw,hR⟩,_,_⟩:=ll h
 obtain ⟨_,hc,he⟩:=wD hd hk
 have hb:=Ax hm
 have hlen:=sg hT
 have hcm:=(ji hT).2.1
 have hne: ¬(doS D 1 d).e=doW D d:=by
  rw [hS,hW]
  intro e
  have h9:(1:Int)=0:=congrArg Ent.st e
  exact absurd h9 (by decide)
 have hSe:(doS D 1 d).e=⟨d.s,d.r,1,d.pan,d.am, [],0,0⟩:=by rw [hS]
 have hB:doB D 1 d room=true↔room=false∨((alT D.tm D.T).length:Int)=D.m:=by
  unfold doB
  rw [hH,decide_eq_true hne,hSe,hlen,<-htm]
  by_cases hf:D.tm<=(cnt D.T:Int)
  · rw [(HU hT he hh hf).1]
    have:(cnt D.T:Int)=D.tm:=by omega
    simp [this]
  · rw [(Am hT he hh hf).1]
    have: ¬(cnt D.T:Int)=D.tm:=by omega
    cases room<;>simp [this]
 by_cases hbz:doB D 1 d room=true
 · have hC:doC D 1 d room=1:=by unfold doC;rw [if_pos hOk,if_pos hbz]
   obtain ⟨e1,e2,e3,e4⟩:=Q8 hC
   exact ⟨e4,fun _=>⟨e3,e2,e1⟩,fun hx=>absurd (hB.1 hbz) hx⟩
 · have hC:doC D 1 d room=2:=by unfold doC;rw [if_pos hOk,if_neg hbz]
   obtain ⟨e1,e2,e3,e4⟩:=As hC
   have hx:=fun g=>hbz (hB.2 g)
   refine ⟨e4,fun g=>absurd g hx,fun _=> ?_⟩
   have hf: ¬D.tm<=(cnt D.T:Int):=fun hf=>hx (.inr (by rw [hlen,<-htm];omega))
   obtain ⟨p1,p2,p3,p4,p5,_⟩:=Am hT he hh hf
   have hno:=sw h hh
   have hcan:=po (n:=D.nw) (m:=D.wm) (s:=d.s) (I:=D.I) (O:=D.O) (r:=d.r) (by rw [xb hR hno];decide)
   have hle:=Rl h
   have hs0:dD D.nw D.wm D.I D.O d.s d.r (D.nw+D.w)=0:=EP hR hno (by omega) (by omega) (by rw [hwm,<-htm];omega)
   have hsn:=Ai hI hO hs0 (by omega)
   have hK:gm (doS D 1 d)=false:=by rw [hS];rfl
   have ht1:=xc (w:=D.w) (nw:=D.nw) (wm:=D.wm) (I:=D.I) (O:=D.O) (s:=d.s) (r:=d.r) hK (by rw [hS])
   rw [hcan.1,hcan.2] at ht1
   rw [e1,e2,e3]
   unfold doR
   rw [if_neg hne,hH,if_neg (by decide),ht1.1,ht1.2,hSe]
   refine ⟨by rw [hS], ?_,p2,p4,p5,hsn.1,hsn.2⟩
   rw [hS]
   cases d
   simp at hc hk
   rw [hc,hk]
end Go.Vd
namespace Go.Vd
open Go.Proofs
theorem lF(n:Int):E64=bI n [] ∧E64=bO n [] :=by
 constructor
 · refine ck (by simp [E64]) (bH _ _) fun i hi=> ?_
   rw [cw hi,sl,vf];rfl
 · refine ck (by simp [E64]) (bZ _ _) fun i hi=> ?_
   rw [cH hi,sl,vf];rfl
theorem qo:E64.length=64:=by simp [E64]
theorem xe{n m:Int}(hm:fg m=true):wR n m E64 E64=true:=by
 have h:=Hy (n:=n) ⟨List.Pairwise.nil,List.Pairwise.nil,fun t h=>by simp at h⟩ hm (by have:=sb.1 hm;simp;omega)
 rw [<-(lF n).1,<-(lF n).2] at h
 exact dC.2 h
theorem mN:bL E64 E64= [] :=by
 have h:=CX (n:=0) ⟨List.Pairwise.nil,List.Pairwise.nil,fun t h=>by simp at h⟩
 rw [<-(lF 0).1,<-(lF 0).2] at h
 exact h
def jr:List UInt8:= [82,82,78,48,48,48,48,48,48,48,48,49]
def jt:Tm:=⟨1,jr,10⟩
def je:Ent:=⟨1,jr,1, [49,56],5, [],0,0⟩
def jv (s:Int):Dl:=⟨1, [49,56],5,s,jr, []⟩
def jT:Tbl:=cT 1 [[], []] je
@[irreducible] def jd0:Dk:=⟨10,1,1,2,2,1, [[], []],0,1,E64,E64, []⟩
@[irreducible] def jd1:Dk:=⟨10,1,1,2,2,1,jT,0,1,bI 0 [jt],bO 0 [jt], []⟩
@[irreducible] def jd2:Dk:=⟨10,1,1,2,2,1,jT,10,1,bI 10 [],bO 10 [], []⟩
theorem KO{n:Int}{T:Tbl}{I O:Sl}{L:List Tm}(hT:gH 1 2 1 T=true)(hn:n<=4611686018427387904)(hW:wR n 1 I O=true)(hl:bL I O=L)(ht:lj (alT 1 T) L=true):(⟨10,1,1,2,2,1,T,n,1,I,O, []⟩:Dk).ok=true:=by
 show dkR 10 1 1 2 2 1 T n 1 I O [] =true
 unfold dkR g9
 rw [hT,hW,qg hW,hl,ht,decide_eq_true hn]
 rfl
theorem j_k:fg 1=true:=by decide
theorem j_a:dR (jv 1).k (jv 1).am (jv 1).s (jv 1).pan (jv 1).r (jv 1).code=true∧dR (jv 2).k (jv 2).am (jv 2).s (jv 2).pan (jv 2).r (jv 2).code=true:=by decide+kernel
theorem Az:gH 1 2 1 [[], []] =true∧cG 1 [[], []] je=0∧lkB [[], []] 1 jr=false:=by decide+kernel
theorem AA:gH 1 2 1 jT=true∧lj (alT 1 jT) [jt] =true∧lkB jT 2 jr=false∧(alT 1 jT).length=1:=by decide+kernel
theorem Rm:jd0.ok=true:=by unfold jd0;exact KO Az.1 (by decide) (xe j_k) mN rfl
theorem j_n:nwD 10 1 1 2 2=jd0∧nwC 10 1 1 2 2=0:=by
 have h:dE 10 1 1 2 2=true:=by decide
 have h2:nF 1 2= [[], []] :=by decide
 rw [(KL h).1,h2]
 unfold jd0
 exact ⟨rfl,(KL h).2⟩
theorem Rn:dD 0 1 E64 E64 1 jr 10=0:=EP (xe j_k) (sw (D:=⟨10,1,1,2,2,1, [[], []],0,1,E64,E64, []⟩) (by have:=Rm;unfold jd0 at this;exact this) Az.2.2) (by decide) (by decide) (by
 have h:(bL E64 E64).length=(aR E64 E64).length:=jm _
 rw [<-h,mN];decide)
theorem Fa:gj 0 1 E64 E64 1 jr 10=bI 0 [jt] ∧gk 0 1 E64 E64 1 jr 10=bO 0 [jt] :=by
 obtain ⟨g1,g2⟩:=vo qo qo Rn (by decide)
 rw [mN] at g1 g2
 exact ⟨g1.symm,g2.symm⟩
theorem vy:wR 0 1 (bI 0 [jt]) (bO 0 [jt])=true∧bL (bI 0 [jt]) (bO 0 [jt])= [jt] :=by
 have h:=Ai qo qo Rn (by decide)
 rw [mN,Fa.1,Fa.2] at h
 exact h
theorem Ro:jd1.ok=true:=by unfold jd1;exact KO AA.1 (by decide) vy.1 vy.2 AA.2.1
theorem j_q(n:Int){L:List Tm}(h:L= [] ∨L= [jt]):whQ (bI n L) (bO n L):=EJ (by rcases h with rfl|rfl<;>simp) fun t ht=>by
 rcases h with rfl|rfl
 · simp at ht
 · simp only [List.mem_singleton] at ht;subst ht;exact ⟨by decide,by decide⟩
theorem j_1:doD jd0 1 (jv 1) true=jd1∧doA jd0 1 (jv 1) true= [] ∧doI jd0 1 (jv 1) true= [jv 1] ∧doE jd0 1 (jv 1) true=0:=by
 have hk:=Rm
 unfold jd0 jd1 at*
 obtain ⟨hW,hH,hOk,hS⟩:=Dj hk j_a.1 rfl Az.2.2
 have hne: ¬(doS ⟨10,1,1,2,2,1, [[], []],0,1,E64,E64, []⟩ 1 (jv 1)).e=doW ⟨10,1,1,2,2,1, [[], []],0,1,E64,E64, []⟩ (jv 1):=by
  rw [hS,hW]
  intro e
  have h9:(1:Int)=0:=congrArg Ent.st e
  exact absurd h9 (by decide)
 have hSe:(doS ⟨10,1,1,2,2,1, [[], []],0,1,E64,E64, []⟩ 1 (jv 1)).e=je:=by rw [hS];rfl
 have hB: ¬doB ⟨10,1,1,2,2,1, [[], []],0,1,E64,E64, []⟩ 1 (jv 1) true=true:=by
  unfold doB
  rw [hSe]
  show ¬(_ &&(!true||decide (cG 1 [[], []] je=7)))=true
  rw [Az.2.1]
  simp
 have hC:doC ⟨10,1,1,2,2,1, [[], []],0,1,E64,E64, []⟩ 1 (jv 1) true=2:=by unfold doC;rw [if_pos hOk,if_neg hB]
 obtain ⟨e1,e2,e3,e4⟩:=As hC
 have hno:=sw hk (s:=1) (r:=jr) Az.2.2
 have hcan:=po (n:=0) (m:=1) (s:=1) (I:=E64) (O:=E64) (r:=jr) (by rw [xb (xe j_k) hno];decide)
 have ht1:=xc (w:=10) (nw:=0) (wm:=1) (I:=E64) (O:=E64) (s:=1) (r:=jr) (S:=doS ⟨10,1,1,2,2,1, [[], []],0,1,E64,E64, []⟩ 1 (jv 1)) (by rw [hS];rfl) (by rw [hS])
 rw [hcan.1,hcan.2] at ht1
 have ht2:=ht1.1.trans Fa.1
 have ht3:=ht1.2.trans Fa.2
 refine ⟨?_,by rw [e2,hS],by rw [e3,hS];rfl,e4⟩
 rw [e1]
 unfold doR
 rw [if_neg hne,hH,if_neg (by decide),hSe]
 have hrc: ¬(doS ⟨10,1,1,2,2,1, [[], []],0,1,E64,E64, []⟩ 1 (jv 1)).rc=true:=by rw [hS];decide
 rw [if_neg hrc]
 show (⟨10,1,1,2,2,1,jT,0,1,fO 10 0 1 E64 E64 1 jr _,fP 10 0 1 E64 E64 1 jr _, []⟩:Dk)=_
 rw [ht2,ht3]
theorem j_2:doD jd1 1 (jv 2) true=jd1∧doA jd1 1 (jv 2) true= [⟨2, [],0,2,jr, [57,54]⟩] ∧doI jd1 1 (jv 2) true= [] ∧doE jd1 1 (jv 2) true=0:=by
 have hk:=Ro
 unfold jd1 at*
 obtain ⟨h1,h2,_⟩:=Dm (d:=jv 2) (room:=true) hk (by decide) (bH _ _) (bZ _ _) j_a.2 rfl AA.2.2.1
 obtain ⟨g1,g2,g3⟩:=h2 (.inr (by show ((alT 1 jT).length:Int)=1;rw [AA.2.2.2];rfl))
 exact ⟨g3,g2,g1,h1⟩
theorem j_3:tkD jd1 10=jd2∧tkL jd1 10= [(1,jr)] ∧tkC jd1 10=0:=by
 have hk:=Ro
 unfold jd1 jd2 at*
 have hc:dt 0 1 (bI 0 [jt]) (bO 0 [jt]) 10=0:=ER vy.1 (by decide)
 obtain ⟨g1,g2,g3,g4⟩:=vn hc
 rw [vy.2] at g2 g3 g4
 obtain ⟨e1,e2,e3⟩:=Rg (D:=⟨10,1,1,2,2,1,jT,0,1,bI 0 [jt],bO 0 [jt], []⟩) (k:=10) (by rw [hk];rfl) (by show ¬(4611686018427387904 - 0<(10:Int));decide) (by show (dt 0 1 (bI 0 [jt]) (bO 0 [jt]) 10 !=0)=false;rw [hc];rfl)
 refine ⟨?_, ?_,e3⟩
 · rw [e1]
   show (⟨10,1,1,2,2,1,jT,nQ 0 1 (bI 0 [jt]) (bO 0 [jt]) 10,1,nR 0 1 (bI 0 [jt]) (bO 0 [jt]) 10,nS 0 1 (bI 0 [jt]) (bO 0 [jt]) 10, []⟩:Dk)=_
   rw [g1,g2,g3]
   rfl
 · rw [e2]
   show (lc 0 1 (bI 0 [jt]) (bO 0 [jt]) 10).map _=_
   rw [g4]
   rfl
theorem Fb:wR 10 1 (bI 10 []) (bO 10 [])=true∧bL (bI 10 []) (bO 10 [])= [] :=by
 rw [<-(lF 10).1,<-(lF 10).2]
 exact ⟨xe j_k,mN⟩
theorem SS:jd2.ok=true:=by unfold jd2;exact KO AA.1 (by decide) Fb.1 Fb.2 rfl
@[irreducible] def jA (s:Int):List Dl:=if s=1 then [] else [⟨2, [],0,2,jr, [57,54]⟩]
@[irreducible] def jI (s:Int):List Dl:=if s=1 then [jv 1] else []
@[irreducible] def jL:List K2:= [(1,jr)]
def jP (D:Dk)(v:Int)(d:Dl)(room:Bool):Prop:=(v=1∧room=true)∧((d=jv 1∧D=jd0)∨(d=jv 2∧D=jd1))
theorem Rp:dkQ jd0.T jd0.nw jd0.I jd0.O jd0.R:=by
 unfold jd0
 refine ⟨⟨by decide,fun i=> ?_,fun i j=> ?_⟩, ?_,by decide,by decide,by decide⟩
 · show ([[], []].getD i ([] :List Ent)).length<=1000000
   match i with
   |0|1=>decide
   |i+2=>exact Nat.zero_le _
 · show enQ (([[], []].getD i ([] :List Ent)).getD j E0)
   match i with
   |0|1=>exact kt
   |i+2=>exact kt
 · have h:=j_q 0 (L:= []) (.inl rfl)
   rw [<-(lF 0).1,<-(lF 0).2] at h
   exact h
theorem j_T:jT= [[], [je]] ∨jT= [[je], []] :=by decide+kernel
theorem Rq:tbQ jT:=by
 have he:enQ je:=⟨by decide,by decide,by decide,by decide⟩
 rcases j_T with h|h<;>rw [h]
 all_goals
  refine ⟨by decide,fun i=> ?_,fun i j=> ?_⟩
  · match i with
    |0|1=>decide
    |i+2=>exact Nat.zero_le _
  · match i,j with
    |0,0|1,0=>first|exact he|exact kt
    |0,j+1|1,j+1=>exact kt
    |i+2,j=>exact kt
theorem AB:dkQ jd1.T jd1.nw jd1.I jd1.O jd1.R:=by
 unfold jd1
 exact ⟨Rq,j_q 0 (.inr rfl),by decide,by decide,by decide⟩
theorem AC:dkQ jd2.T jd2.nw jd2.I jd2.O jd2.R:=by
 unfold jd2
 exact ⟨Rq,j_q 10 (.inl rfl),by decide,by decide,by decide⟩
theorem j_e(s:Int)(h:0<=s∧s<4294967296):evQ (jv s):=⟨h,by show jr.length<=1000000;decide,by show ([49,56] :List UInt8).length<=100000;decide,Nat.zero_le _⟩
theorem KP{D E:Dk}(h:D=E)(hq:dkQ E.T E.nw E.I E.O E.R):dkQ D.T D.nw D.I D.O D.R:=by rw [h];exact hq
theorem So:cS Tryz.prog gl0 9 [.agg [.int .u64 10, .int .i64 1, .int .i64 1, .int .i64 2, .int .i64 2]] (.tup [dkT std (fun _=>jd0), .int .i64 0]):=by
 have g:=H7 10 1 1 2 2
 rw [j_n.1,j_n.2] at g
 exact g
theorem ST(w t m n q tm:Int)(T:Tbl)(nw wm:Int)(I O:Sl)(R:List K2)(v k am s:Int)(pan r code:List UInt8)(room:Bool)(h:jP ⟨w,t,m,n,q,tm,T,nw,wm,I,O,R⟩ v ⟨k,pan,am,s,r,code⟩ room):
 cS Tryz.prog gl0 13 [dkS std w t m n q tm T nw wm I O R, .agg [.int .i64 v, .int .i64 k, .str pan, .int .u64 am, .int .u32 s, .str r, .str code], .bool room] (.tup [dkT std (fun _=>jd1),aF eD D0 6 std (fun _=>jA s),aF eD D0 6 std (fun _=>jI s), .int .i64 0]):=by
 obtain ⟨⟨rfl,rfl⟩,⟨h1,h2⟩ | ⟨h1,h2⟩⟩:=h
 · have hq:dkQ T nw I O R:=KP h2 Rp
   have he:evQ ⟨k,pan,am,s,r,code⟩:=by rw [h1];exact j_e 1 (by decide)
   have g:=sm w t m n q tm T nw wm I O R 1 k am s pan r code true hq he
   rw [h1,h2,j_1.1,j_1.2.1,j_1.2.2.1,j_1.2.2.2] at g
   obtain rfl:s=1:=congrArg Dl.s h1
   unfold jA jI
   exact g
 · have hq:dkQ T nw I O R:=KP h2 AB
   have he:evQ ⟨k,pan,am,s,r,code⟩:=by rw [h1];exact j_e 2 (by decide)
   have g:=sm w t m n q tm T nw wm I O R 1 k am s pan r code true hq he
   rw [h1,h2,j_2.1,j_2.2.1,j_2.2.2.1,j_2.2.2.2] at g
   obtain rfl:s=2:=congrArg Dl.s h1
   unfold jA jI
   exact g
theorem Rr(w t m n q tm:Int)(T:Tbl)(nw wm:Int)(I O:Sl)(R:List K2)(h:(⟨w,t,m,n,q,tm,T,nw,wm,I,O,R⟩:Dk)=jd1):
 cS Tryz.prog gl0 16 [dkS std w t m n q tm T nw wm I O R, .int .u64 10] (.tup [dkT std (fun _=>jd2),aF eKy K0 2 std (fun _=>jL), .int .i64 0]):=by
 have g:=E4 w t m n q tm T nw wm I O R 10 (KP h AB) (by decide)
 rw [h,j_3.1,j_3.2.1,j_3.2.2] at g
 unfold jL
 exact g
noncomputable def AD:Ct:=fun A args=>match args with
 | [.agg [.int .u64 10, .int .i64 1, .int .i64 1, .int .i64 2, .int .i64 2]] =>some (none, .tup [dkT A (fun _=>jd0), .int .i64 0])
 |_=>none
theorem Ib:bV Tryz.prog gl0 9 AD:=⟨⟨_,Tryz.func9,rfl,by decide⟩,fun args p r h hp=>by
 unfold AD at h
 split at h<;>cases h
 exact So⟩
noncomputable def Fc:Ct:=fun A args=>match args with
 | [.agg [.int .u64 w, .int .i64 t, .int .i64 m, .int .i64 n, .int .i64 q, .int .i64 tm, .slc kk 1 f, .int .u64 nw, .int .i64 wm, .run 64 g, .run 64 g', .slc c 2 h], .agg [.int .i64 v, .int .i64 k, .str pan, .int .u64 am, .int .u32 s, .str r, .str code], .bool room] =>some (some (A.tp fun _=>(ai eEs [] 1 kk f∧(ai eTs [] 1 64 g∧ai eTs [] 1 64 g')∧ai eKy K0 2 c h)∧jP ⟨w,t,m,n,q,tm,ab eEs [] 1 kk f,nw,wm,ab eTs [] 1 64 g,ab eTs [] 1 64 g',ab eKy K0 2 c h⟩ v ⟨k,pan,am,s,r,code⟩ room), .tup [dkT A (fun _=>jd1),aF eD D0 6 A (fun _=>jA s),aF eD D0 6 A (fun _=>jI s), .int .i64 0])
 |_=>none
theorem KQ:bV Tryz.prog gl0 13 Fc:=⟨⟨_,Tryz.func13,rfl,by decide⟩,fun args p r h hp=>by
 unfold Fc at h
 split at h<;>cases h
 exact aJ (ST _ _ _ _ _ _ _ _ _ _ _ _ _ _ _ _ _ _ _ _ hp.2) ⟨iU hp.1.1 hp.1.2.1.1 hp.1.2.1.2 hp.1.2.2,⟨_,rfl,rfl,rfl,rfl,rfl,rfl,rfl,rfl,trivial⟩,rfl,trivial⟩⟩
noncomputable def vz:Ct:=fun A args=>match args with
 | [.agg [.int .u64 w, .int .i64 t, .int .i64 m, .int .i64 n, .int .i64 q, .int .i64 tm, .slc kk 1 f, .int .u64 nw, .int .i64 wm, .run 64 g, .run 64 g', .slc c 2 h], .int .u64 10] =>some (some (A.tp fun _=>(ai eEs [] 1 kk f∧(ai eTs [] 1 64 g∧ai eTs [] 1 64 g')∧ai eKy K0 2 c h)∧(⟨w,t,m,n,q,tm,ab eEs [] 1 kk f,nw,wm,ab eTs [] 1 64 g,ab eTs [] 1 64 g',ab eKy K0 2 c h⟩:Dk)=jd1), .tup [dkT A (fun _=>jd2),aF eKy K0 2 A (fun _=>jL), .int .i64 0])
 |_=>none
theorem Fd:bV Tryz.prog gl0 16 vz:=⟨⟨_,Tryz.func16,rfl,by decide⟩,fun args p r h hp=>by
 unfold vz at h
 split at h<;>cases h
 exact aJ (Rr _ _ _ _ _ _ _ _ _ _ _ _ hp.2) ⟨iU hp.1.1 hp.1.2.1.1 hp.1.2.1.2 hp.1.2.2,rfl,trivial⟩⟩
noncomputable def gjo:Ar->Pu:=aq 9 AD (aq 13 Fc (aq 16 vz (aq 19 lk (aq 18 pu (aq 28 jN (noC))))))
theorem Rs:az Tryz.prog gl0 (gjo std):=by
 refine aD (aD (aD (aD (aD (aD (aP) pB) px) jQ) Fd) KQ) Ib
attribute [local irreducible] jP
theorem j_l:((jd0.I.length=64∧jd0.O.length=64)∧(jd1.I.length=64∧jd1.O.length=64))∧(jd2.I.length=64∧jd2.O.length=64):=⟨⟨Rp.2.1.1,AB.2.1.1⟩,AC.2.1.1⟩
theorem SU:jI 1= [jv 1] :=by unfold jI;rfl
theorem SW:jA 1= [] :=by unfold jA;rfl
theorem SX:jA 2= [⟨2, [],0,2,jr, [57,54]⟩] :=by unfold jA;rfl
theorem SY:jL= [(1,jr)] :=by unfold jL;rfl
theorem SZ:jP jd0 1 ⟨1, [49,56],5,1, [82,82,78,48,48,48,48,48,48,48,48,49], []⟩ true:=by unfold jP;exact ⟨⟨rfl,rfl⟩, .inl ⟨rfl,rfl⟩⟩
theorem S1:jP jd1 1 ⟨1, [49,56],5,2, [82,82,78,48,48,48,48,48,48,48,48,49], []⟩ true:=by unfold jP;exact ⟨⟨rfl,rfl⟩, .inr ⟨rfl,rfl⟩⟩
theorem Sq:k9 jd1.nw jd1.wm jd1.I jd1.O= [jt] :=by unfold jd1;exact (qg vy.1).trans vy.2
theorem Sr:k9 jd2.nw jd2.wm jd2.I jd2.O= [] :=by unfold jd2;exact (qg Fb.1).trans Fb.2
theorem S5:dE jd2.w jd2.t jd2.m jd2.n jd2.q=true:=by unfold jd2;decide
theorem S6:dkR jd2.w jd2.t jd2.m jd2.n jd2.q jd2.tm jd2.T jd2.nw jd2.wm jd2.I jd2.O jd2.R=true:=SS
theorem tn1:Int.toNat 1=1:=rfl
attribute [local irreducible] vc
theorem BQ:GFn 6 (fun A=> []) (fun A=> .bool true):=by
 refine aC Rs ar ak Tryz.func6 (.one) fun A hA=> ?_
 refine mJ rfl rfl ?_
 refine dJ fun H hH=> ?_
 cbv
 repeat' (first| (with_reducible first|exact vT|exact vD hA|exact vE hA|refine vA ?_ ?_) | (intro hc;cbv))
 iterate 7
  all_goals first
   | (subst hH;refine dJ fun H hH=> ?_;cbv;repeat' (first| (with_reducible first|exact vT|exact vD hA|exact vE hA|refine vA ?_ ?_) | (intro hc;cbv)))
   |skip
 all_goals first
  | (subst hH;refine dJ fun H hH=> ?_;refine qZ 20 fun H2 hH2=> ?_;cbv;repeat' (first| (with_reducible first|exact vT|exact vD hA|exact vE hA|refine vA ?_ ?_) | (intro hc;cbv)))
  |skip
 iterate 3
  all_goals first
   | (subst hH2;refine KK 20 fun H2 hH2=> ?_;cbv;repeat' (first| (with_reducible first|exact vT|exact vD hA|exact vE hA|refine vA ?_ ?_) | (intro hc;cbv)))
   |skip
 all_goals first
  | (subst hH2;cbv;repeat' (first| (with_reducible first|exact vT|exact vD hA|exact vE hA|refine vA ?_ ?_) | (intro hc;cbv)))
  |skip
 all_goals first
  | (subst hH;cbv;repeat' (first| (with_reducible first|exact vT|exact vD hA|exact vE hA|refine vA ?_ ?_) | (intro hc;cbv)))
  |skip
 all_goals (subst hA;simp only [sS,bg,aT,fK,cD,ay j_l.1.1.1,ah j_l.1.1.1,ay j_l.1.1.2,ah j_l.1.1.2,ay j_l.1.2.1,ah j_l.1.2.1,ay j_l.1.2.2,ah j_l.1.2.2,ay j_l.2.1,ah j_l.2.1,ay j_l.2.2,ah j_l.2.2,SU,SW,SX,SY,Sq,Sr,S5,S6,tn1] at*)
 all_goals first
  |done
  |decide
  |exact ⟨⟨trivial,⟨trivial,trivial⟩,trivial⟩,SZ⟩
  |exact ⟨⟨trivial,⟨trivial,trivial⟩,trivial⟩,S1⟩
  |exact ⟨⟨trivial,⟨trivial,trivial⟩,trivial⟩,rfl⟩
  |exact fun h=>⟨h,⟨⟨trivial,trivial⟩,AB.2.1⟩,AB.2.2.2.1⟩
  |exact fun h=>⟨h,⟨⟨trivial,trivial⟩,AC.2.1⟩,AC.2.2.2.1⟩
  |exact fun h=>⟨h,⟨trivial,⟨trivial,trivial⟩,trivial⟩,AC⟩
  |exact ⟨⟨trivial,⟨trivial,trivial⟩,trivial⟩,AC⟩
noncomputable def sA:Ct:=fun A args=>match args with
 | [] =>some (none, .bool true)
 |_=>none
theorem BR:bV Tryz.prog gl0 6 sA:=⟨⟨_,Tryz.func6,rfl,by decide⟩,fun args p r h hp=>by
 unfold sA at h
 split at h<;>cases h
 exact BQ⟩
end Go.Vd
