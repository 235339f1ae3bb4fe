/- Desks, mathematics: what an event makes of one. -/
import Derived.Test.YtckmnmcnelfkjaaGreatDoorVdJC
import Derived.Test.YtckmnmcnelfkjaaGreatDoorVdSeat
set_option linter.unusedVariables false
set_option linter.unusedSimpArgs false
set_option maxRecDepth 100000
set_option maxHeartbeats 8000000
namespace Go.Vd
open Go.Proofs
structure Dk where
 w:Int
 t:Int
 m:Int
 n:Int
 q:Int
 tm:Int
 T:Tbl
 nw:Int
 wm:Int
 I:Sl
 O:Sl
 R:List K2
def dkT (A:Ar)(D:Unit->Dk):SV:= .agg [.int .u64 (A.ti fun _=>(D ()).w), .int .i64 (A.ti fun _=>(D ()).t), .int .i64 (A.ti fun _=>(D ()).m), .int .i64 (A.ti fun _=>(D ()).n), .int .i64 (A.ti fun _=>(D ()).q), .int .i64 (A.ti fun _=>(D ()).tm),av eEs [] 1 A (fun _=>(D ()).T), .int .u64 (A.ti fun _=>(D ()).nw), .int .i64 (A.ti fun _=>(D ()).wm), .run 64 (aC eTs [] A fun _=>(D ()).I), .run 64 (aC eTs [] A fun _=>(D ()).O),av eKy K0 2 A fun _=>(D ()).R]
noncomputable def Dk.ok (D:Dk):Bool:=dkR D.w D.t D.m D.n D.q D.tm D.T D.nw D.wm D.I D.O D.R
noncomputable def doW (D:Dk)(d:Dl):Ent:=fT D.tm D.T d.s d.r
noncomputable def doH (D:Dk)(d:Dl):Bool:=ib D.tm D.T d.s d.r
noncomputable def doS (D:Dk)(v:Int)(d:Dl):Stp:=stp (doW D d) v d D.t
noncomputable def E4 (D:Dk)(v:Int)(d:Dl):Bool:=D.ok &&(vR v d && decide (jp (doW D d) v d D.t=0))
noncomputable def doB (D:Dk)(v:Int)(d:Dl)(room:Bool):Bool:=(!doH D d && decide (¬(doS D v d).e=doW D d))&&(!room||decide (cG D.tm D.T (doS D v d).e=7))
noncomputable def doC (D:Dk)(v:Int)(d:Dl)(room:Bool):Nat:=if E4 D v d=true then (if doB D v d room=true then 1 else 2) else 0
noncomputable def doD (D:Dk)(v:Int)(d:Dl)(room:Bool):Dk:=if doC D v d room=2 then
 ⟨D.w,D.t,D.m,D.n,D.q,D.tm,if (doS D v d).e=doW D d then D.T else if doH D d=true then j6 D.tm D.T (doW D d).st (doS D v d).e else cN D.tm D.T (doS D v d).e,D.nw,D.wm,
   fH D.w D.nw D.wm D.I D.O d.s d.r (doS D v d),fI D.w D.nw D.wm D.I D.O d.s d.r (doS D v d),if (doS D v d).rc=true then D.R++ [(d.s,d.r)] else D.R⟩ else D
noncomputable def doA (D:Dk)(v:Int)(d:Dl)(room:Bool):List Dl:=if doC D v d room=2 then (doS D v d).a else if doC D v d room=1 then [⟨2, [],0,d.s,d.r, [57,54]⟩] else []
noncomputable def doI (D:Dk)(v:Int)(d:Dl)(room:Bool):List Dl:=if doC D v d room=2 then (doS D v d).i else []
noncomputable def doE (D:Dk)(v:Int)(d:Dl)(room:Bool):Int:=if doC D v d room=0 then 1 else 0
theorem Q6{D:Dk}{v:Int}{d:Dl}{room:Bool}(h:doC D v d room=0):doD D v d room=D∧doA D v d room= [] ∧doI D v d room= [] ∧doE D v d room=1:=by
 unfold doD doA doI doE
 rw [h]
 exact ⟨rfl,rfl,rfl,rfl⟩
theorem Q7{D:Dk}{v:Int}{d:Dl}{room:Bool}(h:doC D v d room=1):doD D v d room=D∧doA D v d room= [⟨2, [],0,d.s,d.r, [57,54]⟩] ∧doI D v d room= [] ∧doE D v d room=0:=by
 unfold doD doA doI doE
 rw [h]
 exact ⟨rfl,rfl,rfl,rfl⟩
noncomputable def doR (D:Dk)(d:Dl)(S:Stp)(T:Tbl)(R:List K2):Dk:=⟨D.w,D.t,D.m,D.n,D.q,D.tm,T,D.nw,D.wm,fH D.w D.nw D.wm D.I D.O d.s d.r S,fI D.w D.nw D.wm D.I D.O d.s d.r S,R⟩
theorem Av{D:Dk}{v:Int}{d:Dl}{room:Bool}(h:doC D v d room=2):doD D v d room=doR D d (doS D v d) (if (doS D v d).e=doW D d then D.T else if doH D d=true then j6 D.tm D.T (doW D d).st (doS D v d).e else cN D.tm D.T (doS D v d).e) (if (doS D v d).rc=true then D.R++ [(d.s,d.r)] else D.R)∧doA D v d room=(doS D v d).a∧doI D v d room=(doS D v d).i∧doE D v d room=0:=by
 unfold doD doA doI doE doR
 rw [h]
 exact ⟨rfl,rfl,rfl,rfl⟩
section
variable {D:Dk} {v:Int} {d:Dl} {room:Bool} {W:Ent} {hb:Bool} {S:Stp} {E:Int} (hW:W=doW D d) (hhb:hb=doH D d) (hS:S=stp W v d D.t) (hE:E=jp W v d D.t)
include hW hhb hS hE
theorem mS:doC D v d room=(bif D.ok &&(vR v d && !(E !=0)) then (bif (!hb && !decide (S.e=W))&&(!room|| (cG D.tm D.T S.e==7)) then 1 else 2) else 0):=by
 subst hE hS hhb hW
 unfold doC E4 doB
 cases D.ok<;>cases vR v d
 · rfl
 · rfl
 · rfl
 · by_cases h:jp (doW D d) v d D.t=0
   · simp only [h,Bool.true_and,decide_true,if_true]
     show (if (!doH D d && decide (¬(doS D v d).e=doW D d)&&(!room||decide (cG D.tm D.T (doS D v d).e=7)))=true then 1 else 2)=_
     have e1:stp (doW D d) v d D.t=doS D v d:=rfl
     have e2:decide (cG D.tm D.T (doS D v d).e=7)=(cG D.tm D.T (doS D v d).e==7):=by rw [Bool.eq_iff_iff];simp
     have e3:decide (¬(doS D v d).e=doW D d)= !decide ((doS D v d).e=doW D d):=by simp
     rw [e1,e2,e3]
     generalize (cG D.tm D.T (doS D v d).e==7)=z
     generalize decide ((doS D v d).e=doW D d)=y
     cases doH D d<;>cases room<;>cases z<;>cases y<;>rfl
   · have h':(jp (doW D d) v d D.t !=0)=true:=by simpa using h
     rw [h']
     simp [h]
theorem Mc{bO:Bool}(hO:bO=D.ok)(h:(bif !bO then true else !vR v d)=true):doD D v d room=D∧doA D v d room= [] ∧doI D v d room= [] ∧doE D v d room=1:=Q6 (by
 rw [hO] at h
 rw [mS hW hhb hS hE]
 revert h
 cases D.ok<;>cases vR v d<;>simp)
theorem H1(h:(E !=0)=true):doD D v d room=D∧doA D v d room= [] ∧doI D v d room= [] ∧doE D v d room=E:=by
 have h1:doC D v d room=0:=by
  rw [mS hW hhb hS hE,h]
  cases D.ok<;>cases vR v d<;>rfl
 have h2:=Q6 h1
 refine ⟨h2.1,h2.2.1,h2.2.2.1,h2.2.2.2.trans ?_⟩
 rw [hE] at h ⊢
 unfold jp at h ⊢
 split at h
 · cases h
 · rename_i h3;rw [if_neg h3]
theorem Sj{bO:Bool}(hO:bO=D.ok)(h:(bif !bO then true else !vR v d)=false)(h2:(E !=0)=false)(h3:(bif !hb then !decide (S.e=W) else false)=true)(h4:(bif !room then true else cG D.tm D.T S.e==7)=true):doD D v d room=D∧doA D v d room= [⟨2, [],0,d.s,d.r, [57,54]⟩] ∧doI D v d room= [] ∧doE D v d room=0:=Q7 (by
 rw [hO] at h
 rw [mS hW hhb hS hE,h2]
 revert h h3 h4
 cases D.ok<;>cases vR v d<;>cases hb<;>cases decide (S.e=W)<;>cases room<;>cases (cG D.tm D.T S.e==7)<;>simp)
theorem Q8{bO:Bool}(hO:bO=D.ok)(h:(bif !bO then true else !vR v d)=false)(h2:(E !=0)=false)(h3:(bif !hb then !decide (S.e=W) else false)=true)(h4:(bif !room then true else cG D.tm D.T S.e==7)=false):doD D v d room=doR D d S (cN D.tm D.T S.e) (if S.rc=true then D.R++ [(d.s,d.r)] else D.R)∧doA D v d room=S.a∧doI D v d room=S.i∧doE D v d room=0:=by
 rw [hO] at h
 have h5:doC D v d room=2:=by
  rw [mS hW hhb hS hE,h2]
  revert h h3 h4
  cases D.ok<;>cases vR v d<;>cases hb<;>cases decide (S.e=W)<;>cases room<;>cases (cG D.tm D.T S.e==7)<;>simp
 have h6:=Av h5
 have h7:doS D v d=S:=by rw [hS,hW];rfl
 have h8:hb=false∧ ¬S.e=W:=by
  revert h3
  cases hb<;>by_cases h9:S.e=W<;>simp [h9]
 rw [h7,<-hW,<-hhb,if_neg h8.2,h8.1] at h6
 exact h6
theorem H3{bO:Bool}(hO:bO=D.ok)(h:(bif !bO then true else !vR v d)=false)(h2:(E !=0)=false)(h3:(bif !hb then !decide (S.e=W) else false)=false)(h4:(bif hb then !decide (S.e=W) else false)=true):doD D v d room=doR D d S (j6 D.tm D.T W.st S.e) (if S.rc=true then D.R++ [(d.s,d.r)] else D.R)∧doA D v d room=S.a∧doI D v d room=S.i∧doE D v d room=0:=by
 rw [hO] at h
 have h5:doC D v d room=2:=by
  rw [mS hW hhb hS hE,h2]
  revert h h3 h4
  cases D.ok<;>cases vR v d<;>cases hb<;>cases decide (S.e=W)<;>simp
 have h6:=Av h5
 have h7:doS D v d=S:=by rw [hS,hW];rfl
 have h8:hb=true∧ ¬S.e=W:=by
  revert h4
  cases hb<;>by_cases h9:S.e=W<;>simp [h9]
 rw [h7,<-hW,<-hhb,if_neg h8.2,h8.1] at h6
 exact h6
theorem Q9{bO:Bool}(hO:bO=D.ok)(h:(bif !bO then true else !vR v d)=false)(h2:(E !=0)=false)(h3:(bif !hb then !decide (S.e=W) else false)=false)(h4:(bif hb then !decide (S.e=W) else false)=false):doD D v d room=doR D d S D.T (if S.rc=true then D.R++ [(d.s,d.r)] else D.R)∧doA D v d room=S.a∧doI D v d room=S.i∧doE D v d room=0:=by
 rw [hO] at h
 have h5:doC D v d room=2:=by
  rw [mS hW hhb hS hE,h2]
  revert h h3 h4
  cases D.ok<;>cases vR v d<;>cases hb<;>cases decide (S.e=W)<;>simp
 have h6:=Av h5
 have h7:doS D v d=S:=by rw [hS,hW];rfl
 have h8:S.e=W:=by
  revert h3 h4
  cases hb<;>by_cases h9:S.e=W<;>simp [h9]
 rw [h7,<-hW,<-hhb,if_pos h8] at h6
 exact h6
end
theorem Ra{e:Ent}{v:Int}{d:Dl}{n:Int}(h:(stp e v d n).rc=true):e.st=4∧(stp e v d n).e= { e with st:=6 } ∧(stp e v d n).a= [] ∧(stp e v d n).i= [] ∧(stp e v d n).t=0:=by
 revert h
 unfold stp lr jD n9 iV lq oa S0
 repeat' split
 all_goals first
  | (intro h;exact (Bool.false_ne_true h).elim)
  | (intro _;refine ⟨?_,rfl,rfl,rfl,rfl⟩;assumption)
theorem OP{m:Int}{T:Tbl}{s:Int}{r:List UInt8}(h:(fT m T s r).st=4):ib m T s r=true:=by
 unfold fT lkE at h
 unfold ib lkB
 split at h
 · split at h
   · exact absurd h (by decide)
   · rename_i h1 h2
     rw [if_pos h1,if_neg h2]
     unfold fnd at h
     unfold has
     rw [List.any_eq_true]
     cases hf:(shl T s r).find? (kE s r) with
     |none=>rw [hf] at h;exact absurd h (by decide)
     |some x=>exact ⟨x,List.mem_of_find?_eq_some hf,List.find?_some hf⟩
 · exact absurd h (by decide)
theorem qv(a b:Ent):(a.s==b.s &&(a.r==b.r &&(a.st==b.st &&(a.pan==b.pan &&(a.am==b.am &&(a.code==b.code &&(a.tr==b.tr &&(a.ca==b.ca && true))))))))=decide (a=b):=by
 rw [Bool.eq_iff_iff]
 cases a
 cases b
 simp
theorem E5{w t m n q tm:Int}{T:Tbl}{nw wm:Int}{I O:Sl}{R:List K2}(h:dkR w t m n q tm T nw wm I O R=true):(1<=w∧w<=4000)∧nw<=4611686018427387904:=by
 unfold dkR dA gM at h
 simp only [bAE,decide_eq_true_eq] at h
 exact ⟨h.1.1,h.2.2.1.2.1⟩
theorem Sk{a b:Bool}(h:(bif !a then true else !b)=false):a=true∧b=true:=by revert h;cases a<;>cases b<;>simp
end Go.Vd
namespace Go.Vd
theorem mU{A:Ar}{T:Tys}{G:Pu}{X:Xt}{I:Nat->Option Func}{how:How}{fn:Func}{args:List SV}{R:SV}{c:Code}(hb:fn.body=some c)(h1:(kL args && Nat.ble (len args) fn.ntmps)=true)(h:vc A T G X (inl A T G X I 12) .run c (xb fn args) { nrm:=iY A T fn how R,ret:=iY A T fn how R,ext:=fun _ _=>False,gto:=fun _ _=>False,lbl:=fun _=>False }):xn A T G X I how fn args R:=by
 unfold xn
 rw [hb]
 simp only [h1,cond_true]
 exact h
theorem dO{A:Ar}{T:Tys}{G:Pu}{X:Xt}{C:Cl}{a b:Code}{s:St}{K:Ks}(h: ∀ H:St->(St->Prop)->Prop,(H=fun s f=>f s)->vc A T G X C .run a s { K with nrm:=fun s'=>H s' fun s=>vc A T G X C .run b s K }):vc A T G X C .run (.seq a b) s K:=by
 rw [vc]
 exact h _ rfl
theorem pM{A:Ar}{T:Tys}{G:Pu}{X:Xt}{C:Cl}{all b:List Oper}{K:St->Prop} : ∀(a:List Oper) (s:St),cX A T G X C all (a++b) s K=cX A T G X C all a s fun s'=>cX A T G X C all b s' K
 | [],s=>by rw [cX];rfl
 |o::l,s=>by
  rw [List.cons_append,cX,cX]
  simp only [pM l]
theorem rh{A:Ar}{T:Tys}{G:Pu}{X:Xt}{C:Cl}{ops:Array Oper}{p:_}{s:St}{K:Ks}(n:Nat)(h: ∀ H:St->(St->Prop)->Prop,(H=fun s f=>f s)->cX A T G X C ops.toList (ops.toList.take n) s fun s'=>H s' fun s=>cX A T G X C ops.toList (ops.toList.drop n) s K.nrm):vc A T G X C .run (.region p ops false) s K:=by
 rw [vc]
 have h1:=h _ rfl
 rw [<-pM,List.take_append_drop] at h1
 exact h1
theorem KK{A:Ar}{T:Tys}{G:Pu}{X:Xt}{C:Cl}{all l:List Oper}{s:St}{K:St->Prop}(n:Nat)(h: ∀ H:St->(St->Prop)->Prop,(H=fun s f=>f s)->cX A T G X C all (l.take n) s fun s'=>H s' fun s=>cX A T G X C all (l.drop n) s K):cX A T G X C all l s K:=by
 have h1:=h _ rfl
 rw [<-pM,List.take_append_drop] at h1
 exact h1
end Go.Vd
set_option maxHeartbeats 40000000
namespace Go.Vd
open Go.Proofs
noncomputable def lw:Ct:=fun A args=>match args with
 | [.agg [.int .u64 w, .int .i64 t, .int .i64 m, .int .i64 n, .int .i64 q, .int .i64 tm, .slc k 1 f, .int .u64 nw, .int .i64 wm, .run 64 g, .run 64 g', .slc c 2 h]] =>some (some (A.tp fun _=>(ao eEs [] 1 k f∧(ao eTs [] 1 64 g∧ao eTs [] 1 64 g')∧ao eKy K0 2 c h)∧dkQ (ab eEs [] 1 k f) nw (ab eTs [] 1 64 g) (ab eTs [] 1 64 g') (ab eKy K0 2 c h)), .bool (A.tb fun _=>dkR w t m n q tm (ab eEs [] 1 k f) nw wm (ab eTs [] 1 64 g) (ab eTs [] 1 64 g') (ab eKy K0 2 c h)))
 |_=>none
theorem jU:bY Tryz.prog gl0 19 lw:=⟨⟨_,Tryz.func19,rfl,by decide⟩,fun args p r h hp=>by
 unfold lw at h
 split at h<;>cases h
 exact aM (HZ _ _ _ _ _ _ _ _ _ _ _ _ hp.2) ⟨iW hp.1.1 hp.1.2.1.1 hp.1.2.1.2 hp.1.2.2,trivial⟩⟩
noncomputable def su:Ct:=fun A args=>match args with
 | [.agg [.int .u64 w, .int .i64 t, .int .i64 m, .int .i64 n, .int .i64 q, .int .i64 tm, .slc k 1 f, .int .u64 nw, .int .i64 wm, .run 64 g, .run 64 g', .slc c 2 h], .agg [.int .u32 s, .str r], .agg [.int .u32 es, .str er, .int .i64 st, .str pan, .int .u64 am, .str code, .int .i64 tr, .int .i64 ca, .slc na 6 fa, .slc ni 6 fi, .int .i64 tt, .bool rc]] =>some (some (A.tp fun _=>((ao eEs [] 1 k f∧(ao eTs [] 1 64 g∧ao eTs [] 1 64 g')∧ao eKy K0 2 c h)∧ao eD D0 6 na fa∧ao eD D0 6 ni fi)∧whQ (ab eTs [] 1 64 g) (ab eTs [] 1 64 g')∧(0<=nw∧nw<=4611686018427387904)∧0<=w∧w<=4000),whT A nw wm (fun _=>fH w nw wm (ab eTs [] 1 64 g) (ab eTs [] 1 64 g') s r ⟨⟨es,er,st,pan,am,code,tr,ca⟩, [], [],tt,rc⟩) (fun _=>fI w nw wm (ab eTs [] 1 64 g) (ab eTs [] 1 64 g') s r ⟨⟨es,er,st,pan,am,code,tr,ca⟩, [], [],tt,rc⟩))
 |_=>none
theorem BO:bY Tryz.prog gl0 42 su:=⟨⟨_,Tryz.func42,rfl,by decide⟩,fun args p r h hp=>by
 unfold su at h
 split at h<;>cases h
 exact aM (BN _ _ _ _ _ _ _ _ _ _ _ _ _ _ ⟨⟨_,_,_,_,_,_,_,_⟩,ab eD D0 6 _ _,ab eD D0 6 _ _,_,_⟩ hp.2.1 hp.2.2.1 hp.2.2.2) ⟨iW hp.1.1.1 hp.1.1.2.1.1 hp.1.1.2.1.2 hp.1.1.2.2,⟨_,rfl,rfl,rfl,trivial⟩,⟨_,rfl,rfl,rfl,rfl,rfl,rfl,rfl,rfl,rfl,hp.1.2.1.sv,hp.1.2.2.sv,rfl,rfl,trivial⟩,trivial⟩⟩
noncomputable def qw:Ct:=fun A args=>match args with
 | [.agg [.int .u32 s, .str r]] =>some (none,av eD D0 6 A fun _=> [⟨2, [],0,s,r, [57,54]⟩])
 |_=>none
theorem uo:bY Tryz.prog gl0 40 qw:=⟨⟨_,Tryz.func40,rfl,by decide⟩,fun args p r h hp=>by
 unfold qw at h
 split at h<;>cases h
 exact E3 _ _⟩
noncomputable def xg:Ct:=fun A args=>match args with
 | [.agg [.int .u32 s, .str r, .int .i64 st, .str pan, .int .u64 am, .str code, .int .i64 tr, .int .i64 ca], .agg [.int .i64 v, .int .i64 k, .str dpan, .int .u64 dam, .int .u32 ds, .str dr, .str dcode], .int .i64 n] =>some (some (A.tp fun _=>(pan.length<=100000∧code.length<=1000000)∧dpan.length<=100000∧dr.length<=1000000∧dcode.length<=1000000), .tup [um A fun _=>stp ⟨s,r,st,pan,am,code,tr,ca⟩ v ⟨k,dpan,dam,ds,dr,dcode⟩ n, .int .i64 (A.ti fun _=>jp ⟨s,r,st,pan,am,code,tr,ca⟩ v ⟨k,dpan,dam,ds,dr,dcode⟩ n)])
 |_=>none
theorem Aw:bY Tryz.prog gl0 38 xg:=⟨⟨_,Tryz.func38,rfl,by decide⟩,fun args p r h hp=>by
 unfold xg at h
 split at h<;>cases h
 exact KD _ _ _ _ _ _ _ _ _ _ _ _ _ _ _ _ hp.1.1 hp.1.2 hp.2.1 hp.2.2.1 hp.2.2.2⟩
noncomputable def mV:Ct:=fun A args=>match args with
 | [.agg [.int .u64 w, .int .i64 t, .int .i64 m, .int .i64 n, .int .i64 q, .int .i64 tm, .slc k 1 f, .int .u64 nw, .int .i64 wm, .run 64 g, .run 64 g', .slc c 2 h]] =>some (some (A.tp fun _=>(ao eEs [] 1 k f∧(ao eTs [] 1 64 g∧ao eTs [] 1 64 g')∧ao eKy K0 2 c h)∧dkQ (ab eEs [] 1 k f) nw (ab eTs [] 1 64 g) (ab eTs [] 1 64 g') (ab eKy K0 2 c h)),dkF A w t m n q tm (fun _=>ab eEs [] 1 k f) nw wm (fun _=>ab eTs [] 1 64 g) (fun _=>ab eTs [] 1 64 g') (fun _=>ab eKy K0 2 c h))
 |_=>none
theorem ob:bY Tryz.prog gl0 37 mV:=⟨⟨_,Tryz.func37,rfl,by decide⟩,fun args p r h hp=>by
 unfold mV at h
 split at h<;>cases h
 exact aM (EY _ _ _ _ _ _ _ _ _ _ _ _ hp.2) ⟨iW hp.1.1 hp.1.2.1.1 hp.1.2.1.2 hp.1.2.2,trivial⟩⟩
theorem rk:bY Tryz.prog gl0 22 lp:=aE.ct HM ⟨_,Tryz.func22,rfl,by decide⟩ fun _=>rfl
theorem sw:bY Tryz.prog gl0 24 qh:=aE.ct mI ⟨_,Tryz.func24,rfl,by decide⟩ fun _=>rfl
theorem oc:bY Tryz.prog gl0 23 kR:=aE.ct t7 ⟨_,Tryz.func23,rfl,by decide⟩ fun _=>rfl
theorem pN:bY Tryz.prog gl0 39 jN:=aE.ct zA ⟨_,Tryz.func39,rfl,by decide⟩ fun _=>rfl
theorem uq:bY Tryz.prog gl0 41 mL:=aE.ct zA ⟨_,Tryz.func41,rfl,by decide⟩ fun _=>rfl
noncomputable def iJt:Nat->Option Func:=b9 42 Tryz.f42 (b9 56 Tryz.f56 noI)
theorem Rb:g9 Tryz.prog iJt:=bg (bg aq Tryz.func56 (by kernel_rfl)) Tryz.func42 (by kernel_rfl)
theorem mW{w nw wm:Int}{I O:Sl}{s:Int}{r:List UInt8}(S:Stp):fH w nw wm I O s r { e:=S.e,a:= [],i:= [],t:=S.t,rc:=S.rc } =fH w nw wm I O s r S:=rfl
theorem mX{w nw wm:Int}{I O:Sl}{s:Int}{r:List UInt8}(S:Stp):fI w nw wm I O s r { e:=S.e,a:= [],i:= [],t:=S.t,rc:=S.rc } =fI w nw wm I O s r S:=rfl
theorem kW{w nw wm:Int}{I O:Sl}{s:Int}{r:List UInt8}(S:Stp):fH w nw wm I O s r { e:=S.e,a:= [],i:= [],t:=S.t,rc:=false } =fH w nw wm I O s r S:=rfl
theorem kX{w nw wm:Int}{I O:Sl}{s:Int}{r:List UInt8}(S:Stp):fI w nw wm I O s r { e:=S.e,a:= [],i:= [],t:=S.t,rc:=false } =fI w nw wm I O s r S:=rfl
noncomputable def gj6:Ar->Pu:=aw 37 mV (aw 19 lw (aw 22 lp (aw 24 qh (aw 23 kR (aw 38 xg (aw 39 jN (aw 41 mL (aw 42 su (aw 40 qw (noC))))))))))
theorem Rc:aE Tryz.prog gl0 (gj6 std):=by
 refine aH (aH (aH (aH (aH (aH (aH (aH (aH (aH (aT) uo) BO) uq) pN) Aw) oc) sw) rk) jU) ob
noncomputable def gj7:Ar->Pu:=aw 37 mV (aw 19 lw (aw 22 lp (aw 24 qh (aw 23 kR (aw 38 xg (aw 39 jN (aw 41 mL (aw 95 jS (aw 96 ln (aw 40 qw (noC)))))))))))
theorem Rd:aE Tryz.prog gl0 (gj7 std):=by
 refine aH (aH (aH (aH (aH (aH (aH (aH (aH (aH (aH (aT) uo) rg) pL) uq) pN) Aw) oc) sw) rk) jU) ob
attribute [local irreducible] vc
theorem H4(w t m n q tm:Int)(T:Tbl)(nw wm:Int)(I O:Sl)(R:List K2)(v k am s:Int)(pan r code:List UInt8)(room:Bool)(hQ:dkQ T nw I O R)(hd:evQ ⟨k,pan,am,s,r,code⟩)(hrc:(stp (fT tm T s r) v ⟨k,pan,am,s,r,code⟩ t).rc=false):ak Tryz.prog gl0 13 [dkS std w t m n q tm T nw wm I O R, .agg [.int .i64 v, .int .i64 k, .str pan, .int .u64 am, .int .u32 s, .str r, .str code], .bool room] (.tup [dkT std (fun _=>doD ⟨w,t,m,n,q,tm,T,nw,wm,I,O,R⟩ v ⟨k,pan,am,s,r,code⟩ room),av eD D0 6 std (fun _=>doA ⟨w,t,m,n,q,tm,T,nw,wm,I,O,R⟩ v ⟨k,pan,am,s,r,code⟩ room),av eD D0 6 std (fun _=>doI ⟨w,t,m,n,q,tm,T,nw,wm,I,O,R⟩ v ⟨k,pan,am,s,r,code⟩ room), .int .i64 (std.ti fun _=>doE ⟨w,t,m,n,q,tm,T,nw,wm,I,O,R⟩ v ⟨k,pan,am,s,r,code⟩ room)]):=by
 refine ag (T:=az) (G:=gj6) (X:=noX) ah Rc ax aq mixed Tryz.func13 (.none) (fun A=> [dkS A w t m n q tm T nw wm I O R, .agg [.int .i64 v, .int .i64 k, .str pan, .int .u64 am, .int .u32 s, .str r, .str code], .bool room]) (fun A=> .tup [dkT A (fun _=>doD ⟨w,t,m,n,q,tm,T,nw,wm,I,O,R⟩ v ⟨k,pan,am,s,r,code⟩ room),av eD D0 6 A (fun _=>doA ⟨w,t,m,n,q,tm,T,nw,wm,I,O,R⟩ v ⟨k,pan,am,s,r,code⟩ room),av eD D0 6 A (fun _=>doI ⟨w,t,m,n,q,tm,T,nw,wm,I,O,R⟩ v ⟨k,pan,am,s,r,code⟩ room), .int .i64 (A.ti fun _=>doE ⟨w,t,m,n,q,tm,T,nw,wm,I,O,R⟩ v ⟨k,pan,am,s,r,code⟩ room)]) fun A hA=> ?_
 have lT:ab eEs [] 1 (A.tn fun _=>T.length) (aC eEs [] A fun _=>T)=T:=by subst hA;exact aW T
 have lI:ab eTs [] 1 64 (aC eTs [] A fun _=>I)=I:=by subst hA;exact aj hQ.2.1.1.1
 have lO:ab eTs [] 1 64 (aC eTs [] A fun _=>O)=O:=by subst hA;exact aj hQ.2.1.1.2
 have lR:ab eKy K0 2 (A.tn fun _=>R.length) (aC eKy K0 A fun _=>R)=R:=by subst hA;exact cH R
 have lR':ab eKy K0 2 (A.tn fun _=>R.length) (aC eKy (0, []) A fun _=>R)=R:=by subst hA;exact cH R
 obtain ⟨W,hW⟩: ∃ e,e=fT tm T s r:=⟨_,rfl⟩
 obtain ⟨hb,hhb⟩: ∃ b,b=ib tm T s r:=⟨_,rfl⟩
 obtain ⟨S,hS⟩: ∃ S,S=stp W v ⟨k,pan,am,s,r,code⟩ t:=⟨_,rfl⟩
 obtain ⟨E,hE⟩: ∃ E,E=jp W v ⟨k,pan,am,s,r,code⟩ t:=⟨_,rfl⟩
 have lW:(⟨A.ti fun _=>W.s,A.ts fun _=>W.r,A.ti fun _=>W.st,A.ts fun _=>W.pan,A.ti fun _=>W.am,A.ts fun _=>W.code,A.ti fun _=>W.tr,A.ti fun _=>W.ca⟩:Ent)=W:=by subst hA;rfl
 have lS:(⟨A.ti fun _=>S.e.s,A.ts fun _=>S.e.r,A.ti fun _=>S.e.st,A.ts fun _=>S.e.pan,A.ti fun _=>S.e.am,A.ts fun _=>S.e.code,A.ti fun _=>S.e.tr,A.ti fun _=>S.e.ca⟩:Ent)=S.e:=by subst hA;rfl
 rw [<-hW,<-hS] at hrc
 have hWQ:enQ W:=by rw [hW];exact Au hQ.1
 have hSQ:enQ S.e:=by rw [hS];exact E1 hWQ hd
 refine mU rfl rfl ?_
 refine dO fun H hH=> ?_
 cbv
 repeat' (first| (with_reducible first|exact vT|exact vD hA|exact vE hA|refine vA ?_ ?_) | (intro hc;cbv))
 iterate 22
  all_goals first
   | (subst hH;(try simp only [lT,lI,lO,lR,lR',<-hW,<-hhb,lW,<-hS,<-hE,lS]);first| (refine dO fun H hH=> ?_;cbv;repeat' (first| (with_reducible first|exact vT|exact vD hA|exact vE hA|refine vA ?_ ?_) | (intro hc;cbv))) | (cbv;repeat' (first| (with_reducible first|exact vT|exact vD hA|exact vE hA|refine vA ?_ ?_) | (intro hc;cbv))))
   |skip
 all_goals first
  | (subst hA
     simp only [sS,bm,aW,aD hQ.2.1.1.1,aj hQ.2.1.1.1,aD hQ.2.1.1.2,aj hQ.2.1.1.2,fQ,cH,qv] at*
     first
      |done
      | (exfalso
         have h9:S.rc=true:=by with_reducible assumption
         rw [hrc] at h9
         cases h9)
      |exact fun h=>h
      |exact fun h=>⟨h,h⟩
      | (intro h;rw [h];rfl)
      |exact ⟨⟨trivial,⟨trivial,trivial⟩,trivial⟩,hQ⟩
      | (exfalso
         have h3:(bif !hb then !decide (S.e=W) else false)=true:=by with_reducible assumption
         have h4:(bif hb then !decide (S.e=W) else false)=true:=by with_reducible assumption
         revert h3 h4
         cases hb<;>simp;done)
      |exact ⟨⟨trivial,hQ.1⟩,hd.1⟩
      |exact ⟨⟨hWQ.2.2.1,hWQ.2.2.2⟩,hd.2.2.1,hd.2.1,hd.2.2.2⟩
      |exact ⟨⟨trivial,hQ.1⟩,hSQ⟩
      |exact fun h=>⟨h,hd.2.2.1,hd.2.1,hd.2.2.2⟩
      | (refine ⟨⟨⟨trivial,⟨trivial,trivial⟩,trivial⟩,gi _,gi _⟩,hQ.2.1, ?_⟩
         have h1:(bif !dkR w t m n q tm T nw wm I O R then true else !vR v ⟨k,pan,am,s,r,code⟩)=false:=by with_reducible assumption
         have h2:=E5 (Sk h1).1
         exact ⟨⟨hQ.2.2.2.1,h2.2⟩,by omega,by omega⟩)
      | (have g1t:(bif !dkR w t m n q tm T nw wm I O R then true else !vR v ⟨k,pan,am,s,r,code⟩)=true:=by with_reducible assumption
         obtain ⟨e1,e2,e3,e4⟩:=Mc (D:=⟨w,t,m,n,q,tm,T,nw,wm,I,O,R⟩) (v:=v) (d:=⟨k,pan,am,s,r,code⟩) (room:=room) (W:=W) (hb:=hb) (S:=S) (E:=E) hW hhb hS hE (bO:=dkR w t m n q tm T nw wm I O R) rfl g1t
         simp only [e1,e2,e3,e4,doR,hrc,mW,mX,kW,kX,Bool.false_eq_true,if_false,bK,List.length_nil]
         try rfl
         done)
      | (have g2t:(E !=0)=true:=by with_reducible assumption
         obtain ⟨e1,e2,e3,e4⟩:=H1 (D:=⟨w,t,m,n,q,tm,T,nw,wm,I,O,R⟩) (v:=v) (d:=⟨k,pan,am,s,r,code⟩) (room:=room) (W:=W) (hb:=hb) (S:=S) (E:=E) hW hhb hS hE g2t
         simp only [e1,e2,e3,e4,doR,hrc,mW,mX,kW,kX,Bool.false_eq_true,if_false,bK,List.length_nil]
         try rfl
         done)
      | (have g1:(bif !dkR w t m n q tm T nw wm I O R then true else !vR v ⟨k,pan,am,s,r,code⟩)=false:=by with_reducible assumption
         have g2:(E !=0)=false:=by with_reducible assumption
         have g3t:(bif !hb then !decide (S.e=W) else false)=true:=by with_reducible assumption
         have g4t:(bif !room then true else cG tm T S.e==7)=true:=by with_reducible assumption
         obtain ⟨e1,e2,e3,e4⟩:=Sj (D:=⟨w,t,m,n,q,tm,T,nw,wm,I,O,R⟩) (v:=v) (d:=⟨k,pan,am,s,r,code⟩) (room:=room) (W:=W) (hb:=hb) (S:=S) (E:=E) hW hhb hS hE (bO:=dkR w t m n q tm T nw wm I O R) rfl g1 g2 g3t g4t
         simp only [e1,e2,e3,e4,doR,hrc,mW,mX,kW,kX,Bool.false_eq_true,if_false,bK,List.length_nil]
         try rfl
         done)
      | (have g1:(bif !dkR w t m n q tm T nw wm I O R then true else !vR v ⟨k,pan,am,s,r,code⟩)=false:=by with_reducible assumption
         have g2:(E !=0)=false:=by with_reducible assumption
         have g3t:(bif !hb then !decide (S.e=W) else false)=true:=by with_reducible assumption
         have g4:(bif !room then true else cG tm T S.e==7)=false:=by with_reducible assumption
         obtain ⟨e1,e2,e3,e4⟩:=Q8 (D:=⟨w,t,m,n,q,tm,T,nw,wm,I,O,R⟩) (v:=v) (d:=⟨k,pan,am,s,r,code⟩) (room:=room) (W:=W) (hb:=hb) (S:=S) (E:=E) hW hhb hS hE (bO:=dkR w t m n q tm T nw wm I O R) rfl g1 g2 g3t g4
         simp only [e1,e2,e3,e4,doR,hrc,mW,mX,kW,kX,Bool.false_eq_true,if_false,bK,List.length_nil]
         try rfl
         done)
      | (have g1:(bif !dkR w t m n q tm T nw wm I O R then true else !vR v ⟨k,pan,am,s,r,code⟩)=false:=by with_reducible assumption
         have g2:(E !=0)=false:=by with_reducible assumption
         have g3:(bif !hb then !decide (S.e=W) else false)=false:=by with_reducible assumption
         have g5t:(bif hb then !decide (S.e=W) else false)=true:=by with_reducible assumption
         obtain ⟨e1,e2,e3,e4⟩:=H3 (D:=⟨w,t,m,n,q,tm,T,nw,wm,I,O,R⟩) (v:=v) (d:=⟨k,pan,am,s,r,code⟩) (room:=room) (W:=W) (hb:=hb) (S:=S) (E:=E) hW hhb hS hE (bO:=dkR w t m n q tm T nw wm I O R) rfl g1 g2 g3 g5t
         simp only [e1,e2,e3,e4,doR,hrc,mW,mX,kW,kX,Bool.false_eq_true,if_false,bK,List.length_nil]
         try rfl
         done)
      | (have g1:(bif !dkR w t m n q tm T nw wm I O R then true else !vR v ⟨k,pan,am,s,r,code⟩)=false:=by with_reducible assumption
         have g2:(E !=0)=false:=by with_reducible assumption
         have g3:(bif !hb then !decide (S.e=W) else false)=false:=by with_reducible assumption
         have g5:(bif hb then !decide (S.e=W) else false)=false:=by with_reducible assumption
         obtain ⟨e1,e2,e3,e4⟩:=Q9 (D:=⟨w,t,m,n,q,tm,T,nw,wm,I,O,R⟩) (v:=v) (d:=⟨k,pan,am,s,r,code⟩) (room:=room) (W:=W) (hb:=hb) (S:=S) (E:=E) hW hhb hS hE (bO:=dkR w t m n q tm T nw wm I O R) rfl g1 g2 g3 g5
         simp only [e1,e2,e3,e4,doR,hrc,mW,mX,kW,kX,Bool.false_eq_true,if_false,bK,List.length_nil]
         try rfl
         done)
)
end Go.Vd
namespace Go.Vd
open Go.Proofs
attribute [local irreducible] vc
theorem H5(w t m n q tm:Int)(T:Tbl)(nw wm:Int)(I O:Sl)(R:List K2)(v k am s:Int)(pan r code:List UInt8)(room:Bool)(hQ:dkQ T nw I O R)(hd:evQ ⟨k,pan,am,s,r,code⟩)(hrc:(stp (fT tm T s r) v ⟨k,pan,am,s,r,code⟩ t).rc=true):ak Tryz.prog gl0 13 [dkS std w t m n q tm T nw wm I O R, .agg [.int .i64 v, .int .i64 k, .str pan, .int .u64 am, .int .u32 s, .str r, .str code], .bool room] (.tup [dkT std (fun _=>doD ⟨w,t,m,n,q,tm,T,nw,wm,I,O,R⟩ v ⟨k,pan,am,s,r,code⟩ room),av eD D0 6 std (fun _=>doA ⟨w,t,m,n,q,tm,T,nw,wm,I,O,R⟩ v ⟨k,pan,am,s,r,code⟩ room),av eD D0 6 std (fun _=>doI ⟨w,t,m,n,q,tm,T,nw,wm,I,O,R⟩ v ⟨k,pan,am,s,r,code⟩ room), .int .i64 (std.ti fun _=>doE ⟨w,t,m,n,q,tm,T,nw,wm,I,O,R⟩ v ⟨k,pan,am,s,r,code⟩ room)]):=by
 refine ag (T:=az) (G:=gj7) (X:=noX) ah Rd ax Rb mixed Tryz.func13 (.none) (fun A=> [dkS A w t m n q tm T nw wm I O R, .agg [.int .i64 v, .int .i64 k, .str pan, .int .u64 am, .int .u32 s, .str r, .str code], .bool room]) (fun A=> .tup [dkT A (fun _=>doD ⟨w,t,m,n,q,tm,T,nw,wm,I,O,R⟩ v ⟨k,pan,am,s,r,code⟩ room),av eD D0 6 A (fun _=>doA ⟨w,t,m,n,q,tm,T,nw,wm,I,O,R⟩ v ⟨k,pan,am,s,r,code⟩ room),av eD D0 6 A (fun _=>doI ⟨w,t,m,n,q,tm,T,nw,wm,I,O,R⟩ v ⟨k,pan,am,s,r,code⟩ room), .int .i64 (A.ti fun _=>doE ⟨w,t,m,n,q,tm,T,nw,wm,I,O,R⟩ v ⟨k,pan,am,s,r,code⟩ room)]) fun A hA=> ?_
 have lT:ab eEs [] 1 (A.tn fun _=>T.length) (aC eEs [] A fun _=>T)=T:=by subst hA;exact aW T
 have lI:ab eTs [] 1 64 (aC eTs [] A fun _=>I)=I:=by subst hA;exact aj hQ.2.1.1.1
 have lO:ab eTs [] 1 64 (aC eTs [] A fun _=>O)=O:=by subst hA;exact aj hQ.2.1.1.2
 have lR:ab eKy K0 2 (A.tn fun _=>R.length) (aC eKy K0 A fun _=>R)=R:=by subst hA;exact cH R
 have lR':ab eKy K0 2 (A.tn fun _=>R.length) (aC eKy (0, []) A fun _=>R)=R:=by subst hA;exact cH R
 obtain ⟨W,hW⟩: ∃ e,e=fT tm T s r:=⟨_,rfl⟩
 obtain ⟨hb,hhb⟩: ∃ b,b=ib tm T s r:=⟨_,rfl⟩
 obtain ⟨S,hS⟩: ∃ S,S=stp W v ⟨k,pan,am,s,r,code⟩ t:=⟨_,rfl⟩
 obtain ⟨E,hE⟩: ∃ E,E=jp W v ⟨k,pan,am,s,r,code⟩ t:=⟨_,rfl⟩
 have lW:(⟨A.ti fun _=>W.s,A.ts fun _=>W.r,A.ti fun _=>W.st,A.ts fun _=>W.pan,A.ti fun _=>W.am,A.ts fun _=>W.code,A.ti fun _=>W.tr,A.ti fun _=>W.ca⟩:Ent)=W:=by subst hA;rfl
 have lS:(⟨A.ti fun _=>S.e.s,A.ts fun _=>S.e.r,A.ti fun _=>S.e.st,A.ts fun _=>S.e.pan,A.ti fun _=>S.e.am,A.ts fun _=>S.e.code,A.ti fun _=>S.e.tr,A.ti fun _=>S.e.ca⟩:Ent)=S.e:=by subst hA;rfl
 rw [<-hW,<-hS] at hrc
 have hWQ:enQ W:=by rw [hW];exact Au hQ.1
 have hSQ:enQ S.e:=by rw [hS];exact E1 hWQ hd
 have hst:=Ra (by rw [<-hS];exact hrc)
 rw [<-hS] at hst
 obtain ⟨hs4,hse,hsa,hsi,hs0⟩:=hst
 have hbt:hb=true:=by rw [hhb];exact OP (by rw [<-hW];exact hs4)
 have hne:decide (S.e=W)=false:=by
  refine decide_eq_false fun h=> ?_
  rw [hse] at h
  have h2:(6:Int)=W.st:=congrArg Ent.st h
  rw [hs4] at h2
  exact absurd h2 (by decide)
 have hs6:S.e.st=6:=by rw [hse]
 have hK:gu S=false:=by unfold gu stW;rw [hs0,hs6];rfl
 have hI:=(E2 (w:=w) (nw:=nw) (wm:=wm) (I:=I) (O:=O) (s:=s) (r:=r) hK (by rw [hs0];decide))
 refine mU rfl rfl ?_
 refine dO fun H hH=> ?_
 cbv
 repeat' (first| (with_reducible first|exact vT|exact vD hA|exact vE hA|refine vA ?_ ?_) | (intro hc;cbv))
 iterate 22
  all_goals first
   | (exfalso;clear hH lT lI lO lR lR' lW lS hQ hd hWQ hSQ hK hI hse hsa hsi hs4;subst hA;simp only [sS,qv] at*;simp [hbt,hne,hs0,hs6,hrc] at*;done)
   | (subst hH;(try simp only [lT,lI,lO,lR,lR',<-hW,<-hhb,lW,<-hS,<-hE,lS]);first| (refine dO fun H hH=> ?_;cbv;repeat' (first| (with_reducible first|exact vT|exact vD hA|exact vE hA|refine vA ?_ ?_) | (intro hc;cbv))) | (cbv;repeat' (first| (with_reducible first|exact vT|exact vD hA|exact vE hA|refine vA ?_ ?_) | (intro hc;cbv))))
   |skip
 all_goals first
  | (exfalso;clear lT lI lO lR lR' lW lS hQ hd hWQ hSQ hK hI hse hsa hsi hs4;subst hA;simp only [sS,qv] at*;simp [hbt,hne,hs0,hs6,hrc] at*;done)
  | (subst hA
     simp only [sS,bm,aW,aD hQ.2.1.1.1,aj hQ.2.1.1.1,aD hQ.2.1.1.2,aj hQ.2.1.1.2,fQ,cH,qv] at*
     first
      |done
      |exact fun h=>h
      |exact fun h=>⟨h,h⟩
      | (intro h;rw [h];rfl)
      |exact ⟨⟨trivial,⟨trivial,trivial⟩,trivial⟩,hQ⟩
      |exact ⟨⟨⟨trivial,trivial⟩,hQ.2.1⟩,hQ.2.2.2⟩
      |exact ⟨⟨trivial,hQ.1⟩,hd.1⟩
      |exact ⟨⟨hWQ.2.2.1,hWQ.2.2.2⟩,hd.2.2.1,hd.2.1,hd.2.2.2⟩
      |exact ⟨⟨trivial,hQ.1⟩,hSQ⟩
      |exact fun h=>⟨h,hd.2.2.1,hd.2.1,hd.2.2.2⟩
      | (have h1:=hQ.2.2.1;omega)
      | (have g1t:(bif !dkR w t m n q tm T nw wm I O R then true else !vR v ⟨k,pan,am,s,r,code⟩)=true:=by with_reducible assumption
         obtain ⟨e1,e2,e3,e4⟩:=Mc (D:=⟨w,t,m,n,q,tm,T,nw,wm,I,O,R⟩) (v:=v) (d:=⟨k,pan,am,s,r,code⟩) (room:=room) (W:=W) (hb:=hb) (S:=S) (E:=E) hW hhb hS hE (bO:=dkR w t m n q tm T nw wm I O R) rfl g1t
         simp only [e1,e2,e3,e4,bK,List.length_nil]
         try rfl
         done)
      | (have g2t:(E !=0)=true:=by with_reducible assumption
         obtain ⟨e1,e2,e3,e4⟩:=H1 (D:=⟨w,t,m,n,q,tm,T,nw,wm,I,O,R⟩) (v:=v) (d:=⟨k,pan,am,s,r,code⟩) (room:=room) (W:=W) (hb:=hb) (S:=S) (E:=E) hW hhb hS hE g2t
         simp only [e1,e2,e3,e4,bK,List.length_nil]
         try rfl
         done)
      | (have g1:(bif !dkR w t m n q tm T nw wm I O R then true else !vR v ⟨k,pan,am,s,r,code⟩)=false:=by with_reducible assumption
         have g2:(E !=0)=false:=by with_reducible assumption
         have g3:(bif !hb then !decide (S.e=W) else false)=false:=by rw [hbt];rfl
         have g5t:(bif hb then !decide (S.e=W) else false)=true:=by rw [hbt,hne];rfl
         obtain ⟨e1,e2,e3,e4⟩:=H3 (D:=⟨w,t,m,n,q,tm,T,nw,wm,I,O,R⟩) (v:=v) (d:=⟨k,pan,am,s,r,code⟩) (room:=room) (W:=W) (hb:=hb) (S:=S) (E:=E) hW hhb hS hE (bO:=dkR w t m n q tm T nw wm I O R) rfl g1 g2 g3 g5t
         simp only [e1,e2,e3,e4,doR,hrc,hI.1,hI.2,if_true,bK,List.length_nil]
         first
          |done
          |rfl
          | (simp;done)
          |exact ym rfl (fun j hj=>by rcases (show j=0∨j=1 by omega) with rfl|rfl<;>exact .refl _) rfl (by simp))
)
end Go.Vd
set_option maxHeartbeats 8000000
namespace Go.Vd
open Go.Proofs
theorem sA(w t m n q tm:Int)(T:Tbl)(nw wm:Int)(I O:Sl)(R:List K2)(v k am s:Int)(pan r code:List UInt8)(room:Bool)(hQ:dkQ T nw I O R)(hd:evQ ⟨k,pan,am,s,r,code⟩):ak Tryz.prog gl0 13 [dkS std w t m n q tm T nw wm I O R, .agg [.int .i64 v, .int .i64 k, .str pan, .int .u64 am, .int .u32 s, .str r, .str code], .bool room] (.tup [dkT std (fun _=>doD ⟨w,t,m,n,q,tm,T,nw,wm,I,O,R⟩ v ⟨k,pan,am,s,r,code⟩ room),av eD D0 6 std (fun _=>doA ⟨w,t,m,n,q,tm,T,nw,wm,I,O,R⟩ v ⟨k,pan,am,s,r,code⟩ room),av eD D0 6 std (fun _=>doI ⟨w,t,m,n,q,tm,T,nw,wm,I,O,R⟩ v ⟨k,pan,am,s,r,code⟩ room), .int .i64 (std.ti fun _=>doE ⟨w,t,m,n,q,tm,T,nw,wm,I,O,R⟩ v ⟨k,pan,am,s,r,code⟩ room)]):=by
 cases h:(stp (fT tm T s r) v ⟨k,pan,am,s,r,code⟩ t).rc
 · exact H4 w t m n q tm T nw wm I O R v k am s pan r code room hQ hd h
 · exact H5 w t m n q tm T nw wm I O R v k am s pan r code room hQ hd h
end Go.Vd
namespace Go.Vd
open Go.Proofs
noncomputable def tkC (D:Dk)(k:Int):Int:=if D.ok=true then (if 4611686018427387904 - D.nw<k then 10 else dk D.nw D.wm D.I D.O k) else 1
noncomputable def tkD (D:Dk)(k:Int):Dk:=if tkC D k=0 then ⟨D.w,D.t,D.m,D.n,D.q,D.tm,D.T,ml D.nw D.wm D.I D.O k,D.wm,mm D.nw D.wm D.I D.O k,mn D.nw D.wm D.I D.O k,D.R⟩ else D
noncomputable def tkL (D:Dk)(k:Int):List K2:=if tkC D k=0 then (j8 D.nw D.wm D.I D.O k).map (fun x=>(x.s,x.r)) else []
theorem SN{D:Dk}{k:Int}(h:(!D.ok)=true):tkD D k=D∧tkL D k= [] ∧tkC D k=1:=by
 have h1:tkC D k=1:=by unfold tkC;cases hb:D.ok with
  |true=>rw [hb] at h;cases h
  |false=>rfl
 unfold tkD tkL
 rw [h1]
 exact ⟨rfl,rfl,rfl⟩
theorem Sm{D:Dk}{k:Int}(h:(!D.ok)=false)(h2:4611686018427387904 - D.nw<k):tkD D k=D∧tkL D k= [] ∧tkC D k=10:=by
 have h1:tkC D k=10:=by
  unfold tkC
  cases hb:D.ok with
  |false=>rw [hb] at h;cases h
  |true=>rw [if_pos rfl,if_pos h2]
 unfold tkD tkL
 rw [h1]
 exact ⟨rfl,rfl,rfl⟩
theorem Re{D:Dk}{k:Int}(h:(!D.ok)=false)(h2: ¬4611686018427387904 - D.nw<k):tkC D k=dk D.nw D.wm D.I D.O k:=by
 unfold tkC
 cases hb:D.ok with
 |false=>rw [hb] at h;cases h
 |true=>rw [if_pos rfl,if_neg h2]
theorem SO{D:Dk}{k:Int}(h:(!D.ok)=false)(h2: ¬4611686018427387904 - D.nw<k)(h3:(dk D.nw D.wm D.I D.O k !=0)=true):tkD D k=D∧tkL D k= [] ∧tkC D k=dk D.nw D.wm D.I D.O k:=by
 have h1:=Re h h2
 have h4: ¬dk D.nw D.wm D.I D.O k=0:=by simpa using h3
 unfold tkD tkL
 rw [h1,if_neg h4,if_neg h4]
 exact ⟨rfl,rfl,rfl⟩
theorem Rf{D:Dk}{k:Int}(h:(!D.ok)=false)(h2: ¬4611686018427387904 - D.nw<k)(h3:(dk D.nw D.wm D.I D.O k !=0)=false):tkD D k=⟨D.w,D.t,D.m,D.n,D.q,D.tm,D.T,ml D.nw D.wm D.I D.O k,D.wm,mm D.nw D.wm D.I D.O k,mn D.nw D.wm D.I D.O k,D.R⟩∧tkL D k=(j8 D.nw D.wm D.I D.O k).map (fun x=>(x.s,x.r))∧tkC D k=0:=by
 have h1:=Re h h2
 have h4:dk D.nw D.wm D.I D.O k=0:=by simpa using h3
 unfold tkD tkL
 rw [h1,if_pos h4,if_pos h4]
 exact ⟨rfl,rfl,h4⟩
theorem H6:bY Tryz.prog gl0 52 uk:=aE.ct pF ⟨_,Tryz.func52,rfl,by decide⟩ fun _=>rfl
noncomputable def gj8:Ar->Pu:=aw 37 mV (aw 19 lw (aw 52 uk (noC)))
theorem Rg:aE Tryz.prog gl0 (gj8 std):=by
 refine aH (aH (aH (aT) H6) jU) ob
attribute [local irreducible] vc
theorem E6(w t m n q tm:Int)(T:Tbl)(nw wm:Int)(I O:Sl)(R:List K2)(k:Int)(hQ:dkQ T nw I O R)(hk:0<=k∧k<18446744073709551616):ak Tryz.prog gl0 16 [dkS std w t m n q tm T nw wm I O R, .int .u64 k] (.tup [dkT std (fun _=>tkD ⟨w,t,m,n,q,tm,T,nw,wm,I,O,R⟩ k),av eKy K0 2 std (fun _=>tkL ⟨w,t,m,n,q,tm,T,nw,wm,I,O,R⟩ k), .int .i64 (std.ti fun _=>tkC ⟨w,t,m,n,q,tm,T,nw,wm,I,O,R⟩ k)]):=by
 refine ag (T:=az) (G:=gj8) (X:=noX) ah Rg ax aq mixed Tryz.func16 (.none) (fun A=> [dkS A w t m n q tm T nw wm I O R, .int .u64 k]) (fun A=> .tup [dkT A (fun _=>tkD ⟨w,t,m,n,q,tm,T,nw,wm,I,O,R⟩ k),av eKy K0 2 A (fun _=>tkL ⟨w,t,m,n,q,tm,T,nw,wm,I,O,R⟩ k), .int .i64 (A.ti fun _=>tkC ⟨w,t,m,n,q,tm,T,nw,wm,I,O,R⟩ k)]) fun A hA=> ?_
 have lT:ab eEs [] 1 (A.tn fun _=>T.length) (aC eEs [] A fun _=>T)=T:=by subst hA;exact aW T
 have lI:ab eTs [] 1 64 (aC eTs [] A fun _=>I)=I:=by subst hA;exact aj hQ.2.1.1.1
 have lO:ab eTs [] 1 64 (aC eTs [] A fun _=>O)=O:=by subst hA;exact aj hQ.2.1.1.2
 have lR:ab eKy K0 2 (A.tn fun _=>R.length) (aC eKy K0 A fun _=>R)=R:=by subst hA;exact cH R
 have lR':ab eKy K0 2 (A.tn fun _=>R.length) (aC eKy (0, []) A fun _=>R)=R:=by subst hA;exact cH R
 refine mU rfl rfl ?_
 refine dO fun H hH=> ?_
 cbv
 repeat' (first| (with_reducible first|exact vT|exact vD hA|exact vE hA|refine vA ?_ ?_) | (intro hc;cbv))
 iterate 12
  all_goals first
   | (subst hH;(try simp only [lT,lI,lO,lR,lR']);first| (refine dO fun H hH=> ?_;cbv;repeat' (first| (with_reducible first|exact vT|exact vD hA|exact vE hA|refine vA ?_ ?_) | (intro hc;cbv))) | (cbv;repeat' (first| (with_reducible first|exact vT|exact vD hA|exact vE hA|refine vA ?_ ?_) | (intro hc;cbv))))
   |skip
 all_goals first
  | (fail_if_success (refine Exists.intro ?_ ?_)
     subst hA
     simp only [sS,bm,aW,aD hQ.2.1.1.1,aj hQ.2.1.1.1,aD hQ.2.1.1.2,aj hQ.2.1.1.2,fQ,cH] at*
     first
      |done
      |exact ⟨⟨trivial,⟨trivial,trivial⟩,trivial⟩,hQ⟩
      |exact ⟨⟨⟨trivial,trivial⟩,hQ.2.1⟩,hQ.2.2.2,hk⟩
      | (have g1:(!dkR w t m n q tm T nw wm I O R)=true:=by with_reducible assumption
         obtain ⟨e1,e2,e3⟩:=SN (D:=⟨w,t,m,n,q,tm,T,nw,wm,I,O,R⟩) (k:=k) g1
         simp only [e1,e2,e3,bK,List.length_nil]
         try rfl
         done)
      | (have g1:(!dkR w t m n q tm T nw wm I O R)=false:=by with_reducible assumption
         have hb:=(E5 (by simpa using g1)).2
         have hwr:IntKind.u64.wrap (4611686018427387904 - nw)=4611686018427387904 - nw:=by rw [IntKind.wrap_u64];have:=hQ.2.2.2;omega
         simp only [hwr] at*
         first
          | (have g2:decide (4611686018427387904 - nw<k)=true:=by with_reducible assumption
             obtain ⟨e1,e2,e3⟩:=Sm (D:=⟨w,t,m,n,q,tm,T,nw,wm,I,O,R⟩) (k:=k) g1 (of_decide_eq_true g2)
             simp only [e1,e2,e3,bK,List.length_nil]
             try rfl
             done)
          | (have g2:decide (4611686018427387904 - nw<k)=false:=by with_reducible assumption
             have g3:(dk nw wm I O k !=0)=true:=by with_reducible assumption
             obtain ⟨e1,e2,e3⟩:=SO (D:=⟨w,t,m,n,q,tm,T,nw,wm,I,O,R⟩) (k:=k) g1 (of_decide_eq_false g2) g3
             simp only [e1,e2,e3,bK,List.length_nil]
             try rfl
             done))
)
  |skip
 obtain ⟨L,hL⟩: ∃ L,L=j8 nw wm I O k:=⟨_,rfl⟩
 obtain ⟨N,hN⟩: ∃ N,N=L.length:=⟨_,rfl⟩
 refine ⟨⟨{p:Nat×List K2 // p.1<=L.length∧p.2=(L.take p.1).map fun x=>(x.s,x.r)},fun b p=> [(10, .own b),(40,av eT T0 3 A fun _=>L),(41, .int .i64 (N:Nat)),(42, .int .i64 (p.1.1:Nat))],fun b p=> [(b, .row 66 2 (A.tn fun _=>p.1.2.length) (aC eKy K0 A fun _=>p.1.2))],fun p=>L.length - p.1.1,true⟩,⟨⟨(0, []),Nat.zero_le _,rfl⟩, ?_⟩, ?_⟩
 · cbv
   subst hA
   simp [-List.getD_eq_getElem?_getD,sS,aj hQ.2.1.1.1,aj hQ.2.1.1.2,<-hL,<-hN]
 · rintro ⟨⟨i,M⟩,hx⟩
   have hi:i<=L.length:=hx.1
   have hM:M=(L.take i).map fun x=>(x.s,x.r):=hx.2
   obtain ⟨i',hi'⟩: ∃ i',i'=i+1:=⟨_,rfl⟩
   obtain ⟨e,he⟩: ∃ e,e=L.getD i T0:=⟨_,rfl⟩
   have hge:L.getD i { s:=0,r:= [],u:=0 } =e:=he.symm
   have hLl:L.length<=256:=by rw [hL];exact KC
   have hMl:M.length=i:=by rw [hM,List.length_map,List.length_take];omega
   obtain ⟨M',hM'⟩: ∃ M',M'=M++ [(e.s,e.r)] :=⟨_,rfl⟩
   rcases Nat.lt_or_ge i L.length with hlt|hge2
   · have hnext:M'=(L.take i').map fun x=>(x.s,x.r):=by
      rw [hM',hM,hi',<-bp (d:=T0) hlt,List.map_append,<-he]
      rfl
     cbv
     repeat' (first| (with_reducible first|exact vT|exact vD hA|exact vE hA|refine vA ?_ ?_) | (intro hc;cbv))
     all_goals first
      | (fail_if_success (refine Exists.intro ?_ ?_)
         clear hM hnext
         subst hA
         simp only [sS,iNE,hge] at*
         first
          |done
          |exact ⟨by omega,by omega⟩
          |omega
          | (exfalso;have:=of_decide_eq_false hc;omega)
)
      | (exfalso;clear hM hnext;subst hA;simp only [sS,Int.ofNat_eq_natCast] at hc;have:=of_decide_eq_false hc;omega)
      | (refine ⟨⟨(i',M'),(show i'<=L.length by omega),hnext⟩, ?_,(show L.length - i'<L.length - i by omega)⟩
         cbv
         subst hA
         simp [-List.getD_eq_getElem?_getD,sS,hge]
         trace_state
         exact ⟨cF hi' (by omega),by rw [hM'];simp,ym rfl (fun j hj=>by rcases (show j=0∨j=1 by omega) with rfl|rfl<;>exact .refl _) hM'.symm (by rw [hM'];simp)⟩)
   · have hie:i=L.length:=by omega
     rw [hie,List.take_length] at hM
     cbv
     repeat' (first| (with_reducible first|exact vT|exact vD hA|exact vE hA|refine vA ?_ ?_) | (intro hc;cbv))
     all_goals first
      | (exfalso;clear hM;subst hA;simp only [sS,Int.ofNat_eq_natCast] at hc;have:=of_decide_eq_true hc;omega)
      | (subst hA
         simp only [sS,bm,aW,aD hQ.2.1.1.1,aj hQ.2.1.1.1,aD hQ.2.1.1.2,aj hQ.2.1.1.2,fQ,cH] at*
         have g1:(!dkR w t m n q tm T nw wm I O R)=false:=by with_reducible assumption
         have hb:=(E5 (by simpa using g1)).2
         have hwr:IntKind.u64.wrap (4611686018427387904 - nw)=4611686018427387904 - nw:=by rw [IntKind.wrap_u64];have:=hQ.2.2.2;omega
         simp only [hwr] at*
         have g2:decide (4611686018427387904 - nw<k)=false:=by with_reducible assumption
         have g3:(dk nw wm I O k !=0)=false:=by with_reducible assumption
         obtain ⟨e1,e2,e3⟩:=Rf (D:=⟨w,t,m,n,q,tm,T,nw,wm,I,O,R⟩) (k:=k) g1 (of_decide_eq_false g2) g3
         simp only [e1,e2,e3,bK,List.length_nil,<-hL,<-hM]
         try rfl
         done)
end Go.Vd
namespace Go.Vd
open Go.Proofs
noncomputable def nwD (w t m n q:Int):Dk:=if dA w t m n q=true then ⟨w,t,m,n,q,m,mg m n,0,m,E64,E64, []⟩ else ⟨0,0,0,0,0,0, [],0,0,E64,E64, []⟩
def nwC (w t m n q:Int):Int:=if dA w t m n q=true then 0 else 1
theorem KL{w t m n q:Int}(h:dA w t m n q=true):nwD w t m n q=⟨w,t,m,n,q,m,mg m n,0,m,E64,E64, []⟩∧nwC w t m n q=0:=⟨if_pos h,if_pos h⟩
theorem SP{w t m n q:Int}(h:dA w t m n q=false):nwD w t m n q=⟨0,0,0,0,0,0, [],0,0,E64,E64, []⟩∧nwC w t m n q=1:=by
 have h': ¬dA w t m n q=true:=by rw [h];decide
 exact ⟨if_neg h',if_neg h'⟩
theorem OQ{w t m n q:Int}(h:dA w t m n q=true):kx m n=m∧kz m n=0∧pt 0 m=0∧pu m=m∧px m=0:=by
 unfold dA at h
 have h1:=of_decide_eq_true h
 have hz:szR m n=true:=by unfold szR;simp;omega
 have ho:fo m=true:=sj.2 (by omega)
 refine ⟨?_, ?_, ?_, ?_, ?_⟩
 · unfold kx;rw [if_pos hz]
 · unfold kz;rw [if_pos hz]
 · unfold pt;simp
 · unfold pu;rw [if_pos ho]
 · unfold px;rw [if_pos ho]
theorem H7:bY Tryz.prog gl0 32 tZ:=aE.ct zj ⟨_,Tryz.func32,rfl,by decide⟩ fun _=>rfl
theorem E7:bY Tryz.prog gl0 33 qt:=aE.ct pF ⟨_,Tryz.func33,rfl,by decide⟩ fun _=>rfl
noncomputable def gji:Ar->Pu:=aw 18 pG (aw 32 tZ (aw 33 qt (noC)))
theorem Rh:aE Tryz.prog gl0 (gji std):=by
 refine aH (aH (aH (aT) E7) H7) pH
attribute [local irreducible] vc
theorem H8(w t m n q:Int):ak Tryz.prog gl0 9 [rlS std w t m n q] (.tup [dkT std (fun _=>nwD w t m n q), .int .i64 (std.ti fun _=>nwC w t m n q)]):=by
 refine ag (T:=az) (G:=gji) (X:=noX) ah Rh ax aq mixed Tryz.func9 (.none) (fun A=> [rlS A w t m n q]) (fun A=> .tup [dkT A (fun _=>nwD w t m n q), .int .i64 (A.ti fun _=>nwC w t m n q)]) fun A hA=> ?_
 cbv
 repeat' (first| (with_reducible first|exact vT|exact vD hA|exact vE hA|refine vA ?_ ?_) | (intro hc;cbv))
 all_goals (subst hA;simp only [sS] at*)
 all_goals first
  | (have h1:(!dA w t m n q)=true:=by with_reducible assumption
     obtain ⟨e1,e2⟩:=SP (by simpa using h1)
     simp only [e1,e2]
     first|done|rfl|exact bK|exact vk)
  | (have h1:(!dA w t m n q)=false:=by with_reducible assumption
     have h2:dA w t m n q=true:=by simpa using h1
     obtain ⟨f1,f2,f3,f4,f5⟩:=OQ h2
     simp only [f1,f2,f3,f4,f5] at*
     obtain ⟨e1,e2⟩:=KL h2
     simp only [e1,e2]
     first|done|rfl|exact bK|exact vk| (exfalso;simp at*;done))
end Go.Vd
namespace Go.Vd
open Go.Proofs
attribute [local irreducible] vc
theorem E8(L M:List K2)(hL:L.length<=1000000):ak Tryz.prog gl0 21 [av eKy K0 2 std fun _=>L,av eKy K0 2 std fun _=>M] (.bool (std.tb fun _=>decide (L=M))):=by
 refine ag (T:=az) (G:=noC) (X:=noX) ah aT ax aq mixed Tryz.func21 (.one) (fun A=> [av eKy K0 2 A fun _=>L,av eKy K0 2 A fun _=>M]) (fun A=> .bool (A.tb fun _=>decide (L=M))) fun A hA=> ?_
 cbv
 repeat' (first| (with_reducible first|exact vT|exact vD hA|exact vE hA|refine vA ?_ ?_) | (intro hc;cbv))
 rotate_right
 all_goals first
  | (fail_if_success (refine Exists.intro ?_ ?_)
     subst hA
     simp [sS] at*
     first|done| (intro e;subst e;exact absurd rfl (by assumption)))
  |skip
 have hl:L.length=M.length:=by subst hA;simp [sS] at hc;omega
 refine ⟨⟨{i:Nat // i<=L.length∧L.take i=M.take i},fun b i=> [(5, .int .i64 (i.1:Nat))],fun b i=> [],fun i=>L.length - i.1,true⟩,⟨⟨0,by omega,rfl⟩, ?_⟩, ?_⟩
 · cbv
   subst hA
   simp [-List.getD_eq_getElem?_getD,sS]
 · rintro ⟨i,hx⟩
   have hi:=hx.1
   have hz:=hx.2
   obtain ⟨e,he⟩: ∃ e,e=L.getD i K0:=⟨_,rfl⟩
   obtain ⟨g,hgg⟩: ∃ g,g=M.getD i K0:=⟨_,rfl⟩
   have h1:L.getD i (0, [])=e:=he.symm
   have h2:M.getD i (0, [])=g:=hgg.symm
   have hne: ¬e=g-> ¬L=M:=fun hn hLM=>hn (by rw [he,hgg,hLM])
   rcases Nat.lt_or_ge i L.length with hlt|hge
   · cbv
     repeat' (first| (with_reducible first|exact vT|exact vD hA|exact vE hA|refine vA ?_ ?_) | (intro hc;cbv))
     all_goals first
      | (fail_if_success (refine Exists.intro ?_ ?_)
         clear hz
         subst hA
         simp [-List.getD_eq_getElem?_getD,sS,h1,h2] at*
         first
          |done
          |exact ⟨(show (0:Int)<=((i:Nat):Int) by omega),(show ((i:Nat):Int)<((M.length:Nat):Int) by omega)⟩
          |omega
          | (apply hne;intro h;subst h;simp at hc;done)
          | (intro hLM;refine hne ?_ hLM;intro h;subst h;simp at hc;done)
)
      | (obtain ⟨i',hi'⟩: ∃ i',i'=i+1:=⟨_,rfl⟩
         have hk:e=g:=by
          clear hz hne
          subst hA
          simp [-List.getD_eq_getElem?_getD,sS,h1,h2] at hc
          exact Prod.ext hc.1 hc.2
         refine ⟨⟨i',by omega, ?_⟩, ?_,show L.length - i'<L.length - i by omega⟩
         · rw [hi',<-bp (d:=K0) hlt,<-bp (d:=K0) (show i<M.length by omega),hz,<-he,<-hgg,hk]
         · cbv
           subst hA
           simp [-List.getD_eq_getElem?_getD,sS]
           exact cF hi' (by omega))
   · have hie:i=L.length:=by omega
     rw [hie,List.take_length,hl,List.take_length] at hz
     cbv
     repeat' (first| (with_reducible first|exact vT|exact vD hA|exact vE hA|refine vA ?_ ?_) | (intro hc;cbv))
     all_goals first
      | (exfalso;clear hz;subst hA;simp [-List.getD_eq_getElem?_getD,sS] at hc;omega)
      | (exfalso;clear hz;subst hA;rename_i q;simp [-List.getD_eq_getElem?_getD,sS] at q;omega)
      | (subst hA
         simp [-List.getD_eq_getElem?_getD,sS,hz] at*)
noncomputable def vB:Ct:=fun A args=>match args with
 | [.slc n 2 f, .slc n' 2 f'] =>some (some (A.tp fun _=>(ao eKy K0 2 n f∧ao eKy K0 2 n' f')∧n<=1000000), .bool (A.tb fun _=>decide (ab eKy K0 2 n f=ab eKy K0 2 n' f')))
 |_=>none
theorem E9:bY Tryz.prog gl0 21 vB:=⟨⟨_,Tryz.func21,rfl,by decide⟩,fun args p r h hp=>by
 unfold vB at h
 split at h<;>cases h
 exact aM (E8 _ _ (by rw [aQ hp.1.1];exact hp.2)) ⟨hp.1.1.sv,hp.1.2.sv,trivial⟩⟩
theorem Fa:bY Tryz.prog gl0 34 qi:=aE.ct He ⟨_,Tryz.func34,rfl,by decide⟩ fun _=>rfl
theorem BP:bY Tryz.prog gl0 30 nQ:=aE.ct He ⟨_,Tryz.func30,rfl,by decide⟩ fun _=>rfl
theorem BQ:bY Tryz.prog gl0 35 nV:=aE.ct QF ⟨_,Tryz.func35,rfl,by decide⟩ fun _=>rfl
theorem H9:bY Tryz.prog gl0 31 ul:=aE.ct pF ⟨_,Tryz.func31,rfl,by decide⟩ fun _=>rfl
noncomputable def gj4:Ar->Pu:=aw 21 vB (aw 34 qi (aw 35 nV (aw 30 nQ (aw 31 ul (noC)))))
theorem Ia:aE Tryz.prog gl0 (gj4 std):=by
 refine aH (aH (aH (aH (aH (aT) H9) BP) BQ) Fa) E9
noncomputable def dkE (w t m n q tm:Int)(T:Tbl)(nw wm:Int)(I O:Sl)(R:List K2)(w' t' m' n' q' tm':Int)(T':Tbl)(nw' wm':Int)(I' O':Sl)(R':List K2):Bool:=
 decide (w=w'∧t=t'∧m=m'∧n=n'∧q=q')&&(decide (tm=tm'∧T=T')&&(eqW nw wm I O nw' wm' I' O' && decide (R=R')))
theorem BR(w t m n q tm:Int)(T:Tbl)(nw wm:Int)(I O:Sl)(R:List K2)(w' t' m' n' q' tm':Int)(T':Tbl)(nw' wm':Int)(I' O':Sl)(R':List K2)(hQ:dkQ T nw I O R)(hQ':whQ I' O'):ak Tryz.prog gl0 11 [dkS std w t m n q tm T nw wm I O R,dkS std w' t' m' n' q' tm' T' nw' wm' I' O' R'] (.bool (std.tb fun _=>dkE w t m n q tm T nw wm I O R w' t' m' n' q' tm' T' nw' wm' I' O' R')):=by
 refine ag (T:=az) (G:=gj4) (X:=noX) ah Ia ax aq mixed Tryz.func11 (.one) (fun A=> [dkS A w t m n q tm T nw wm I O R,dkS A w' t' m' n' q' tm' T' nw' wm' I' O' R']) (fun A=> .bool (A.tb fun _=>dkE w t m n q tm T nw wm I O R w' t' m' n' q' tm' T' nw' wm' I' O' R')) fun A hA=> ?_
 cbv
 repeat' (first| (with_reducible first|exact vT|exact vD hA|exact vE hA|refine vA ?_ ?_) | (intro hc;cbv))
 all_goals (subst hA;try simp only [sS,bm,aW,aD hQ.2.1.1.1,aj hQ.2.1.1.1,aD hQ.2.1.1.2,aj hQ.2.1.1.2,aD hQ'.1.1,aj hQ'.1.1,aD hQ'.1.2,aj hQ'.1.2,fQ,cH] at*)
 all_goals first
  |exact fun h=>h
  | (intro h;rw [h];rfl)
  |exact fun h=>⟨⟨h,h⟩,⟨trivial,trivial⟩,hQ.1⟩
  |exact fun h=>⟨⟨h,h⟩,⟨⟨trivial,trivial⟩,hQ.2.1⟩,⟨trivial,trivial⟩,hQ'⟩
  |exact fun h=>⟨⟨h,h⟩,⟨trivial,trivial⟩,hQ.2.2.1⟩
  |exact fun h=>⟨h,h⟩
  | (unfold dkE;rw [Bool.eq_iff_iff];simp [and_assoc];done)
def sB (R:List K2):Bool:=R.all (fun k=>decide (k.2.length<=300))&& decide (R.length<=200)
theorem OR{R:List K2}{i:Nat}(hi:i<R.length)(h: ¬(R.getD i K0).2.length<=300):sB R=false:=by
 unfold sB
 rw [Bool.and_eq_false_iff,List.all_eq_false]
 refine .inl ⟨R[i],List.getElem_mem hi, ?_⟩
 rw [List.getD_eq_getElem?_getD,gEE hi] at h
 simpa using h
theorem KM{R:List K2}(h: ∀ j,j<R.length->j<200->(R.getD j K0).2.length<=300):sB R=decide (R.length<=200):=by
 unfold sB
 by_cases hb:R.length<=200
 · rw [List.all_eq_true.2]
   · rfl
   intro x hx
   obtain ⟨j,hj,rfl⟩:=List.getElem_of_mem hx
   have:=h j hj (by omega)
   rw [List.getD_eq_getElem?_getD,gEE hj] at this
   exact decide_eq_true this
 · rw [decide_eq_false hb,Bool.and_false]
noncomputable def pO (T:Tbl)(I O:Sl)(R:List K2):Bool:=(tSh T && shW I O)&& sB R
theorem Ax(w t m n q tm:Int)(T:Tbl)(nw wm:Int)(I O:Sl)(R:List K2)(hT:T.length<=9223372036854775807)(hTi: ∀ i,(T.getD i []).length<=9223372036854775807)(hI:I.length=64)(hO:O.length=64)(hR:R.length<=9223372036854775807):ak Tryz.prog gl0 7 [dkS std w t m n q tm T nw wm I O R] (.bool (std.tb fun _=>pO T I O R)):=by
 refine ag (T:=az) (G:=gj4) (X:=noX) ah Ia ax aq mixed Tryz.func7 (.one) (fun A=> [dkS A w t m n q tm T nw wm I O R]) (fun A=> .bool (A.tb fun _=>pO T I O R)) fun A hA=> ?_
 cbv
 repeat' (first| (with_reducible first|exact vT|exact vD hA|exact vE hA|refine vA ?_ ?_) | (intro hc;cbv))
 refine ⟨⟨{i:Nat // i<=R.length∧i<=200∧ ∀ j,j<i->(R.getD j K0).2.length<=300},fun b i=> [(3, .int .i64 (i.1:Nat))],fun b i=> [],fun i=>R.length - i.1,true⟩,⟨⟨0,by omega,by omega,by simp⟩, ?_⟩, ?_⟩
 · cbv
   subst hA
   simp [-List.getD_eq_getElem?_getD,sS]
 · rintro ⟨i,hx⟩
   have hi:=hx.1
   have hi2:=hx.2.1
   have h0:=hx.2.2
   obtain ⟨e,he⟩: ∃ e,e=R.getD i K0:=⟨_,rfl⟩
   have hg:R.getD i (0, [])=e:=he.symm
   by_cases hlt:i<R.length∧i<200
   · have hno: ¬e.2.length<=300->pO T I O R=false:=fun h=>by unfold pO;rw [OR hlt.1 (he▸h),Bool.and_false]
     cbv
     repeat' (first| (with_reducible first|exact vT|exact vD hA|exact vE hA|refine vA ?_ ?_) | (intro hc;cbv))
     all_goals first
      | (fail_if_success (refine Exists.intro ?_ ?_)
         clear h0
         subst hA
         simp [-List.getD_eq_getElem?_getD,sS,hg] at*
         first
          |done
          |exact ⟨(show (0:Int)<=((i:Nat):Int) by omega),(show ((i:Nat):Int)<((R.length:Nat):Int) by omega)⟩
          |exact hno (by omega)
          |exact (hno (by omega)).symm
          |omega
          | (exfalso;omega)
)
      | (obtain ⟨i',hi'⟩: ∃ i',i'=i+1:=⟨_,rfl⟩
         have hk:e.2.length<=300:=by
          clear h0
          subst hA
          simp [-List.getD_eq_getElem?_getD,sS,hg] at hc
          omega
         refine ⟨⟨i',by omega,by omega,fun j hj=> ?_⟩, ?_,show R.length - i'<R.length - i by omega⟩
         · rcases Nat.lt_or_ge j i with h|h
           · exact h0 j h
           · obtain rfl:j=i:=by omega
             rw [<-he];exact hk
         · cbv
           subst hA
           simp [-List.getD_eq_getElem?_getD,sS]
           exact cF hi' (by omega))
   · have hans:sB R=decide (R.length<=200):=KM fun j hj hj2=>h0 j (by omega)
     cbv
     repeat' (first| (with_reducible first|exact vT|exact vD hA|exact vE hA|refine vA ?_ ?_) | (intro hc;cbv))
     all_goals first
      | (exfalso;clear h0;subst hA;simp [-List.getD_eq_getElem?_getD,sS,hg] at*;omega)
      | (fail_if_success (refine Exists.intro ?_ ?_)
         clear h0
         subst hA
         simp only [sS,bm,aW,aD hI,aj hI,aD hO,aj hO] at*
         first
          |exact fun h=>h
          | (intro h;rw [h];rfl)
          |exact ⟨trivial,hT,hTi⟩
          |exact fun h=>⟨h,trivial,trivial⟩
          | (unfold pO
             rw [hans,show decide ((R.length:Int)<=200)=decide (R.length<=200) from decide_eq_decide.2 (by omega)]
             cases tSh T<;>cases shW I O<;>rfl)
)
end Go.Vd
namespace Go.Vd
open Go.Proofs
noncomputable def Fb:Ct:=fun A args=>match args with
 | [.agg [.int .u64 w, .int .i64 t, .int .i64 m, .int .i64 n, .int .i64 q, .int .i64 tm, .slc kk 1 f, .int .u64 nw, .int .i64 wm, .run 64 g, .run 64 g', .slc c 2 h], .agg [.int .i64 v, .int .i64 k, .str pan, .int .u64 am, .int .u32 s, .str r, .str code], .bool room] =>some (some (A.tp fun _=>((ao eEs [] 1 kk f∧(ao eTs [] 1 64 g∧ao eTs [] 1 64 g')∧ao eKy K0 2 c h)∧dkQ (ab eEs [] 1 kk f) nw (ab eTs [] 1 64 g) (ab eTs [] 1 64 g') (ab eKy K0 2 c h))∧evQ ⟨k,pan,am,s,r,code⟩), .tup [dkT A (fun _=>doD ⟨w,t,m,n,q,tm,ab eEs [] 1 kk f,nw,wm,ab eTs [] 1 64 g,ab eTs [] 1 64 g',ab eKy K0 2 c h⟩ v ⟨k,pan,am,s,r,code⟩ room),av eD D0 6 A (fun _=>doA ⟨w,t,m,n,q,tm,ab eEs [] 1 kk f,nw,wm,ab eTs [] 1 64 g,ab eTs [] 1 64 g',ab eKy K0 2 c h⟩ v ⟨k,pan,am,s,r,code⟩ room),av eD D0 6 A (fun _=>doI ⟨w,t,m,n,q,tm,ab eEs [] 1 kk f,nw,wm,ab eTs [] 1 64 g,ab eTs [] 1 64 g',ab eKy K0 2 c h⟩ v ⟨k,pan,am,s,r,code⟩ room), .int .i64 (A.ti fun _=>doE ⟨w,t,m,n,q,tm,ab eEs [] 1 kk f,nw,wm,ab eTs [] 1 64 g,ab eTs [] 1 64 g',ab eKy K0 2 c h⟩ v ⟨k,pan,am,s,r,code⟩ room)])
 |_=>none
theorem KN:bY Tryz.prog gl0 13 Fb:=⟨⟨_,Tryz.func13,rfl,by decide⟩,fun args p r h hp=>by
 unfold Fb at h
 split at h<;>cases h
 exact aM (sA _ _ _ _ _ _ _ _ _ _ _ _ _ _ _ _ _ _ _ _ hp.1.2 hp.2) ⟨iW hp.1.1.1 hp.1.1.2.1.1 hp.1.1.2.1.2 hp.1.1.2.2,⟨_,rfl,rfl,rfl,rfl,rfl,rfl,rfl,rfl,trivial⟩,rfl,trivial⟩⟩
noncomputable def sC:Ct:=fun A args=>match args with
 | [.agg [.int .u64 w, .int .i64 t, .int .i64 m, .int .i64 n, .int .i64 q, .int .i64 tm, .slc k 1 f, .int .u64 nw, .int .i64 wm, .run 64 g, .run 64 g', .slc c 2 h], .agg [.int .u64 w2, .int .i64 t2, .int .i64 m2, .int .i64 n2, .int .i64 q2, .int .i64 tm2, .slc k2 1 f2, .int .u64 nw2, .int .i64 wm2, .run 64 g2, .run 64 g2', .slc c2 2 h2]] =>some (some (A.tp fun _=>((ao eEs [] 1 k f∧(ao eTs [] 1 64 g∧ao eTs [] 1 64 g')∧ao eKy K0 2 c h)∧(ao eEs [] 1 k2 f2∧(ao eTs [] 1 64 g2∧ao eTs [] 1 64 g2')∧ao eKy K0 2 c2 h2))∧dkQ (ab eEs [] 1 k f) nw (ab eTs [] 1 64 g) (ab eTs [] 1 64 g') (ab eKy K0 2 c h)∧whQ (ab eTs [] 1 64 g2) (ab eTs [] 1 64 g2')), .bool (A.tb fun _=>dkE w t m n q tm (ab eEs [] 1 k f) nw wm (ab eTs [] 1 64 g) (ab eTs [] 1 64 g') (ab eKy K0 2 c h) w2 t2 m2 n2 q2 tm2 (ab eEs [] 1 k2 f2) nw2 wm2 (ab eTs [] 1 64 g2) (ab eTs [] 1 64 g2') (ab eKy K0 2 c2 h2)))
 |_=>none
theorem BS:bY Tryz.prog gl0 11 sC:=⟨⟨_,Tryz.func11,rfl,by decide⟩,fun args p r h hp=>by
 unfold sC at h
 split at h<;>cases h
 exact aM (BR _ _ _ _ _ _ _ _ _ _ _ _ _ _ _ _ _ _ _ _ _ _ _ _ hp.2.1 hp.2.2) ⟨iW hp.1.1.1 hp.1.1.2.1.1 hp.1.1.2.1.2 hp.1.1.2.2,iW hp.1.2.1 hp.1.2.2.1.1 hp.1.2.2.1.2 hp.1.2.2.2,trivial⟩⟩
noncomputable def pP:Ct:=fun A args=>match args with
 | [.agg [.int .u64 w, .int .i64 t, .int .i64 m, .int .i64 n, .int .i64 q, .int .i64 tm, .slc k 1 f, .int .u64 nw, .int .i64 wm, .run 64 g, .run 64 g', .slc c 2 h]] =>some (some (A.tp fun _=>(ao eEs [] 1 k f∧(ao eTs [] 1 64 g∧ao eTs [] 1 64 g')∧ao eKy K0 2 c h)∧k<=9223372036854775807∧(∀ i,((ab eEs [] 1 k f).getD i []).length<=9223372036854775807)∧c<=9223372036854775807), .bool (A.tb fun _=>pO (ab eEs [] 1 k f) (ab eTs [] 1 64 g) (ab eTs [] 1 64 g') (ab eKy K0 2 c h)))
 |_=>none
theorem Ay:bY Tryz.prog gl0 7 pP:=⟨⟨_,Tryz.func7,rfl,by decide⟩,fun args p r h hp=>by
 unfold pP at h
 split at h<;>cases h
 exact aM (Ax _ _ _ _ _ _ _ _ _ _ _ _ (by rw [aQ hp.1.1];exact hp.2.1) hp.2.2.1 (aQ hp.1.2.1.1) (aQ hp.1.2.1.2) (by rw [aQ hp.1.2.2];exact hp.2.2.2)) ⟨iW hp.1.1 hp.1.2.1.1 hp.1.2.1.2 hp.1.2.2,trivial⟩⟩
end Go.Vd
namespace Go.Vd
open Go.Proofs
theorem lx{D:Dk}(h:D.ok=true):(dA D.w D.t D.m D.n D.q=true∧D.tm=D.m∧(D.T.length:Int)=D.n∧tbR D.tm D.T=true)∧(D.wm=D.m∧D.nw<=4611686018427387904∧wR D.nw D.wm D.I D.O=true)∧lv (alT D.tm D.T) (bP D.I D.O)=true∧mo (alT D.tm D.T) D.R=true:=by
 unfold Dk.ok dkR gr gM at h
 simp only [bAE,decide_eq_true_eq] at h
 obtain ⟨h1,⟨h2,h3,h4⟩,⟨h5,h6,h7⟩,h8,h9⟩:=h
 rw [qn h7] at h8
 exact ⟨⟨h1,h2,h3,h4⟩,⟨h5,h6,h7⟩,h8,h9⟩
theorem Ri{m:Int}{T:Tbl}(h:tbR m T=true){s:Int}{r:List UInt8}(hb:lkB T s r=false):has (alT m T) s r=false:=by
 cases hh:has (alT m T) s r with
 |false=>rfl
 |true=>
  exfalso
  unfold has at hh
  obtain ⟨x,hx,hk⟩:=List.any_eq_true.1 hh
  have hx2:=(Di h).2 x|>.1 hx
  obtain ⟨i,hi,hxi⟩:=sq.1 hx2
  have h2:=(kV h hi).2 x hxi
  have hk2:=eK.1 hk
  rw [hk2.1,hk2.2] at h2
  have h3:shi T s r=(i:Int):=h2
  have h4:=(sf (T:=T) (s:=s) (r:=r) (by rw [h3];omega)).2
  rw [hb] at h4
  have h5:has (shl T s r) s r=true:=by
   unfold shl has
   rw [h3]
   exact List.any_eq_true.2 ⟨x,by simpa using hxi,hk⟩
  rw [h5] at h4
  cases h4
theorem sD{L:List Ent}{s:Int}{r:List UInt8}(h:has L s r=false):fnd L s r=E0:=by
 unfold has at h
 unfold fnd
 rw [List.find?_eq_none.2]
 · rfl
 intro x hx hk
 rw [List.any_eq_false] at h
 exact h x hx hk
theorem sE{D:Dk}(h:D.ok=true){s:Int}{r:List UInt8}(hb:lkB D.T s r=false):hkT (aS D.I D.O) s r=false:=by
 obtain ⟨⟨_,_,_,hT⟩,⟨_,_,hW⟩,ht,_⟩:=lx h
 cases hh:hkT (aS D.I D.O) s r with
 |false=>rfl
 |true=>
  exfalso
  obtain ⟨x,hx,e1,e2⟩:=qk.1 hh
  have h1:=List.all_eq_true.1 ht x (kU.2 hx)
  rw [e1,e2,sD (Ri hT hb)] at h1
  exact absurd h1 (by decide)
theorem Az{α:Type}[DecidableEq α] : ∀ {L M:List α},L.Nodup->(∀ x∈L,x∈M)->L.length<=M.length
 | [],_,_,_=>Nat.zero_le _
 |a::L,M,hn,hs=>by
  rw [List.nodup_cons] at hn
  have ha:a∈M:=hs a List.mem_cons_self
  have:=Az (L:=L) (M:=M.erase a) hn.2 fun x hx=>(List.mem_erase_of_ne (fun (e:x=a)=>hn.1 (by rw [<-e];exact hx))).2 (hs x (List.mem_cons_of_mem _ hx))
  rw [List.length_erase_of_mem ha] at this
  have h2:=List.length_pos_of_mem ha
  simp only [List.length_cons]
  omega
theorem Ib{L:List Tm}(h:cB L):(L.map fun x=>((x.s,x.r):K2)).Nodup:=by
 rw [List.nodup_iff_pairwise_ne,List.pairwise_map]
 refine List.Pairwise.imp (fun {a b} hab e=> ?_) h
 simp only [pIE] at e
 exact hab e
theorem Rj{L:List Ent}{s:Int}{r:List UInt8}(h: ¬(fnd L s r).st=0): ∃ x∈L,x.s=s∧x.r=r:=by
 cases hh:has L s r with
 |false=>rw [sD hh] at h;exact absurd rfl h
 |true=>
  unfold has at hh
  obtain ⟨x,hx,hk⟩:=List.any_eq_true.1 hh
  exact ⟨x,hx,eK.1 hk⟩
theorem Rk{D:Dk}(h:D.ok=true):(aS D.I D.O).length<=cnt D.T:=by
 obtain ⟨⟨_,_,_,hT⟩,⟨_,_,hW⟩,ht,_⟩:=lx h
 have hu:cB (aS D.I D.O):=(dJ.1 hW).2.2.1
 have h1:=Az (Ib hu) (M:=(alT D.tm D.T).map fun x=>((x.s,x.r):K2)) (fun k hk=>by
  obtain ⟨x,hx,rfl⟩:=List.mem_map.1 hk
  have h2:=List.all_eq_true.1 ht x (kU.2 hx)
  obtain ⟨y,hy,e1,e2⟩:=Rj (L:=alT D.tm D.T) (s:=x.s) (r:=x.r) (fun e=>by rw [e] at h2;exact absurd h2 (by decide))
  exact List.mem_map.2 ⟨y,hy,by rw [e1,e2]⟩)
 rw [List.length_map,List.length_map,so hT] at h1
 exact h1
end Go.Vd
namespace Go.Vd
open Go.Proofs
theorem AA{w t m n q:Int}(h:dA w t m n q=true):(1<=w∧w<=4000)∧(0<=t∧t<=16)∧(0<=m∧m<=128):=by
 have h1:=of_decide_eq_true h
 exact ⟨h1.1,h1.2.1,h1.2.2.1⟩
theorem OS(s:List UInt8):gH 2 s=s.all okB:=rfl
theorem SQ(s:List UInt8):rr 37 s=(decide (s.length=12)&& s.all okB):=by
 have h:eY FL 37=some (2,12):=rfl
 have e1:dOk 37=true:=by simp [dOk,h]
 have e2:dKd 37=2:=by simp [dKd,h]
 have e3:dSz 37=12:=by simp [dSz,h]
 unfold rr
 rw [e1,e2,e3,OS]
 by_cases h:s.length=12
 · have hne: ¬s= [] :=fun e=>by rw [e] at h;simp at h
   rw [if_pos ⟨rfl,hne,by omega,fun _=>by omega⟩]
   simp [h]
 · rw [if_neg (fun h'=>h (by have:=h'.2.2.1;have:=h'.2.2.2 (by omega);omega))]
   simp [h]
theorem wG{d:Dl}(hd:dR d.k d.am d.s d.pan d.r d.code=true)(hk:d.k=1):vR 1 d=true∧d.code= [] ∧eR ⟨d.s,d.r,1,d.pan,d.am, [],0,0⟩=true:=by
 have h1:vR 1 d=true:=by
  unfold vR evO evK dRR
  simp [hk]
  rw [hk] at hd
  exact hd
 rw [hk] at hd
 unfold dR ku at hd
 rw [SQ] at hd
 simp at hd
 refine ⟨h1,by simp [hd], ?_⟩
 unfold eR eSt unT dE
 simp [hd]
 intro x hx
 exact hd.2.1.2 x hx
theorem Do{D:Dk}{d:Dl}(h:D.ok=true)(hd:dR d.k d.am d.s d.pan d.r d.code=true)(hk:d.k=1)(hh:lkB D.T d.s d.r=false):
 doW D d=E0∧doH D d=false∧E4 D 1 d=true∧doS D 1 d=⟨⟨d.s,d.r,1,d.pan,d.am, [],0,0⟩, [], [⟨1,d.pan,d.am,d.s,d.r, []⟩],1,false⟩:=by
 obtain ⟨⟨hm,_,_,hT⟩,_,_,_⟩:=lx h
 obtain ⟨hv,hc,he⟩:=wG hd hk
 have hW:doW D d=E0:=by
  unfold doW
  rw [(zu hT).1]
  unfold lkE
  split
  · rfl
  · rename_i hs
    have h2:=(sf hs).2
    rw [hh] at h2
    exact sD h2.symm
 have hok:lL E0 1 d D.t=true:=by
  have h3:=(AA hm).2.1
  unfold lL rF
  rw [hv]
  simp [h3]
 refine ⟨hW, ?_, ?_, ?_⟩
 · unfold doH;rw [(zu hT).2];exact hh
 · unfold E4
   rw [h,hv,hW]
   unfold jp
   rw [if_pos hok]
   rfl
 · unfold doS
   rw [hW]
   unfold stp
   rw [if_pos hok]
   unfold lr jD
   rw [if_pos rfl,if_pos rfl]
theorem AB: ∀ {L:List Tm} {a b:Tm},cB L->a∈L->b∈L->(a.s=b.s∧a.r=b.r)->a=b
 |x::L,a,b,h,ha,hb,e=>by
  have h2:=List.pairwise_cons.1 h
  rcases List.mem_cons.1 ha with rfl|ha'
  · rcases List.mem_cons.1 hb with rfl|hb'
    · rfl
    · exact absurd e (h2.1 b hb')
  · rcases List.mem_cons.1 hb with rfl|hb'
    · exact absurd ⟨e.1.symm,e.2.symm⟩ (h2.1 a ha')
    · exact AB h2.2 ha' hb' e
theorem OT{n m u s:Int}{r:List UInt8}{I O:Sl}{L:List Tm}(hR:wR n m I O=true)(hl:bP I O=bS L ⟨s,r,u⟩):nZ n m I O s r=true∧nY n m I O s r=u:=by
 have hu:cB (aS I O):=(dJ.1 hR).2.2.1
 have hx:(⟨s,r,u⟩:Tm)∈aS I O:=by
  rw [<-kU,hl]
  exact (eN _ _).mem_iff.2 List.mem_cons_self
 have hk:hkT (aS I O) s r=true:=qk.2 ⟨_,hx,rfl,rfl⟩
 obtain ⟨t,ht,e1,e2,e3⟩:=uh hk
 have ht2:t=⟨s,r,u⟩:=AB hu ht hx ⟨e1,e2⟩
 rw [(EN hR s r).2,(EN hR s r).1]
 refine ⟨hk, ?_⟩
 rw [<-e3,ht2]
theorem Dp{D:Dk}{d:Dl}{room:Bool}(h:D.ok=true)(hn:0<=D.nw)(hI:D.I.length=64)(hO:D.O.length=64)(hd:dR d.k d.am d.s d.pan d.r d.code=true)(hk:d.k=1)(hh:lkB D.T d.s d.r=false):
 doE D 1 d room=0∧
 ((room=false∨((alT D.tm D.T).length:Int)=D.m)->doI D 1 d room= [] ∧doA D 1 d room= [⟨2, [],0,d.s,d.r, [57,54]⟩] ∧doD D 1 d room=D)∧
 (¬(room=false∨((alT D.tm D.T).length:Int)=D.m)->doA D 1 d room= [] ∧doI D 1 d room= [d] ∧tbR (doD D 1 d room).tm (doD D 1 d room).T=true∧lkE (doD D 1 d room).T d.s d.r=⟨d.s,d.r,1,d.pan,d.am, [],0,0⟩∧lkB (doD D 1 d room).T d.s d.r=true∧
   wR (doD D 1 d room).nw (doD D 1 d room).wm (doD D 1 d room).I (doD D 1 d room).O=true∧bP (doD D 1 d room).I (doD D 1 d room).O=bS (bP D.I D.O) ⟨d.s,d.r,D.nw+D.w⟩):=by
 obtain ⟨hW,hH,hOk,hS⟩:=Do h hd hk hh
 obtain ⟨⟨hm,htm,_,hT⟩,⟨hwm,hnw,hR⟩,_,_⟩:=lx h
 obtain ⟨_,hc,he⟩:=wG hd hk
 have hb:=AA hm
 have hlen:=so hT
 have hcm:=(jl hT).2.1
 have hne: ¬(doS D 1 d).e=doW D d:=by
  rw [hS,hW]
  intro e
  have h9:(1:Int)=0:=congrArg Ent.st e
  exact absurd h9 (by decide)
 have hSe:(doS D 1 d).e=⟨d.s,d.r,1,d.pan,d.am, [],0,0⟩:=by rw [hS]
 have hB:doB D 1 d room=true↔room=false∨((alT D.tm D.T).length:Int)=D.m:=by
  unfold doB
  rw [hH,decide_eq_true hne,hSe,hlen,<-htm]
  by_cases hf:D.tm<=(cnt D.T:Int)
  · rw [(HV hT he hh hf).1]
    have:(cnt D.T:Int)=D.tm:=by omega
    simp [this]
  · rw [(Aq hT he hh hf).1]
    have: ¬(cnt D.T:Int)=D.tm:=by omega
    cases room<;>simp [this]
 by_cases hbz:doB D 1 d room=true
 · have hC:doC D 1 d room=1:=by unfold doC;rw [if_pos hOk,if_pos hbz]
   obtain ⟨e1,e2,e3,e4⟩:=Q7 hC
   exact ⟨e4,fun _=>⟨e3,e2,e1⟩,fun hx=>absurd (hB.1 hbz) hx⟩
 · have hC:doC D 1 d room=2:=by unfold doC;rw [if_pos hOk,if_neg hbz]
   obtain ⟨e1,e2,e3,e4⟩:=Av hC
   have hx:=fun g=>hbz (hB.2 g)
   refine ⟨e4,fun g=>absurd g hx,fun _=> ?_⟩
   have hf: ¬D.tm<=(cnt D.T:Int):=fun hf=>hx (.inr (by rw [hlen,<-htm];omega))
   obtain ⟨p1,p2,p3,p4,p5,_⟩:=Aq hT he hh hf
   have hno:=sE h hh
   have hcan:=pD (n:=D.nw) (m:=D.wm) (s:=d.s) (I:=D.I) (O:=D.O) (r:=d.r) (by rw [xe hR hno];decide)
   have hle:=Rk h
   have hs0:dz D.nw D.wm D.I D.O d.s d.r (D.nw+D.w)=0:=ES hR hno (by omega) (by omega) (by rw [hwm,<-htm];omega)
   have hsn:=Al hI hO hs0 (by omega)
   have hK:gu (doS D 1 d)=false:=by rw [hS];rfl
   have ht1:=xf (w:=D.w) (nw:=D.nw) (wm:=D.wm) (I:=D.I) (O:=D.O) (s:=d.s) (r:=d.r) hK (by rw [hS])
   rw [hcan.1,hcan.2] at ht1
   rw [e1,e2,e3]
   unfold doR
   rw [if_neg hne,hH,if_neg (by decide),ht1.1,ht1.2,hSe]
   refine ⟨by rw [hS], ?_,p2,p4,p5,hsn.1,hsn.2⟩
   rw [hS]
   cases d
   simp at hc hk
   rw [hc,hk]
end Go.Vd
namespace Go.Vd
open Go.Proofs
theorem lM(n:Int):E64=bI n [] ∧E64=bO n [] :=by
 constructor
 · refine cr (by simp [E64]) (bL _ _) fun i hi=> ?_
   rw [cA hi,sl,vj];rfl
 · refine cr (by simp [E64]) (cd _ _) fun i hi=> ?_
   rw [cM hi,sl,vj];rfl
theorem qx:E64.length=64:=by simp [E64]
theorem xh{n m:Int}(hm:fo m=true):wR n m E64 E64=true:=by
 have h:=Hz (n:=n) ⟨List.Pairwise.nil,List.Pairwise.nil,fun t h=>by simp at h⟩ hm (by have:=sj.1 hm;simp;omega)
 rw [<-(lM n).1,<-(lM n).2] at h
 exact dJ.2 h
theorem mY:bP E64 E64= [] :=by
 have h:=C0 (n:=0) ⟨List.Pairwise.nil,List.Pairwise.nil,fun t h=>by simp at h⟩
 rw [<-(lM 0).1,<-(lM 0).2] at h
 exact h
def jr:List UInt8:= [82,82,78,48,48,48,48,48,48,48,48,49]
def jt:Tm:=⟨1,jr,10⟩
def je:Ent:=⟨1,jr,1, [49,56],5, [],0,0⟩
def jv (s:Int):Dl:=⟨1, [49,56],5,s,jr, []⟩
def jT:Tbl:=cN 1 [[], []] je
@[irreducible] def jd0:Dk:=⟨10,1,1,2,2,1, [[], []],0,1,E64,E64, []⟩
@[irreducible] def jd1:Dk:=⟨10,1,1,2,2,1,jT,0,1,bI 0 [jt],bO 0 [jt], []⟩
@[irreducible] def jd2:Dk:=⟨10,1,1,2,2,1,jT,10,1,bI 10 [],bO 10 [], []⟩
theorem KO{n:Int}{T:Tbl}{I O:Sl}{L:List Tm}(hT:gr 1 2 1 T=true)(hn:n<=4611686018427387904)(hW:wR n 1 I O=true)(hl:bP I O=L)(ht:lv (alT 1 T) L=true):(⟨10,1,1,2,2,1,T,n,1,I,O, []⟩:Dk).ok=true:=by
 show dkR 10 1 1 2 2 1 T n 1 I O [] =true
 unfold dkR gM
 rw [hT,hW,qn hW,hl,ht,decide_eq_true hn]
 rfl
theorem j_k:fo 1=true:=by decide
theorem j_a:dR (jv 1).k (jv 1).am (jv 1).s (jv 1).pan (jv 1).r (jv 1).code=true∧dR (jv 2).k (jv 2).am (jv 2).s (jv 2).pan (jv 2).r (jv 2).code=true:=by decide+kernel
theorem AC:gr 1 2 1 [[], []] =true∧cG 1 [[], []] je=0∧lkB [[], []] 1 jr=false:=by decide+kernel
theorem AD:gr 1 2 1 jT=true∧lv (alT 1 jT) [jt] =true∧lkB jT 2 jr=false∧(alT 1 jT).length=1:=by decide+kernel
theorem Rl:jd0.ok=true:=by unfold jd0;exact KO AC.1 (by decide) (xh j_k) mY rfl
theorem j_n:nwD 10 1 1 2 2=jd0∧nwC 10 1 1 2 2=0:=by
 have h:dA 10 1 1 2 2=true:=by decide
 have h2:mg 1 2= [[], []] :=by decide
 rw [(KL h).1,h2]
 unfold jd0
 exact ⟨rfl,(KL h).2⟩
theorem Rm:dz 0 1 E64 E64 1 jr 10=0:=ES (xh j_k) (sE (D:=⟨10,1,1,2,2,1, [[], []],0,1,E64,E64, []⟩) (by have:=Rl;unfold jd0 at this;exact this) AC.2.2) (by decide) (by decide) (by
 have h:(bP E64 E64).length=(aS E64 E64).length:=jo _
 rw [<-h,mY];decide)
theorem Fc:fV 0 1 E64 E64 1 jr 10=bI 0 [jt] ∧fW 0 1 E64 E64 1 jr 10=bO 0 [jt] :=by
 obtain ⟨g1,g2⟩:=vt qx qx Rm (by decide)
 rw [mY] at g1 g2
 exact ⟨g1.symm,g2.symm⟩
theorem vC:wR 0 1 (bI 0 [jt]) (bO 0 [jt])=true∧bP (bI 0 [jt]) (bO 0 [jt])= [jt] :=by
 have h:=Al qx qx Rm (by decide)
 rw [mY,Fc.1,Fc.2] at h
 exact h
theorem Rn:jd1.ok=true:=by unfold jd1;exact KO AD.1 (by decide) vC.1 vC.2 AD.2.1
theorem j_q(n:Int){L:List Tm}(h:L= [] ∨L= [jt]):whQ (bI n L) (bO n L):=EM (by rcases h with rfl|rfl<;>simp) fun t ht=>by
 rcases h with rfl|rfl
 · simp at ht
 · simp only [List.mem_singleton] at ht;subst ht;exact ⟨by decide,by decide⟩
theorem j_1:doD jd0 1 (jv 1) true=jd1∧doA jd0 1 (jv 1) true= [] ∧doI jd0 1 (jv 1) true= [jv 1] ∧doE jd0 1 (jv 1) true=0:=by
 have hk:=Rl
 unfold jd0 jd1 at*
 obtain ⟨hW,hH,hOk,hS⟩:=Do hk j_a.1 rfl AC.2.2
 have hne: ¬(doS ⟨10,1,1,2,2,1, [[], []],0,1,E64,E64, []⟩ 1 (jv 1)).e=doW ⟨10,1,1,2,2,1, [[], []],0,1,E64,E64, []⟩ (jv 1):=by
  rw [hS,hW]
  intro e
  have h9:(1:Int)=0:=congrArg Ent.st e
  exact absurd h9 (by decide)
 have hSe:(doS ⟨10,1,1,2,2,1, [[], []],0,1,E64,E64, []⟩ 1 (jv 1)).e=je:=by rw [hS];rfl
 have hB: ¬doB ⟨10,1,1,2,2,1, [[], []],0,1,E64,E64, []⟩ 1 (jv 1) true=true:=by
  unfold doB
  rw [hSe]
  show ¬(_ &&(!true||decide (cG 1 [[], []] je=7)))=true
  rw [AC.2.1]
  simp
 have hC:doC ⟨10,1,1,2,2,1, [[], []],0,1,E64,E64, []⟩ 1 (jv 1) true=2:=by unfold doC;rw [if_pos hOk,if_neg hB]
 obtain ⟨e1,e2,e3,e4⟩:=Av hC
 have hno:=sE hk (s:=1) (r:=jr) AC.2.2
 have hcan:=pD (n:=0) (m:=1) (s:=1) (I:=E64) (O:=E64) (r:=jr) (by rw [xe (xh j_k) hno];decide)
 have ht1:=xf (w:=10) (nw:=0) (wm:=1) (I:=E64) (O:=E64) (s:=1) (r:=jr) (S:=doS ⟨10,1,1,2,2,1, [[], []],0,1,E64,E64, []⟩ 1 (jv 1)) (by rw [hS];rfl) (by rw [hS])
 rw [hcan.1,hcan.2] at ht1
 have ht2:=ht1.1.trans Fc.1
 have ht3:=ht1.2.trans Fc.2
 refine ⟨?_,by rw [e2,hS],by rw [e3,hS];rfl,e4⟩
 rw [e1]
 unfold doR
 rw [if_neg hne,hH,if_neg (by decide),hSe]
 have hrc: ¬(doS ⟨10,1,1,2,2,1, [[], []],0,1,E64,E64, []⟩ 1 (jv 1)).rc=true:=by rw [hS];decide
 rw [if_neg hrc]
 show (⟨10,1,1,2,2,1,jT,0,1,fH 10 0 1 E64 E64 1 jr _,fI 10 0 1 E64 E64 1 jr _, []⟩:Dk)=_
 rw [ht2,ht3]
theorem j_2:doD jd1 1 (jv 2) true=jd1∧doA jd1 1 (jv 2) true= [⟨2, [],0,2,jr, [57,54]⟩] ∧doI jd1 1 (jv 2) true= [] ∧doE jd1 1 (jv 2) true=0:=by
 have hk:=Rn
 unfold jd1 at*
 obtain ⟨h1,h2,_⟩:=Dp (d:=jv 2) (room:=true) hk (by decide) (bL _ _) (cd _ _) j_a.2 rfl AD.2.2.1
 obtain ⟨g1,g2,g3⟩:=h2 (.inr (by show ((alT 1 jT).length:Int)=1;rw [AD.2.2.2];rfl))
 exact ⟨g3,g2,g1,h1⟩
theorem j_3:tkD jd1 10=jd2∧tkL jd1 10= [(1,jr)] ∧tkC jd1 10=0:=by
 have hk:=Rn
 unfold jd1 jd2 at*
 have hc:dk 0 1 (bI 0 [jt]) (bO 0 [jt]) 10=0:=EU vC.1 (by decide)
 obtain ⟨g1,g2,g3,g4⟩:=vr hc
 rw [vC.2] at g2 g3 g4
 obtain ⟨e1,e2,e3⟩:=Rf (D:=⟨10,1,1,2,2,1,jT,0,1,bI 0 [jt],bO 0 [jt], []⟩) (k:=10) (by rw [hk];rfl) (by show ¬(4611686018427387904 - 0<(10:Int));decide) (by show (dk 0 1 (bI 0 [jt]) (bO 0 [jt]) 10 !=0)=false;rw [hc];rfl)
 refine ⟨?_, ?_,e3⟩
 · rw [e1]
   show (⟨10,1,1,2,2,1,jT,ml 0 1 (bI 0 [jt]) (bO 0 [jt]) 10,1,mm 0 1 (bI 0 [jt]) (bO 0 [jt]) 10,mn 0 1 (bI 0 [jt]) (bO 0 [jt]) 10, []⟩:Dk)=_
   rw [g1,g2,g3]
   rfl
 · rw [e2]
   show (j8 0 1 (bI 0 [jt]) (bO 0 [jt]) 10).map _=_
   rw [g4]
   rfl
theorem Fd:wR 10 1 (bI 10 []) (bO 10 [])=true∧bP (bI 10 []) (bO 10 [])= [] :=by
 rw [<-(lM 10).1,<-(lM 10).2]
 exact ⟨xh j_k,mY⟩
theorem SR:jd2.ok=true:=by unfold jd2;exact KO AD.1 (by decide) Fd.1 Fd.2 rfl
@[irreducible] def jA (s:Int):List Dl:=if s=1 then [] else [⟨2, [],0,2,jr, [57,54]⟩]
@[irreducible] def jI (s:Int):List Dl:=if s=1 then [jv 1] else []
@[irreducible] def jL:List K2:= [(1,jr)]
def jP (D:Dk)(v:Int)(d:Dl)(room:Bool):Prop:=(v=1∧room=true)∧((d=jv 1∧D=jd0)∨(d=jv 2∧D=jd1))
theorem Ro:dkQ jd0.T jd0.nw jd0.I jd0.O jd0.R:=by
 unfold jd0
 refine ⟨⟨by decide,fun i=> ?_,fun i j=> ?_⟩, ?_,by decide,by decide,by decide⟩
 · show ([[], []].getD i ([] :List Ent)).length<=1000000
   match i with
   |0|1=>decide
   |i+2=>exact Nat.zero_le _
 · show enQ (([[], []].getD i ([] :List Ent)).getD j E0)
   match i with
   |0|1=>exact kF
   |i+2=>exact kF
 · have h:=j_q 0 (L:= []) (.inl rfl)
   rw [<-(lM 0).1,<-(lM 0).2] at h
   exact h
theorem j_T:jT= [[], [je]] ∨jT= [[je], []] :=by decide+kernel
theorem Rp:tbQ jT:=by
 have he:enQ je:=⟨by decide,by decide,by decide,by decide⟩
 rcases j_T with h|h<;>rw [h]
 all_goals
  refine ⟨by decide,fun i=> ?_,fun i j=> ?_⟩
  · match i with
    |0|1=>decide
    |i+2=>exact Nat.zero_le _
  · match i,j with
    |0,0|1,0=>first|exact he|exact kF
    |0,j+1|1,j+1=>exact kF
    |i+2,j=>exact kF
theorem AE:dkQ jd1.T jd1.nw jd1.I jd1.O jd1.R:=by
 unfold jd1
 exact ⟨Rp,j_q 0 (.inr rfl),by decide,by decide,by decide⟩
theorem AF:dkQ jd2.T jd2.nw jd2.I jd2.O jd2.R:=by
 unfold jd2
 exact ⟨Rp,j_q 10 (.inl rfl),by decide,by decide,by decide⟩
theorem j_e(s:Int)(h:0<=s∧s<4294967296):evQ (jv s):=⟨h,by show jr.length<=1000000;decide,by show ([49,56] :List UInt8).length<=100000;decide,Nat.zero_le _⟩
theorem KP{D E:Dk}(h:D=E)(hq:dkQ E.T E.nw E.I E.O E.R):dkQ D.T D.nw D.I D.O D.R:=by rw [h];exact hq
theorem Sn:ak Tryz.prog gl0 9 [.agg [.int .u64 10, .int .i64 1, .int .i64 1, .int .i64 2, .int .i64 2]] (.tup [dkT std (fun _=>jd0), .int .i64 0]):=by
 have g:=H8 10 1 1 2 2
 rw [j_n.1,j_n.2] at g
 exact g
theorem SS(w t m n q tm:Int)(T:Tbl)(nw wm:Int)(I O:Sl)(R:List K2)(v k am s:Int)(pan r code:List UInt8)(room:Bool)(h:jP ⟨w,t,m,n,q,tm,T,nw,wm,I,O,R⟩ v ⟨k,pan,am,s,r,code⟩ room):
 ak Tryz.prog gl0 13 [dkS std w t m n q tm T nw wm I O R, .agg [.int .i64 v, .int .i64 k, .str pan, .int .u64 am, .int .u32 s, .str r, .str code], .bool room] (.tup [dkT std (fun _=>jd1),av eD D0 6 std (fun _=>jA s),av eD D0 6 std (fun _=>jI s), .int .i64 0]):=by
 obtain ⟨⟨rfl,rfl⟩,⟨h1,h2⟩ | ⟨h1,h2⟩⟩:=h
 · have hq:dkQ T nw I O R:=KP h2 Ro
   have he:evQ ⟨k,pan,am,s,r,code⟩:=by rw [h1];exact j_e 1 (by decide)
   have g:=sA w t m n q tm T nw wm I O R 1 k am s pan r code true hq he
   rw [h1,h2,j_1.1,j_1.2.1,j_1.2.2.1,j_1.2.2.2] at g
   obtain rfl:s=1:=congrArg Dl.s h1
   unfold jA jI
   exact g
 · have hq:dkQ T nw I O R:=KP h2 AE
   have he:evQ ⟨k,pan,am,s,r,code⟩:=by rw [h1];exact j_e 2 (by decide)
   have g:=sA w t m n q tm T nw wm I O R 1 k am s pan r code true hq he
   rw [h1,h2,j_2.1,j_2.2.1,j_2.2.2.1,j_2.2.2.2] at g
   obtain rfl:s=2:=congrArg Dl.s h1
   unfold jA jI
   exact g
theorem Rq(w t m n q tm:Int)(T:Tbl)(nw wm:Int)(I O:Sl)(R:List K2)(h:(⟨w,t,m,n,q,tm,T,nw,wm,I,O,R⟩:Dk)=jd1):
 ak Tryz.prog gl0 16 [dkS std w t m n q tm T nw wm I O R, .int .u64 10] (.tup [dkT std (fun _=>jd2),av eKy K0 2 std (fun _=>jL), .int .i64 0]):=by
 have g:=E6 w t m n q tm T nw wm I O R 10 (KP h AE) (by decide)
 rw [h,j_3.1,j_3.2.1,j_3.2.2] at g
 unfold jL
 exact g
noncomputable def AG:Ct:=fun A args=>match args with
 | [.agg [.int .u64 10, .int .i64 1, .int .i64 1, .int .i64 2, .int .i64 2]] =>some (none, .tup [dkT A (fun _=>jd0), .int .i64 0])
 |_=>none
theorem Ic:bY Tryz.prog gl0 9 AG:=⟨⟨_,Tryz.func9,rfl,by decide⟩,fun args p r h hp=>by
 unfold AG at h
 split at h<;>cases h
 exact Sn⟩
noncomputable def Fe:Ct:=fun A args=>match args with
 | [.agg [.int .u64 w, .int .i64 t, .int .i64 m, .int .i64 n, .int .i64 q, .int .i64 tm, .slc kk 1 f, .int .u64 nw, .int .i64 wm, .run 64 g, .run 64 g', .slc c 2 h], .agg [.int .i64 v, .int .i64 k, .str pan, .int .u64 am, .int .u32 s, .str r, .str code], .bool room] =>some (some (A.tp fun _=>(ao eEs [] 1 kk f∧(ao eTs [] 1 64 g∧ao eTs [] 1 64 g')∧ao eKy K0 2 c h)∧jP ⟨w,t,m,n,q,tm,ab eEs [] 1 kk f,nw,wm,ab eTs [] 1 64 g,ab eTs [] 1 64 g',ab eKy K0 2 c h⟩ v ⟨k,pan,am,s,r,code⟩ room), .tup [dkT A (fun _=>jd1),av eD D0 6 A (fun _=>jA s),av eD D0 6 A (fun _=>jI s), .int .i64 0])
 |_=>none
theorem KQ:bY Tryz.prog gl0 13 Fe:=⟨⟨_,Tryz.func13,rfl,by decide⟩,fun args p r h hp=>by
 unfold Fe at h
 split at h<;>cases h
 exact aM (SS _ _ _ _ _ _ _ _ _ _ _ _ _ _ _ _ _ _ _ _ hp.2) ⟨iW hp.1.1 hp.1.2.1.1 hp.1.2.1.2 hp.1.2.2,⟨_,rfl,rfl,rfl,rfl,rfl,rfl,rfl,rfl,trivial⟩,rfl,trivial⟩⟩
noncomputable def vF:Ct:=fun A args=>match args with
 | [.agg [.int .u64 w, .int .i64 t, .int .i64 m, .int .i64 n, .int .i64 q, .int .i64 tm, .slc kk 1 f, .int .u64 nw, .int .i64 wm, .run 64 g, .run 64 g', .slc c 2 h], .int .u64 10] =>some (some (A.tp fun _=>(ao eEs [] 1 kk f∧(ao eTs [] 1 64 g∧ao eTs [] 1 64 g')∧ao eKy K0 2 c h)∧(⟨w,t,m,n,q,tm,ab eEs [] 1 kk f,nw,wm,ab eTs [] 1 64 g,ab eTs [] 1 64 g',ab eKy K0 2 c h⟩:Dk)=jd1), .tup [dkT A (fun _=>jd2),av eKy K0 2 A (fun _=>jL), .int .i64 0])
 |_=>none
theorem Ff:bY Tryz.prog gl0 16 vF:=⟨⟨_,Tryz.func16,rfl,by decide⟩,fun args p r h hp=>by
 unfold vF at h
 split at h<;>cases h
 exact aM (Rq _ _ _ _ _ _ _ _ _ _ _ _ hp.2) ⟨iW hp.1.1 hp.1.2.1.1 hp.1.2.1.2 hp.1.2.2,rfl,trivial⟩⟩
noncomputable def gjo:Ar->Pu:=aw 9 AG (aw 13 Fe (aw 16 vF (aw 19 lw (aw 18 pG (aw 28 jR (noC))))))
theorem Rr:aE Tryz.prog gl0 (gjo std):=by
 refine aH (aH (aH (aH (aH (aH (aT) pK) pH) jU) Ff) KQ) Ic
attribute [local irreducible] jP
theorem j_l:((jd0.I.length=64∧jd0.O.length=64)∧(jd1.I.length=64∧jd1.O.length=64))∧(jd2.I.length=64∧jd2.O.length=64):=⟨⟨Ro.2.1.1,AE.2.1.1⟩,AF.2.1.1⟩
theorem ST:jI 1= [jv 1] :=by unfold jI;rfl
theorem SU:jA 1= [] :=by unfold jA;rfl
theorem SW:jA 2= [⟨2, [],0,2,jr, [57,54]⟩] :=by unfold jA;rfl
theorem SX:jL= [(1,jr)] :=by unfold jL;rfl
theorem SY:jP jd0 1 ⟨1, [49,56],5,1, [82,82,78,48,48,48,48,48,48,48,48,49], []⟩ true:=by unfold jP;exact ⟨⟨rfl,rfl⟩, .inl ⟨rfl,rfl⟩⟩
theorem SZ:jP jd1 1 ⟨1, [49,56],5,2, [82,82,78,48,48,48,48,48,48,48,48,49], []⟩ true:=by unfold jP;exact ⟨⟨rfl,rfl⟩, .inr ⟨rfl,rfl⟩⟩
theorem So:j7 jd1.nw jd1.wm jd1.I jd1.O= [jt] :=by unfold jd1;exact (qn vC.1).trans vC.2
theorem Sq:j7 jd2.nw jd2.wm jd2.I jd2.O= [] :=by unfold jd2;exact (qn Fd.1).trans Fd.2
theorem S1:dA jd2.w jd2.t jd2.m jd2.n jd2.q=true:=by unfold jd2;decide
theorem S5:dkR jd2.w jd2.t jd2.m jd2.n jd2.q jd2.tm jd2.T jd2.nw jd2.wm jd2.I jd2.O jd2.R=true:=SR
theorem tn1:Int.toNat 1=1:=rfl
attribute [local irreducible] vc
theorem BT:ak Tryz.prog gl0 6 [] (.bool true):=by
 refine ag (T:=az) (G:=gjo) (X:=noX) ah Rr ax aq mixed Tryz.func6 (.one) (fun A=> []) (fun A=> .bool true) fun A hA=> ?_
 refine mU rfl rfl ?_
 refine dO fun H hH=> ?_
 cbv
 repeat' (first| (with_reducible first|exact vT|exact vD hA|exact vE hA|refine vA ?_ ?_) | (intro hc;cbv))
 iterate 7
  all_goals first
   | (subst hH;refine dO fun H hH=> ?_;cbv;repeat' (first| (with_reducible first|exact vT|exact vD hA|exact vE hA|refine vA ?_ ?_) | (intro hc;cbv)))
   |skip
 all_goals first
  | (subst hH;refine dO fun H hH=> ?_;refine rh 20 fun H2 hH2=> ?_;cbv;repeat' (first| (with_reducible first|exact vT|exact vD hA|exact vE hA|refine vA ?_ ?_) | (intro hc;cbv)))
  |skip
 iterate 3
  all_goals first
   | (subst hH2;refine KK 20 fun H2 hH2=> ?_;cbv;repeat' (first| (with_reducible first|exact vT|exact vD hA|exact vE hA|refine vA ?_ ?_) | (intro hc;cbv)))
   |skip
 all_goals first
  | (subst hH2;cbv;repeat' (first| (with_reducible first|exact vT|exact vD hA|exact vE hA|refine vA ?_ ?_) | (intro hc;cbv)))
  |skip
 all_goals first
  | (subst hH;cbv;repeat' (first| (with_reducible first|exact vT|exact vD hA|exact vE hA|refine vA ?_ ?_) | (intro hc;cbv)))
  |skip
 all_goals (subst hA;simp only [sS,bm,aW,fQ,cH,aD j_l.1.1.1,aj j_l.1.1.1,aD j_l.1.1.2,aj j_l.1.1.2,aD j_l.1.2.1,aj j_l.1.2.1,aD j_l.1.2.2,aj j_l.1.2.2,aD j_l.2.1,aj j_l.2.1,aD j_l.2.2,aj j_l.2.2,ST,SU,SW,SX,So,Sq,S1,S5,tn1] at*)
 all_goals first
  |done
  |decide
  |exact ⟨⟨trivial,⟨trivial,trivial⟩,trivial⟩,SY⟩
  |exact ⟨⟨trivial,⟨trivial,trivial⟩,trivial⟩,SZ⟩
  |exact ⟨⟨trivial,⟨trivial,trivial⟩,trivial⟩,rfl⟩
  |exact fun h=>⟨h,⟨⟨trivial,trivial⟩,AE.2.1⟩,AE.2.2.2.1⟩
  |exact fun h=>⟨h,⟨⟨trivial,trivial⟩,AF.2.1⟩,AF.2.2.2.1⟩
  |exact fun h=>⟨h,⟨trivial,⟨trivial,trivial⟩,trivial⟩,AF⟩
  |exact ⟨⟨trivial,⟨trivial,trivial⟩,trivial⟩,AF⟩
noncomputable def sF:Ct:=fun A args=>match args with
 | [] =>some (none, .bool true)
 |_=>none
theorem BU:bY Tryz.prog gl0 6 sF:=⟨⟨_,Tryz.func6,rfl,by decide⟩,fun args p r h hp=>by
 unfold sF at h
 split at h<;>cases h
 exact BT⟩
end Go.Vd
