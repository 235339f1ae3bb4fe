/- Wheels: what a right wheel becomes; the law's contracts. -/
import Derived.Test.YtckmnmcnelfkjaaGreatDoorVdWS
import Derived.Test.YtckmnmcnelfkjaaGreatDoorVdI2
import Derived.Test.YtckmnmcnelfkjaaGreatDoorVdWC
import Derived.Test.YtckmnmcnelfkjaaGreatDoorVdV6
set_option linter.unusedVariables false
set_option linter.unusedSimpArgs false
set_option maxRecDepth 100000
set_option maxHeartbeats 8000000
namespace Go.Vd
open Go.Proofs
variable {r:List UInt8} {I O:Sl} {n m s u:Int}
theorem KA(h:I.length=64):(gj n m I O s r u).length=64:=by unfold gj;split<;>simp [h]
theorem KB(h:O.length=64):(gk n m I O s r u).length=64:=by unfold gk;split<;>simp [h]
theorem Ag{n m s:Int}(h:I.length=64):(fB n m I O s r).length=64:=by unfold fB;split<;>simp [h]
theorem Ah{n m s:Int}(h:O.length=64):(fC n m I O s r).length=64:=by unfold fC;split<;>simp [h]
theorem ue{n m:Int}(h:wR n m I O=true):(bL I O).length<=256∧((bL I O).length:Int)<=m∧fg m=true:=by
 have h1:=dC.1 h
 have h2:=sb.1 h1.1
 have h3:=h1.2.2.2
 have h4:(bL I O).length=(aR I O).length:=jm _
 exact ⟨by omega,by omega,h1.1⟩
theorem ES(h:dD n m I O s r u=0):wR n m I O=true:=by
 cases hw:wR n m I O
 · rw [EN hw] at h;cases h
 · rfl
theorem Sd{n m s:Int}(h:gG n m I O s r=0):wR n m I O=true:=by
 cases hw:wR n m I O
 · rw [EQ hw] at h;cases h
 · rfl
theorem Se{n m k:Int}(h:dt n m I O k=0):wR n m I O=true:=by
 cases hw:wR n m I O
 · rw [Ma hw] at h;cases h
 · rfl
theorem Sf(h:dD n m I O s r u=0):hkT (aR I O) s r=false∧ ¬u<=n∧ ¬63<u / 64 - n / 64∧ ¬m<=((aR I O).length:Int):=by
 have hw:=ES h
 cases h1:hkT (aR I O) s r
 · by_cases h2:u<=n
   · rw [HH hw h1 h2] at h;cases h
   · by_cases h3:63<u / 64 - n / 64
     · rw [L6 hw h1 h2 h3] at h;cases h
     · by_cases h4:m<=((aR I O).length:Int)
       · rw [L7 hw h1 h2 h3 h4] at h;cases h
       · exact ⟨rfl,h2,h3,h4⟩
 · rw [EO hw h1] at h;cases h
theorem kJ{t:Tm} :t∈bL I O↔t∈aR I O:=gi
theorem Ai(hI:I.length=64)(hO:O.length=64)(h:dD n m I O s r u=0)(hu:0<=u):wR n m (gj n m I O s r u) (gk n m I O s r u)=true∧bL (gj n m I O s r u) (gk n m I O s r u)=bP (bL I O) ⟨s,r,u⟩:=by
 have hw:=ES h
 obtain ⟨f1,f2,f3,f4⟩:=Sf h
 obtain ⟨L,hL,hc,e1,e2,hl,hm⟩:=zM hI hO (dC.1 hw)
 have hx: ∀ x∈L,sa x ⟨s,r,u⟩:=fun x hx=>by rw [hL] at hx;exact (t7 (t:=⟨s,r,u⟩)).1 f1 x (kJ.1 hx)
 have hc2:=Oi hc (t:=⟨s,r,u⟩) ⟨by show n<u;omega,by show u / 64 - n / 64<=63;omega⟩ hx
 have hlen:(bP L ⟨s,r,u⟩).length=L.length+1:=(eJ _ _).length_eq
 have hll:L.length=(aR I O).length:=by rw [hL];exact jm _
 obtain ⟨g1,g2⟩:=vo hI hO h hu
 rw [<-g1,<-g2,<-hL]
 exact ⟨dC.2 (Hy hc2 hm (by omega)),CX hc2⟩
theorem OC(hQ:whQ I O)(hu:0<=u∧u<18446744073709551616):whQ (gj n m I O s r u) (gk n m I O s r u):=by
 by_cases h:dD n m I O s r u=0
 · have hl:=ue (ES h)
   obtain ⟨g1,g2⟩:=vo hQ.1.1 hQ.1.2 h hu.1
   rw [<-g1,<-g2]
   have hlen:(bP (bL I O) ⟨s,r,u⟩).length=(bL I O).length+1:=(eJ _ _).length_eq
   refine EJ (by omega) fun t ht=> ?_
   rcases List.mem_cons.1 ((eJ _ _).mem_iff.1 ht) with e|e
   · subst e;exact hu
   · exact hQ.2.2 t (kJ.1 e)
 · obtain ⟨g1,g2⟩:=mH h
   rw [g1,g2]
   exact hQ
theorem C8{n m s:Int}(hQ:whQ I O)(hn:0<=n):whQ (fB n m I O s r) (fC n m I O s r):=by
 by_cases h:gG n m I O s r=0
 · have hl:=ue (Sd h)
   obtain ⟨g1,g2⟩:=OA hQ.1.1 hQ.1.2 hn h
   rw [<-g1,<-g2]
   have hlen:=List.length_filter_le (otT s r) (bL I O)
   exact EJ (by omega) fun t ht=>hQ.2.2 t (kJ.1 (List.mem_filter.1 ht).1)
 · obtain ⟨g1,g2⟩:=po h
   rw [g1,g2]
   exact hQ
theorem KC{n m k:Int} :(lc n m I O k).length<=256:=by
 by_cases h:dt n m I O k=0
 · have hl:=ue (Se h)
   obtain ⟨_,_,_,g⟩:=vn h
   rw [g]
   have hlen:=List.length_filter_le (duT (n+k)) (bL I O)
   omega
 · obtain ⟨_,_,_,g⟩:=Ab h
   rw [g]
   simp
noncomputable def ld:Ct:=fun A args=>match args with
 | [.agg [.int .u64 n, .int .i64 m, .run 64 f, .run 64 g], .agg [.int .u32 s, .str r], .int .u64 u] =>some (some (A.tp fun _=>((ai eTs [] 1 64 f∧ai eTs [] 1 64 g)∧whQ (ab eTs [] 1 64 f) (ab eTs [] 1 64 g))∧(0<=n∧n<18446744073709551616)∧0<=u∧u<18446744073709551616), .tup [whT A n m (fun _=>gj n m (ab eTs [] 1 64 f) (ab eTs [] 1 64 g) s r u) (fun _=>gk n m (ab eTs [] 1 64 f) (ab eTs [] 1 64 g) s r u), .int .i64 (A.ti fun _=>dD n m (ab eTs [] 1 64 f) (ab eTs [] 1 64 g) s r u)])
 |_=>none
noncomputable def jO:Ct:=fun A args=>match args with
 | [.agg [.int .u64 n, .int .i64 m, .run 64 f, .run 64 g], .agg [.int .u32 s, .str r]] =>some (some (A.tp fun _=>((ai eTs [] 1 64 f∧ai eTs [] 1 64 g)∧whQ (ab eTs [] 1 64 f) (ab eTs [] 1 64 g))∧0<=n∧n<18446744073709551616), .tup [whT A n m (fun _=>fB n m (ab eTs [] 1 64 f) (ab eTs [] 1 64 g) s r) (fun _=>fC n m (ab eTs [] 1 64 f) (ab eTs [] 1 64 g) s r), .int .i64 (A.ti fun _=>gG n m (ab eTs [] 1 64 f) (ab eTs [] 1 64 g) s r)])
 |_=>none
noncomputable def uf:Ct:=fun A args=>match args with
 | [.agg [.int .u64 n, .int .i64 m, .run 64 f, .run 64 g], .int .u64 k] =>some (some (A.tp fun _=>((ai eTs [] 1 64 f∧ai eTs [] 1 64 g)∧whQ (ab eTs [] 1 64 f) (ab eTs [] 1 64 g))∧(0<=n∧n<18446744073709551616)∧0<=k∧k<18446744073709551616), .tup [whT A (A.ti fun _=>nQ n m (ab eTs [] 1 64 f) (ab eTs [] 1 64 g) k) m (fun _=>nR n m (ab eTs [] 1 64 f) (ab eTs [] 1 64 g) k) (fun _=>nS n m (ab eTs [] 1 64 f) (ab eTs [] 1 64 g) k),aF eT T0 3 A fun _=>lc n m (ab eTs [] 1 64 f) (ab eTs [] 1 64 g) k, .int .i64 (A.ti fun _=>dt n m (ab eTs [] 1 64 f) (ab eTs [] 1 64 g) k)])
 |_=>none
noncomputable def ql:Ct:=fun A args=>match args with
 | [.int .u64 n, .int .i64 m] =>some (none, .tup [whT A (A.ti fun _=>rY n m) (A.ti fun _=>rZ m) (fun _=>E64) (fun _=>E64), .int .i64 (A.ti fun _=>r9 m)])
 |_=>none
noncomputable def ug:Ct:=fun A args=>match args with
 | [.agg [.int .u64 n, .int .i64 m, .run 64 f, .run 64 g]] =>some (some (A.tp fun _=>ai eTs [] 1 64 f∧ai eTs [] 1 64 g), .bool (A.tb fun _=>shW (ab eTs [] 1 64 f) (ab eTs [] 1 64 g)))
 |_=>none
noncomputable def gwt:Ar->Pu:=aq 33 ql (aq 96 ld (aq 95 jO (aq 52 uf (aq 31 ug (gwl)))))
theorem pt:az Tryz.prog gl0 (gwt std):=by
 refine ao (ao (ao (ao (ao (pm) ⟨_,Tryz.func31,rfl,by decide⟩ ?_) ⟨_,Tryz.func52,rfl,by decide⟩ ?_) ⟨_,Tryz.func95,rfl,by decide⟩ ?_) ⟨_,Tryz.func96,rfl,by decide⟩ ?_) ⟨_,Tryz.func33,rfl,by decide⟩ ?_
 · intro args p r h hp
   unfold ug at h
   split at h<;>cases h
   exact aJ (Af _ _ _ _ (aN hp.1) (aN hp.2)) ⟨fF hp.1 hp.2,trivial⟩
 · intro args p r h hp
   unfold uf at h
   split at h<;>cases h
   exact aJ (HK _ _ _ _ _ hp.1.2 hp.2.1 hp.2.2) ⟨fF hp.1.1.1 hp.1.1.2,rfl,trivial⟩
 · intro args p r h hp
   unfold jO at h
   split at h<;>cases h
   exact aJ (Aa _ _ _ _ _ _ hp.1.2 hp.2) ⟨fF hp.1.1.1 hp.1.1.2,⟨_,rfl,rfl,rfl,trivial⟩,trivial⟩
 · intro args p r h hp
   unfold ld at h
   split at h<;>cases h
   exact aJ (BD _ _ _ _ _ _ _ hp.1.2 hp.2.1 hp.2.2) ⟨fF hp.1.1.1 hp.1.1.2,⟨_,rfl,rfl,rfl,trivial⟩,rfl,trivial⟩
 · intro args p r h hp
   unfold ql at h
   split at h<;>cases h
   exact ww _ _
end Go.Vd
set_option maxHeartbeats 4000000
namespace Go.Vd
open Go.Proofs
def evK (v:Int):Int:=if v=1 then 1 else if v=2 then 2 else if v=3 then 3 else if v=5 then 7 else 0
def evO (v:Int):Bool:=decide (v=1) || (decide (v=2) || (decide (v=3) ||decide (v=5)))
def dRR (d:Dl):Bool:=dR d.k d.am d.s d.pan d.r d.code
def vR (v:Int)(d:Dl):Bool:=
 if v=4 then decide (d.k=0)&&(decide (d.pan= [])&&(decide (d.am=0)&&(decide (d.code= [])&& dF d.s d.r)))
 else evO v &&(decide (d.k=evK v)&& dRR d)
def rF (e:Ent)(s:Int)(r:List UInt8):Bool:=decide (e=E0) || (eR e &&(decide (e.s=s)&& decide (e.r=r)))
theorem SM{a b c d e f g h:Prop}(H:a->b->c->d->e->f->g-> ¬h): ¬a∨ ¬b∨ ¬c∨ ¬d∨ ¬e∨ ¬f∨ ¬g∨ ¬h:=by
 by_cases ha:a<;>by_cases hb:b<;>by_cases hc:c<;>by_cases hd:d<;>by_cases he:e<;>by_cases hf:f<;>by_cases hg:g<;>simp [ha,hb,hc,hd,he,hf,hg]
 exact H ha hb hc hd he hf hg
attribute [local irreducible] vc
theorem ET(v:Int):GFn 63 (fun A=> [.int .i64 v]) (fun A=> .tup [.int .i64 (A.ti fun _=>evK v), .bool (A.tb fun _=>evO v)]):=by
 refine aC aP ar ak Tryz.func63 (.one) fun A hA=> ?_
 cbv
 repeat' (first| (with_reducible first|exact vT|exact vD hA|exact vE hA|refine vA ?_ ?_) | (intro hc;cbv))
 all_goals (subst hA;simp [sS] at*)
 all_goals first
  | (subst_vars;simp_all [evK,evO];done)
  | (simp [evK,evO, *];done)
  |contradiction
noncomputable def C9:Ct:=fun A args=>match args with
 | [.int .i64 v] =>some (none, .tup [.int .i64 (A.ti fun _=>evK v), .bool (A.tb fun _=>evO v)])
 |_=>none
noncomputable def gc3:Ar->Pu:=aq 63 C9 (gc2)
theorem Aj:az Tryz.prog gl0 (gc3 std):=by
 refine ao (yR) ⟨_,Tryz.func63,rfl,by decide⟩ ?_
 · intro args p r h hp
   unfold C9 at h
   split at h<;>cases h
   exact ET _
theorem BE(v k am s:Int)(pan r code:List UInt8)(hp:pan.length<=100000)(hr:r.length<=1000000)(hcc:code.length<=1000000):GFn 22 (fun A=> [.agg [.int .i64 v, .int .i64 k, .str pan, .int .u64 am, .int .u32 s, .str r, .str code]]) (fun A=> .bool (A.tb fun _=>vR v ⟨k,pan,am,s,r,code⟩)):=by
 refine aC Aj ar ak Tryz.func22 (.one) fun A hA=> ?_
 cbv
 repeat' (first| (with_reducible first|exact vT|exact vD hA|exact vE hA|refine vA ?_ ?_) | (intro hc;cbv))
 all_goals (subst hA;try simp [sS] at*)
 all_goals first
  | (intro h1 h2;exact ⟨⟨h1,h2⟩,hp,hr,hcc⟩)
  | (unfold vR;rw [if_pos hc,Bool.eq_iff_iff];simp [and_assoc];done)
  | (unfold vR dRR;rw [if_neg hc,Bool.eq_iff_iff];simp [and_assoc];done)
theorem EU(s st am tr ca s2:Int)(r pan code r2:List UInt8)(hp:pan.length<=100000)(hcc:code.length<=1000000):GFn 88 (fun A=> [.agg [.int .u32 s, .str r, .int .i64 st, .str pan, .int .u64 am, .str code, .int .i64 tr, .int .i64 ca], .agg [.int .u32 s2, .str r2]]) (fun A=> .bool (A.tb fun _=>rF ⟨s,r,st,pan,am,code,tr,ca⟩ s2 r2)):=by
 refine aC Aj ar ak Tryz.func88 (.one) fun A hA=> ?_
 cbv
 repeat' (first| (with_reducible first|exact vT|exact vD hA|exact vE hA|refine vA ?_ ?_) | (intro hc;cbv))
 all_goals (subst hA;try simp [sS] at*)
 all_goals first
  | (intro h1;exact ⟨h1,hp,hcc⟩)
  | (intro h1;exact ⟨h1,fun h2=>⟨h1,h2⟩⟩)
  | (intro h;exact SM h)
  | (unfold rF;rw [Bool.eq_iff_iff];simp [E0,and_assoc];done)
noncomputable def lf:Ct:=fun A args=>match args with
 | [.agg [.int .i64 v, .int .i64 k, .str pan, .int .u64 am, .int .u32 s, .str r, .str code]] =>some (some (A.tp fun _=>pan.length<=100000∧r.length<=1000000∧code.length<=1000000), .bool (A.tb fun _=>vR v ⟨k,pan,am,s,r,code⟩))
 |_=>none
noncomputable def Da:Ct:=fun A args=>match args with
 | [.agg [.int .u32 s, .str r, .int .i64 st, .str pan, .int .u64 am, .str code, .int .i64 tr, .int .i64 ca], .agg [.int .u32 s2, .str r2]] =>some (some (A.tp fun _=>pan.length<=100000∧code.length<=1000000), .bool (A.tb fun _=>rF ⟨s,r,st,pan,am,code,tr,ca⟩ s2 r2))
 |_=>none
noncomputable def gc4:Ar->Pu:=aq 22 lf (aq 88 Da (gc3))
theorem HL:az Tryz.prog gl0 (gc4 std):=by
 refine ao (ao (Aj) ⟨_,Tryz.func88,rfl,by decide⟩ ?_) ⟨_,Tryz.func22,rfl,by decide⟩ ?_
 · intro args p r h hp
   unfold Da at h
   split at h<;>cases h
   exact EU _ _ _ _ _ _ _ _ _ _ hp.1 hp.2
 · intro args p r h hp
   unfold lf at h
   split at h<;>cases h
   exact BE _ _ _ _ _ _ _ hp.1 hp.2.1 hp.2.2
end Go.Vd
set_option maxHeartbeats 8000000
namespace Go.Vd
open Go.Proofs
variable {e:Ent}
def eD:En Dl:=fun A x=> [.int .i64 (A.ti fun _=>(x ()).k), .str (A.ts fun _=>(x ()).pan), .int .u64 (A.ti fun _=>(x ()).am), .int .u32 (A.ti fun _=>(x ()).s), .str (A.ts fun _=>(x ()).r), .str (A.ts fun _=>(x ()).code)]
theorem vq(d:Dl): ∀ j,j<6->Ceq (ap [SV.int .i64 d.k,SV.str d.pan,SV.int .u64 d.am,SV.int .u32 d.s,SV.str d.r,SV.str d.code] j) (ap (eD std fun _=>d) j):=by
 intro j hj
 rcases (show j=0∨j=1∨j=2∨j=3∨j=4∨j=5 by omega) with rfl|rfl|rfl|rfl|rfl|rfl<;>exact .refl _
structure Stp where
 e:Ent
 a:List Dl
 i:List Dl
 t:Int
 rc:Bool
 deriving DecidableEq
def S0:Stp:=⟨E0, [], [],0,false⟩
def tA (d:Dl)(c:List UInt8):Dl:=⟨2, [],0,d.s,d.r,c⟩
def tU (d:Dl)(c:List UInt8):Dl:=⟨4, [],0,d.s,d.r,c⟩
def tI (k:Int)(e:Ent)(d:Dl):Dl:=⟨k,e.pan,e.am,d.s,d.r, []⟩
def rev (e:Ent)(c:List UInt8)(z:Int):Ent:= { e with st:=4,code:=c,ca:=z }
def vr (e:Ent)(d:Dl):Bool:=decide (¬d.pan=e.pan) ||decide (¬d.am=e.am)
def jz (e:Ent)(d:Dl):Stp:=
 if e=E0 then ⟨⟨d.s,d.r,1,d.pan,d.am, [],0,0⟩, [], [⟨1,d.pan,d.am,d.s,d.r, []⟩],1,false⟩
 else if vr e d=true then ⟨e, [tA d [57,52]], [],0,false⟩
 else if e.st=1 then ⟨e, [], [],0,false⟩ else ⟨e, [tA d e.code], [],0,false⟩
def nT (e:Ent)(d:Dl):Stp:=
 if e.st=1 then ⟨{ e with st:=if d.code= [48,48] then 2 else 3,code:=d.code }, [tA d d.code], [],2,false⟩ else ⟨e, [], [],0,false⟩
def iT (e:Ent)(d:Dl):Stp:=
 if e=E0 then ⟨e, [tU d [50,53]], [],0,false⟩
 else if vr e d=true then ⟨e, [tU d [57,52]], [],0,false⟩
 else if e.st=1 then ⟨rev e [49,55] 2, [tA d [49,55],tU d [48,48]], [tI 5 e d],1,false⟩
 else if e.st=2 then ⟨rev e e.code 2, [tU d [48,48]], [tI 5 e d],1,false⟩
 else ⟨e, [tU d [48,48]], [],0,false⟩
def lg (e:Ent)(d:Dl)(n:Int):Stp:=
 if e.st=1 then ⟨rev e [54,56] 1, [tA d [54,56]], [tI 5 e d],1,false⟩
 else if e.st=4 then (if e.tr<n then ⟨{ e with tr:=e.tr+1 }, [], [tI 6 e d],1,false⟩ else ⟨{ e with st:=6 }, [], [],0,true⟩)
 else ⟨e, [], [],0,false⟩
def nU (e:Ent):Stp:=
 if e.st=4 then ⟨{ e with st:=5 }, [], [],2,false⟩ else if e.st=6 then ⟨{ e with st:=5 }, [], [],0,false⟩ else ⟨e, [], [],0,false⟩
def lE (e:Ent)(v:Int)(d:Dl)(n:Int):Bool:=vR v d &&(rF e d.s d.r &&(decide (0<=n)&& decide (n<=16)))
def lh (e:Ent)(v:Int)(d:Dl)(n:Int):Stp:=if v=1 then jz e d else if v=2 then nT e d else if v=3 then iT e d else if v=4 then lg e d n else nU e
def stp (e:Ent)(v:Int)(d:Dl)(n:Int):Stp:=if lE e v d n=true then lh e v d n else S0
def j3 (e:Ent)(v:Int)(d:Dl)(n:Int):Int:=if lE e v d n=true then 0 else 1
theorem Db{v:Int}{d:Dl}{n:Int}(h:((vR v d=true∧rF e d.s d.r=true)∧0<=n)∧n<=16):stp e v d n=lh e v d n∧j3 e v d n=0:=by
 have hk:lE e v d n=true:=by unfold lE;rw [h.1.1.1,h.1.1.2,decide_eq_true h.1.2,decide_eq_true h.2];rfl
 exact ⟨if_pos hk,if_pos hk⟩
theorem HM{v:Int}{d:Dl}{n:Int}(h:((vR v d=false∨rF e d.s d.r=false)∨n<0)∨16<n):stp e v d n=S0∧j3 e v d n=1:=by
 have hk: ¬lE e v d n=true:=by
  intro hk
  unfold lE at hk
  simp only [bAE,decide_eq_true_eq] at hk
  rcases h with ((h|h) |h) |h
  · rw [h] at hk;cases hk.1
  · rw [h] at hk;cases hk.2.1
  · omega
  · omega
 exact ⟨if_neg hk,if_neg hk⟩
theorem eE0{s st am tr ca:Int}{r pan code:List UInt8}(h:s=0∧r= [] ∧st=0∧pan= [] ∧am=0∧code= [] ∧tr=0∧ca=0):(⟨s,r,st,pan,am,code,tr,ca⟩:Ent)=E0:=by
 obtain ⟨rfl,rfl,rfl,rfl,rfl,rfl,rfl,rfl⟩:=h;rfl
theorem eE1{s st am tr ca:Int}{r pan code:List UInt8}(h:s=0->r= [] ->st=0->pan= [] ->am=0->code= [] ->tr=0-> ¬ca=0): ¬(⟨s,r,st,pan,am,code,tr,ca⟩:Ent)=E0:=by
 intro e
 simp only [E0,Ent.mk.injEq] at e
 exact h e.1 e.2.1 e.2.2.1 e.2.2.2.1 e.2.2.2.2.1 e.2.2.2.2.2.1 e.2.2.2.2.2.2.1 e.2.2.2.2.2.2.2
theorem QS{L:List Dl}{k am s:Int}{pan r code:List UInt8}(h:L= [⟨k,pan,am,s,r,code⟩]):ba L.length 6 (bf [[SV.int IntKind.i64 k,SV.str pan,SV.int IntKind.u64 am,SV.int IntKind.u32 s,SV.str r,SV.str code]]) (ax eD ⟨0, [],0,0, [], []⟩ std fun _=>L):=by
 subst h
 exact (au.one (vq ⟨k,pan,am,s,r,code⟩)).eqr
theorem SN{L:List Dl}{k am s k' am' s':Int}{pan r code pan' r' code':List UInt8}(h:L= [⟨k,pan,am,s,r,code⟩,⟨k',pan',am',s',r',code'⟩]):
 ba L.length 6 (bd 1 (bf [[SV.int IntKind.i64 k,SV.str pan,SV.int IntKind.u64 am,SV.int IntKind.u32 s,SV.str r,SV.str code]]) (bf [[SV.int IntKind.i64 k',SV.str pan',SV.int IntKind.u64 am',SV.int IntKind.u32 s',SV.str r',SV.str code']])) (ax eD ⟨0, [],0,0, [], []⟩ std fun _=>L):=by
 subst h
 exact ((au.one (vq ⟨k,pan,am,s,r,code⟩)).cat (au.one (vq ⟨k',pan',am',s',r',code'⟩))).eqr
theorem Sg{s:Int}{r:List UInt8}(h:rF e s r=true)(h4:e.st=4):0<=e.tr∧e.tr<=16:=by
 unfold rF at h
 simp only [Bool.or_eq_true,bAE,decide_eq_true_eq] at h
 rcases h with h|h
 · rw [h] at h4;cases h4
 · have h1:=h.1
   unfold eR at h1
   simp only [bAE] at h1
   have h2:=h1.2.2.2.2
   unfold eSt at h2
   rw [if_neg (by omega),if_neg (by omega),if_neg (by omega),if_pos (.inl h4)] at h2
   unfold tuR at h2
   simp only [bAE,decide_eq_true_eq] at h2
   exact h2.2.2
noncomputable def iC:Nat->Option Func:=bY 89 Tryz.f89 (bY 134 Tryz.f134 (bY 135 Tryz.f135 (bY 136 Tryz.f136 (bY 137 Tryz.f137 (bY 138 Tryz.f138 (bY 184 Tryz.f184 (bY 185 Tryz.f185 (bY 186 Tryz.f186 (bY 187 Tryz.f187 (bY 188 Tryz.f188 (bY 189 Tryz.f189 (bY 190 Tryz.f190 noI))))))))))))
theorem Sh:gF Tryz.prog iC:=bc (bc (bc (bc (bc (bc (bc (bc (bc (bc (bc (bc (bc ak Tryz.func190 (by kernel_rfl)) Tryz.func189 (by kernel_rfl)) Tryz.func188 (by kernel_rfl)) Tryz.func187 (by kernel_rfl)) Tryz.func186 (by kernel_rfl)) Tryz.func185 (by kernel_rfl)) Tryz.func184 (by kernel_rfl)) Tryz.func138 (by kernel_rfl)) Tryz.func137 (by kernel_rfl)) Tryz.func136 (by kernel_rfl)) Tryz.func135 (by kernel_rfl)) Tryz.func134 (by kernel_rfl)) Tryz.func89 (by kernel_rfl)
def EV (A:Ar)(S:Unit->Stp):SV:= .agg [.int .u32 (A.ti fun _=>(S ()).e.s), .str (A.ts fun _=>(S ()).e.r), .int .i64 (A.ti fun _=>(S ()).e.st), .str (A.ts fun _=>(S ()).e.pan), .int .u64 (A.ti fun _=>(S ()).e.am), .str (A.ts fun _=>(S ()).e.code), .int .i64 (A.ti fun _=>(S ()).e.tr), .int .i64 (A.ti fun _=>(S ()).e.ca),
 aF eD D0 6 A (fun _=>(S ()).a),aF eD D0 6 A (fun _=>(S ()).i), .int .i64 (A.ti fun _=>(S ()).t), .bool (A.tb fun _=>(S ()).rc)]
attribute [local irreducible] vc
theorem KD(s st am tr ca v k dam ds n:Int)(r pan code dpan dr dcode:List UInt8)(hp:pan.length<=100000)(hcc:code.length<=1000000)(hdp:dpan.length<=100000)(hdr:dr.length<=1000000)(hdc:dcode.length<=1000000):GFn 38 (fun A=> [.agg [.int .u32 s, .str r, .int .i64 st, .str pan, .int .u64 am, .str code, .int .i64 tr, .int .i64 ca], .agg [.int .i64 v, .int .i64 k, .str dpan, .int .u64 dam, .int .u32 ds, .str dr, .str dcode], .int .i64 n]) (fun A=> .tup [EV A fun _=>stp ⟨s,r,st,pan,am,code,tr,ca⟩ v ⟨k,dpan,dam,ds,dr,dcode⟩ n, .int .i64 (A.ti fun _=>j3 ⟨s,r,st,pan,am,code,tr,ca⟩ v ⟨k,dpan,dam,ds,dr,dcode⟩ n)]):=by
 refine aC HL ar Sh Tryz.func38 (.none) fun A hA=> ?_
 cbv
 repeat' (first| (with_reducible first|exact vT|exact vD hA|exact vE hA|refine vA ?_ ?_) | (intro hc;cbv))
 all_goals first
  | (refine ⟨⟨Unit,fun _ _=> [],fun _ _=> [],fun _=>0,false⟩,⟨(),by (cbv;subst hA;simp [sS])⟩,fun _=> ?_⟩
     cbv
     repeat' (first| (with_reducible first|exact vT|exact vD hA|exact vE hA|refine vA ?_ ?_) | (intro hc;cbv)))
  |skip
 all_goals (subst hA;try simp [sS] at*)
 all_goals first
  |exact ⟨hdp,hdr,hdc⟩
  | (intro h;exact ⟨h,hp,hcc⟩)
  | (have hq:((vR v ⟨k,dpan,dam,ds,dr,dcode⟩=false∨rF ⟨s,r,st,pan,am,code,tr,ca⟩ ds dr=false)∨n<0)∨16<n:=by assumption
     have h1:=(HM (e:=⟨s,r,st,pan,am,code,tr,ca⟩) (d:=⟨k,dpan,dam,ds,dr,dcode⟩) (v:=v) (n:=n) hq).1
     have h2:=(HM (e:=⟨s,r,st,pan,am,code,tr,ca⟩) (d:=⟨k,dpan,dam,ds,dr,dcode⟩) (v:=v) (n:=n) hq).2
     first
      |exact h2.symm
      | (rw [h1];first|done|rfl))
  | (have hq:((vR v ⟨k,dpan,dam,ds,dr,dcode⟩=true∧rF ⟨s,r,st,pan,am,code,tr,ca⟩ ds dr=true)∧0<=n)∧n<=16:=by assumption
     have h1:=(Db (e:=⟨s,r,st,pan,am,code,tr,ca⟩) (d:=⟨k,dpan,dam,ds,dr,dcode⟩) (v:=v) (n:=n) hq).1
     have h2:=(Db (e:=⟨s,r,st,pan,am,code,tr,ca⟩) (d:=⟨k,dpan,dam,ds,dr,dcode⟩) (v:=v) (n:=n) hq).2
     first
      |exact h2.symm
      | (rw [h1]
         clear h1 h2 hp hcc hdp hdr hdc
         try (have h0:s=0∧r= [] ∧st=0∧pan= [] ∧am=0∧code= [] ∧tr=0∧ca=0:=by assumption
              have hI: ∀(a b:Stp),(if (⟨s,r,st,pan,am,code,tr,ca⟩:Ent)=E0 then a else b)=a:=fun a b=>if_pos (eE0 h0)
              simp only [lh,jz,iT,hI]
              clear hI)
         try (have h0:s=0->r= [] ->st=0->pan= [] ->am=0->code= [] ->tr=0-> ¬ca=0:=by assumption
              have hI: ∀(a b:Stp),(if (⟨s,r,st,pan,am,code,tr,ca⟩:Ent)=E0 then a else b)=b:=fun a b=>if_neg (eE1 h0)
              simp only [lh,jz,iT,hI]
              clear hI h0)
         try (have h4:n<=tr:=by assumption
              have h5: ¬tr<n:=Int.not_lt.2 h4
              clear h4)
         first
          | (simp [lh,jz,nT,iT,lg,nU,vr,tA,tU,tI,rev, *];done)
          | (apply QS;simp [lh,jz,nT,iT,lg,nU,vr,tA,tU,tI,rev, *];done)
          | (apply SN;simp [lh,jz,nT,iT,lg,nU,vr,tA,tU,tI,rev, *];done)
          | (have h4:st=4:=by assumption
             have ht:=Sg (e:=⟨s,r,st,pan,am,code,tr,ca⟩) hq.1.1.2 h4
             simp only at ht
             rw [w64 (by omega)]
             simp [lh,jz,nT,iT,lg,nU,vr,tA,tU,tI,rev, *];done)
))
end Go.Vd
namespace Go.Vd
open Go.Proofs
def bV (P:Program)(gl:Nat->SV)(f:Nat)(ct:Ct):Prop:=dk P f∧ ∀ args p r,ct std args=some (p,r)->aK p->cS P gl f args r
theorem aD{P:Program}{gl:Nat->SV}{f:Nat}{ct:Ct}{G:Ar->Pu}(hG:az P gl (G std))(h:bV P gl f ct):az P gl (aq f ct G std):=ao hG h.1 h.2
theorem az.ct{P:Program}{gl:Nat->SV}{f:Nat}{ct:Ct}{G:Pu}(h:az P gl G)(hc:dk P f)(e: ∀ args,G f args=ct std args):bV P gl f ct:=⟨hc,fun args p r he hp=>(h f args p r (by rw [e];exact he) hp).2⟩
def K0:Int×List UInt8:=(0, [])
abbrev K2:=Int×List UInt8
def eKy:En K2:=fun A x=> [.int .u32 (A.ti fun _=>(x ()).1), .str (A.ts fun _=>(x ()).2)]
theorem OD:Inj eKy 2:=fun x y h=>by
 obtain ⟨s0,a0,b0⟩:=h 0 (by omega)
 obtain ⟨s1,a1,b1⟩:=h 1 (by omega)
 have a0:Ceq s0 (.int .u32 x.1):=a0
 have b0:Ceq s0 (.int .u32 y.1):=b0
 have a1:Ceq s1 (.str x.2):=a1
 have b1:Ceq s1 (.str y.2):=b1
 rw [Ceq.int] at a0 b0
 rw [Ceq.str] at a1 b1
 subst a0 a1
 cases x
 cases y
 simp at b0 b1
 simp only [pIE]
 exact ⟨b0,b1⟩
theorem cD(L:List K2):ab eKy K0 2 L.length (ax eKy (0, []) std fun _=>L)=L:=eA OD L
theorem fK(L:List K2):ai eKy K0 2 L.length (ax eKy (0, []) std fun _=>L):=f9 L
def vt (A:Ar)(L:Unit->List K2):SV:= .frs 66 2 (A.tn fun _=>(L ()).length) (ax eKy K0 A L)
attribute [local irreducible] vc
theorem BF(L:List K2)(hL:L.length<=1000000):GFn 87 (fun A=> [aF eKy K0 2 A fun _=>L]) (fun A=>vt A fun _=>L):=by
 refine aC aP ar ak Tryz.func87 (.fresh 66 2) fun A hA=> ?_
 cbv
 repeat' (first| (with_reducible first|exact vT|exact vD hA|exact vE hA|refine vA ?_ ?_) | (intro hc;cbv))
 all_goals (subst hA;simp [sS] at*)
 all_goals first
  |omega
  | (have hq:=hc (by assumption);rw [hq];rfl)
  | (have hq:=hc (by assumption);rw [hq];intro i j hi;exact absurd hi (by simp))
  | (apply c7;(exact (au.nil.cat (au.lit L)).congr rfl (List.nil_append L));(first| (simp;done) |omega|rfl);rfl)
noncomputable def se:Ct:=fun A args=>match args with
 | [.slc n 2 f] =>some (some (A.tp fun _=>ai eKy K0 2 n f∧n<=1000000),vt A fun _=>ab eKy K0 2 n f)
 |_=>none
theorem BG:bV Tryz.prog gl0 87 se:=⟨⟨_,Tryz.func87,rfl,by decide⟩,fun args p r h hp=>by
 unfold se at h
 split at h<;>cases h
 exact aJ (BF _ (by rw [aN hp.1];exact hp.2)) ⟨hp.1.sv,trivial⟩⟩
noncomputable def sf:Ct:=fun A args=>match args with
 | [.agg [.int .u64 n, .int .i64 m, .run 64 f, .run 64 g]] =>some (some (A.tp fun _=>(ai eTs [] 1 64 f∧ai eTs [] 1 64 g)∧whQ (ab eTs [] 1 64 f) (ab eTs [] 1 64 g)),whT A n m (fun _=>ab eTs [] 1 64 f) (fun _=>ab eTs [] 1 64 g))
 |_=>none
theorem BH:bV Tryz.prog gl0 86 sf:=⟨⟨_,Tryz.func86,rfl,by decide⟩,fun args p r h hp=>by
 unfold sf at h
 split at h<;>cases h
 exact aJ (BB _ _ _ _ hp.2) ⟨fF hp.1.1 hp.1.2,trivial⟩⟩
def dE (w t m n q:Int):Bool:=decide ((1<=w∧w<=4000)∧(0<=t∧t<=16)∧(0<=m∧m<=128)∧(1<=n∧n<=16)∧2<=q∧q<=64)
def rlS (A:Ar)(w t m n q:Int):SV:= .agg [.int .u64 w, .int .i64 t, .int .i64 m, .int .i64 n, .int .i64 q]
theorem HN(w t m n q:Int):GFn 18 (fun A=> [rlS A w t m n q]) (fun A=> .bool (A.tb fun _=>dE w t m n q)):=by
 refine aC aP ar ak Tryz.func18 (.one) fun A hA=> ?_
 cbv
 repeat' (first| (with_reducible first|exact vT|exact vD hA|exact vE hA|refine vA ?_ ?_) | (intro hc;cbv))
 all_goals (subst hA;simp only [sS] at*)
 all_goals first
  |exact id
  | (intro h;exact h)
  | (intro h;rw [h];rfl)
  | (unfold dE;rw [Bool.eq_iff_iff];simp;omega)
noncomputable def pu:Ct:=fun A args=>match args with
 | [.agg [.int .u64 w, .int .i64 t, .int .i64 m, .int .i64 n, .int .i64 q]] =>some (none, .bool (A.tb fun _=>dE w t m n q))
 |_=>none
theorem px:bV Tryz.prog gl0 18 pu:=⟨⟨_,Tryz.func18,rfl,by decide⟩,fun args p r h hp=>by
 unfold pu at h
 split at h<;>cases h
 exact HN _ _ _ _ _⟩
def dkS (A:Ar)(w t m n q tm:Int)(T:Tbl)(nw wm:Int)(I O:Sl)(R:List K2):SV:= .agg [.int .u64 w, .int .i64 t, .int .i64 m, .int .i64 n, .int .i64 q, .int .i64 tm,aF eEs [] 1 A fun _=>T, .int .u64 nw, .int .i64 wm, .run 64 (ax eTs [] A fun _=>I), .run 64 (ax eTs [] A fun _=>O),aF eKy K0 2 A fun _=>R]
def dkQ (T:Tbl)(nw:Int)(I O:Sl)(R:List K2):Prop:=tbQ T∧whQ I O∧R.length<=1000000∧0<=nw∧nw<18446744073709551616
theorem Ak(m:Int)(T:Tbl)(hQ:tbQ T):GFn 85 (fun A=> [.agg [.int .i64 m,aF eEs [] 1 A fun _=>T]]) (fun A=> .agg [.int .i64 m,aF eEs [] 1 A fun _=>T]):=by
 refine aC zm ar ak Tryz.func85 (.none) fun A hA=> ?_
 cbv
 repeat' (first| (with_reducible first|exact vT|exact vD hA|exact vE hA|refine vA ?_ ?_) | (intro hc;cbv))
 · subst hA
   simp only [sS,bg]
   exact ⟨trivial,hQ.1⟩
 obtain ⟨n0,hn0⟩: ∃ n0,n0=T.length:=⟨_,rfl⟩
 refine ⟨⟨{i:Nat // i<=T.length},fun b i=> [(10, .own 4),(11, .int .i64 (n0:Nat)),(12, .int .i64 (i.1:Nat))],fun b i=> [(4, .row 73 1 (A.tn fun _=>T.length) (ax eEs [] A fun _=>T)),(0, .box 27 [.int .i64 m, .own 4])],fun i=>T.length - i.1,true⟩,⟨⟨0,by omega⟩, ?_⟩, ?_⟩
 · cbv
   subst hA
   simp [-List.getD_eq_getElem?_getD,sS,aT,hn0]
 · rintro ⟨i,hi⟩
   have hT:=hQ.1
   have hTi:=hQ.2.1 i
   rcases Nat.lt_or_ge i T.length with hlt|hge
   · obtain ⟨i',hi'⟩: ∃ i',i'=i+1:=⟨_,rfl⟩
     cbv
     repeat' (first| (with_reducible first|exact vT|exact vD hA|exact vE hA|refine vA ?_ ?_) | (intro hc;cbv))
     all_goals first
      | (fail_if_success (refine Exists.intro ?_ ?_)
         subst hA
         simp only [sS,iNE,aY,bh,bg,aT] at*
         first
          |exact ⟨trivial,hTi⟩
          | (constructor<;>omega))
      | (exfalso
         subst hA
         simp only [sS,iNE,aY,bh,bg,aT] at*
         have:=of_decide_eq_false hc
         omega)
      | (refine ⟨⟨i',by omega⟩, ?_,show T.length - i'<T.length - i by omega⟩
         cbv
         subst hA
         simp [-List.getD_eq_getElem?_getD,sS]
         refine ⟨cC hi' (by omega), ?_⟩
         have h:=(au.lit (enc:=eEs) (d:= []) (k:=1) T).rset' (i:=i) hlt (T.getD i []) (l:= [SV.slc _ 8 _]) rfl (G5 (au.lit (enc:=eE) (d:=E0) (k:=8) (T.getD i [])))
         rw [yf] at h
         first
          |exact h.eqr
          | (simp only [bh];exact h.eqr)
)
   · have hie:i=T.length:=by omega
     cbv
     repeat' (first| (with_reducible first|exact vT|exact vD hA|exact vE hA|refine vA ?_ ?_) | (intro hc;cbv))
     all_goals first
      | (exfalso
         subst hA
         simp only [sS,iNE,aY,bh,bg,aT] at*
         have hq:decide ((i:Int)<(n0:Int))=true:=by assumption
         have:=of_decide_eq_true hq
         omega)
      | (subst hA;simp [sS];done)
noncomputable def pz:Ct:=fun A args=>match args with
 | [.agg [.int .i64 m, .slc n 1 f]] =>some (some (A.tp fun _=>ai eEs [] 1 n f∧tbQ (ab eEs [] 1 n f)), .agg [.int .i64 m,aF eEs [] 1 A fun _=>ab eEs [] 1 n f])
 |_=>none
theorem Al:bV Tryz.prog gl0 85 pz:=⟨⟨_,Tryz.func85,rfl,by decide⟩,fun args p r h hp=>by
 unfold pz at h
 split at h<;>cases h
 exact aJ (Ak _ _ hp.2) ⟨⟨_,rfl,rfl,hp.1.sv,trivial⟩,trivial⟩⟩
noncomputable def gjf:Ar->Pu:=aq 85 pz (aq 86 sf (aq 87 se (noC)))
theorem QT:az Tryz.prog gl0 (gjf std):=by
 refine aD (aD (aD (aP) BG) BH) Al
def dkF (A:Ar)(w t m n q tm:Int)(T:Unit->Tbl)(nw wm:Int)(I O:Unit->Sl)(R:Unit->List K2):SV:= .agg [.int .u64 w, .int .i64 t, .int .i64 m, .int .i64 n, .int .i64 q, .int .i64 tm,aF eEs [] 1 A T, .int .u64 nw, .int .i64 wm, .run 64 (ax eTs [] A I), .run 64 (ax eTs [] A O),vt A R]
theorem EW(w t m n q tm:Int)(T:Tbl)(nw wm:Int)(I O:Sl)(R:List K2)(hQ:dkQ T nw I O R):GFn 37 (fun A=> [dkS A w t m n q tm T nw wm I O R]) (fun A=>dkF A w t m n q tm (fun _=>T) nw wm (fun _=>I) (fun _=>O) (fun _=>R)):=by
 refine aC QT ar ak Tryz.func37 (.one) fun A hA=> ?_
 cbv
 repeat' (first| (with_reducible first|exact vT|exact vD hA|exact vE hA|refine vA ?_ ?_) | (intro hc;cbv))
 all_goals (subst hA;try simp only [sS,bg,aT,ay hQ.2.1.1.1,ah hQ.2.1.1.1,ay hQ.2.1.1.2,ah hQ.2.1.1.2,fK,cD] at*)
 all_goals first
  |exact ⟨trivial,hQ.1⟩
  |exact ⟨⟨trivial,trivial⟩,hQ.2.1⟩
  |exact ⟨trivial,hQ.2.2.1⟩
  |exact bG
def gH (m n tm:Int)(T:Tbl):Bool:=decide (tm=m)&&(decide ((T.length:Int)=n)&& tbR tm T)
theorem BI:bV Tryz.prog gl0 64 nG:=az.ct zf ⟨_,Tryz.func64,rfl,by decide⟩ fun _=>rfl
noncomputable def gjt:Ar->Pu:=aq 64 nG (noC)
theorem QU:az Tryz.prog gl0 (gjt std):=by
 refine aD (aP) BI
theorem HO(w t m n q tm:Int)(T:Tbl)(nw wm:Int)(I O:Sl)(R:List K2)(hQ:tbQ T):GFn 54 (fun A=> [dkS A w t m n q tm T nw wm I O R]) (fun A=> .bool (A.tb fun _=>gH m n tm T)):=by
 refine aC QU ar ak Tryz.func54 (.one) fun A hA=> ?_
 cbv
 repeat' (first| (with_reducible first|exact vT|exact vD hA|exact vE hA|refine vA ?_ ?_) | (intro hc;cbv))
 all_goals (subst hA;simp only [sS,bg,aT] at*)
 all_goals first
  |exact fun h=>h
  | (intro h;rw [h];rfl)
  |exact fun h=>⟨h,h⟩
  |exact fun h=>⟨h,trivial,hQ⟩
  | (unfold gH;rw [Bool.eq_iff_iff];simp [and_assoc];done)
noncomputable def g9 (m nw wm:Int)(I O:Sl):Bool:=decide (wm=m)&&(decide (nw<=4611686018427387904)&& wR nw wm I O)
theorem BJ:bV Tryz.prog gl0 74 nL:=az.ct zQ ⟨_,Tryz.func74,rfl,by decide⟩ fun _=>rfl
noncomputable def gjw:Ar->Pu:=aq 74 nL (noC)
theorem QV:az Tryz.prog gl0 (gjw std):=by
 refine aD (aP) BJ
theorem HP(w t m n q tm:Int)(T:Tbl)(nw wm:Int)(I O:Sl)(R:List K2)(hQ:whQ I O)(hn:0<=nw):GFn 55 (fun A=> [dkS A w t m n q tm T nw wm I O R]) (fun A=> .bool (A.tb fun _=>g9 m nw wm I O)):=by
 refine aC QV ar ak Tryz.func55 (.one) fun A hA=> ?_
 cbv
 repeat' (first| (with_reducible first|exact vT|exact vD hA|exact vE hA|refine vA ?_ ?_) | (intro hc;cbv))
 all_goals (subst hA;simp only [sS,ay hQ.1.1,ah hQ.1.1,ay hQ.1.2,ah hQ.1.2] at*)
 all_goals first
  |exact fun h=>h
  | (intro h;rw [h];rfl)
  |exact fun h=>⟨h,h⟩
  |exact fun h=>⟨h,⟨⟨trivial,trivial⟩,hQ⟩,hn⟩
  | (unfold g9;rw [Bool.eq_iff_iff];simp [and_assoc];done)
end Go.Vd
namespace Go.Vd
open Go.Proofs
variable {T:Tbl} {L:List Ent} {i:Nat} {m:Int}
theorem li(hi:i<T.length)(L:List Ent)(j:Nat):(T.set i L).getD j [] =if j=i then L else T.getD j [] :=by
 rw [List.getD_eq_getElem?_getD,List.getD_eq_getElem?_getD,List.getElem?_set]
 by_cases h:i=j
 · subst h
   simp [hi]
 · rw [if_neg h,if_neg (fun e=>h e.symm)]
theorem Dc(hi:i<T.length)(L:List Ent):cnt (T.set i L)+(T.getD i []).length=cnt T+L.length:=by
 unfold cnt
 rw [List.set_eq_take_append_cons_drop,if_pos hi]
 have e0:T=T.take i++T.getD i [] ::T.drop (i+1):=by
  have:T[i] =T.getD i [] :=by simp [List.getD_eq_getElem?_getD,hi]
  rw [<-this,<-List.drop_eq_getElem_cons hi,List.take_append_drop]
 conv=>rhs;rw [e0]
 simp only [List.map_append,List.map_cons,List.sum_append,List.sum_cons]
 omega
theorem kK(h:tbR m T=true)(hi:i<T.length):shR (T.getD i [])=true∧ ∀ x∈T.getD i [],dK x.s x.r (T.length:Int)=(i:Int):=by
 unfold tbR at h
 simp only [bAE,List.all_eq_true] at h
 have h2:=h.2.1 i (List.mem_range.2 hi)
 unfold g7 at h2
 simp only [bAE,List.all_eq_true] at h2
 exact ⟨h2.1,fun x hx=>of_decide_eq_true (h2.2 x hx)⟩
theorem OE(h:tbR m T=true)(hi:i<T.length)(h1:shR L=true)(h2: ∀ x∈L,dK x.s x.r (T.length:Int)=(i:Int))(h3:(cnt (T.set i L):Int)<=m):tbR m (T.set i L)=true:=by
 have h0:=h
 unfold tbR at h ⊢
 simp only [bAE,List.all_eq_true,List.length_set] at h ⊢
 refine ⟨h.1,fun j hj=> ?_,decide_eq_true h3⟩
 have hj:=List.mem_range.1 hj
 unfold g7
 rw [li hi,List.length_set]
 by_cases e:j=i
 · subst e
   rw [if_pos rfl,h1,Bool.true_and,List.all_eq_true]
   exact fun x hx=>decide_eq_true (h2 x hx)
 · rw [if_neg e]
   have:=kK h0 hj
   rw [this.1,Bool.true_and,List.all_eq_true]
   exact fun x hx=>decide_eq_true (this.2 x hx)
theorem HQ(hi:i<T.length)(L:List Ent)(s:Int)(r:List UInt8):
 shi (T.set i L) s r=shi T s r∧(¬shi T s r<0->shl (T.set i L) s r=if shi T s r=(i:Int) then L else shl T s r):=by
 have e0:shi (T.set i L) s r=shi T s r:=by unfold shi;rw [List.length_set]
 refine ⟨e0,fun h=> ?_⟩
 unfold shl
 rw [e0,li hi]
 by_cases e:shi T s r=(i:Int)
 · rw [if_pos e,if_pos (by omega)]
 · rw [if_neg e,if_neg (by omega)]
theorem KE(hi:i<T.length){s:Int}{r:List UInt8}(h:shi T s r=(i:Int)->fnd L s r=fnd (shl T s r) s r∧has L s r=has (shl T s r) s r):
 lkE (T.set i L) s r=lkE T s r∧lkB (T.set i L) s r=lkB T s r:=by
 obtain ⟨h1,h2⟩:=HQ hi L s r
 by_cases h0:shi T s r<0
 · have a:=Ki (T:=T) h0
   have b:=Ki (T:=T.set i L) (by rw [h1];exact h0)
   rw [a.1,a.2,b.1,b.2]
   exact ⟨rfl,rfl⟩
 · have a:=rX (T:=T) h0
   have b:=rX (T:=T.set i L) (by rw [h1];exact h0)
   rw [a.1,a.2,b.1,b.2,h2 h0]
   by_cases e:shi T s r=(i:Int)
   · rw [if_pos e];exact h e
   · rw [if_neg e];exact ⟨rfl,rfl⟩
theorem OG(hi:i<T.length){s:Int}{r:List UInt8}(h:shi T s r=(i:Int)):lkE (T.set i L) s r=fnd L s r∧lkB (T.set i L) s r=has L s r:=by
 obtain ⟨h1,h2⟩:=HQ hi L s r
 have h0: ¬shi T s r<0:=by omega
 have b:=rX (T:=T.set i L) (by rw [h1];exact h0)
 rw [b.1,b.2,h2 h0,if_pos h]
 exact ⟨rfl,rfl⟩
theorem sg(h:tbR m T=true):(alT m T).length=cnt T:=by rw [Ep h,(km _).1,rW]
theorem Dd :tbQ T↔T.length<=1000000∧ ∀ L∈T,L.length<=1000000∧ ∀ x∈L,enQ x:=by
 constructor
 · rintro ⟨h1,h2,h3⟩
   refine ⟨h1,fun L hL=> ?_⟩
   obtain ⟨i,hi,rfl⟩:=List.getElem_of_mem hL
   have e:T[i] =T.getD i [] :=by simp [List.getD_eq_getElem?_getD,hi]
   rw [e]
   refine ⟨h2 i,fun x hx=> ?_⟩
   obtain ⟨j,hj,rfl⟩:=List.getElem_of_mem hx
   rw [d6 hj]
   exact h3 i j
 · rintro ⟨h1,h2⟩
   have h0: ∀ i,¬i<T.length->T.getD i [] = [] :=fun i hi=>by rw [List.getD_eq_getElem?_getD,List.getElem?_eq_none (by omega)];rfl
   have hm: ∀ i,i<T.length->T.getD i [] ∈T:=fun i hi=>by
    rw [List.getD_eq_getElem?_getD,gEE hi]
    exact List.getElem_mem hi
   refine ⟨h1,fun i=> ?_,fun i j=> ?_⟩
   · by_cases hi:i<T.length
     · exact (h2 _ (hm i hi)).1
     · rw [h0 i hi];simp
   · by_cases hi:i<T.length
     · by_cases hj:j<(T.getD i []).length
       · exact (h2 _ (hm i hi)).2 _ (nD hj)
       · rw [List.getD_eq_getElem?_getD,List.getElem?_eq_none (by omega)];exact ⟨by decide,by decide,by decide,by decide⟩
     · rw [h0 i hi,List.getD_nil];exact ⟨by decide,by decide,by decide,by decide⟩
theorem De(h:tbQ T)(h1:L.length<=1000000)(h2: ∀ x∈L,enQ x):tbQ (T.set i L):=by
 rw [Dd] at*
 refine ⟨by rw [List.length_set];exact h.1,fun M hM=> ?_⟩
 rcases List.mem_or_eq_of_mem_set hM with hM|rfl
 · exact h.2 M hM
 · exact ⟨h1,h2⟩
theorem EX(h:tbQ T)(s:Int)(r:List UInt8):(shl T s r).length<=1000000∧ ∀ x∈shl T s r,enQ x:=by
 unfold shl
 by_cases hi:(shi T s r).toNat<T.length
 · rw [Dd] at h
   exact h.2 _ (by rw [List.getD_eq_getElem?_getD,gEE hi];exact List.getElem_mem hi)
 · rw [List.getD_eq_getElem?_getD,List.getElem?_eq_none (by omega)]
   exact ⟨by simp,fun x hx=>by simp at hx⟩
theorem KF{z:Int}{e x:Ent}(hx:x∈swL L z e):x∈L∨x=e:=by
 unfold swL at hx
 split at hx
 · split at hx
   · split at hx
     · rcases List.mem_or_eq_of_mem_set hx with h|h
       · exact .inl h
       · exact .inr h
     · exact .inl hx
   · exact .inl hx
 · exact .inl hx
theorem KG(L:List Ent)(z:Int)(e:Ent):(swL L z e).length=L.length:=by
 unfold swL
 split
 · split
   · split<;>simp
   · rfl
 · rfl
theorem HR{e x:Ent}(hx:x∈dP L e):x∈L∨x=e:=by
 unfold dP at hx
 split at hx
 · split at hx
   · exact .inl hx
   · split at hx
     · exact .inl hx
     · rcases List.mem_append.1 hx with hx|hx
       · rcases List.mem_append.1 hx with hx|hx
         · exact .inl (List.mem_of_mem_take hx)
         · exact .inr (List.mem_singleton.1 hx)
       · exact .inl (List.mem_of_mem_drop hx)
 · exact .inl hx
theorem HS(L:List Ent)(e:Ent):(dP L e).length<=max L.length 128:=by
 unfold dP
 split
 · rename_i h
   simp only [bAE] at h
   have:=(mA h.1).2
   split
   · omega
   · split
     · omega
     · simp;omega
 · omega
theorem QW{z:Int}{e:Ent}(h:tbQ T)(he:enQ e):tbQ (k8 m T z e):=by
 have h2:=EX h e.s e.r
 unfold k8
 split
 · exact De h (by rw [KG];exact h2.1) fun x hx=>(KF hx).elim (h2.2 x) fun e=>e▸he
 · exact h
theorem OH{e:Ent}(h:tbQ T)(he:enQ e):tbQ (cT m T e):=by
 have h2:=EX h e.s e.r
 unfold cT
 split
 · split
   · exact h
   · split
     · exact h
     · exact De h (by have:=HS (shl T e.s e.r) e;omega) fun x hx=>(HR hx).elim (h2.2 x) fun e=>e▸he
 · exact h
end Go.Vd
namespace Go.Vd
open Go.Proofs
variable {T:Tbl} {m:Int} {e:Ent}
theorem si{x:Ent} :x∈T.flatten↔ ∃ i,i<T.length∧x∈T.getD i [] :=by
 rw [List.mem_flatten]
 constructor
 · rintro ⟨L,hL,hx⟩
   obtain ⟨i,hi,rfl⟩:=List.getElem_of_mem hL
   exact ⟨i,hi,by rw [List.getD_eq_getElem?_getD,gEE hi];exact hx⟩
 · rintro ⟨i,hi,hx⟩
   rw [List.getD_eq_getElem?_getD,gEE hi] at hx
   exact ⟨_,List.getElem_mem hi,hx⟩
def unl (x y:Ent):Prop:= ¬(x.s=y.s∧x.r=y.r)
theorem KH{x y:Ent}(h:unl x y):unl y x:=fun e=>h ⟨e.1.symm,e.2.symm⟩
theorem HT{x y:Ent}(h:c9 x y<0):unl x y:=fun e=>by
 unfold c9 at h
 rw [e.1,e.2,gA,if_pos ⟨rfl,rfl⟩] at h
 exact absurd h (by decide)
theorem KI(h:tbR m T=true):T.flatten.Pairwise unl:=by
 rw [List.pairwise_flatten]
 refine ⟨fun L hL=> ?_, ?_⟩
 · obtain ⟨i,hi,rfl⟩:=List.getElem_of_mem hL
   have h2:=kK h hi
   rw [List.getD_eq_getElem?_getD,gEE hi] at h2
   exact (za.1 ((gZ _).1 (mA h2.1).1)).2.imp HT
 · rw [List.pairwise_iff_getElem]
   intro i j hi hj hij x hx y hy e
   have h2:=kK h hi
   have h3:=kK h hj
   rw [List.getD_eq_getElem?_getD,gEE hi] at h2
   rw [List.getD_eq_getElem?_getD,gEE hj] at h3
   have a:=h2.2 x hx
   have b:=h3.2 y hy
   rw [e.1,e.2] at a
   omega
theorem Df(h:tbR m T=true):((alT m T).Pairwise fun x y=>c9 x y<0)∧ ∀ x,x∈alT m T↔x∈T.flatten:=by
 rw [Ep h]
 obtain ⟨h1,h2,h3⟩:=km T.flatten
 refine ⟨?_,fun x=>h2.mem_iff⟩
 have hu:(fM T.flatten).Pairwise unl:=(h2.pairwise_iff fun {x y} =>KH).2 (KI h)
 rw [List.pairwise_iff_getElem] at hu ⊢
 intro i j hi hj hij
 have a:=hu i j hi hj hij
 have b:=h3 i j hij (by omega)
 rw [d6 hi] at a ⊢
 rw [d6 hj] at a ⊢
 unfold ltOf at b
 have c: ¬c9 ((fM T.flatten).getD j E0) ((fM T.flatten).getD i E0)<0:=by simpa using b
 exact CH c fun e=>a ⟨e.1.symm,e.2.symm⟩
theorem Si(h:tbR m T=true):m<=128:=by
 unfold tbR szR at h
 simp only [bAE,decide_eq_true_eq] at h
 omega
theorem QX{L:List Ent}(h1:shR L=true)(h2:eR e=true)(h3:has L e.s e.r=false)(h4:L.length<128):g6 L e=0:=(yX (by rw [h1,h2];rfl) h3 (by omega)).2
theorem HU(h:tbR m T=true)(h2:eR e=true)(h3:lkB T e.s e.r=false)(h4:m<=(cnt T:Int)):cG m T e=7∧cT m T e=T:=by
 have ho:okE m T e=true:=by unfold okE;rw [h,h2];rfl
 exact ⟨(zt ho h3 h4).2,(zt ho h3 h4).1⟩
theorem Am(h:tbR m T=true)(h2:eR e=true)(h3:lkB T e.s e.r=false)(h4: ¬m<=(cnt T:Int)):
 cG m T e=0∧tbR m (cT m T e)=true∧cnt (cT m T e)=cnt T+1∧lkE (cT m T e) e.s e.r=e∧lkB (cT m T e) e.s e.r=true∧(∀ x,x∈(cT m T e).flatten↔x∈T.flatten∨x=e)∧
 ∀ s r,¬(e.s=s∧e.r=r)->lkE (cT m T e) s r=lkE T s r∧lkB (cT m T e) s r=lkB T s r:=by
 have ho:okE m T e=true:=by unfold okE;rw [h,h2];rfl
 obtain ⟨e1,e2⟩:=Hb ho h3 h4
 have hin:=zr ho
 obtain ⟨i,hi⟩: ∃ i:Nat,shi T e.s e.r=(i:Int):=⟨(shi T e.s e.r).toNat,by omega⟩
 have hil:i<T.length:=by omega
 have hL:shl T e.s e.r=T.getD i [] :=by unfold shl;rw [hi];rfl
 have hshi:=kK h hil
 have d:=rX (T:=T) (s:=e.s) (r:=e.r) (by omega)
 rw [d.2,hL] at h3
 rw [hL,hi] at e1
 rw [hL] at e2
 simp only [Int.toNat_natCast] at e1
 have hm:=(ji h)
 have hm2:=Si h
 have hle:(T.getD i []).length<=cnt T:=by
  have:=Dc hil []
  simp only [List.length_nil] at this
  omega
 have hc:=QX hshi.1 h2 h3 (by omega)
 obtain ⟨_,_,_,_,_,hSp,hI,hLL⟩:=Kb hc
 obtain ⟨A,hA⟩: ∃ A,A=(T.getD i []).take (pos (T.getD i []) e.s e.r):=⟨_,rfl⟩
 obtain ⟨B,hB⟩: ∃ B,B=(T.getD i []).drop (pos (T.getD i []) e.s e.r):=⟨_,rfl⟩
 rw [<-hA,<-hB] at hSp hI hLL
 have hlen:A.length+B.length=(T.getD i []).length:=((congrArg List.length hLL).trans (List.length_append ..)).symm
 have hmid:=Kc hSp h2 (by omega)
 have hcs:=Dc hil (dP (T.getD i []) e)
 have hil2:(dP (T.getD i []) e).length=(T.getD i []).length+1:=by rw [hI,List.length_append,List.length_cons];omega
 have hmem: ∀ x,x∈dP (T.getD i []) e↔x∈T.getD i [] ∨x=e:=fun x=>by
  rw [hI]
  conv=>rhs;rw [hLL]
  simp only [List.mem_append,List.mem_cons]
  constructor
  · rintro (h|h|h)
    · exact .inl (.inl h)
    · exact .inr h
    · exact .inl (.inr h)
  · rintro ((h|h) |h)
    · exact .inl h
    · exact .inr (.inr h)
    · exact .inr (.inl h)
 have hR:tbR m (T.set i (dP (T.getD i []) e))=true:=OE h hil (by rw [hI];exact hmid.1) (fun x hx=>by
  rcases (hmem x).1 hx with hx|rfl
  · exact hshi.2 x hx
  · exact hi) (by omega)
 have c:=OG (L:=dP (T.getD i []) e) hil hi
 rw [e1]
 refine ⟨e2.trans hc,hR,by omega,by rw [c.1,hI];exact hmid.2.2.1,by rw [c.2,hI];exact hmid.2.1,fun x=> ?_,fun s r hn=> ?_⟩
 · rw [si,si,List.length_set]
   constructor
   · rintro ⟨j,hj,hx⟩
     rw [li hil] at hx
     split at hx
     · rcases (hmem x).1 hx with hx|hx
       · exact .inl ⟨i,hil,hx⟩
       · exact .inr hx
     · exact .inl ⟨j,hj,hx⟩
   · rintro (⟨j,hj,hx⟩ |rfl)
     · refine ⟨j,hj, ?_⟩
       rw [li hil]
       split
       · rename_i e;subst e;exact (hmem x).2 (.inl hx)
       · exact hx
     · exact ⟨i,hil,by rw [li hil,if_pos rfl];exact (hmem x).2 (.inr rfl)⟩
 · refine KE (T:=T) (L:=dP (T.getD i []) e) (s:=s) (r:=r) hil fun hs=> ?_
   have e3:shl T s r=T.getD i [] :=by unfold shl;rw [hs];rfl
   have o:=Sp.oth (A:=A) (B:=B) (s:=0) (r:= []) hn
   have q1:fnd (T.getD i []) s r=fnd (A++B) s r:=congrArg (fun l=>fnd l s r) hLL
   have q2:has (T.getD i []) s r=has (A++B) s r:=congrArg (fun l=>has l s r) hLL
   rw [e3,hI,q1,q2]
   exact o
end Go.Vd
namespace Go.Vd
open Go.Proofs
variable {L:List Ent} {R:List K2} {k:Nat}
def mmE (L:List Ent):MM:=L.map fun e=>((e.s,e.r),e.st)
theorem vu(s:Int)(r:List UInt8): ∀ L:List Ent,dx (mmE L) s r=(fnd L s r).st
 | [] =>rfl
 |e::L=>by
  have ih:=vu s r L
  unfold mmE at*
  simp only [List.map_cons,dx]
  unfold fnd at*
  rw [List.find?_cons]
  by_cases h:(e.s,e.r)=(s,r)
  · rw [if_pos h]
    have:kE s r e=true:=eF.2 (by simpa using h)
    rw [this]
    rfl
  · rw [if_neg h,ih]
    have:kE s r e=false:=Ej fun h'=>h (by rw [h'.1,h'.2])
    rw [this]
theorem Dg: ∀ {L:List Ent} {e:Ent},has L e.s e.r=false->dh (mmE L) e.s e.r e.st=mmE (L++ [e])
 | [],e,_=>rfl
 |x::L,e,h=>by
  unfold has at h
  rw [List.any_cons,Bool.or_eq_false_iff] at h
  have ih:=Dg (L:=L) (e:=e) h.2
  have h2: ¬(x.s,x.r)=(e.s,e.r):=fun c=>by
   have:kE e.s e.r x=true:=eF.2 (by simpa using c)
   rw [this] at h
   exact absurd h.1 (by decide)
  unfold mmE at*
  simp only [List.map_cons,dh,List.cons_append]
  rw [if_neg h2,ih]
theorem OI{e:Ent}(h: ∀ x∈L,unl x e):has L e.s e.r=false:=by
 unfold has
 rw [List.any_eq_false]
 intro x hx hk
 exact h x hx (eF.1 hk)
theorem OJ(h:L.Pairwise unl)(hk:k<L.length):has (L.take k) (L.getD k E0).s (L.getD k E0).r=false:=by
 refine OI fun x hx=> ?_
 obtain ⟨i,hi,rfl⟩:=List.getElem_of_mem hx
 rw [List.length_take] at hi
 rw [List.getElem_take,List.getD_eq_getElem?_getD,gEE hk]
 exact List.pairwise_iff_getElem.1 h i k (by omega) hk (by omega)
theorem OK{m:Int}{T:Tbl} :(alT m T).Pairwise unl:=by
 cases h:tbR m T with
 |false=>rw [LS h];exact List.Pairwise.nil
 |true=>exact (Df h).1.imp HT
theorem QY{m:Int}{T:Tbl}(hk:k<(alT m T).length):has ((alT m T).take k) ((alT m T).getD k E0).s ((alT m T).getD k E0).r=false:=OJ OK hk
def mmK (L:List K2):MM:=L.map fun k=>(k,1)
theorem Dh(s:Int)(r:List UInt8): ∀ L:List K2,(dx (mmK L) s r !=0)=decide ((s,r)∈L)
 | [] =>by simp [mmK,dx]
 |k::L=>by
  have ih:=Dh s r L
  unfold mmK at*
  simp only [List.map_cons,dx]
  by_cases h:k=(s,r)
  · rw [if_pos h,h]
    simp
  · rw [if_neg h,ih]
    have h': ¬(s,r)=k:=fun e=>h e.symm
    simp [h']
theorem Di: ∀ {L:List K2} {s:Int} {r:List UInt8},¬(s,r)∈L->dh (mmK L) s r 1=mmK (L++ [(s,r)])
 | [],_,_,_=>rfl
 |k::L,s,r,h=>by
  have ih:=Di (L:=L) (s:=s) (r:=r) fun h'=>h (List.mem_cons_of_mem _ h')
  have h2: ¬k=(s,r):=fun e=>h (by rw [e];exact List.mem_cons_self)
  unfold mmK at*
  simp only [List.map_cons,dh,List.cons_append]
  rw [if_neg h2,ih]
def gvn (z:Int):Bool:=bif z==6 then true else z==5
def mb (L:List Ent)(R:List K2):Bool:=R.all (fun k=>gvn (fnd L k.1 k.2).st)&& decide R.Nodup
def pA (L:List Ent)(R:List K2)(k:Nat):Prop:=(∀ x∈R.take k,gvn (fnd L x.1 x.2).st=true)∧(R.take k).Nodup
theorem QZ :pA L R 0:=⟨by simp,by simp⟩
theorem HV(h:pA L R k)(hk:k<R.length)(h1:gvn (fnd L (R.getD k K0).1 (R.getD k K0).2).st=true)(h2: ¬R.getD k K0∈R.take k):pA L R (k+1):=by
 have e:R.take (k+1)=R.take k++ [R.getD k K0] :=(bk hk).symm
 unfold pA
 rw [e]
 refine ⟨fun x hx=> ?_, ?_⟩
 · rcases List.mem_append.1 hx with hx|hx
   · exact h.1 x hx
   · rw [List.mem_singleton.1 hx];exact h1
 · rw [List.nodup_append]
   refine ⟨h.2,by simp, ?_⟩
   intro a ha b hb e
   rw [List.mem_singleton] at hb
   subst hb
   exact h2 (e▸ha)
theorem KJ(h:pA L R R.length):mb L R=true:=by
 unfold pA at h
 rw [List.take_length] at h
 unfold mb
 rw [bAE]
 exact ⟨List.all_eq_true.2 h.1,decide_eq_true h.2⟩
theorem OL(h:mb L R=true)(hk:k<R.length):gvn (fnd L (R.getD k K0).1 (R.getD k K0).2).st=true∧ ¬R.getD k K0∈R.take k:=by
 unfold mb at h
 rw [bAE] at h
 have e:R.getD k K0=R[k] :=by rw [List.getD_eq_getElem?_getD,gEE hk];rfl
 rw [e]
 refine ⟨List.all_eq_true.1 h.1 _ (List.getElem_mem hk),fun hm=> ?_⟩
 obtain ⟨i,hi,he⟩:=List.getElem_of_mem hm
 rw [List.length_take] at hi
 rw [List.getElem_take] at he
 have:=(List.nodup_iff_pairwise_ne.1 (of_decide_eq_true h.2))
 exact List.pairwise_iff_getElem.1 this i k (by omega) hk (by omega) he
def lj (L:List Ent)(M:List Tm):Bool:=M.all fun x=>stW (fnd L x.s x.r).st
theorem OM{M:List Tm}(h:lj L M=true)(hk:k<M.length):stW (fnd L (M.getD k T0).s (M.getD k T0).r).st=true:=by
 unfold lj at h
 have e:M.getD k T0=M[k] :=by rw [List.getD_eq_getElem?_getD,gEE hk];rfl
 rw [e]
 exact List.all_eq_true.1 h _ (List.getElem_mem hk)
theorem ON{M:List Tm}(h: ∀ k,k<M.length->stW (fnd L (M.getD k T0).s (M.getD k T0).r).st=true):lj L M=true:=by
 refine List.all_eq_true.2 fun x hx=> ?_
 obtain ⟨k,hk,rfl⟩:=List.getElem_of_mem hx
 have:=h k hk
 rwa [List.getD_eq_getElem?_getD,gEE hk] at this
noncomputable def dkR (w t m n q tm:Int)(T:Tbl)(nw wm:Int)(I O:Sl)(R:List K2):Bool:=
 dE w t m n q &&(gH m n tm T &&(g9 m nw wm I O &&(lj (alT tm T) (k9 nw wm I O)&& mb (alT tm T) R)))
end Go.Vd
namespace Go.Vd
open Go.Proofs
variable {w t m n q tm:Int} {nw wm:Int} {I O:Sl} {T:Tbl}
theorem iU{w t m n q tm:Int}{k c:Nat}{f h:Nat->Nat->SV}{nw wm:Int}{g g':Nat->Nat->SV}(hf:ai eEs [] 1 k f)(hg:ai eTs [] 1 64 g)(hg':ai eTs [] 1 64 g')(hh:ai eKy K0 2 c h):
 sv2 (.agg [.int .u64 w, .int .i64 t, .int .i64 m, .int .i64 n, .int .i64 q, .int .i64 tm, .slc k 1 f, .int .u64 nw, .int .i64 wm, .run 64 g, .run 64 g', .slc c 2 h])
  (dkS std w t m n q tm (ab eEs [] 1 k f) nw wm (ab eTs [] 1 64 g) (ab eTs [] 1 64 g') (ab eKy K0 2 c h)):=
 ⟨_,rfl,rfl,rfl,rfl,rfl,rfl,rfl,hf.sv,rfl,rfl,tX (T:= []) hg,tX (T:= []) hg',hh.sv,trivial⟩
noncomputable def Ao:Ct:=fun A args=>match args with
 | [.agg [.int .u64 w, .int .i64 t, .int .i64 m, .int .i64 n, .int .i64 q, .int .i64 tm, .slc k 1 f, .int .u64 nw, .int .i64 wm, .run 64 g, .run 64 g', .slc c 2 h]] =>some (some (A.tp fun _=>(ai eEs [] 1 k f∧(ai eTs [] 1 64 g∧ai eTs [] 1 64 g')∧ai eKy K0 2 c h)∧tbQ (ab eEs [] 1 k f)), .bool (A.tb fun _=>gH m n tm (ab eEs [] 1 k f)))
 |_=>none
theorem HW:bV Tryz.prog gl0 54 Ao:=⟨⟨_,Tryz.func54,rfl,by decide⟩,fun args p r h hp=>by
 unfold Ao at h
 split at h<;>cases h
 exact aJ (HO _ _ _ _ _ _ _ _ _ _ _ _ hp.2) ⟨iU hp.1.1 hp.1.2.1.1 hp.1.2.1.2 hp.1.2.2,trivial⟩⟩
noncomputable def Ap:Ct:=fun A args=>match args with
 | [.agg [.int .u64 w, .int .i64 t, .int .i64 m, .int .i64 n, .int .i64 q, .int .i64 tm, .slc k 1 f, .int .u64 nw, .int .i64 wm, .run 64 g, .run 64 g', .slc c 2 h]] =>some (some (A.tp fun _=>(ai eEs [] 1 k f∧(ai eTs [] 1 64 g∧ai eTs [] 1 64 g')∧ai eKy K0 2 c h)∧whQ (ab eTs [] 1 64 g) (ab eTs [] 1 64 g')∧0<=nw), .bool (A.tb fun _=>g9 m nw wm (ab eTs [] 1 64 g) (ab eTs [] 1 64 g')))
 |_=>none
theorem HX:bV Tryz.prog gl0 55 Ap:=⟨⟨_,Tryz.func55,rfl,by decide⟩,fun args p r h hp=>by
 unfold Ap at h
 split at h<;>cases h
 exact aJ (HP _ _ _ _ _ _ _ _ _ _ _ _ hp.2.1 hp.2.2) ⟨iU hp.1.1 hp.1.2.1.1 hp.1.2.1.2 hp.1.2.2,trivial⟩⟩
theorem wC:bV Tryz.prog gl0 25 pc:=az.ct zp ⟨_,Tryz.func25,rfl,by decide⟩ fun _=>rfl
theorem pB:bV Tryz.prog gl0 28 jN:=az.ct pm ⟨_,Tryz.func28,rfl,by decide⟩ fun _=>rfl
theorem Q0{R:List K2}(h:(bif bif !dE w t m n q then true else !gH m n tm T then true else !g9 m nw wm I O)=true):dkR w t m n q tm T nw wm I O R=false:=by
 unfold dkR
 revert h
 cases dE w t m n q<;>cases gH m n tm T<;>cases g9 m nw wm I O<;>simp
theorem OO(h:(bif bif !dE w t m n q then true else !gH m n tm T then true else !g9 m nw wm I O)=false):dE w t m n q=true∧gH m n tm T=true∧g9 m nw wm I O=true:=by
 revert h
 cases dE w t m n q<;>cases gH m n tm T<;>cases g9 m nw wm I O<;>simp
theorem Q1{R:List K2}(h:dE w t m n q=true∧gH m n tm T=true∧g9 m nw wm I O=true):dkR w t m n q tm T nw wm I O R=(lj (alT tm T) (k9 nw wm I O)&& mb (alT tm T) R):=by
 unfold dkR
 rw [h.1,h.2.1,h.2.2]
 rfl
noncomputable def gj3:Ar->Pu:=aq 18 pu (aq 54 Ao (aq 55 Ap (aq 25 pc (aq 28 jN (noC)))))
theorem Q2:az Tryz.prog gl0 (gj3 std):=by
 refine aD (aD (aD (aD (aD (aP) pB) wC) HX) HW) px
noncomputable def iJ:Nat->Option Func:=bY 57 Tryz.f57 (bY 56 Tryz.f56 noI)
theorem Sj:gF Tryz.prog iJ:=bc (bc ak Tryz.func56 (by kernel_rfl)) Tryz.func57 (by kernel_rfl)
attribute [local irreducible] vc
theorem HY(w t m n q tm:Int)(T:Tbl)(nw wm:Int)(I O:Sl)(R:List K2)(hQ:dkQ T nw I O R):GFn 19 (fun A=> [dkS A w t m n q tm T nw wm I O R]) (fun A=> .bool (A.tb fun _=>dkR w t m n q tm T nw wm I O R)):=by
 refine aC Q2 ar Sj Tryz.func19 (.one) fun A hA=> ?_
 obtain ⟨LE,hLE⟩: ∃ L,L=alT tm T:=⟨_,rfl⟩
 obtain ⟨LT,hLT⟩: ∃ L,L=k9 nw wm I O:=⟨_,rfl⟩
 cbv
 repeat' (first| (with_reducible first|exact vT|exact vD hA|exact vE hA|refine vA ?_ ?_) | (intro hc;cbv))
 all_goals first
  | (fail_if_success (refine Exists.intro ?_ ?_)
     subst hA
     simp only [sS,bg,aT,ay hQ.2.1.1.1,ah hQ.2.1.1.1,ay hQ.2.1.1.2,ah hQ.2.1.1.2,fK,cD] at*
     first
      |exact fun h=>h
      | (intro h;rw [h];rfl)
      |exact fun h=>⟨h,h⟩
      |exact fun h=>⟨h,⟨trivial,⟨trivial,trivial⟩,trivial⟩,hQ.1⟩
      |exact fun h=>⟨h,⟨trivial,⟨trivial,trivial⟩,trivial⟩,hQ.2.1,hQ.2.2.2.1⟩
      |exact (Q0 (by assumption)).symm
      |exact ⟨trivial,hQ.1⟩
)
  |skip
 have hB:dE w t m n q=true∧gH m n tm T=true∧g9 m nw wm I O=true:=by
  subst hA
  simp only [sS,bg,aT,ay hQ.2.1.1.1,ah hQ.2.1.1.1,ay hQ.2.1.1.2,ah hQ.2.1.1.2,fK,cD] at*
  exact OO (by assumption)
 have hD:dkR w t m n q tm T nw wm I O R=(lj LE LT && mb LE R):=by rw [hLE,hLT];exact Q1 hB
 clear hc
 have hLEl:LE.length<=1000000:=by
  have h1:=hB.2.1
  unfold gH at h1
  rw [bAE,bAE] at h1
  have h2:=ji h1.2.2
  rw [hLE,sg h1.2.2]
  omega
 have hLTl:LT.length<=256:=by
  have h1:=hB.2.2
  unfold g9 at h1
  rw [bAE,bAE] at h1
  rw [hLT,qg h1.2.2]
  exact (ue h1.2.2).1
 have hRl:R.length<=1000000:=hQ.2.2.1
 obtain ⟨NE,hNE⟩: ∃ N,N=LE.length:=⟨_,rfl⟩
 obtain ⟨NR,hNR⟩: ∃ N,N=R.length:=⟨_,rfl⟩
 obtain ⟨NT,hNT⟩: ∃ N,N=LT.length:=⟨_,rfl⟩
 refine ⟨⟨{p:Nat×MM // p.1<=LE.length∧p.2=mmE (LE.take p.1)},fun b p=> [(25,aF eE E0 8 A fun _=>LE),(26, .int .i64 (NE:Nat)),(27, .int .i64 (p.1.1:Nat))],fun b p=> [(16, .kmap 116 false p.1.2)],fun p=>LE.length - p.1.1,true⟩,⟨⟨(0, []),Nat.zero_le _,rfl⟩, ?_⟩, ?_⟩
 · cbv
   subst hA
   simp [-List.getD_eq_getElem?_getD,sS,aT,<-hLE,<-hNE]
 · rintro ⟨⟨i,S⟩,hx⟩
   have hi:i<=LE.length:=hx.1
   have hS:S=mmE (LE.take i):=hx.2
   obtain ⟨i',hi'⟩: ∃ i',i'=i+1:=⟨_,rfl⟩
   obtain ⟨e,he⟩: ∃ e,e=LE.getD i E0:=⟨_,rfl⟩
   have hge:LE.getD i { s:=0,r:= [],st:=0,pan:= [],am:=0,code:= [],tr:=0,ca:=0 } =e:=he.symm
   rcases Nat.lt_or_ge i LE.length with hlt|hge2
   · have hput:dh S e.s e.r e.st=mmE (LE.take i'):=by
      rw [hS,Dg (by rw [he,hLE];rw [hLE] at hlt;exact QY hlt),hi',<-bk (d:=E0) hlt,he]
     obtain ⟨S',hS'⟩: ∃ S',S'=dh S e.s e.r e.st:=⟨_,rfl⟩
     cbv
     repeat' (first| (with_reducible first|exact vT|exact vD hA|exact vE hA|refine vA ?_ ?_) | (intro hc;cbv))
     all_goals first
      | (fail_if_success (refine Exists.intro ?_ ?_)
         clear hput hS hx
         subst hA
         simp only [sS,iNE,hge] at*
         first
          |done
          |exact ⟨by omega,by omega⟩
          |omega
          | (exfalso;have:=of_decide_eq_false hc;omega)
)
      | (exfalso;clear hput hS hx;subst hA;simp only [sS,Int.ofNat_eq_natCast] at hc;have:=of_decide_eq_false hc;omega)
      | (refine ⟨⟨(i',S'),(show i'<=LE.length by omega),(show S'=mmE (LE.take i') by rw [hS',hput])⟩, ?_,(show LE.length - i'<LE.length - i by omega)⟩
         cbv
         subst hA
         simp [-List.getD_eq_getElem?_getD,sS,hge,<-hS']
         exact cC hi' (by omega))
   · have hie:i=LE.length:=by omega
     rw [hie,List.take_length] at hS
     cbv
     repeat' (first| (with_reducible first|exact vT|exact vD hA|exact vE hA|refine vA ?_ ?_) | (intro hc;cbv))
     all_goals first
      | (fail_if_success (refine Exists.intro ?_ ?_)
         clear hS hx
         subst hA
         simp only [sS,iNE,ay hQ.2.1.1.1,ah hQ.2.1.1.1,ay hQ.2.1.1.2,ah hQ.2.1.1.2] at*
         first
          |exact ⟨⟨⟨trivial,trivial⟩,hQ.2.1⟩,hQ.2.2.2.1⟩
          | (exfalso;have:=of_decide_eq_true hc;omega)
)
      | (exfalso;clear hS hx;subst hA;simp only [sS,Int.ofNat_eq_natCast] at hc;have:=of_decide_eq_true hc;omega)
      |skip
     refine ⟨⟨{k:Nat // k<=LT.length∧ ∀ j,j<k->stW (fnd LE (LT.getD j T0).s (LT.getD j T0).r).st=true},fun b k=> [(39,aF eT T0 3 A fun _=>LT),(40, .int .i64 (NT:Nat)),(41, .int .i64 (k.1:Nat))],fun b k=> [(16, .kmap 116 false S)],fun k=>LT.length - k.1,true⟩,⟨⟨0,Nat.zero_le _,fun j hj=>absurd hj (by omega)⟩, ?_⟩, ?_⟩
     · cbv
       clear hS hx
       subst hA
       simp [-List.getD_eq_getElem?_getD,sS,ah hQ.2.1.1.1,ah hQ.2.1.1.2,<-hLT,<-hNT]
     · rintro ⟨k,hy⟩
       have hk:k<=LT.length:=hy.1
       have hw:=hy.2
       obtain ⟨k',hk'⟩: ∃ k',k'=k+1:=⟨_,rfl⟩
       obtain ⟨t0,ht0⟩: ∃ t0,t0=LT.getD k T0:=⟨_,rfl⟩
       have hgt:LT.getD k { s:=0,r:= [],u:=0 } =t0:=ht0.symm
       have hget:dx S t0.s t0.r=(fnd LE t0.s t0.r).st:=by rw [hS];exact vu _ _ _
       obtain ⟨z,hz⟩: ∃ z,z=(fnd LE t0.s t0.r).st:=⟨_,rfl⟩
       rw [<-hz] at hget
       rcases Nat.lt_or_ge k LT.length with hltk|hgek
       · have hbad:stW z=false->dkR w t m n q tm T nw wm I O R=false:=fun h=>by
          rw [hD]
          cases hq:lj LE LT with
          |false=>rfl
          |true=>
           have:=OM hq hltk
           rw [<-ht0,<-hz,h] at this
           cases this
         cbv
         repeat' (first| (with_reducible first|exact vT|exact vD hA|exact vE hA|refine vA ?_ ?_) | (intro hc;cbv))
         all_goals first
          | (fail_if_success (refine Exists.intro ?_ ?_)
             clear hS hx hw hy
             subst hA
             simp only [sS,iNE,hgt,hget] at*
             first
              |done
              |exact ⟨by omega,by omega⟩
              |exact fun h=>h
              | (intro h;rw [h];rfl)
              |exact (hbad (nI (by assumption))).symm
              | (exfalso;have:=of_decide_eq_false hc;omega)
)
          | (exfalso;clear hS hx;subst hA;simp only [sS,Int.ofNat_eq_natCast] at hc;have:=of_decide_eq_false hc;omega)
          | (have hgood:stW z=true:=by
              clear hS hx hw hy
              subst hA
              simp only [sS,iNE,hgt,hget] at hc
              exact eH hc
             refine ⟨⟨k',(show k'<=LT.length by omega),fun j hj=> ?_⟩, ?_,(show LT.length - k'<LT.length - k by omega)⟩
             · rcases Nat.lt_or_ge j k with h|h
               · exact hw j h
               · obtain rfl:j=k:=by omega
                 rw [<-ht0,<-hz]
                 exact hgood
             · cbv
               subst hA
               simp [-List.getD_eq_getElem?_getD,sS]
               exact cC hk' (by omega))
       · have htm:lj LE LT=true:=ON fun j hj=>hw j (by omega)
         rw [htm,Bool.true_and] at hD
         cbv
         repeat' (first| (with_reducible first|exact vT|exact vD hA|exact vE hA|refine vA ?_ ?_) | (intro hc;cbv))
         all_goals first
          | (exfalso
             clear hS hx hw hy
             subst hA
             simp only [sS,Int.ofNat_eq_natCast] at*
             have h9:decide ((k:Int)<(NT:Int))=true:=by assumption
             have:=of_decide_eq_true h9
             omega)
          | (fail_if_success (refine Exists.intro ?_ ?_)
             clear hS hx hw hy
             subst hA
             simp only [sS,iNE] at*
             first
              |done
              | (exfalso;have:=of_decide_eq_true hc;omega)
)
          |skip
         refine ⟨⟨{p:Nat×MM // p.1<=R.length∧p.2=mmK (R.take p.1)∧pA LE R p.1},fun b p=> [(11, .int .i64 (NR:Nat)),(12, .int .i64 (p.1.1:Nat))],fun b p=> [(50, .kmap 163 true p.1.2),(16, .kmap 116 false S)],fun p=>R.length - p.1.1,true⟩,⟨⟨(0, []),Nat.zero_le _,rfl,QZ⟩, ?_⟩, ?_⟩
         · cbv
           subst hA
           simp [-List.getD_eq_getElem?_getD,sS,<-hNR]
         · rintro ⟨⟨j,M⟩,hu⟩
           have hj:j<=R.length:=hu.1
           have hM:M=mmK (R.take j):=hu.2.1
           have hr:=hu.2.2
           obtain ⟨j',hj'⟩: ∃ j',j'=j+1:=⟨_,rfl⟩
           obtain ⟨e,he⟩: ∃ e,e=R.getD j K0:=⟨_,rfl⟩
           have hge:R.getD j (0, [])=e:=he.symm
           have hg1:dx S e.1 e.2=(fnd LE e.1 e.2).st:=by rw [hS];exact vu _ _ _
           have hg2:(dx M e.1 e.2 !=0)=decide (e∈R.take j):=by rw [hM];exact Dh _ _ _
           obtain ⟨z,hz⟩: ∃ z,z=(fnd LE e.1 e.2).st:=⟨_,rfl⟩
           rw [<-hz] at hg1
           obtain ⟨b2,hb2⟩: ∃ b2,b2=decide (e∈R.take j):=⟨_,rfl⟩
           rw [<-hb2] at hg2
           obtain ⟨M',hM'⟩: ∃ M',M'=dh M e.1 e.2 1:=⟨_,rfl⟩
           rcases Nat.lt_or_ge j R.length with hltj|hgej
           · have hbad:(gvn z=true->b2=true)->dkR w t m n q tm T nw wm I O R=false:=fun h=>by
              rw [hD]
              cases hq:mb LE R with
              |false=>rfl
              |true=>
               have h2:=OL hq hltj
               rw [<-he,<-hz] at h2
               have h3:=h h2.1
               rw [hb2] at h3
               exact absurd (of_decide_eq_true h3) h2.2
             have hnext:gvn z=true->b2=false->pA LE R j'∧M'=mmK (R.take j'):=fun h1 h2=>by
              rw [hb2] at h2
              have h3:=of_decide_eq_false h2
              refine ⟨?_, ?_⟩
              · rw [hj']
                exact HV hr hltj (by rw [<-he,<-hz];exact h1) (by rw [<-he];exact h3)
              · rw [hM',hM,Di h3,hj',<-bk (d:=K0) hltj,<-he]
             cbv
             repeat' (first| (with_reducible first|exact vT|exact vD hA|exact vE hA|refine vA ?_ ?_) | (intro hc;cbv))
             all_goals first
              | (fail_if_success (refine Exists.intro ?_ ?_)
                 clear hS hx hw hy hM hu hr hnext
                 subst hA
                 simp only [sS,iNE,hge,hg1,hg2] at*
                 first
                  |done
                  |exact ⟨by omega,by omega⟩
                  | (exfalso;have h9:decide ((j:Int)<(NR:Int))=false:=by assumption
                     have:=of_decide_eq_false h9
                     omega)
                  |exact fun h=>h
                  |assumption
                  | (intro h;rw [h];rfl)
                  | (clear hD hg1 hg2 hz hb2
                     unfold gvn at hbad
                     generalize (z==6)=c6 at*
                     generalize (z==5)=c5 at*
                     cases c6<;>cases c5<;>cases b2<;>simp_all)
)
              | (exfalso;clear hS hx hw hy hM hu hr hnext;subst hA;simp only [sS,Int.ofNat_eq_natCast] at*;have h9:decide ((j:Int)<(NR:Int))=false:=by assumption
                 have:=of_decide_eq_false h9
                 omega)
              | (have hgood:gvn z=true∧b2=false:=by
                  clear hS hx hw hy hM hu hr hnext
                  subst hA
                  simp only [sS,iNE,hge,hg1,hg2] at*
                  clear hD hg1 hg2 hz hb2 hbad
                  unfold gvn
                  generalize (z==6)=c6 at*
                  generalize (z==5)=c5 at*
                  cases c6<;>cases c5<;>cases b2<;>simp_all
                 have hn:=hnext hgood.1 hgood.2
                 refine ⟨⟨(j',M'),(show j'<=R.length by omega),hn.2,hn.1⟩, ?_,(show R.length - j'<R.length - j by omega)⟩
                 cbv
                 subst hA
                 simp [-List.getD_eq_getElem?_getD,sS,hge,<-hM']
                 exact cC hj' (by omega))
           · have hrc:mb LE R=true:=KJ (by rw [show R.length=j by omega];exact hr)
             rw [hrc] at hD
             cbv
             repeat' (first| (with_reducible first|exact vT|exact vD hA|exact vE hA|refine vA ?_ ?_) | (intro hc;cbv))
             all_goals first
              | (exfalso;clear hS hx hw hy hM hu hr;subst hA;simp only [sS,Int.ofNat_eq_natCast] at*;have h9:decide ((j:Int)<(NR:Int))=true:=by assumption
                 have:=of_decide_eq_true h9
                 omega)
              | (fail_if_success (refine Exists.intro ?_ ?_)
                 clear hS hx hw hy hM hu hr
                 subst hA
                 simp only [sS,hD] at*
                 done)
end Go.Vd
namespace Go.Vd
open Go.Proofs
variable {r:List UInt8} {S:Stp} {w nw wm:Int} {s:Int} {I O:Sl}
def evQ (d:Dl):Prop:=(0<=d.s∧d.s<4294967296)∧d.r.length<=1000000∧d.pan.length<=100000∧d.code.length<=1000000
theorem kt:enQ E0:=⟨⟨by decide,by decide⟩,by decide,by decide,by decide⟩
theorem EY{e:Ent}{v:Int}{d:Dl}{n:Int}(he:enQ e)(hd:evQ d):enQ (stp e v d n).e:=by
 obtain ⟨a1,a2,a3,a4⟩:=he
 obtain ⟨b1,b2,b3,b4⟩:=hd
 have hE:enQ E0:=kt
 unfold stp lh jz nT iT lg nU rev S0
 repeat' split
 all_goals first
  |exact hE
  |exact ⟨a1,a2,a3,a4⟩
  |exact ⟨b1,b2,b3,by simp⟩
  |exact ⟨a1,a2,a3,b4⟩
  |exact ⟨a1,a2,a3,by simp⟩
  | (simp only [enQ];exact ⟨a1,a2,a3,by first|assumption|simp⟩)
theorem Aq{m:Int}{T:Tbl}(h:tbQ T):enQ (gc m T s r):=by
 have hE:enQ E0:=kt
 unfold gc lkE
 repeat' split
 · exact hE
 · unfold fnd
   cases hf:(shl T s r).find? (kE s r) with
   |none=>exact hE
   |some x=>exact (EX h s r).2 x (List.mem_of_find?_eq_some hf)
 · exact hE
def gm (S:Stp):Bool:=decide (S.t=0)&& stW S.e.st
noncomputable def fO (w nw wm:Int)(I O:Sl)(s:Int)(r:List UInt8)(S:Stp):Sl:=
 if gm S=true then I else if S.t=1 then gj nw wm (fB nw wm I O s r) (fC nw wm I O s r) s r (nw+w) else fB nw wm I O s r
noncomputable def fP (w nw wm:Int)(I O:Sl)(s:Int)(r:List UInt8)(S:Stp):Sl:=
 if gm S=true then O else if S.t=1 then gk nw wm (fB nw wm I O s r) (fC nw wm I O s r) s r (nw+w) else fC nw wm I O s r
theorem Mb(h:gm S=true):fO w nw wm I O s r S=I∧fP w nw wm I O s r S=O:=⟨if_pos h,if_pos h⟩
theorem xc(h:gm S=false)(h1:S.t=1):fO w nw wm I O s r S=gj nw wm (fB nw wm I O s r) (fC nw wm I O s r) s r (nw+w)∧fP w nw wm I O s r S=gk nw wm (fB nw wm I O s r) (fC nw wm I O s r) s r (nw+w):=by
 have h': ¬gm S=true:=by rw [h];decide
 unfold fO fP
 rw [if_neg h',if_neg h',if_pos h1,if_pos h1]
 exact ⟨rfl,rfl⟩
theorem EZ(h:gm S=false)(h1: ¬S.t=1):fO w nw wm I O s r S=fB nw wm I O s r∧fP w nw wm I O s r S=fC nw wm I O s r:=by
 have h': ¬gm S=true:=by rw [h];decide
 unfold fO fP
 rw [if_neg h',if_neg h',if_neg h1,if_neg h1]
 exact ⟨rfl,rfl⟩
theorem HZ(h:(bif S.t==0 then bif S.e.st==1 then true else S.e.st==4 else false)=true):gm S=true:=by
 unfold gm stW
 by_cases h0:S.t=0
 · rw [h0] at h ⊢;exact h
 · rw [beq_eq_false_iff_ne.2 h0] at h;cases h
theorem Q3(h:(bif S.t==0 then bif S.e.st==1 then true else S.e.st==4 else false)=false):gm S=false:=by
 unfold gm stW
 by_cases h0:S.t=0
 · rw [h0] at h ⊢;exact h
 · rw [decide_eq_false h0];rfl
theorem Q4(h:(true &&(S.t==0)==true)=false):gm S=false:=by
 unfold gm
 by_cases h0:S.t=0
 · rw [h0] at h;cases h
 · rw [decide_eq_false h0];rfl
noncomputable def iJd:Nat->Option Func:=bY 56 Tryz.f56 noI
theorem Q5:gF Tryz.prog iJd:=bc ak Tryz.func56 (by kernel_rfl)
theorem pC:bV Tryz.prog gl0 95 jO:=az.ct pt ⟨_,Tryz.func95,rfl,by decide⟩ fun _=>rfl
theorem qY:bV Tryz.prog gl0 96 ld:=az.ct pt ⟨_,Tryz.func96,rfl,by decide⟩ fun _=>rfl
noncomputable def gjc:Ar->Pu:=aq 95 jO (aq 96 ld (noC))
theorem Q6:az Tryz.prog gl0 (gjc std):=by
 refine aD (aD (aP) qY) pC
attribute [local irreducible] vc
theorem BK(w t m n q tm:Int)(T:Tbl)(nw wm:Int)(I O:Sl)(R:List K2)(s:Int)(r:List UInt8)(S:Stp)(hQ:whQ I O)(hn:0<=nw∧nw<=4611686018427387904)(hw:0<=w∧w<=4000):GFn 42 (fun A=> [dkS A w t m n q tm T nw wm I O R,gY A s r,EV A fun _=>S]) (fun A=>whT A nw wm (fun _=>fO w nw wm I O s r S) (fun _=>fP w nw wm I O s r S)):=by
 refine aC Q6 ar Q5 Tryz.func42 (.none) fun A hA=> ?_
 have hcQ:whQ (fB nw wm I O s r) (fC nw wm I O s r):=C8 hQ hn.1
 have hwr:IntKind.u64.wrap (nw+w)=nw+w:=by rw [IntKind.wrap_u64];omega
 have hn2:0<=nw∧nw<18446744073709551616:=by omega
 have hs:0<=nw+w∧nw+w<18446744073709551616:=by omega
 cbv
 repeat' (first| (with_reducible first|exact vT|exact vD hA|exact vE hA|refine vA ?_ ?_) | (intro hc;cbv))
 all_goals (subst hA;try simp only [sS,ay hQ.1.1,ah hQ.1.1,ay hQ.1.2,ah hQ.1.2,ay hcQ.1.1,ah hcQ.1.1,ay hcQ.1.2,ah hcQ.1.2,hwr] at*)
 all_goals first
  |exact fun h=>h
  |assumption
  | (intro h;rw [h];rfl)
  |exact ⟨⟨⟨trivial,trivial⟩,hQ⟩,hn2⟩
  |exact ⟨⟨⟨trivial,trivial⟩,hcQ⟩,hn2,hs⟩
  | (intro h;rw [h] at hc;exact absurd hc (by decide))
  | (exfalso
     have h9:(bif S.t==0 then false else false)=true:=by assumption
     revert h9
     cases S.t==0<;>simp;done)
  | (rw [(Mb (HZ (by assumption))).1];exact bG)
  | (rw [(Mb (HZ (by assumption))).2];exact bG)
  | (have hK:gm S=false:=by first|exact Q3 (by assumption) |exact Q4 (by assumption)
     first
      | (have h1:(S.t==1)=true:=by assumption
         have h1:S.t=1:=by simpa using h1
         first
          | (rw [(xc hK h1).1];exact bG)
          | (rw [(xc hK h1).2];exact bG))
      | (have h1:(S.t==1)=false:=by assumption
         have h1: ¬S.t=1:=by simpa using h1
         first
          | (rw [(EZ hK h1).1];exact bG)
          | (rw [(EZ hK h1).2];exact bG)))
theorem E1(s:Int)(r:List UInt8):GFn 40 (fun A=> [gY A s r]) (fun A=>aF eD D0 6 A fun _=> [⟨2, [],0,s,r, [57,54]⟩]):=by
 refine aC aP ar ak Tryz.func40 (.none) fun A hA=> ?_
 cbv
 repeat' (first| (with_reducible first|exact vT|exact vD hA|exact vE hA|refine vA ?_ ?_) | (intro hc;cbv))
 all_goals (subst hA;simp only [sS] at*)
 all_goals first
  |rfl
  |exact QS rfl
  | (apply c7;(focus (repeat' (first|with_reducible exact au.lit _|with_reducible apply au.catE|exact au.nil| (simp;done) |omega)));(focus (first| (simp;done) |omega|rfl));(focus (first| (simp;done) |rfl)))
end Go.Vd
