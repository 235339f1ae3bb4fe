/- Timers in order; the wheel of a list of timers. Mathematics only. -/
import Derived.Test.YtckmnmcnelfkjaaGreatDoorVdWC
import Derived.Test.YtckmnmcnelfkjaaGreatDoorVdI2
import Derived.Test.YtckmnmcnelfkjaaGreatDoorVdH3
set_option linter.unusedVariables false
set_option linter.unusedSimpArgs false
set_option maxRecDepth 100000
set_option maxHeartbeats 4000000
namespace Go.Vd
open Go.Proofs
variable {L:List Tm} {n:Int} {a b:Tm} {M:List Tm} {I O:Sl} {t:Tm} {s:Nat}
theorem R3{s t:Int}{r q:List UInt8} :c8 s r t q<0↔s<t∨(s=t∧r<q):=by
 rw [gA]
 by_cases e:s=t∧r=q
 · rw [if_pos e]
   obtain ⟨rfl,rfl⟩:=e
   constructor
   · intro h;omega
   · rintro (h|h)
     · omega
     · exact absurd h.2 (List.lt_irrefl _)
 · rw [if_neg e]
   by_cases h:s<t∨(s=t∧r<q)
   · rw [if_pos h];simp [h]
   · rw [if_neg h];simp [h]
def ltT (a b:Tm):Prop:=a.u<b.u∨(a.u=b.u∧(a.s<b.s∨(a.s=b.s∧a.r<b.r)))
theorem mD :cx a b<0↔ltT a b:=by
 have h:=zy a b
 unfold iR at h
 rw [decide_eq_decide] at h
 rw [h,R3]
 exact Iff.rfl
theorem ik(a:Tm): ¬ltT a a:=by
 rintro (h| ⟨_,h| ⟨_,h⟩⟩)
 · omega
 · omega
 · exact List.lt_irrefl _ h
theorem gd{a b c:Tm}(h1:ltT a b)(h2:ltT b c):ltT a c:=by
 rcases h1 with h1| ⟨e1,h1⟩
 · rcases h2 with h2| ⟨e2,h2⟩
   · exact .inl (by omega)
   · exact .inl (by omega)
 · rcases h2 with h2| ⟨e2,h2⟩
   · exact .inl (by omega)
   · refine .inr ⟨by omega, ?_⟩
     rcases h1 with h1| ⟨f1,h1⟩
     · rcases h2 with h2| ⟨f2,h2⟩
       · exact .inl (by omega)
       · exact .inl (by omega)
     · rcases h2 with h2| ⟨f2,h2⟩
       · exact .inl (by omega)
       · exact .inr ⟨by omega,List.lt_trans h1 h2⟩
theorem qc(a b:Tm):ltT a b∨a=b∨ltT b a:=by
 rcases Int.lt_trichotomy a.u b.u with h|h|h
 · exact .inl (.inl h)
 · rcases Int.lt_trichotomy a.s b.s with h2|h2|h2
   · exact .inl (.inr ⟨h, .inl h2⟩)
   · rcases uW a.r b.r with ⟨h3,_⟩ | ⟨h3,_⟩ | ⟨h3,_⟩
     · exact .inl (.inr ⟨h, .inr ⟨h2,h3⟩⟩)
     · refine .inr (.inl ?_)
       cases a;cases b
       simp only [Tm.mk.injEq]
       exact ⟨h2,h3,h⟩
     · exact .inr (.inr (.inr ⟨h.symm, .inr ⟨h2.symm,h3⟩⟩))
   · exact .inr (.inr (.inr ⟨h.symm, .inl h2⟩))
 · exact .inr (.inr (.inl h))
theorem zJ(h:ltT a b): ¬ltT b a:=fun h2=>ik a (gd h h2)
def dq (L:List Tm):Prop:=L.Pairwise ltT
def sa (a b:Tm):Prop:= ¬(a.s=b.s∧a.r=b.r)
theorem il(h:sa a b):sa b a:=fun e=>h ⟨e.1.symm,e.2.symm⟩
def cy (L:List Tm):Prop:=L.Pairwise sa
theorem mE(h:sa a b): ¬a=b:=fun e=>h (e▸⟨rfl,rfl⟩)
theorem gh: ∀ {L M:List Tm},dq L->dq M->(∀ x,x∈L↔x∈M)->L=M
 | [], [],_,_,_=>rfl
 | [],y::M,_,_,h=>by have:=(h y).2 (List.mem_cons_self ..);simp at this
 |x::L, [],_,_,h=>by have:=(h x).1 (List.mem_cons_self ..);simp at this
 |x::L,y::M,h1,h2,h=>by
  have a:=List.pairwise_cons.1 h1
  have b:=List.pairwise_cons.1 h2
  have exy:x=y:=by
   rcases List.mem_cons.1 ((h x).1 (List.mem_cons_self ..)) with e|hx
   · exact e
   · rcases List.mem_cons.1 ((h y).2 (List.mem_cons_self ..)) with e|hy
     · exact e.symm
     · exact absurd (gd (b.1 x hx) (a.1 y hy)) (ik y)
  subst exy
  congr 1
  refine gh a.2 b.2 fun z=>⟨fun hz=> ?_,fun hz=> ?_⟩
  · rcases List.mem_cons.1 ((h z).1 (List.mem_cons_of_mem _ hz)) with e|hz'
    · subst e;exact absurd (a.1 z hz) (ik z)
    · exact hz'
  · rcases List.mem_cons.1 ((h z).2 (List.mem_cons_of_mem _ hz)) with e|hz'
    · subst e;exact absurd (b.1 z hz) (ik z)
    · exact hz'
def bP:List Tm->Tm->List Tm
 | [],x=> [x]
 |y::L,x=>if iR x y=true then x::y::L else y::bP L x
theorem jK :iR a b=true↔ltT a b:=by unfold iR;rw [decide_eq_true_eq,mD]
theorem eJ: ∀(L:List Tm) (x:Tm),(bP L x).Perm (x::L)
 | [],x=> .refl _
 |y::L,x=>by
  unfold bP
  split
  · exact .refl _
  · exact ((eJ L x).cons y).trans (.swap x y L)
theorem jk{x y:Tm} :y∈bP L x↔y=x∨y∈L:=by rw [(eJ L x).mem_iff,List.mem_cons]
theorem jl: ∀ {L:List Tm} {x:Tm},dq L->(∀ y∈L,¬y=x)->dq (bP L x)
 | [],x,_,_=>List.pairwise_singleton ..
 |y::L,x,h,hu=>by
  have a:=List.pairwise_cons.1 h
  unfold bP
  split
  · rename_i h1
    rw [jK] at h1
    refine List.pairwise_cons.2 ⟨fun z hz=> ?_,h⟩
    rcases List.mem_cons.1 hz with rfl|hz
    · exact h1
    · exact gd h1 (a.1 z hz)
  · rename_i h1
    rw [jK] at h1
    refine List.pairwise_cons.2 ⟨fun z hz=> ?_,jl a.2 fun z hz=>hu z (List.mem_cons_of_mem _ hz)⟩
    rcases jk.1 hz with rfl|hz
    · rcases qc y z with h2|h2|h2
      · exact h2
      · exact absurd h2 (hu y (List.mem_cons_self ..))
      · exact absurd h2 h1
    · exact a.1 z hz
theorem lD: ∀ {L:List Tm} {x:Tm},(∀ y∈L,ltT y x)->bP L x=L++ [x]
 | [],x,_=>rfl
 |y::L,x,h=>by
  unfold bP
  rw [if_neg (by rw [jK];exact zJ (h y (List.mem_cons_self ..))),lD fun z hz=>h z (List.mem_cons_of_mem _ hz)]
  rfl
theorem CW: ∀ {L:List Tm} {x:Tm} {j:Nat},j<=L.length->(∀ k,k<j->iR x (L.getD k T0)=false)->(j<L.length->iR x (L.getD j T0)=true)->bP L x=L.take j++x::L.drop j
 | [],x,j,h,_,_=>by
   have:j=0:=by simpa using h
   subst this
   rfl
 |y::L,x,0,_,_,h=>by
  have:=h (by simp)
  simp only [List.getD_cons_zero] at this
  unfold bP
  rw [if_pos this]
  rfl
 |y::L,x,j+1,h,h1,h2=>by
  have:=h1 0 (by omega)
  simp only [List.getD_cons_zero] at this
  unfold bP
  rw [this,if_neg (by decide),CW (by simpa using h) (fun k hk=>by simpa using h1 (k+1) (by omega)) (fun h=>by simpa using h2 (by simpa using h))]
  rfl
def nJ (M:List Tm):List Tm:=M.foldl bP []
theorem tY: ∀(M L:List Tm),(M.foldl bP L).Perm (L++M)
 | [],L=>by simp
 |x::M,L=>by
  rw [List.foldl_cons]
  refine (tY M (bP L x)).trans ?_
  refine ((eJ L x).append_right M).trans ?_
  exact (List.perm_middle (a:=x) (l₁:=L) (l₂:=M)).symm
theorem pf(M:List Tm):(nJ M).Perm M:=by have:=tY M [];simpa [nJ] using this
theorem gi{x:Tm} :x∈nJ M↔x∈M:=(pf M).mem_iff
theorem jm(M:List Tm):(nJ M).length=M.length:=(pf M).length_eq
theorem wx: ∀ {M L:List Tm},dq L->(L++M).Pairwise (fun a b=> ¬a=b)->dq (M.foldl bP L)
 | [],L,h,_=>h
 |x::M,L,h,hu=>by
  rw [List.foldl_cons]
  have h2:=List.pairwise_append.1 hu
  have h3:=List.pairwise_cons.1 h2.2.1
  refine wx (jl h fun y hy=>h2.2.2 y hy x (List.mem_cons_self ..)) ?_
  refine List.pairwise_append.2 ⟨?_,h3.2,fun a ha b hb=> ?_⟩
  · refine ((eJ L x).pairwise_iff fun {a b} (h: ¬a=b)=>fun e=>h e.symm).2 (List.pairwise_cons.2 ⟨fun y hy e=>h2.2.2 y hy x (List.mem_cons_self ..) e.symm,h2.1⟩)
  · rcases jk.1 ha with rfl|ha
    · exact h3.1 b hb
    · exact h2.2.2 a ha b (List.mem_cons_of_mem _ hb)
theorem zK(h:cy M):dq (nJ M):=wx List.Pairwise.nil (by rw [List.nil_append];exact h.imp mE)
theorem Km(h:cy M):cy (nJ M):=((pf M).pairwise_iff fun {a b} =>il).2 h
theorem wy{M L:List Tm}(h:cy M)(h1:dq L)(h2: ∀ x,x∈L↔x∈M):nJ M=L:=gh (zK h) h1 fun x=>by rw [gi,h2]
def inI (n:Int)(i:Nat)(t:Tm):Bool:=decide (t.u / 64=n / 64∧t.u % 64=(i:Int))
def inO (n:Int)(i:Nat)(t:Tm):Bool:=decide (¬t.u / 64=n / 64∧t.u / 64 % 64=(i:Int))
@[irreducible] def bI (n:Int) (L:List Tm):Sl:=(List.range 64).map fun i=>L.filter (inI n i)
@[irreducible] def bO (n:Int) (L:List Tm):Sl:=(List.range 64).map fun i=>L.filter (inO n i)
theorem bH(n:Int)(L:List Tm):(bI n L).length=64:=by unfold bI;simp
theorem bZ(n:Int)(L:List Tm):(bO n L).length=64:=by unfold bO;simp
theorem cw{i:Nat}(h:i<64):sl (bI n L) i=L.filter (inI n i):=by
 unfold sl bI
 rw [List.getD_eq_getElem?_getD,List.getElem?_map,List.getElem?_range h]
 rfl
theorem cH{i:Nat}(h:i<64):sl (bO n L) i=L.filter (inO n i):=by
 unfold sl bO
 rw [List.getD_eq_getElem?_getD,List.getElem?_map,List.getElem?_range h]
 rfl
theorem ck{I J:Sl}(h1:I.length=64)(h2:J.length=64)(h: ∀ i,i<64->sl I i=sl J i):I=J:=by
 apply List.ext_getElem (by omega)
 intro i h3 h4
 have:=h i (by omega)
 unfold sl at this
 rw [List.getD_eq_getElem?_getD,List.getD_eq_getElem?_getD,gEE h3,gEE h4] at this
 exact this
theorem gO{I:Sl}(h:I.length=64)(hs:s<64)(L:List Tm)(i:Nat):sl (I.set s L) i=if i=s then L else sl I i:=by
 unfold sl
 rw [List.getD_eq_getElem?_getD,List.getD_eq_getElem?_getD,List.getElem?_set]
 by_cases e:s=i
 · subst e
   simp [h,hs]
 · rw [if_neg e,if_neg (fun h=>e h.symm)]
theorem nK(p q:Tm->Bool): ∀(L:List Tm),(∀ x∈L,¬(p x=true∧q x=true))->(L.filter fun x=>p x||q x).Perm (L.filter p++L.filter q)
 | [],_=>by simp
 |x::L,h=>by
  have ih:=nK p q L fun y hy=>h y (List.mem_cons_of_mem _ hy)
  have hx:=h x (List.mem_cons_self ..)
  cases hp:p x<;>cases hq:q x
  · simp [hp,hq,ih]
  · rw [List.filter_cons_of_pos (by simp [hq]),List.filter_cons_of_neg (by simp [hp]),List.filter_cons_of_pos hq]
    exact (ih.cons x).trans List.perm_middle.symm
  · rw [List.filter_cons_of_pos (by simp [hp]),List.filter_cons_of_pos hp,List.filter_cons_of_neg (by simp [hq])]
    exact ih.cons x
  · exact absurd ⟨hp,hq⟩ hx
theorem ko{p:Tm->Bool}(h: ∀ x∈L,p x=true):L.filter p=L:=List.filter_eq_self.2 h
theorem fI{p:Tm->Bool}(h: ∀ x∈L,p x=false):L.filter p= [] :=List.filter_eq_nil_iff.2 fun x hx=>by rw [h x hx];decide
def clT (n:Int)(t:Tm):Int:=if t.u / 64=n / 64 then t.u % 64 else t.u / 64 % 64
theorem zL(n:Int)(L:List Tm): ∀ k:Nat,k<=64->(bx (bI n L) (bO n L) k).Perm (L.filter fun t=>decide (clT n t<(k:Int)))
 |0,_=>by
  rw [fI]
  · exact .refl _
  · intro x hx
    rw [decide_eq_false_iff_not]
    unfold clT
    split<;>omega
 |k+1,h=>by
  have ih:=zL n L k (by omega)
  have e:bx (bI n L) (bO n L) (k+1)=bx (bI n L) (bO n L) k++(sl (bI n L) k++sl (bO n L) k):=rfl
  rw [e,cw (by omega),cH (by omega)]
  have h1:=nK (inI n k) (inO n k) L fun x _ ⟨h1,h2⟩=>by
   unfold inI at h1;unfold inO at h2
   exact (of_decide_eq_true h2).1 (of_decide_eq_true h1).1
  have h2:=nK (fun t=>decide (clT n t<(k:Int))) (fun t=>inI n k t||inO n k t) L fun x _ ⟨h1,h2⟩=>by
   have h1:=of_decide_eq_true h1
   unfold inI inO at h2
   unfold clT at h1
   rw [Bool.or_eq_true,decide_eq_true_eq,decide_eq_true_eq] at h2
   rcases h2 with h2|h2
   · rw [if_pos h2.1] at h1;omega
   · rw [if_neg h2.1] at h1;omega
  refine (ih.append h1.symm).trans (h2.symm.trans (.of_eq ?_))
  congr 1
  funext t
  unfold inI inO clT
  rw [Bool.eq_iff_iff]
  simp only [Bool.or_eq_true,decide_eq_true_eq]
  by_cases hq:t.u / 64=n / 64
  · rw [if_pos hq]
    constructor
    · rintro (h|h|h)
      · omega
      · omega
      · exact absurd hq h.1
    · intro h
      rcases Int.lt_or_le (t.u % 64) k with h1|h1
      · exact .inl h1
      · exact .inr (.inl ⟨hq,by omega⟩)
  · rw [if_neg hq]
    constructor
    · rintro (h|h|h)
      · omega
      · exact absurd h.1 hq
      · omega
    · intro h
      rcases Int.lt_or_le (t.u / 64 % 64) k with h1|h1
      · exact .inl h1
      · exact .inr (.inr ⟨hq,by omega⟩)
theorem kI(n:Int)(L:List Tm):(aR (bI n L) (bO n L)).Perm L:=by
 rw [fh]
 refine (zL n L 64 (Nat.le_refl _)).trans (.of_eq (ko fun x _=> ?_))
 rw [decide_eq_true_eq]
 unfold clT
 split<;>omega
def l9 (n:Int)(t:Tm):Prop:=n<t.u∧t.u / 64 - n / 64<=63
def g8 (n:Int)(L:List Tm):Prop:=dq L∧cy L∧ ∀ t∈L,l9 n t
def d7 (q:Bool)(n:Int)(i:Nat)(L:List Tm):Prop:=(∀ t∈L,fe q t.u n (i:Int)=true)∧dq L
def wOk (n m:Int)(I O:Sl):Prop:=fg m=true∧(∀ i,i<64->d7 true n i (sl I i)∧d7 false n i (sl O i))∧cy (aR I O)∧((aR I O).length:Int)<=m
open Classical in
noncomputable def wR (n m:Int)(I O:Sl):Bool:=decide (wOk n m I O)
theorem dC{n m:Int} :wR n m I O=true↔wOk n m I O:=by unfold wR;exact @decide_eq_true_iff _ (Classical.propDecidable _)
theorem tZ{t n i:Int} :fe true t n i=true↔n<t∧t / 64=n / 64∧t % 64=i:=by
 unfold fe fz
 by_cases h:t<=n
 · rw [if_pos h];simp;omega
 · rw [if_neg h]
   simp only [if_true,bAE,decide_eq_true_eq]
   omega
theorem t6{t n i:Int} :fe false t n i=true↔n<t∧ ¬t / 64=n / 64∧t / 64 - n / 64<=63∧t / 64 % 64=i:=by
 unfold fe fz
 by_cases h:t<=n
 · rw [if_pos h];simp;omega
 · rw [if_neg h]
   simp only [Bool.false_eq_true,if_false,bAE,decide_eq_true_eq]
   omega
def bL (I O:Sl):List Tm:=nJ (aR I O)
theorem fJ :t∈aR I O↔ ∃ i,i<64∧(t∈sl I i∨t∈sl O i):=by rw [fh];exact zG
theorem vh{n m:Int}(hI:I.length=64)(hO:O.length=64)(h:wOk n m I O):g8 n (bL I O)∧I=bI n (bL I O)∧O=bO n (bL I O)∧((bL I O).length:Int)<=m:=by
 obtain ⟨h1,h2,h3,h4⟩:=h
 have hb: ∀ i,i<64->(∀ t∈sl I i,n<t.u∧t.u / 64=n / 64∧t.u % 64=(i:Int))∧ ∀ t∈sl O i,n<t.u∧ ¬t.u / 64=n / 64∧t.u / 64 - n / 64<=63∧t.u / 64 % 64=(i:Int):=fun i hi=>
  ⟨fun t ht=>tZ.1 ((h2 i hi).1.1 t ht),fun t ht=>t6.1 ((h2 i hi).2.1 t ht)⟩
 have hasc:=zK h3
 refine ⟨⟨hasc,Km h3,fun t ht=> ?_⟩, ?_, ?_,by unfold bL;rw [jm];exact h4⟩
 · obtain ⟨i,hi,ht⟩:=fJ.1 (gi.1 ht)
   rcases ht with ht|ht
   · have:=(hb i hi).1 t ht;unfold l9;omega
   · have:=(hb i hi).2 t ht;unfold l9;omega
 · refine ck hI (bH _ _) fun i hi=> ?_
   rw [cw hi]
   refine gh (h2 i hi).1.2 (hasc.sublist List.filter_sublist) fun t=> ?_
   rw [List.mem_filter]
   unfold inI bL
   rw [decide_eq_true_eq,gi,fJ]
   constructor
   · intro ht
     have:=(hb i hi).1 t ht
     exact ⟨⟨i,hi, .inl ht⟩,this.2⟩
   · rintro ⟨⟨j,hj,ht⟩,hq⟩
     rcases ht with ht|ht
     · have:=(hb j hj).1 t ht
       obtain rfl:i=j:=by omega
       exact ht
     · have:=(hb j hj).2 t ht
       omega
 · refine ck hO (bZ _ _) fun i hi=> ?_
   rw [cH hi]
   refine gh (h2 i hi).2.2 (hasc.sublist List.filter_sublist) fun t=> ?_
   rw [List.mem_filter]
   unfold inO bL
   rw [decide_eq_true_eq,gi,fJ]
   constructor
   · intro ht
     have:=(hb i hi).2 t ht
     exact ⟨⟨i,hi, .inr ht⟩,this.2.1,this.2.2.2⟩
   · rintro ⟨⟨j,hj,ht⟩,hq⟩
     rcases ht with ht|ht
     · have:=(hb j hj).1 t ht
       omega
     · have:=(hb j hj).2 t ht
       obtain rfl:i=j:=by omega
       exact ht
theorem Hy{n m:Int}(h:g8 n L)(hm:fg m=true)(hl:(L.length:Int)<=m):wOk n m (bI n L) (bO n L):=by
 refine ⟨hm,fun i hi=>⟨⟨fun t ht=> ?_, ?_⟩,⟨fun t ht=> ?_, ?_⟩⟩, ?_, ?_⟩
 · rw [cw hi,List.mem_filter] at ht
   have h1:=h.2.2 t ht.1
   have h2:t.u / 64=n / 64∧t.u % 64=(i:Int):=of_decide_eq_true ht.2
   exact tZ.2 ⟨h1.1,h2⟩
 · rw [cw hi];exact h.1.sublist List.filter_sublist
 · rw [cH hi,List.mem_filter] at ht
   have h1:=h.2.2 t ht.1
   have h2: ¬t.u / 64=n / 64∧t.u / 64 % 64=(i:Int):=of_decide_eq_true ht.2
   exact t6.2 ⟨h1.1,h2.1,h1.2,h2.2⟩
 · rw [cH hi];exact h.1.sublist List.filter_sublist
 · exact ((kI n L).pairwise_iff fun {a b} =>il).2 h.2.1
 · rw [(kI n L).length_eq];exact hl
theorem CX(h:g8 n L):bL (bI n L) (bO n L)=L:=
 wy (((kI n L).pairwise_iff fun {a b} =>il).2 h.2.1) h.1 fun x=>((kI n L).mem_iff).symm
theorem zM{n m:Int}(hI:I.length=64)(hO:O.length=64)(h:wOk n m I O): ∃ L,L=bL I O∧g8 n L∧I=bI n L∧O=bO n L∧(L.length:Int)<=m∧fg m=true:=by
 obtain ⟨a,b,c,d⟩:=vh hI hO h
 exact ⟨_,rfl,a,b,c,d,h.1⟩
theorem Oi(h:g8 n L)(ht:l9 n t)(hu: ∀ x∈L,sa x t):g8 n (bP L t):=by
 refine ⟨jl h.1 fun y hy=>mE (hu y hy), ?_,fun x hx=> ?_⟩
 · exact ((eJ L t).pairwise_iff fun {a b} =>il).2 (List.pairwise_cons.2 ⟨fun y hy=>il (hu y hy),h.2.1⟩)
 · rcases jk.1 hx with rfl|hx
   · exact ht
   · exact h.2.2 x hx
theorem kp(h:dq L)(hu: ∀ x∈L,¬x=t)(p:Tm->Bool):(bP L t).filter p=if p t=true then bP (L.filter p) t else L.filter p:=by
 split
 · rename_i hp
   refine gh ((jl h hu).sublist List.filter_sublist) (jl (h.sublist List.filter_sublist) fun y hy=>hu y (List.mem_filter.1 hy).1) fun x=> ?_
   rw [List.mem_filter,jk,jk,List.mem_filter]
   constructor
   · rintro ⟨h1|h1,h2⟩
     · exact .inl h1
     · exact .inr ⟨h1,h2⟩
   · rintro (h1|h1)
     · exact ⟨.inl h1,h1▸hp⟩
     · exact ⟨.inr h1.1,h1.2⟩
 · rename_i hp
   refine gh ((jl h hu).sublist List.filter_sublist) (h.sublist List.filter_sublist) fun x=> ?_
   rw [List.mem_filter,jk,List.mem_filter]
   constructor
   · rintro ⟨h1|h1,h2⟩
     · subst h1;exact absurd h2 hp
     · exact ⟨h1,h2⟩
   · rintro ⟨h1,h2⟩
     exact ⟨.inr h1,h2⟩
theorem Qy(h:dq L)(hu: ∀ x∈L,¬x=t)(hq:t.u / 64=n / 64)(hs:(s:Int)=t.u % 64):bI n (bP L t)=(bI n L).set s (bP (sl (bI n L) s) t)∧bO n (bP L t)=bO n L:=by
 have hs2:s<64:=by omega
 constructor
 · refine ck (bH _ _) (by rw [List.length_set];exact bH _ _) fun i hi=> ?_
   rw [cw hi,kp h hu,gO (bH _ _) hs2,cw hs2,cw hi]
   by_cases e:i=s
   · subst e
     rw [if_pos (by unfold inI;rw [decide_eq_true_eq];omega),if_pos rfl]
   · rw [if_neg (by unfold inI;rw [decide_eq_true_eq];omega),if_neg e]
 · refine ck (bZ _ _) (bZ _ _) fun i hi=> ?_
   rw [cH hi,kp h hu,cH hi,if_neg (by unfold inO;rw [decide_eq_true_eq];omega)]
theorem Qz(h:dq L)(hu: ∀ x∈L,¬x=t)(hq: ¬t.u / 64=n / 64)(hs:(s:Int)=t.u / 64 % 64):bO n (bP L t)=(bO n L).set s (bP (sl (bO n L) s) t)∧bI n (bP L t)=bI n L:=by
 have hs2:s<64:=by omega
 constructor
 · refine ck (bZ _ _) (by rw [List.length_set];exact bZ _ _) fun i hi=> ?_
   rw [cH hi,kp h hu,gO (bZ _ _) hs2,cH hs2,cH hi]
   by_cases e:i=s
   · subst e
     rw [if_pos (by unfold inO;rw [decide_eq_true_eq];omega),if_pos rfl]
   · rw [if_neg (by unfold inO;rw [decide_eq_true_eq];omega),if_neg e]
 · refine ck (bH _ _) (bH _ _) fun i hi=> ?_
   rw [cw hi,kp h hu,cw hi,if_neg (by unfold inI;rw [decide_eq_true_eq];omega)]
end Go.Vd
namespace Go.Proofs
open Go.RowKit Go.Lib Go.Vd
theorem Kn(w:World)(g0 n cap k:Nat)(cur:Array Value)(a:Addr)(c:Nat)(news:List Value)(hk:k<n)(hroom:n+1<=cap)(hcap:cap<=9223372036854775807)
 (hg:isC w g0 cur 113 3) (hcs:cur.size=cap*3) (hone: ∀ v∈cur.toList.take (n*3),v.oneCell'=true) (hnl:news.length=3) (hnc: ∀ j v,news[j]? =some v->w.cell? (a.add j)=some v) (hn1: ∀ v∈news,v.oneCell'=true) (hne:a.block≠g0)
 (hov: ∀ lb cb,(callFunc 214 #[.slice (some a) 1 c, .slice (some ⟨g0,(k+1)*3,none⟩) lb cb]).run Tryz.prog w= .ok (.value (.bool false)) w):
 Calls Tryz.prog 197 #[.slice (some ⟨g0,0,none⟩) n cap, .int .i64 k, .slice (some a) 1 c] w fun e w'=>
  e= .returned (.slice (some ⟨g0,0,none⟩) (n+1) cap)∧ ∃ cur2,isC w' g0 cur2 113 3∧cur2.size=cur.size∧cur2.toList.take ((n+1)*3)=(cur.toList.take (n*3)).take (k*3)++news++(cur.toList.take (n*3)).drop (k*3)∧w.grownBy w' (some g0):=by
 obtain ⟨ii,dd,zz,hi,hd,hs,_⟩:=nt
 have his:ii.size=3:=hs
 obtain ⟨cs1,hcs1⟩: ∃ cs1,cs1=(cur.toList.take (n*3)).drop (k*3):=⟨_,rfl⟩
 have hl1:cs1.length=(n - k)*3:=by rw [hcs1,List.length_drop,List.length_take,Array.length_toList];omega
 have hm1:Nat.min (n+1 - k) (n - k)=n - k:=by simp only [Nat.min_def];split<;>omega
 have hm2:Nat.min 1 (n+1 - k)=1:=by simp only [Nat.min_def];split<;>omega
 obtain ⟨cur1,hcur1⟩: ∃ cur1,cur1=(cur.toList.take ((k+1)*3)++cs1++cur.toList.drop ((k+1)*3+cs1.length)).toArray:=⟨_,rfl⟩
 have hz1:cur1.size=cur.size:=by
  rw [hcur1]
  simp only [List.size_toArray,List.length_append,List.length_take,List.length_drop,Array.length_toList]
  omega
 have hgd:isC w.drew g0 cur 113 3:=hg
 have hcp1: ∀ ty dc sc,(Builtin.copy_ #[28,28] ty #[.slice (some ⟨g0,(k+1)*3,none⟩) (n - k) dc, .slice (some ⟨g0,k*3,none⟩) (n+1 - k) sc]).run Tryz.prog w.drew= .ok (goInt (n - k:Nat)) (w.drew.setRow g0 cur1):=fun ty dc sc=>by
  have h:=dO (P:=Tryz.prog) w.drew 28 28 ty 113 g0 ((k+1)*3) (n - k) dc 3 ⟨g0,k*3,none⟩ (n+1 - k) sc cur 113 cs1 Tryz.underlying28 hi his hgd (by rw [hm1];exact hl1)
   (fun j v hj=>by
     rw [Addr.add_lit,hgd.cell,<-Array.getElem?_toList]
     rw [hcs1,List.getElem?_drop,List.getElem?_take] at hj
     split at hj
     · exact hj
     · cases hj) (by omega) (fun v hv=>hone v (List.mem_of_mem_drop (hcs1▸hv)))
  rw [hm1,<-hcur1] at h
  exact h
 obtain ⟨W1,hW1⟩: ∃ W1,W1=w.drew.setRow g0 cur1:=⟨_,rfl⟩
 have hg1:isC W1 g0 cur1 113 3:=by rw [hW1];exact hgd.set hz1
 have hoth: ∀ b,b≠g0->W1.heap[b]? =w.heap[b]? :=fun b hb=>by
  rw [hW1]
  simp only [World.setRow,Array.getElem?_modify]
  rw [if_neg (fun e=>hb e.symm)]
  rfl
 have hcella: ∀ j,W1.cell? (a.add j)=w.cell? (a.add j):=fun j=>by
  have hb:(a.add j).block=a.block:=b9 a j
  unfold World.cell?
  rw [hb,hoth _ hne]
 obtain ⟨cur2,hcur2⟩: ∃ cur2,cur2=(cur1.toList.take (k*3)++news++cur1.toList.drop (k*3+news.length)).toArray:=⟨_,rfl⟩
 have hz2:cur2.size=cur1.size:=by
  rw [hcur2]
  simp only [List.size_toArray,List.length_append,List.length_take,List.length_drop,Array.length_toList]
  omega
 have hcp2: ∀ ty dc,(Builtin.copy_ #[28,28] ty #[.slice (some ⟨g0,k*3,none⟩) (n+1 - k) dc, .slice (some a) 1 c]).run Tryz.prog W1= .ok (goInt (1:Nat)) (W1.setRow g0 cur2):=fun ty dc=>by
  have h:=dO (P:=Tryz.prog) W1 28 28 ty 113 g0 (k*3) (n+1 - k) dc 3 a 1 c cur1 113 news Tryz.underlying28 hi his hg1 (by rw [hm2];omega)
   (fun j v hj=>by rw [hcella];exact hnc j v hj) (by omega) hn1
  rw [hm2,<-hcur2] at h
  exact h
 rw [<-hW1] at hcp1
 have hfin:cur2.toList.take ((n+1)*3)=(cur.toList.take (n*3)).take (k*3)++news++(cur.toList.take (n*3)).drop (k*3):=by
  rw [hcur2,hcur1,hcs1,hnl,Nat.add_mul,Nat.add_mul,Nat.one_mul]
  simp only [List.toList_toArray]
  exact yU cur.toList news (k*3) (n*3) 3 (by omega) (by rw [Array.length_toList];omega) hnl
 have hgrow:w.grownBy (W1.setRow g0 cur2) (some g0):=by
  refine ⟨?_, ?_, ?_, ?_,fun b hb hne2=> ?_⟩
  · rw [hW1];rfl
  · rw [hW1];rfl
  · rw [hW1];rfl
  · rw [hW1];simp [World.setRow]
  · simp only [World.setRow,Array.getElem?_modify]
    rw [if_neg (fun e=>hne2 (by rw [e])),hoth b (fun e=>hne2 (by rw [e]))]
 have hw1:IntKind.i64.wrap ((k:Int)+1)=(k:Int)+1:=by rw [IntKind.wrap_i64];omega
 have hb1:(0:Int)<=(k:Int)+1:=by omega
 have hin:k<=n:=by omega
 have htn:((k:Int)+1).toNat=k+1:=by omega
 have hb2: ¬(cap=k+1):=by omega
 have hb3:(k:Int)<=(n:Int)+1:=by omega
 have hb4: ¬(cap=k):=by omega
 clear hW1 hcur2 hcur1 hcs1
 go_enter Tryz.func197,Tryz.ntmps197
 go_wp2_with (simp only [hov])
 go_region_law (refine kj rfl _ _ 28 28 rfl _ _ (by simp [Act.eval,Act.put]) (by simp [Act.eval,Act.put]) (hcp1 _ _ _) ?_)
 go_wp2_with (at_builtin;refine iP _ rfl _ _ 28 28 rfl _ _ rfl rfl (hcp2 _ _) ?_)
 go_ret
 exact ⟨rfl,cur2,hg1.set hz2,hz2.trans hz1,hfin,hgrow⟩
theorem Hz(w:World)(g0 n k:Nat)(cur:Array Value)(a:Addr)(c:Nat)(news:List Value)(hk:k<n)(hn0:n<=1000000)
 (hg:isC w g0 cur 113 3) (hcs:cur.size=n*3) (hone: ∀ v∈cur.toList.take (n*3),v.oneCell'=true) (hnl:news.length=3) (hnc: ∀ j v,news[j]? =some v->w.cell? (a.add j)=some v) (hn1: ∀ v∈news,v.oneCell'=true) (hab:a.block<w.heap.size):
 Calls Tryz.prog 197 #[.slice (some ⟨g0,0,none⟩) n n, .int .i64 k, .slice (some a) 1 c] w fun e w'=>
  ∃ G cur2,e= .returned (.slice (some ⟨w.heap.size,0,none⟩) (n+1) G)∧n+1<=G∧G<=maxLen∧isC w' w.heap.size cur2 113 3∧cur2.size=G*3∧cur2.toList.take ((n+1)*3)=(cur.toList.take (n*3)).take (k*3)++news++(cur.toList.take (n*3)).drop (k*3)∧w.grownBy w' none:=by
 obtain ⟨ii,dd,zz,hi,hd,hs,_,_,_,hz0,_,_,hzs,_⟩:=nt
 have his:ii.size=3:=hs
 have hib:ii.bytes<=1000:=by
  have:=hi.symm.trans (show Tryz.prog.info? 113=some _ from rfl)
  simp only [Option.some.injEq] at this
  rw [this]
  decide
 rw [his] at hzs
 obtain ⟨xs,hxs⟩: ∃ xs,xs=cur.toList.take (n*3):=⟨_,rfl⟩
 have hxl:xs.length=n*3:=by rw [hxs,List.length_take,Array.length_toList];omega
 have hcell: ∀ j v,xs[j]? =some v->w.cell? ⟨g0,j,none⟩=some v:=fun j v hj=>by
  rw [hg.cell,<-Array.getElem?_toList]
  rw [hxs,List.getElem?_take] at hj
  split at hj
  · exact hj
  · cases hj
 have hg0:g0<w.heap.size:=hg.lt
 rw [<-hxs] at hone ⊢
 obtain ⟨G,hG⟩: ∃ G,G=grownCap w (n+1) n 113:=⟨_,rfl⟩
 have hGn:n+1<=G:=by rw [hG];exact grownCap_ge w _ _ _
 have hGm:G<=maxLen:=by rw [hG];exact grownCap_le_maxLen w (n+1) n 113 (by simp only [maxLen];omega)
 have hG63:G<=9223372036854775807:=hGm
 have hold:(Builtin.firstCells ii.size k (.slice (some ⟨g0,0,none⟩) k n)).run Tryz.prog w.drew= .ok (xs.take (k*3)).toArray w.drew:=by
  rw [his]
  exact run_firstCells_some w.drew 3 k ⟨g0,0,none⟩ k n (xs.take (k*3)) (by rw [List.length_take];omega) (fun j v hj=>by
   rw [Addr.add_lit,Nat.zero_add]
   rw [List.getElem?_take] at hj
   split at hj
   · exact hcell j v hj
   · cases hj)
 have hik:k+(n+1 - k)=n+1:=by omega
 have hkk:(n:Int)+1 - (k:Int)=((n+1 - k:Nat):Int):=by omega
 obtain ⟨ROW,hROW⟩: ∃ ROW:Array Value,ROW=(xs.take (k*3)).toArray++Builtin.zeroCells zz.cells (n+1 - k)++Builtin.zeroCells zz.cells (G - (n+1)):=⟨_,rfl⟩
 have hrz: ∀ ty,(Builtin.append_ #[28,3] ty #[.slice (some ⟨g0,0,none⟩) k n, .int .i64 ((n:Int)+1 - (k:Int))]).run Tryz.prog w=
  .ok (.slice (some ⟨w.heap.size,0,none⟩) (n+1) G) ((w.alloc (.cells ROW 113)).drew):=fun ty=>by
  have h:=Lib.run_append_grow_zeros w 28 3 ty 113 ii zz .i64 .i64 Tryz.underlying28 Tryz.underlying3 hi hz0 (some ⟨g0,0,none⟩) k n (xs.take (k*3)) hold (n+1 - k) (by omega) (by omega) (by omega) (by omega)
   (Nat.le_trans (Nat.mul_le_mul (show n+1 - k<=1000001 by omega) hib) (by decide)) (by rw [hik];exact growslice_fits (by omega) (Nat.le_trans (Nat.mul_le_mul (show n+1<=1000001 by omega) hib) (by decide)))
  rw [hik,<-hG,<-hROW] at h
  rw [hkk]
  exact h
 have hRs:ROW.size=G*3:=by
  rw [hROW]
  simp only [Array.size_append,List.size_toArray,List.length_take,size_zeroCells,hzs,hxl]
  omega
 obtain ⟨Z,hRZ⟩: ∃ Z,ROW.toList=xs.take (k*3)++Z:=⟨(Builtin.zeroCells zz.cells (n+1 - k)++Builtin.zeroCells zz.cells (G - (n+1))).toList,by rw [hROW];simp⟩
 have hg1:isC ((w.alloc (.cells ROW 113)).drew) w.heap.size ROW 113 3:= .of (heap_alloc_new w _)
 obtain ⟨row1,hrow1⟩: ∃ row1,row1=(ROW.toList.take (k*3)++news++ROW.toList.drop (k*3+news.length)).toArray:=⟨_,rfl⟩
 have hz1:row1.size=ROW.size:=by
  rw [hrow1]
  simp only [List.size_toArray,List.length_append,List.length_take,List.length_drop,Array.length_toList]
  omega
 have hmA:Nat.min 1 (n+1 - k)=1:=by simp only [Nat.min_def];split<;>omega
 have hcpA: ∀ ty dc,(Builtin.copy_ #[28,28] ty #[.slice (some ⟨w.heap.size,k*3,none⟩) (n+1 - k) dc, .slice (some a) 1 c]).run Tryz.prog ((w.alloc (.cells ROW 113)).drew)= .ok (goInt (1:Nat)) (((w.alloc (.cells ROW 113)).drew).setRow w.heap.size row1):=fun ty dc=>by
  have h:=dO (P:=Tryz.prog) ((w.alloc (.cells ROW 113)).drew) 28 28 ty 113 w.heap.size (k*3) (n+1 - k) dc 3 a 1 c ROW 113 news Tryz.underlying28 hi his hg1 (by rw [hmA];omega)
   (fun j v hj=>by
     have h1:=hnc j v hj
     have hb:(a.add j).block=a.block:=b9 a j
     unfold World.cell? at h1 ⊢
     rw [hb] at h1 ⊢
     rw [show ((w.alloc (.cells ROW 113)).drew).heap[a.block]? =w.heap[a.block]? from heap_alloc_old w _ hab]
     exact h1) (by omega) hn1
  rw [hmA,<-hrow1] at h
  exact h
 obtain ⟨W2,hW2⟩: ∃ W2,W2=((w.alloc (.cells ROW 113)).drew).setRow w.heap.size row1:=⟨_,rfl⟩
 have hg2:isC W2.drew w.heap.size row1 113 3:=by
  have:isC W2 w.heap.size row1 113 3:=by rw [hW2];exact hg1.set hz1
  exact this
 have hoth: ∀ b,b<w.heap.size->W2.heap[b]? =w.heap[b]? :=fun b hb=>by
  rw [hW2]
  simp only [World.setRow,Array.getElem?_modify]
  rw [if_neg (by omega)]
  exact heap_alloc_old w _ hb
 obtain ⟨row2,hrow2⟩: ∃ row2,row2=(row1.toList.take ((k+1)*3)++xs.drop (k*3)++row1.toList.drop ((k+1)*3+(xs.drop (k*3)).length)).toArray:=⟨_,rfl⟩
 have hdl:(xs.drop (k*3)).length=(n - k)*3:=by rw [List.length_drop,hxl];omega
 have hz2:row2.size=row1.size:=by
  rw [hrow2]
  simp only [List.size_toArray,List.length_append,List.length_take,List.length_drop,Array.length_toList]
  omega
 have hmB:Nat.min (n - k) (n - k)=n - k:=Nat.min_self _
 have hcpB: ∀ ty dc sc,(Builtin.copy_ #[28,28] ty #[.slice (some ⟨w.heap.size,(k+1)*3,none⟩) (n - k) dc, .slice (some ⟨g0,k*3,none⟩) (n - k) sc]).run Tryz.prog W2.drew= .ok (goInt (n - k:Nat)) (W2.drew.setRow w.heap.size row2):=fun ty dc sc=>by
  have h:=dO (P:=Tryz.prog) W2.drew 28 28 ty 113 w.heap.size ((k+1)*3) (n - k) dc 3 ⟨g0,k*3,none⟩ (n - k) sc row1 113 (xs.drop (k*3)) Tryz.underlying28 hi his hg2 (by rw [hmB];exact hdl)
   (fun j v hj=>by
     rw [List.getElem?_drop] at hj
     have h1:=hcell _ v hj
     rw [Addr.add_lit]
     unfold World.cell? at h1 ⊢
     rw [show W2.drew.heap[g0]? =w.heap[g0]? from hoth g0 hg0]
     exact h1) (by omega) (fun v hv=>hone v (List.mem_of_mem_drop hv))
  rw [hmB,<-hrow2] at h
  exact h
 rw [<-hW2] at hcpA
 have hfin:row2.toList.take ((n+1)*3)=xs.take (k*3)++news++xs.drop (k*3):=by
  rw [hrow2,hrow1,Nat.add_mul,Nat.add_mul,Nat.one_mul]
  simp only [List.toList_toArray]
  exact wo ROW.toList xs news (xs.drop (k*3)) Z (k*3) (n*3) 3 (by omega) hxl hRZ (by rw [Array.length_toList];omega) hnl rfl
 have hgrow:w.grownBy (W2.drew.setRow w.heap.size row2) none:=by
  refine ⟨?_, ?_, ?_, ?_,fun b hb _=> ?_⟩
  · rw [hW2];rfl
  · rw [hW2];rfl
  · rw [hW2];rfl
  · rw [hW2]
    show w.heap.size<=(Array.modify _ _ _).size
    rw [Array.size_modify]
    show w.heap.size<=(Array.modify _ _ _).size
    rw [Array.size_modify]
    exact Nat.le_of_lt hg1.lt
  · simp only [World.setRow,Array.getElem?_modify]
    rw [if_neg (by omega)]
    exact hoth b hb
 have hw1:IntKind.i64.wrap ((k:Int)+1)=(k:Int)+1:=by rw [IntKind.wrap_i64];omega
 have hb1:(0:Int)<=(k:Int)+1:=by omega
 have hin:k<=n:=by omega
 have htn:((k:Int)+1).toNat=k+1:=by omega
 have hb2: ¬(G=k+1):=by omega
 have hb3:(k:Int)<=(n:Int):=by omega
 have hb4: ¬(n=k):=by omega
 have hb5: ¬(G=k):=by omega
 clear hkk hik hold hW2 hROW hG hrow1 hrow2 hRZ hdl hxl hcell
 go_enter Tryz.func197,Tryz.ntmps197
 go_wp2_with (first
  | (at_builtin;refine fH _ rfl _ _ 28 3 rfl _ _ rfl rfl (hrz _) ?_)
  | (at_builtin;refine iP _ rfl _ _ 28 28 rfl _ _ rfl rfl (hcpA _ _) ?_))
 go_region_law (refine kj rfl _ _ 28 28 rfl _ _ (by simp [Act.eval,Act.put]) (by simp [Act.eval,Act.put]) (hcpB _ _ _) ?_)
 go_wp2
 go_ret
 exact ⟨G,row2,rfl,hGn,hGm,hg2.set hz2,hz2.trans (hz1.trans hRs),hfin,hgrow⟩
theorem Ko(w:World)(a0:Option Addr)(n cap:Nat)(hnc:n<=cap)(hn0:n<=1000000)(a:Addr)(c:Nat)(v':Value)(w':World)
 (hrun: ∀ ty,(Builtin.append_ #[28,28] ty #[.slice a0 n cap, .slice (some a) 1 c]).run Tryz.prog w= .ok v' w'):
 Calls Tryz.prog 197 #[.slice a0 n cap, .int .i64 n, .slice (some a) 1 c] w fun e W=>e= .returned v'∧W=w':=by
 go_enter Tryz.func197,Tryz.ntmps197
 cases a0 with
 |none=>
  go_wp2_with (at_builtin;refine fH _ rfl _ _ 28 28 rfl _ _ rfl rfl (hrun _) ?_)
  all_goals (go_ret;exact ⟨rfl,rfl⟩)
 |some b=>
  obtain ⟨bb,bo,bs⟩:=b
  go_wp2_with (at_builtin;refine fH _ rfl _ _ 28 28 rfl _ _ rfl rfl (hrun _) ?_)
  all_goals (go_ret;exact ⟨rfl,rfl⟩)
theorem Oj(gl:Nat->SV)(n:Nat)(g:Nat->Nat->SV)(i:Int)(h:Nat->Nat->SV)(hi0:0<=i∧i<=(n:Int))(hn0:n<=1000000):
 DM Tryz.prog gl 197 113 3 n g [.int .i64 i, .slc 1 3 h] (n+1) (l7 g i.toNat h):=by
 intro w ρ rw N v vs xs hrw hgl hv hown hone hrel hargs
 obtain ⟨ii,dd,zz,hi,hd,hs,_,_,_,hz0,_,_,hzs,_⟩:=nt
 have his:ii.size=3:=hs
 have hib:ii.bytes<=1000:=by
  have:=hi.symm.trans (show Tryz.prog.info? 113=some _ from rfl)
  simp only [Option.some.injEq] at this
  rw [this]
  decide
 rw [his] at hzs
 match vs,hargs with
 | [v1,v2],⟨r1,r2,_⟩=>
   obtain ⟨k,hk⟩: ∃ k:Nat,i=(k:Int):=⟨i.toNat,by omega⟩
   subst hk
   have hkn:k<=n:=by omega
   rw [Int.toNat_natCast]
   have e1:=r1.eq_int
   subst e1
   cases r2 with
   |slc ad _ c _ _ g2 hc1 hcc hca hcr=>
    obtain ⟨a,rfl,hsp⟩:=hca (by omega)
    obtain ⟨news,hnews⟩: ∃ news,news=(List.range 3).map (g2 0):=⟨_,rfl⟩
    have hnl:news.length=3:=by rw [hnews];simp
    have hnj: ∀ j u,news[j]? =some u->j<3∧u=g2 0 j:=fun j u hj=>by
     rw [hnews,getElem?_range_map] at hj
     split at hj
     · rename_i hlt;exact ⟨hlt,(Option.some.inj hj).symm⟩
     · cases hj
    have hnc: ∀ j u,news[j]? =some u->w.cell? (a.add j)=some u:=fun j u hj=>by
     obtain ⟨hlt,rfl⟩:=hnj j u hj
     obtain ⟨a',ea,q,_,_⟩:=hcc 0 j (by omega) hlt
     cases ea
     rw [Nat.zero_mul,Nat.zero_add] at q
     exact q
    have hn1: ∀ u∈news,u.oneCell'=true:=fun u hu=>by
     obtain ⟨j,hj⟩:=List.mem_iff_getElem?.1 hu
     obtain ⟨hlt,rfl⟩:=hnj j u hj
     obtain ⟨a',ea,_,q,_⟩:=hcc 0 j (by omega) hlt
     exact q
    have hnr: ¬ rw a.block:=by
     obtain ⟨a',ea,_,_,q⟩:=hcc 0 0 (by omega) (by omega)
     cases ea
     exact q
    have hnR: ∀ j u,news[j]? =some u->RelC w rw u (h 0 j):=fun j u hj=>by
     obtain ⟨hlt,rfl⟩:=hnj j u hj
     exact hcr 0 j (by omega) hlt
    have hcell0:w.cell? (a.add 0)=some (g2 0 0):=hnc 0 _ (by rw [hnews];rfl)
    obtain ⟨ca0,ta,ma,hA,hA0⟩: ∃ ca0 ta ma,w.heap[a.block]? =some (.cells ca0 ta ma)∧0<ca0.size:=by
     have hb:(a.add 0).block=a.block:=b9 a 0
     unfold World.cell? at hcell0
     rw [hb] at hcell0
     split at hcell0
     · rename_i c0 e0 m0 heq
       refine ⟨c0,e0,m0,heq, ?_⟩
       split at hcell0
       · cases hcell0
       · have:=(Array.getElem?_eq_some_iff.1 hcell0).1
         omega
     · cases hcell0
    have hab:a.block<w.heap.size:=(Array.getElem?_eq_some_iff.1 hA).1
    have fin: ∀(w':World) (v':Value) (xs':List Value),bD w' 113 3 v' (n+1) xs'->xs'=xs.take (k*3)++news++xs.drop (k*3)->w.grownBy w' (av v)->(∀ b,av v'=some b->av v=some b∨w.heap.size<=b)->
     ∃ v'' xs'',Ending.returned v'= .returned v''∧bD w' 113 3 v'' (n+1) xs''∧(∀ u∈xs'',Vd.one u)∧w.grownBy w' (av v)∧(∀ b,av v''=some b->av v=some b∨w.heap.size<=b)∧
       ∀(rw':Nat->Prop),(∀ b,b<w.heap.size->rw' b->rw b)-> ∀ i j u,i<n+1->j<3->xs''[i*3+j]? =some u->RelC w' rw' u (l7 g k h i j):=by
     intro w' v' xs' q1 q2 q3 q4
     have hkeep:Keep rw w w':=⟨q3.os,q3.tape,q3.output,q3.size,fun b hb hr=>q3.block b hb fun e=>hr (hv b e.symm)⟩
     refine ⟨v',xs',rfl,q1,fun u hu=> ?_,q3,q4,fun rw' hrw' i j u hi' hj hu=>(CE (s:=3) (by omega) hkn hown.1 hnl hrel hnR hi' hj (q2▸hu)).mono hkeep hrw'⟩
     rw [q2] at hu
     rcases List.mem_append.1 hu with hu|hu
     · rcases List.mem_append.1 hu with hu|hu
       · exact hone u (List.mem_of_mem_take hu)
       · exact hn1 u hu
     · exact hone u (List.mem_of_mem_drop hu)
    rcases Nat.lt_or_ge k n with hlt|hge
    · have hown2:=hown
      rcases hown.2 with ⟨_,h0⟩ | ⟨g0,cap,cur,rfl,hc0,hC,hnc0,hcm,hcs,htk⟩
      · omega
      · have hne:a.block≠g0:=fun e=>hnr (e▸hv g0 (aV hc0))
        rcases Nat.lt_or_ge cap (n+1) with hf|hroom
        · obtain rfl:cap=n:=by omega
          refine (Hz w g0 cap k cur a c news hlt hn0 hC hcs (by rw [htk];exact hone) hnl hnc hn1 hab).mono fun en w' hq=> ?_
          obtain ⟨G,cur2,rfl,p1,p2,p3,p4,p5,p6⟩:=hq
          rw [htk] at p5
          refine fin w' _ _ ⟨?_, .inr ⟨w.heap.size,G,cur2,rfl,by omega,p3,p1,p2,p4,rfl⟩⟩ p5 ⟨p6.os,p6.tape,p6.output,p6.size,fun b hb _=>p6.block b hb (by simp)⟩ fun b hb=> .inr ?_
          · rw [List.length_take,Array.length_toList,p4]
            have:=Nat.mul_le_mul_right 3 p1
            omega
          · rw [aV (by omega)] at hb
            simp only [Option.some.injEq] at hb
            omega
        · obtain ⟨mk,hh,hmk⟩:=hC
          have hplain:w.heap[g0]? =some (.cells cur 113 (0,0)):=by
           rcases hmk with rfl| ⟨_,h1⟩
           · exact hh
           · exact absurd h1 (by decide)
          refine (Kn w g0 n cap k cur a c news hlt hroom hcm ⟨mk,hh,hmk⟩ hcs (by rw [htk];exact hone) hnl hnc hn1 hne (fun lb cb=>by
           rw [run_callFunc_extern Tryz.func214 (by kernel_rfl) (by kernel_rfl) (by kernel_rfl) (e:=Extern.SlicesOverlaps.overlaps #[28,28] #[4]) (by kernel_rfl),
            qW w 28 4 113 Tryz.underlying28 3 (fun w=>by simp [sizeOf,typeInfo,hi,his]) a ⟨g0,(k+1)*3,none⟩ 1 c lb cb hne hA hA0 hplain]
           rfl)).mono fun en w' hq=> ?_
          obtain ⟨rfl,cur2,p1,p2,p3,p4⟩:=hq
          rw [htk] at p3
          refine fin w' _ _ ⟨?_, .inr ⟨g0,cap,cur2,rfl,hc0,p1,hroom,hcm,p2.trans hcs,rfl⟩⟩ p3 (by rw [aV hc0];exact p4) fun b hb=> .inl ?_
          · rw [List.length_take,Array.length_toList,p2,hcs]
            have:=Nat.mul_le_mul_right 3 hroom
            omega
          · rw [aV hc0] at hb ⊢
            exact hb
    · obtain rfl:k=n:=by omega
      obtain ⟨a0,cap,rfl,hcap⟩: ∃ a0 cap,v= .slice a0 k cap∧k<=cap:=by
       rcases hown.2 with ⟨⟨a0,rfl⟩,h0⟩ | ⟨g0,cap,cur,rfl,hc0,hC,hnc0,_⟩
       · exact ⟨a0,0,by rw [h0],by omega⟩
       · exact ⟨_,cap,rfl,hnc0⟩
      have hall: ∀ ty,∃ v' w',(Builtin.append_ #[28,28] ty #[.slice a0 k cap, .slice (some a) 1 c]).run Tryz.prog w= .ok v' w'∧bD w' 113 3 v' (k+1) (xs++news)∧w.grownBy w' (av (.slice a0 k cap))∧
       (∀ b,av v'=some b->av (.slice a0 k cap)=some b∨w.heap.size<=b):=fun ty=>
       dm (P:=Tryz.prog) (ty:=ty) Tryz.underlying28 hi hz0 his rfl hzs (by omega) hown (m:=1) (cp:=c) (by omega) (fun _=>⟨a,rfl,hnc⟩) hn1 (by omega) (Nat.le_trans (Nat.mul_le_mul (show k+1<=1000001 by omega) hib) (by decide))
      obtain ⟨v',w',h1,h2,h3,h4⟩:=hall 0
      have hty: ∀ ty,(Builtin.append_ #[28,28] ty #[.slice a0 k cap, .slice (some a) 1 c]).run Tryz.prog w= .ok v' w':=fun ty=>h1
      refine (Ko w a0 k cap hcap hn0 a c v' w' hty).mono fun en W hq=> ?_
      obtain ⟨rfl,rfl⟩:=hq
      have hxl:=hown.1
      exact fin W v' (xs++news) h2 (by rw [List.take_of_length_le (by omega),List.drop_of_length_le (by omega),List.append_nil]) h3 h4
end Go.Proofs
set_option maxHeartbeats 8000000
namespace Go.Vd
open Go.Proofs
variable {M L:List Tm} {I O:Sl} {n:Int} {q:Bool} {i:Nat} {k:Nat}
def mmT (L:List Tm):MM:=L.map fun t=>((t.s,t.r),1)
def hkT (L:List Tm)(s:Int)(r:List UInt8):Bool:=L.any fun t=>decide (t.s=s∧t.r=r)
theorem qd{L:List Tm}{s:Int}{r:List UInt8} :hkT L s r=true↔ ∃ t∈L,t.s=s∧t.r=r:=by
 unfold hkT
 rw [List.any_eq_true]
 constructor
 · rintro ⟨t,h,h1⟩;exact ⟨t,h,of_decide_eq_true h1⟩
 · rintro ⟨t,h,h1⟩;exact ⟨t,h,decide_eq_true h1⟩
theorem t7{L:List Tm}{t:Tm} :hkT L t.s t.r=false↔ ∀ x∈L,sa x t:=by
 rw [<-Bool.not_eq_true,qd]
 constructor
 · intro h x hx e;exact h ⟨x,hx,e⟩
 · rintro h ⟨x,hx,e⟩;exact h x hx e
theorem zN(s:Int)(r:List UInt8): ∀(L:List Tm),(dx (mmT L) s r !=0)=hkT L s r
 | [] =>rfl
 |t::L=>by
  have ih:=zN s r L
  unfold mmT hkT at*
  simp only [List.map_cons,dx,List.any_cons]
  by_cases h:(t.s,t.r)=(s,r)
  · rw [if_pos h]
    simp only [pIE] at h
    simp [h]
  · rw [if_neg h,ih]
    simp only [pIE] at h
    simp [h]
theorem zO{s:Int}{r:List UInt8}(u:Int): ∀ {L:List Tm},hkT L s r=false->dh (mmT L) s r 1=mmT (L++ [⟨s,r,u⟩])
 | [],_=>rfl
 |t::L,h=>by
  unfold hkT at h
  rw [List.any_cons,Bool.or_eq_false_iff] at h
  have ih:=zO u (L:=L) h.2
  have h1:=of_decide_eq_false h.1
  have h2: ¬(t.s,t.r)=(s,r):=fun e=>h1 (by simpa using e)
  unfold mmT at*
  simp only [List.map_cons,dh,List.cons_append]
  rw [if_neg h2,ih]
theorem QA(L:List Tm):(mmT L).length=L.length:=by unfold mmT;simp
def okN (n:Int)(I O:Sl)(k:Nat):Prop:=(∀ j,j<k->d7 true n j (sl I j)∧d7 false n j (sl O j))∧cy (bx I O k)
def slP (q:Bool)(n:Int)(i:Nat)(M L:List Tm)(k:Nat):Prop:=(∀ t∈L.take k,fe q t.u n (i:Int)=true)∧dq (L.take k)∧cy (M++L.take k)
theorem LX(h:cy M):slP q n i M L 0:=⟨by simp,by simp [dq],by simpa using h⟩
theorem zP(h:slP q n i M L k)(hk:k<L.length){t:Tm}(ht:t=L.getD k T0)(h1:fe q t.u n (i:Int)=true)(h2:hkT (M++L.take k) t.s t.r=false)(h3:0<k->cx (L.getD (k - 1) T0) t<0):slP q n i M L (k+1):=by
 have e:L.take (k+1)=L.take k++ [t] :=by rw [ht,bk hk]
 refine ⟨fun x hx=> ?_, ?_, ?_⟩
 · rw [e] at hx
   rcases List.mem_append.1 hx with hx|hx
   · exact h.1 x hx
   · rw [List.mem_singleton.1 hx];exact h1
 · rw [e]
   refine List.pairwise_append.2 ⟨h.2.1,List.pairwise_singleton ..,fun a ha b hb=> ?_⟩
   rw [List.mem_singleton.1 hb]
   rcases Nat.eq_zero_or_pos k with h0|h0
   · subst h0;simp at ha
   · have h4:=mD.1 (h3 h0)
     obtain ⟨k',rfl⟩: ∃ k',k=k'+1:=⟨k - 1,by omega⟩
     rw [Nat.add_sub_cancel] at h4
     have e2:L.take (k'+1)=L.take k'++ [L.getD k' T0] :=(bk (by omega)).symm
     have h5:=h.2.1
     rw [e2] at ha
     unfold dq at h5
     rw [e2] at h5
     rcases List.mem_append.1 ha with ha|ha
     · exact gd ((List.pairwise_append.1 h5).2.2 a ha _ (List.mem_singleton.2 rfl)) h4
     · rw [List.mem_singleton.1 ha];exact h4
 · rw [e,<-List.append_assoc]
   refine List.pairwise_append.2 ⟨h.2.2,List.pairwise_singleton ..,fun a ha b hb=> ?_⟩
   rw [List.mem_singleton.1 hb]
   exact t7.1 h2 a ha
theorem CY(h:slP q n i M L L.length):d7 q n i L∧cy (M++L):=by
 unfold slP at h
 rw [List.take_length] at h
 exact ⟨⟨h.1,h.2.1⟩,h.2.2⟩
theorem iS{L:List Tm}(hk:k<L.length):L.getD k T0∈L:=by
 rw [List.getD_eq_getElem?_getD,gEE hk];exact List.getElem_mem hk
theorem QB{i k:Nat}{L:List Tm}(hk:k<L.length)(h0:0<k)(h: ¬cx (L.getD (k - 1) T0) (L.getD k T0)<0): ¬d7 q n i L:=fun hs=>by
 have h2:=List.pairwise_iff_getElem.1 hs.2 (k - 1) k (by omega) hk (by omega)
 apply h
 rw [mD]
 simpa [List.getD_eq_getElem?_getD,hk,show k - 1<L.length by omega] using h2
theorem QC(hk:k<L.length)(h:hkT (M++L.take k) (L.getD k T0).s (L.getD k T0).r=true): ¬cy (M++L):=fun hu=>by
 obtain ⟨x,hx,e⟩:=qd.1 h
 have e2:M++L=(M++L.take k)++(L.getD k T0::L.drop (k+1)):=by
  have:L[k] =L.getD k T0:=by simp [List.getD_eq_getElem?_getD,hk]
  rw [List.append_assoc,<-this,<-List.drop_eq_getElem_cons hk,List.take_append_drop]
 rw [e2] at hu
 exact (List.pairwise_append.1 hu).2.2 x hx _ (List.mem_cons_self ..) e
theorem CZ(h:k<64)(hu:cy (aR I O)):cy (bx I O k++sl I k)∧cy ((bx I O k++sl I k)++sl O k):=by
 have e: ∀ j,j<=64->(bx I O j).Sublist (bx I O 64):=fun j hj=>by
  obtain ⟨d,hd⟩: ∃ d,j+d=64:=⟨64 - j,by omega⟩
  rw [<-hd]
  clear hj hd
  induction d with
  |zero=>exact .refl _
  |succ d ih=>exact ih.trans (List.sublist_append_left _ _)
 have h1:cy (bx I O (k+1)):=by rw [fh] at hu;exact hu.sublist (e (k+1) (by omega))
 have h2:bx I O (k+1)=(bx I O k++sl I k)++sl O k:=by rw [List.append_assoc];rfl
 rw [h2] at h1
 exact ⟨h1.sublist (List.sublist_append_left _ _),h1⟩
theorem R4{n m:Int}(h: ¬wOk n m I O):wR n m I O=false:=by
 cases hb:wR n m I O
 · rfl
 · exact absurd (dC.1 hb) h
theorem R5 :okN n I O 0:=⟨fun j hj=>absurd hj (by omega),List.Pairwise.nil⟩
theorem Kp(h:okN n I O k)(h1:d7 true n k (sl I k))(h2:d7 false n k (sl O k))(hu:cy ((bx I O k++sl I k)++sl O k)):okN n I O (k+1):=by
 refine ⟨fun j hj=> ?_, ?_⟩
 · rcases Nat.lt_or_ge j k with h3|h3
   · exact h.1 j h3
   · obtain rfl:j=k:=by omega
     exact ⟨h1,h2⟩
 · show cy (bx I O k++(sl I k++sl O k))
   rw [<-List.append_assoc];exact hu
theorem QD{n m:Int}(h:okN n I O 64)(hm:fg m=true):wR n m I O=decide (((bx I O 64).length:Int)<=m):=by
 rw [Bool.eq_iff_iff,dC,decide_eq_true_eq,<-fh]
 constructor
 · intro hw;exact hw.2.2.2
 · intro hl;exact ⟨hm,h.1,by rw [fh];exact h.2,hl⟩
theorem gB(t:Tm):(⟨t.s,t.r,t.u⟩:Tm)=t:=rfl
theorem C0{i k:Nat}(hk:k<L.length)(h1:d7 q n i L)(h2:cy (M++L)):fe q (L.getD k T0).u n (i:Int)=true∧hkT (M++L.take k) (L.getD k T0).s (L.getD k T0).r=false∧(0<k->cx (L.getD (k - 1) T0) (L.getD k T0)<0):=by
 refine ⟨h1.1 _ (iS hk), ?_,fun h0=> ?_⟩
 · cases h:hkT (M++L.take k) (L.getD k T0).s (L.getD k T0).r
   · rfl
   · exact absurd h2 (QC hk h)
 · rcases Int.lt_or_le (cx (L.getD (k - 1) T0) (L.getD k T0)) 0 with h|h
   · exact h
   · exact absurd h1 (QB hk h0 (by omega))
theorem wI{n m:Int}(h:i<64)(hw:wR n m I O=true):d7 true n i (sl I i)∧cy (bx I O i++sl I i):=by
 have:=dC.1 hw
 exact ⟨(this.2.1 i h).1,(CZ h this.2.2.1).1⟩
theorem wO{n m:Int}(h:i<64)(hw:wR n m I O=true):d7 false n i (sl O i)∧cy ((bx I O i++sl I i)++sl O i):=by
 have:=dC.1 hw
 exact ⟨(this.2.1 i h).2,(CZ h this.2.2.1).2⟩
noncomputable def iWr:Nat->Option Func:=bY 126 Tryz.f126 (bY 124 Tryz.f124 (bY 125 Tryz.f125 noI))
theorem QE:gF Tryz.prog iWr:=bc (bc (bc ak Tryz.func125 (by kernel_rfl)) Tryz.func124 (by kernel_rfl)) Tryz.func126 (by kernel_rfl)
attribute [local irreducible] vc
theorem Bz(n m:Int)(I O:Sl)(hQ:whQ I O)(hn:0<=n):GFn 74 (fun A=> [whS A n m I O]) (fun A=> .bool (A.tb fun _=>wR n m I O)):=by
 refine aC zI ar QE Tryz.func74 (.one) fun A hA=> ?_
 cbv
 repeat' (first| (with_reducible first|exact vT|exact vD hA|exact vE hA|refine vA ?_ ?_) | (intro hc;cbv))
 · subst hA
   simp only [sS] at*
   refine (R4 fun hw=> ?_).symm
   have h1:fg m=true:=hw.1
   unfold fg at h1
   rw [h1] at hc
   cases hc
 have hm:fg m=true:=by subst hA;simp only [sS] at hc;exact eH hc
 clear hc
 refine ⟨⟨{p:Nat×MM // p.1<=64∧p.2=mmT (bx I O p.1)∧okN n I O p.1},fun b p=> [(14, .int .i64 (p.1.1:Nat))],fun b p=> [(6, .kmap 163 true p.1.2)],fun p=>64 - p.1.1,true⟩,⟨⟨(0, []),Nat.zero_le _,rfl,R5⟩, ?_⟩, ?_⟩
 · cbv
   subst hA
   simp [-List.getD_eq_getElem?_getD,sS]
 · rintro ⟨⟨i,S⟩,hx⟩
   have hi:i<=64:=hx.1
   have hS:S=mmT (bx I O i):=hx.2.1
   have hok:okN n I O i:=hx.2.2
   rcases Nat.lt_or_ge i 64 with hlt|hge
   · obtain ⟨i',hi'⟩: ∃ i',i'=i+1:=⟨_,rfl⟩
     obtain ⟨M,hM⟩: ∃ M,M=bx I O i:=⟨_,rfl⟩
     obtain ⟨L,hL⟩: ∃ L,L=sl I i:=⟨_,rfl⟩
     obtain ⟨L',hL'⟩: ∃ L',L'=sl O i:=⟨_,rfl⟩
     rw [<-hM] at hS
     have e1:I.getD i [] =L:=hL.symm
     have e2:O.getD i [] =L':=hL'.symm
     have hu0:cy M:=by rw [hM];exact hok.2
     have hQL: ∀ t∈L,tmQ t:=fun t ht=>hQ.2.2 t (fJ.2 ⟨i,hlt, .inl (hL▸ht)⟩)
     have hQL': ∀ t∈L',tmQ t:=fun t ht=>hQ.2.2 t (fJ.2 ⟨i,hlt, .inr (hL'▸ht)⟩)
     have hg1:wR n m I O=true->d7 true n i L∧cy (M++L):=fun hw=>by rw [hL,hM];exact wI hlt hw
     have hg2:wR n m I O=true->d7 false n i L'∧cy ((M++L)++L'):=fun hw=>by rw [hL',hL,hM];exact wO hlt hw
     cbv
     repeat' (first| (with_reducible first|exact vT|exact vD hA|exact vE hA|refine vA ?_ ?_) | (intro hc;cbv))
     all_goals first
      | (fail_if_success (refine Exists.intro ?_ ?_)
         subst hA
         simp only [sS,iNE,e1] at*
         first
          |exact ⟨by omega,by omega⟩
          | (exfalso;have:=of_decide_eq_false hc;omega))
      |skip
     refine ⟨⟨{p:Nat×MM // p.1<=L.length∧p.2=mmT (M++L.take p.1)∧slP true n i M L p.1},fun b p=> [(20, .int .i64 (p.1.1:Nat))],fun b p=> [(6, .kmap 163 true p.1.2)],fun p=>L.length - p.1.1,true⟩,⟨⟨(0,S),Nat.zero_le _,by simpa using hS,LX hu0⟩, ?_⟩, ?_⟩
     · cbv
       subst hA
       simp [-List.getD_eq_getElem?_getD,sS]
     · rintro ⟨⟨k,S2⟩,hy⟩
       have hk:k<=L.length:=hy.1
       have hS2:S2=mmT (M++L.take k):=hy.2.1
       have hsl:slP true n i M L k:=hy.2.2
       rcases Nat.lt_or_ge k L.length with hltk|hgek
       · obtain ⟨k',hk'⟩: ∃ k',k'=k+1:=⟨_,rfl⟩
         obtain ⟨t,ht⟩: ∃ t,t=L.getD k T0:=⟨_,rfl⟩
         have hgt:L.getD k { s:=0,r:= [],u:=0 } =t:=ht.symm
         obtain ⟨t0,ht0⟩: ∃ t0,t0=L.getD (k - 1) T0:=⟨_,rfl⟩
         have htQ:tmQ t:=hQL t (ht▸iS hltk)
         have hLb:L.length<=1000000:=by have h1:=fA hQ hlt;rw [<-hL,<-hL'] at h1;omega
         have hk1:IntKind.i64.wrap ((k:Int) - 1)=(k:Int) - 1:=w64 (by omega)
         have hgt0:L.getD ((k:Int) - 1).toNat { s:=0,r:= [],u:=0 } =t0:=by rw [ht0,show ((k:Int) - 1).toNat=k - 1 by omega];rfl
         have hg:(dx S2 t.s t.r !=0)=hkT (M++L.take k) t.s t.r:=by rw [hS2];exact zN _ _ _
         obtain ⟨b1,hb1⟩: ∃ b1,b1=fe true t.u n (i:Int):=⟨_,rfl⟩
         obtain ⟨b2,hb2⟩: ∃ b2,b2=hkT (M++L.take k) t.s t.r:=⟨_,rfl⟩
         have hgood:wR n m I O=true->b1=true∧b2=false∧(0<k->cx t0 t<0):=fun hw=>by
          rw [hb1,hb2,ht,ht0];exact C0 hltk (hg1 hw).1 (hg1 hw).2
         have hnext:b1=true->b2=false->(0<k->cx t0 t<0)->slP true n i M L k'∧dh S2 t.s t.r 1=mmT (M++L.take k'):=fun h1 h2 h3=>by
          rw [hb1] at h1
          rw [hb2] at h2
          rw [hk']
          refine ⟨zP hsl hltk ht h1 h2 (fun h=>ht0▸h3 h), ?_⟩
          rw [hS2,zO t.u h2,List.append_assoc,<-bk hltk,<-ht]
         clear hg1 hg2 hQL hQL'
         cbv
         repeat' (first| (with_reducible first|exact vT|exact vD hA|exact vE hA|refine vA ?_ ?_) | (intro hc;cbv))
         all_goals first
          | (exfalso
             subst hA
             clear hgood hnext
             simp only [sS,iNE,e1,hgt,<-hb1,<-hb2,hg] at*
             first
              | (simp at*;done)
              | (simp at*;omega))
          | (fail_if_success (refine Exists.intro ?_ ?_)
             subst hA
             simp only [sS,iNE,e1,hgt,hgt0,hk1,hg,<-hb1,<-hb2,gB] at*
             first
              |done
              |exact ⟨by omega,by omega⟩
              |exact ⟨⟨trivial,trivial⟩,htQ,hn⟩
              |assumption
              | (intro h;have h2:0<(k:Int):=by simpa using h
                 exact ⟨⟨h,h⟩,(show (0:Int)<=((k:Nat):Int) - 1 by omega),(show ((k:Nat):Int) - 1<((L.length:Nat):Int) by omega)⟩)
              |exact fun h=>h
              |exact fun h=>⟨h,h⟩
              | (intro h;simp;done) | (intro h;simp at h;done) | (intro h;simp at h ⊢;exact h)
              | (clear hgood hnext;cases b1<;>(first| (simp at*;done) | (simp at*;omega)))
              | (cases hw:wR n m I O
                 · rfl
                 · obtain ⟨q1,q2,q3⟩:=hgood hw
                   exfalso
                   clear hnext hgood
                   simp [q1,q2] at*
                   done)
              | (cases hw:wR n m I O
                 · rfl
                 · obtain ⟨q1,q2,q3⟩:=hgood hw
                   exfalso
                   clear hnext hgood
                   simp [q1,q2] at*
                   omega)
)
          |skip
         all_goals
          have hq:b1=true∧b2=false∧(0<k->cx t0 t<0):=by
           subst hA
           clear hgood hnext
           simp only [sS,iNE,e1,hgt,hgt0,hk1,hg,<-hb1,<-hb2,gB] at*
           refine ⟨?_, ?_,fun h0=> ?_⟩
           · cases b1
             · exfalso;simp at*;done
             · rfl
           · cases b2
             · rfl
             · exfalso;cases b1<;>simp at*<;>done
           · have h3:decide (0<(k:Int))=true:=decide_eq_true (by omega)
             rw [h3] at hc
             have h4:=of_decide_eq_false (p:=0<=cx t0 t) hc
             omega
          obtain ⟨h1,h2⟩:=hnext hq.1 hq.2.1 hq.2.2
          obtain ⟨S4,hS4⟩: ∃ S4,S4=dh S2 t.s t.r 1:=⟨_,rfl⟩
          rw [<-hS4] at h2
          refine ⟨⟨(k',S4),by show k'<=L.length;omega,h2,h1⟩, ?_,show L.length - k'<L.length - k by omega⟩
          cbv
          subst hA
          simp [-List.getD_eq_getElem?_getD,sS,e1,hgt,<-hS4]
          exact ce hk' (by omega)
       · have hke:k=L.length:=by omega
         rw [hke] at hsl hS2
         rw [List.take_length] at hS2
         obtain ⟨hso1,hun1⟩:=CY hsl
         cbv
         repeat' (first| (with_reducible first|exact vT|exact vD hA|exact vE hA|refine vA ?_ ?_) | (intro hc;cbv))
         all_goals first
          | (exfalso
             subst hA
             clear hg1 hg2
             simp only [sS,iNE,e1] at*
             first
              | (simp at*;done)
              | (simp at*;omega))
          | (fail_if_success (refine Exists.intro ?_ ?_)
             subst hA
             clear hg1 hg2
             simp only [sS,iNE,e1] at*
             first
              |done
              |exact ⟨by omega,by omega⟩
              |assumption
              |exact fun h=>h
              | (intro h;simp;done) | (intro h;simp at h;done) | (intro h;simp at h ⊢;exact h)
)
          |skip
         refine ⟨⟨{p:Nat×MM // p.1<=L'.length∧p.2=mmT ((M++L)++L'.take p.1)∧slP false n i (M++L) L' p.1},fun b p=> [(20, .int .i64 (p.1.1:Nat))],fun b p=> [(6, .kmap 163 true p.1.2)],fun p=>L'.length - p.1.1,true⟩,⟨⟨(0,S2),Nat.zero_le _,by simpa using hS2,LX hun1⟩, ?_⟩, ?_⟩
         · cbv
           subst hA
           simp [-List.getD_eq_getElem?_getD,sS]
         · rintro ⟨⟨k,S3⟩,hy⟩
           have hk:k<=L'.length:=hy.1
           have hS3:S3=mmT ((M++L)++L'.take k):=hy.2.1
           have hsl:slP false n i (M++L) L' k:=hy.2.2
           rcases Nat.lt_or_ge k L'.length with hltk|hgek
           · obtain ⟨k',hk'⟩: ∃ k',k'=k+1:=⟨_,rfl⟩
             obtain ⟨t,ht⟩: ∃ t,t=L'.getD k T0:=⟨_,rfl⟩
             have hgt:L'.getD k { s:=0,r:= [],u:=0 } =t:=ht.symm
             obtain ⟨t0,ht0⟩: ∃ t0,t0=L'.getD (k - 1) T0:=⟨_,rfl⟩
             have htQ:tmQ t:=hQL' t (ht▸iS hltk)
             have hLb:L'.length<=1000000:=by have h1:=fA hQ hlt;rw [<-hL,<-hL'] at h1;omega
             have hk1:IntKind.i64.wrap ((k:Int) - 1)=(k:Int) - 1:=w64 (by omega)
             have hgt0:L'.getD ((k:Int) - 1).toNat { s:=0,r:= [],u:=0 } =t0:=by rw [ht0,show ((k:Int) - 1).toNat=k - 1 by omega];rfl
             have hg:(dx S3 t.s t.r !=0)=hkT ((M++L)++L'.take k) t.s t.r:=by rw [hS3];exact zN _ _ _
             obtain ⟨b1,hb1⟩: ∃ b1,b1=fe false t.u n (i:Int):=⟨_,rfl⟩
             obtain ⟨b2,hb2⟩: ∃ b2,b2=hkT ((M++L)++L'.take k) t.s t.r:=⟨_,rfl⟩
             have hgood:wR n m I O=true->b1=true∧b2=false∧(0<k->cx t0 t<0):=fun hw=>by
              rw [hb1,hb2,ht,ht0];exact C0 hltk (hg2 hw).1 (hg2 hw).2
             have hnext:b1=true->b2=false->(0<k->cx t0 t<0)->slP false n i (M++L) L' k'∧dh S3 t.s t.r 1=mmT ((M++L)++L'.take k'):=fun h1 h2 h3=>by
              rw [hb1] at h1
              rw [hb2] at h2
              rw [hk']
              refine ⟨zP hsl hltk ht h1 h2 (fun h=>ht0▸h3 h), ?_⟩
              rw [hS3,zO t.u h2,List.append_assoc,<-bk hltk,<-ht]
             clear hg1 hg2 hQL hQL'
             cbv
             repeat' (first| (with_reducible first|exact vT|exact vD hA|exact vE hA|refine vA ?_ ?_) | (intro hc;cbv))
             all_goals first
              | (exfalso
                 subst hA
                 clear hgood hnext
                 simp only [sS,iNE,e2,hgt,<-hb1,<-hb2,hg] at*
                 first
                  | (simp at*;done)
                  | (simp at*;omega))
              | (fail_if_success (refine Exists.intro ?_ ?_)
                 subst hA
                 simp only [sS,iNE,e2,hgt,hgt0,hk1,hg,<-hb1,<-hb2,gB] at*
                 first
                  |done
                  |exact ⟨by omega,by omega⟩
                  |exact ⟨⟨trivial,trivial⟩,htQ,hn⟩
                  |assumption
                  | (intro h;have h2:0<(k:Int):=by simpa using h
                     exact ⟨⟨h,h⟩,(show (0:Int)<=((k:Nat):Int) - 1 by omega),(show ((k:Nat):Int) - 1<((L'.length:Nat):Int) by omega)⟩)
                  |exact fun h=>h
                  |exact fun h=>⟨h,h⟩
                  | (intro h;simp;done) | (intro h;simp at h;done) | (intro h;simp at h ⊢;exact h)
                  | (clear hgood hnext;cases b1<;>(first| (simp at*;done) | (simp at*;omega)))
                  | (cases hw:wR n m I O
                     · rfl
                     · obtain ⟨q1,q2,q3⟩:=hgood hw
                       exfalso
                       clear hnext hgood
                       simp [q1,q2] at*
                       done)
                  | (cases hw:wR n m I O
                     · rfl
                     · obtain ⟨q1,q2,q3⟩:=hgood hw
                       exfalso
                       clear hnext hgood
                       simp [q1,q2] at*
                       omega)
)
              |skip
             all_goals
              have hq:b1=true∧b2=false∧(0<k->cx t0 t<0):=by
               subst hA
               clear hgood hnext
               simp only [sS,iNE,e2,hgt,hgt0,hk1,hg,<-hb1,<-hb2,gB] at*
               refine ⟨?_, ?_,fun h0=> ?_⟩
               · cases b1
                 · exfalso;simp at*;done
                 · rfl
               · cases b2
                 · rfl
                 · exfalso;cases b1<;>simp at*<;>done
               · have h3:decide (0<(k:Int))=true:=decide_eq_true (by omega)
                 rw [h3] at hc
                 have h4:=of_decide_eq_false (p:=0<=cx t0 t) hc
                 omega
              obtain ⟨h1,h2⟩:=hnext hq.1 hq.2.1 hq.2.2
              obtain ⟨S4,hS4⟩: ∃ S4,S4=dh S3 t.s t.r 1:=⟨_,rfl⟩
              rw [<-hS4] at h2
              refine ⟨⟨(k',S4),by show k'<=L'.length;omega,h2,h1⟩, ?_,show L'.length - k'<L'.length - k by omega⟩
              cbv
              subst hA
              simp [-List.getD_eq_getElem?_getD,sS,e2,hgt,<-hS4]
              exact ce hk' (by omega)
           · have hke:k=L'.length:=by omega
             rw [hke] at hsl hS3
             rw [List.take_length] at hS3
             obtain ⟨hso2,hun2⟩:=CY hsl
             cbv
             repeat' (first| (with_reducible first|exact vT|exact vD hA|exact vE hA|refine vA ?_ ?_) | (intro hc;cbv))
             all_goals first
              | (exfalso
                 subst hA
                 clear hg1 hg2
                 simp only [sS,iNE,e2] at*
                 first
                  | (simp at*;done)
                  | (simp at*;omega))
              | (fail_if_success (refine Exists.intro ?_ ?_)
                 subst hA
                 clear hg1 hg2
                 simp only [sS,iNE,e2] at*
                 first
                  |done
                  |exact ⟨by omega,by omega⟩
                  |assumption
                  |exact fun h=>h
                  | (intro h;simp;done) | (intro h;simp at h;done) | (intro h;simp at h ⊢;exact h)
)
              |skip
             have hfin:okN n I O i':=by rw [hi'];exact Kp hok (hL▸hso1) (hL'▸hso2) (by rw [<-hM,<-hL,<-hL'];exact hun2)
             have hSf:S3=mmT (bx I O i'):=by rw [hS3,hi'];show _=mmT (bx I O i++(sl I i++sl O i));rw [<-hM,<-hL,<-hL',List.append_assoc]
             refine ⟨⟨(i',S3),by show i'<=64;omega,hSf,hfin⟩, ?_,show 64 - i'<64 - i by omega⟩
             cbv
             subst hA
             simp [-List.getD_eq_getElem?_getD,sS]
             exact ce hi' (by omega)
   · have hie:i=64:=by omega
     subst hie
     have hwe:=QD hok hm
     have hSl:(S.length:Int)=((bx I O 64).length:Int):=by rw [hS,QA]
     cbv
     repeat' (first| (with_reducible first|exact vT|exact vD hA|exact vE hA|refine vA ?_ ?_) | (intro hc;cbv))
     all_goals first
      | (exfalso
         subst hA
         simp only [sS,iNE] at*
         have hq:decide ((64:Int)<64)=true:=by assumption
         have:=of_decide_eq_true hq
         omega)
      | (subst hA
         simp only [sS,hSl]
         exact hwe.symm)
noncomputable def nL:Ct:=fun A args=>match args with
 | [.agg [.int .u64 n, .int .i64 m, .run 64 f, .run 64 g]] =>some (some (A.tp fun _=>((ai eTs [] 1 64 f∧ai eTs [] 1 64 g)∧whQ (ab eTs [] 1 64 f) (ab eTs [] 1 64 g))∧0<=n), .bool (A.tb fun _=>wR n m (ab eTs [] 1 64 f) (ab eTs [] 1 64 g)))
 |_=>none
noncomputable def gwc:Ar->Pu:=aq 74 nL (gwb)
theorem zQ:az Tryz.prog gl0 (gwc std):=by
 refine ao (zI) ⟨_,Tryz.func74,rfl,by decide⟩ ?_
 · intro args p r h hp
   unfold nL at h
   split at h<;>cases h
   exact aJ (Bz _ _ _ _ hp.1.2 hp.2) ⟨fF hp.1.1.1 hp.1.1.2,trivial⟩
end Go.Vd
namespace Go.Vd
open Go.Proofs
variable {r:List UInt8} {s:Int}
def fdT:List Tm->Int->List UInt8->Int
 | [],_,_=>0
 |t::L,s,r=>if t.s=s∧t.r=r then t.u else fdT L s r
theorem LY : ∀ {L:List Tm},hkT L s r=false->fdT L s r=0
 | [],_=>rfl
 |t::L,h=>by
  unfold hkT at h
  rw [List.any_cons,Bool.or_eq_false_iff] at h
  unfold fdT
  rw [if_neg (of_decide_eq_false h.1)]
  exact LY h.2
theorem LZ : ∀ {L:List Tm} {i:Nat},hkT (L.take i) s r=false->i<L.length->(L.getD i T0).s=s->(L.getD i T0).r=r->fdT L s r=(L.getD i T0).u∧hkT L s r=true
 | [],i,_,h,_,_=>by simp at h
 |t::L,0,_,_,h1,h2=>by
  simp only [List.getD_cons_zero] at h1 h2 ⊢
  unfold fdT hkT
  rw [if_pos ⟨h1,h2⟩,List.any_cons]
  simp [h1,h2]
 |t::L,i+1,h,hi,h1,h2=>by
  simp only [List.getD_cons_succ] at h1 h2 ⊢
  unfold hkT at h
  rw [List.take_succ_cons,List.any_cons,Bool.or_eq_false_iff] at h
  have:=LZ (L:=L) (i:=i) h.2 (by simpa using hi) h1 h2
  unfold fdT
  rw [if_neg (of_decide_eq_false h.1)]
  refine ⟨this.1, ?_⟩
  have h3:=this.2
  unfold hkT at h3 ⊢
  rw [List.any_cons,h3,Bool.or_true]
theorem Ok{L:List Tm}{i:Nat}(h:hkT (L.take i) s r=false)(hi:i<L.length)(hn: ¬((L.getD i T0).s=s∧(L.getD i T0).r=r)):hkT (L.take (i+1)) s r=false:=by
 unfold hkT at*
 rw [<-bk (d:=T0) hi,List.any_append,h,List.any_cons,decide_eq_false hn]
 rfl
attribute [local irreducible] vc
theorem EH(n m s:Int)(I O:Sl)(r:List UInt8)(hQ:whQ I O):GFn 78 (fun A=> [whS A n m I O,gY A s r]) (fun A=> .tup [.int .u64 (A.ti fun _=>fdT (aR I O) s r), .bool (A.tb fun _=>hkT (aR I O) s r)]):=by
 refine aC zQ ar ak Tryz.func78 (.one) fun A hA=> ?_
 obtain ⟨L,hL⟩: ∃ L,L=aR I O:=⟨_,rfl⟩
 have hLl:L.length<=100000:=by rw [hL];exact hQ.2.1
 rw [<-hL]
 cbv
 repeat' (first| (with_reducible first|exact vT|exact vD hA|exact vE hA|refine vA ?_ ?_) | (intro hc;cbv))
 · subst hA;simp only [sS,ay hQ.1.1,ay hQ.1.2,ah hQ.1.1,ah hQ.1.2] at*;exact ⟨⟨trivial,trivial⟩,hQ⟩
 refine ⟨⟨{i:Nat // i<=L.length∧hkT (L.take i) s r=false},fun b i=> [(9,aF eT T0 3 A fun _=>L),(10, .int .i64 (A.ofNat (A.tn fun _=>L.length))),(11, .int .i64 (i.1:Nat))],fun b i=> [],fun i=>L.length - i.1,true⟩,⟨⟨0,Nat.zero_le _,rfl⟩, ?_⟩, ?_⟩
 · cbv
   subst hA
   simp [-List.getD_eq_getElem?_getD,sS,ah hQ.1.1,ah hQ.1.2,hL]
 · rintro ⟨i,hx⟩
   have hi:i<=L.length:=hx.1
   have hh:=hx.2
   rcases Nat.lt_or_ge i L.length with hlt|hge
   · obtain ⟨i',hi'⟩: ∃ i',i'=i+1:=⟨_,rfl⟩
     obtain ⟨t,ht⟩: ∃ t,t=L.getD i T0:=⟨_,rfl⟩
     have hgt:L.getD i { s:=0,r:= [],u:=0 } =t:=ht.symm
     have hyes:t.s=s->t.r=r->fdT L s r=t.u∧hkT L s r=true:=fun h1 h2=>by rw [ht] at h1 h2 ⊢;exact LZ hh hlt h1 h2
     have hno: ¬(t.s=s∧t.r=r)->hkT (L.take i') s r=false:=fun h=>by rw [ht] at h;rw [hi'];exact Ok hh hlt h
     cbv
     repeat' (first| (with_reducible first|exact vT|exact vD hA|exact vE hA|refine vA ?_ ?_) | (intro hc;cbv))
     all_goals first
      | (exfalso
         subst hA
         simp only [sS,iNE] at*
         have:=of_decide_eq_false hc
         omega)
      | (fail_if_success (refine Exists.intro ?_ ?_)
         subst hA
         simp only [sS,iNE,hgt] at*
         first
          |exact ⟨by omega,by omega⟩
          | (simp at hc
             have:=hyes hc.1 hc.2
             first
              |exact this.1.symm
              |exact this.2.symm))
      | (have hn: ¬(t.s=s∧t.r=r):=by
          subst hA
          simp only [sS,iNE,hgt] at*
          simp at hc
          exact fun h=>hc h.1 h.2
         refine ⟨⟨i',by omega,hno hn⟩, ?_,show L.length - i'<L.length - i by omega⟩
         cbv
         subst hA
         simp [-List.getD_eq_getElem?_getD,sS]
         exact ce hi' (by omega))
   · have hie:i=L.length:=by omega
     rw [hie,List.take_length] at hh
     have h0:=LY hh
     cbv
     repeat' (first| (with_reducible first|exact vT|exact vD hA|exact vE hA|refine vA ?_ ?_) | (intro hc;cbv))
     all_goals first
      | (exfalso
         subst hA
         simp only [sS,iNE] at*
         have hq:decide ((i:Int)<(L.length:Int))=true:=by assumption
         have:=of_decide_eq_true hq
         omega)
      | (subst hA;simp only [sS,h0,hh];done)
noncomputable def C1:Ct:=fun A args=>match args with
 | [.agg [.int .u64 n, .int .i64 m, .run 64 f, .run 64 g], .agg [.int .u32 s, .str r]] =>some (some (A.tp fun _=>(ai eTs [] 1 64 f∧ai eTs [] 1 64 g)∧whQ (ab eTs [] 1 64 f) (ab eTs [] 1 64 g)), .tup [.int .u64 (A.ti fun _=>fdT (aR (ab eTs [] 1 64 f) (ab eTs [] 1 64 g)) s r), .bool (A.tb fun _=>hkT (aR (ab eTs [] 1 64 f) (ab eTs [] 1 64 g)) s r)])
 |_=>none
noncomputable def gwd:Ar->Pu:=aq 78 C1 (gwc)
theorem mF:az Tryz.prog gl0 (gwd std):=by
 refine ao (zQ) ⟨_,Tryz.func78,rfl,by decide⟩ ?_
 · intro args p r h hp
   unfold C1 at h
   split at h<;>cases h
   exact aJ (EH _ _ _ _ _ _ hp.2) ⟨fF hp.1.1 hp.1.2,⟨_,rfl,rfl,rfl,trivial⟩,trivial⟩
@[irreducible] def eqT (L M:List Tm):Bool:=decide (L=M)
theorem vi{L M:List Tm} :eqT L M=true↔L=M:=by unfold eqT;exact decide_eq_true_iff
theorem HA{L M:List Tm}(h: ¬L=M):eqT L M=false:=by unfold eqT;exact decide_eq_false h
theorem zR(L M:List Tm)(hL:L.length<=1000000)(hM:M.length<=1000000):GFn 83 (fun A=> [aF eT T0 3 A fun _=>L,aF eT T0 3 A fun _=>M]) (fun A=> .bool (A.tb fun _=>eqT L M)):=by
 refine aC mF ar ak Tryz.func83 (.one) fun A hA=> ?_
 cbv
 repeat' (first| (with_reducible first|exact vT|exact vD hA|exact vE hA|refine vA ?_ ?_) | (intro hc;cbv))
 · subst hA
   simp only [sS] at*
   refine (HA fun e=> ?_).symm
   rw [e] at hc
   simp at hc
 have hlen:L.length=M.length:=by
  subst hA
  simp only [sS] at hc
  simp at hc
  omega
 refine ⟨⟨{i:Nat // i<=L.length∧L.take i=M.take i},fun b i=> [(5, .int .i64 (i.1:Nat))],fun b i=> [],fun i=>L.length - i.1,true⟩,⟨⟨0,Nat.zero_le _,rfl⟩, ?_⟩, ?_⟩
 · cbv
   subst hA
   simp [-List.getD_eq_getElem?_getD,sS]
 · rintro ⟨i,hx⟩
   have hi:i<=L.length:=hx.1
   have he:L.take i=M.take i:=hx.2
   rcases Nat.lt_or_ge i L.length with hlt|hge
   · obtain ⟨i',hi'⟩: ∃ i',i'=i+1:=⟨_,rfl⟩
     obtain ⟨t,ht⟩: ∃ t,t=L.getD i T0:=⟨_,rfl⟩
     obtain ⟨q,hq⟩: ∃ q,q=M.getD i T0:=⟨_,rfl⟩
     have hgt:L.getD i { s:=0,r:= [],u:=0 } =t:=ht.symm
     have hgq:M.getD i { s:=0,r:= [],u:=0 } =q:=hq.symm
     have hyes:t=q->L.take i'=M.take i':=fun h=>by rw [hi',<-bk (d:=T0) hlt,<-bk (d:=T0) (show i<M.length by omega),<-ht,<-hq,h,he]
     have hno: ¬t=q->eqT L M=false:=fun h=>HA fun e=>h (by rw [ht,hq,e])
     have heq:(t.s=q.s∧t.r=q.r∧t.u=q.u)->t=q:=fun h=>by cases t;cases q;simp only [Tm.mk.injEq];exact h
     cbv
     repeat' (first| (with_reducible first|exact vT|exact vD hA|exact vE hA|refine vA ?_ ?_) | (intro hc;cbv))
     all_goals first
      | (exfalso
         subst hA
         simp only [sS,iNE] at*
         have hq:decide ((i:Int)<(L.length:Int))=false:=by assumption
         have:=of_decide_eq_false hq
         omega)
      | (fail_if_success (refine Exists.intro ?_ ?_)
         subst hA
         simp only [sS,iNE,hgt,hgq] at*
         first
          |exact ⟨by omega,by omega⟩
          | (refine (hno fun e=> ?_).symm
             rw [e] at hc
             simp at hc))
      | (have hn:t=q:=by
          subst hA
          simp only [sS,iNE,hgt,hgq] at*
          simp at hc
          exact heq hc
         refine ⟨⟨i',by omega,hyes hn⟩, ?_,show L.length - i'<L.length - i by omega⟩
         cbv
         subst hA
         simp [-List.getD_eq_getElem?_getD,sS]
         exact ce hi' (by omega))
   · have hie:i=L.length:=by omega
     have hall:eqT L M=true:=by
      rw [vi]
      rw [hie,List.take_length,hlen,List.take_length] at he
      exact he
     cbv
     repeat' (first| (with_reducible first|exact vT|exact vD hA|exact vE hA|refine vA ?_ ?_) | (intro hc;cbv))
     all_goals first
      | (exfalso
         subst hA
         simp only [sS,iNE] at*
         have hq:decide ((i:Int)<(L.length:Int))=true:=by assumption
         have:=of_decide_eq_true hq
         omega)
      | (subst hA;simp only [sS,hall];done)
noncomputable def wz:Ct:=fun A args=>match args with
 | [.slc n 3 f, .slc k 3 g] =>some (some (A.tp fun _=>(ai eT T0 3 n f∧ai eT T0 3 k g)∧n<=1000000∧k<=1000000), .bool (A.tb fun _=>eqT (ab eT T0 3 n f) (ab eT T0 3 k g)))
 |_=>none
noncomputable def gwr:Ar->Pu:=aq 83 wz (gwd)
theorem HB:az Tryz.prog gl0 (gwr std):=by
 refine ao (mF) ⟨_,Tryz.func83,rfl,by decide⟩ ?_
 · intro args p r h hp
   unfold wz at h
   split at h<;>cases h
   exact aJ (zR _ _ (by rw [aN hp.1.1];exact hp.2.1) (by rw [aN hp.1.2];exact hp.2.2)) ⟨hp.1.1.sv,hp.1.2.sv,trivial⟩
end Go.Vd
namespace Go.Vd
open Go.Proofs
attribute [local irreducible] vc
end Go.Vd
