/- Rows of things: what a row says, as a list; one row for each way of cells. -/
import Derived.Test.YtckmnmcnelfkjaaGreatDoorVdLib
set_option linter.unusedVariables false
set_option linter.unusedSimpArgs false
namespace Go.Vd
variable {i:Nat}
abbrev En (α:Type):=Ar->(Unit->α)->List SV
variable {α:Type}
def ax (enc:En α)(d:α)(A:Ar)(L:Unit->List α):Nat->Nat->SV:=fun i j=>ap (enc A fun _=>(L ()).getD i d) j
def aF (enc:En α)(d:α)(k:Nat)(A:Ar)(L:Unit->List α):SV:= .slc (A.tn fun _=>(L ()).length) k (ax enc d A L)
def au (enc:En α)(d:α)(k n:Nat)(f:Nat->Nat->SV)(L:List α):Prop:=L.length=n∧ ∀ i j,i<n->j<k->Ceq (f i j) (ax enc d std (fun _=>L) i j)
def ai (enc:En α)(d:α)(k n:Nat)(f:Nat->Nat->SV):Prop:= ∃ L,au enc d k n f L
open Classical in
noncomputable def ab (enc:En α)(d:α)(k n:Nat)(f:Nat->Nat->SV):List α:=if h: ∃ L,au enc d k n f L then Classical.choose h else []
def Inj (enc:En α)(k:Nat):Prop:= ∀ x y:α,(∀ j,j<k-> ∃ s,Ceq s (ap (enc std fun _=>x) j)∧Ceq s (ap (enc std fun _=>y) j))->x=y
section
variable {enc:En α} {d:α} {k n m:Nat} {f g:Nat->Nat->SV} {L M:List α}
theorem au.get(h:au enc d k n f L)(hi:i<n){j:Nat}(hj:j<k):Ceq (f i j) (ap (enc std fun _=>L.getD i d) j):=h.2 i j hi hj
theorem au.uniq(hI:Inj enc k)(h:au enc d k n f L)(h':au enc d k n f M):L=M:=by
 apply List.ext_getElem
 · rw [h.1,h'.1]
 · intro i h1 h2
   have hi:i<n:=by rw [<-h.1];exact h1
   have:=hI (L.getD i d) (M.getD i d) fun j hj=>⟨f i j,h.get hi hj,h'.get hi hj⟩
   simpa [List.getD_eq_getElem?_getD,h1,h2] using this
theorem kX(hI:Inj enc k)(h:au enc d k n f L):ab enc d k n f=L:=by
 have hx: ∃ L,au enc d k n f L:=⟨L,h⟩
 unfold ab
 rw [dif_pos hx]
 exact (Classical.choose_spec hx).uniq hI h
theorem ai.reps(h:ai enc d k n f):au enc d k n f (ab enc d k n f):=by
 unfold ab
 have hx: ∃ L,au enc d k n f L:=h
 rw [dif_pos hx]
 exact Classical.choose_spec hx
theorem aN(h:ai enc d k n f):(ab enc d k n f).length=n:=h.reps.1
theorem au.lit(L:List α):au enc d k L.length (ax enc d std fun _=>L) L:=⟨rfl,fun i j _ _=> .refl _⟩
theorem f9(L:List α):ai enc d k L.length (ax enc d std fun _=>L):=⟨L, .lit L⟩
theorem eA(hI:Inj enc k)(L:List α):ab enc d k L.length (ax enc d std fun _=>L)=L:=kX hI (.lit L)
theorem au.cut(L:List α)(c:Nat)(h:c<=L.length):au enc d k c (ax enc d std fun _=>L) (L.take c):=by
 refine ⟨by simp;omega,fun i j hi hj=> .of_eq ?_⟩
 simp [ax,List.getD_eq_getElem?_getD,List.getElem?_take_of_lt hi]
theorem au.take(h:au enc d k n f L)(c:Nat)(hc:c<=n):au enc d k c f (L.take c):=by
 refine ⟨by simp [h.1];omega,fun i j hi hj=>(h.2 i j (by omega) hj).trans (.of_eq ?_)⟩
 simp [ax,List.getD_eq_getElem?_getD,List.getElem?_take_of_lt hi]
theorem au.cat(h:au enc d k n f L)(h':au enc d k m g M):au enc d k (n+m) (bd n f g) (L++M):=by
 refine ⟨by simp [h.1,h'.1],fun i j hi hj=> ?_⟩
 show Ceq (if i<n then f i j else g (i - n) j) _
 by_cases hn:i<n
 · rw [if_pos hn]
   refine (h.2 i j hn hj).trans (.of_eq ?_)
   simp [ax,List.getD_eq_getElem?_getD,List.getElem?_append_left (show i<L.length by rw [h.1];exact hn)]
 · rw [if_neg hn]
   refine (h'.2 (i - n) j (by omega) hj).trans (.of_eq ?_)
   have:=h.1
   subst this
   simp [ax,List.getD_eq_getElem?_getD,List.getElem?_append_right (show L.length<=i by omega)]
theorem au.shift(h:au enc d k n f L)(lo:Nat)(hm:lo+m<=n):au enc d k m (aI f lo) ((L.drop lo).take m):=by
 refine ⟨by simp [h.1];omega,fun i j hi hj=> ?_⟩
 show Ceq (f (lo+i) j) _
 refine (h.2 (lo+i) j (by omega) hj).trans (.of_eq ?_)
 simp [ax,List.getD_eq_getElem?_getD,List.getElem?_take_of_lt hi]
theorem au.rset(h:au enc d k n f L)(hi:i<n)(x:α){l:List SV}(hl:l.length=k)(hx: ∀ j,j<k->Ceq (ap l j) (ap (enc std fun _=>x) j)):au enc d k n (a8 f i 0 l) (L.set i x):=by
 refine ⟨by simp [h.1],fun i' j hi' hj=> ?_⟩
 show Ceq (if i'=i∧0<=j∧j<0+l.length then ap l (j - 0) else f i' j) _
 by_cases he:i'=i
 · subst he
   rw [if_pos ⟨rfl,by omega,by omega⟩,Nat.sub_zero]
   refine (hx j hj).trans (.of_eq ?_)
   simp [ax,List.getD_eq_getElem?_getD,h.1,hi]
 · rw [if_neg (fun e=>he e.1)]
   refine (h.2 i' j hi' hj).trans (.of_eq ?_)
   simp [ax,List.getD_eq_getElem?_getD,List.getElem?_set,Ne.symm he]
theorem au.rcopy(h:au enc d k n f L)(h':au enc d k m g M)(lo:Nat)(hm:lo+m<=n):au enc d k n (aO f lo m g) (L.take lo++M++L.drop (lo+m)):=by
 have e1:=h.1
 have e2:=h'.1
 refine ⟨by simp;omega,fun i j hi hj=> ?_⟩
 show Ceq (if lo<=i∧i<lo+m then g (i - lo) j else f i j) _
 by_cases hc:lo<=i∧i<lo+m
 · rw [if_pos hc]
   refine (h'.2 (i - lo) j (by omega) hj).trans (.of_eq ?_)
   have t:(L.take lo).length=lo:=by simp;omega
   simp only [ax,List.getD_eq_getElem?_getD]
   rw [List.append_assoc,List.getElem?_append_right (by omega),t,List.getElem?_append_left (by omega)]
 · rw [if_neg hc]
   refine (h.2 i j hi hj).trans (.of_eq ?_)
   have t:(L.take lo).length=lo:=by simp;omega
   simp only [ax,List.getD_eq_getElem?_getD]
   by_cases hl:i<lo
   · rw [List.append_assoc,List.getElem?_append_left (by omega),List.getElem?_take_of_lt hl]
   · have e3:lo+m+(i - (lo+m))=i:=by omega
     rw [List.getElem?_append_right (by simp;omega),List.getElem?_drop,List.length_append,t,e2,e3]
theorem au.lst{l:List (List SV)}{L:List α}(h:bp (fun c x=> ∀ j,j<k->Ceq (ap c j) (ap (enc std fun _=>x) j)) l L):au enc d k l.length (bf l) L:=by
 have hlen:=h.length
 refine ⟨hlen.symm,fun i j hi hj=> ?_⟩
 show Ceq (ap (l[i]?.getD []) j) _
 have:=h.get i l[i] (L[i]'(by omega)) (gEE hi) (gEE (by omega)) j hj
 simpa [ax,List.getD_eq_getElem?_getD,gEE hi,gEE (show i<L.length by omega)] using this
theorem au.nil{f:Nat->Nat->SV} :au enc d k 0 f [] :=⟨rfl,fun i j hi=>absurd hi (by omega)⟩
theorem au.congr{n':Nat}{L':List α}(h:au enc d k n f L)(e:n'=n)(e':L=L'):au enc d k n' f L':=by subst e e';exact h
theorem au.ceq{f':Nat->Nat->SV}(h:au enc d k n f L)(e: ∀ i j,i<n->j<k->Ceq (f' i j) (f i j)):au enc d k n f' L:=⟨h.1,fun i j hi hj=>(e i j hi hj).trans (h.2 i j hi hj)⟩
theorem au.eqr(h:au enc d k n f L):ba n k f (ax enc d std fun _=>L):=h.2
theorem au.eqr'{m:Nat}(h:au enc d k n f L)(e:m=n):ba m k f (ax enc d std fun _=>L):=e▸h.2
theorem au.sv(h:au enc d k n f L):sv1 (.slc n k f) (aF enc d k std fun _=>L):=by
 refine ⟨ax enc d std fun _=>L, ?_,h.2⟩
 show SV.slc L.length k _=_
 rw [h.1]
theorem au.cell(h:au enc d k n f L):Ceq (.slc n k f) (aF enc d k std fun _=>L):=by
 have:=h.1
 subst this
 exact .slc _ _ _ _ h.2
theorem ai.sv(h:ai enc d k n f):sv1 (.slc n k f) (aF enc d k std fun _=>ab enc d k n f):=h.reps.sv
theorem Ceq.row{s:SV}{L:List α}(h:Ceq s (aF enc d k std fun _=>L)):(L= [] ∧(s= .nils∨s= .emp))∨ ∃ f,s= .slc L.length k f∧au enc d k L.length f L:=by
 have e:aF enc d k std (fun _=>L)= .slc L.length k (ax enc d std fun _=>L):=rfl
 rw [e] at h
 generalize hn:L.length=n at h
 generalize hf:(ax enc d std fun _=>L)=g at h
 cases h with
 |refl=>subst hn hf;exact .inr ⟨_,rfl, .lit L⟩
 |slc _ _ f _ he=>subst hn hf;exact .inr ⟨f,rfl,rfl,he⟩
 |nils=>exact .inl ⟨List.length_eq_zero_iff.1 hn, .inl rfl⟩
 |emp=>exact .inl ⟨List.length_eq_zero_iff.1 hn, .inr rfl⟩
theorem Inj.row(hI:Inj enc k){s:SV}{L M:List α}(h:Ceq s (aF enc d k std fun _=>L))(h':Ceq s (aF enc d k std fun _=>M)):L=M:=by
 rcases h.row with ⟨rfl,hs⟩ | ⟨f,rfl,hr⟩
 · rcases h'.row with ⟨rfl,_⟩ | ⟨f,rfl,hr'⟩
   · rfl
   · rcases hs with hs|hs<;>cases hs
 · rcases h'.row with ⟨rfl,hs⟩ | ⟨f',e,hr'⟩
   · rcases hs with hs|hs<;>cases hs
   · have e1:L.length=M.length:=by injection e
     have e2:f=f':=by injection e
     subst e2
     rw [<-e1] at hr'
     exact hr.uniq hI hr'
end
section
variable {enc:En α} {d:α} {k n m:Nat} {f g:Nat->Nat->SV} {L M:List α}
theorem c7{n':Nat}(h:au enc d k n f M)(e:n'=n)(e':M=L):ba n' k f (ax enc d std fun _=>L):=by subst e e';exact h.2
theorem au.catE{n0:Nat}(h:au enc d k n f L)(h':au enc d k m g M)(e:n=n0):au enc d k (n0+m) (bd n0 f g) (L++M):=by subst e;exact h.cat h'
theorem au.rset'(h:au enc d k n f L)(hi:i<n){l:List SV}(x:α)(hl:l.length=k)(hx: ∀ j,j<k->Ceq (ap l j) (ap (enc std fun _=>x) j)):au enc d k n (a8 f i 0 l) (L.set i x):=h.rset hi x hl hx
theorem au.fill{x:α}(h: ∀ j,j<k->Ceq (g 0 j) (ap (enc std fun _=>x) j))(hg: ∀ i,g i=g 0):au enc d k n g (List.replicate n x):=by
 refine ⟨by simp,fun i j hi hj=> ?_⟩
 rw [hg i]
 refine (h j hj).trans (.of_eq ?_)
 simp [ax,List.getD_eq_getElem?_getD,hi]
theorem au.one{c:List SV}{x:α}(hx: ∀ j,j<k->Ceq (ap c j) (ap (enc std fun _=>x) j)):au enc d k 1 (bf [c]) [x] :=au.lst (l:= [c]) (L:= [x]) ⟨hx,trivial⟩
end
@[simp] theorem bG {n k:Nat} {f:Nat->Nat->SV} :ba n k f f:=fun _ _ _ _=> .refl _
theorem yf{L:List α}{d:α} :L.set i (L.getD i d)=L:=by
 apply List.ext_getElem?
 intro j
 rw [List.getElem?_set]
 split
 · rename_i h
   subst h
   split
   · rename_i h;simp [List.getD_eq_getElem?_getD,h]
   · rename_i h;rw [List.getElem?_eq_none (by omega)]
 · rfl
def eB:En UInt8:=fun A b=> [.int .u8 (A.ti fun _=>((b ()).toNat:Int))]
def eZ:En Int:=fun A z=> [.int .i64 (A.ti fun _=>z ())]
def eS:En (List UInt8):=fun A s=> [.str (A.ts fun _=>s ())]
def eBs:En (List UInt8):=fun A b=> [aF eB 0 1 A b]
theorem F8:Inj eB 1:=fun x y h=>by
 obtain ⟨s,h1,h2⟩:=h 0 (by omega)
 have h1:Ceq s (.int .u8 (x.toNat:Int)):=h1
 have h2:Ceq s (.int .u8 (y.toNat:Int)):=h2
 rw [Ceq.int] at h1 h2
 subst h1
 injection h2 with _ h2
 exact UInt8.toNat_inj.1 (by omega)
theorem yg:Inj eZ 1:=fun x y h=>by
 obtain ⟨s,h1,h2⟩:=h 0 (by omega)
 have h1:Ceq s (.int .i64 x):=h1
 have h2:Ceq s (.int .i64 y):=h2
 rw [Ceq.int] at h1 h2
 subst h1
 injection h2
theorem Pb:Inj eS 1:=fun x y h=>by
 obtain ⟨s,h1,h2⟩:=h 0 (by omega)
 have h1:Ceq s (.str x):=h1
 have h2:Ceq s (.str y):=h2
 rw [Ceq.str] at h1 h2
 subst h1
 injection h2
theorem My:Inj eBs 1:=fun x y h=>by
 obtain ⟨s,h1,h2⟩:=h 0 (by omega)
 exact F8.row (d:=0) h1 h2
theorem uU(z:Int): ∀ j,j<1->Ceq (ap [SV.int .i64 z] j) (ap (eZ std fun _=>z) j):=by
 intro j hj
 obtain rfl:j=0:=by omega
 exact .refl _
theorem F9{n:Nat}{f:Nat->Nat->SV}{L:List UInt8}(h:au eB 0 1 n f L):aM n f=L:=by
 apply List.ext_getElem
 · simp [std,aM,h.1]
 · intro i h1 h2
   have hi:i<n:=by rw [<-h.1];exact h2
   have:=h.get hi (show 0<1 by omega)
   have this:Ceq (f i 0) (.int .u8 ((L.getD i 0).toNat:Int)):=this
   rw [Ceq.int] at this
   simp [std,aM,this,rk,List.getD_eq_getElem?_getD,h2]
theorem au.bytesOf(L:List UInt8)(f:Nat->Nat->SV)(h: ∀ i,f i 0= .int .u8 ((L[i]?.getD 0).toNat:Int)):au eB 0 1 L.length f L:=⟨rfl,fun i j hi hj=>by
 obtain rfl:j=0:=by omega
 rw [h]
 exact .of_eq (by simp [ax,eB,ap,std,aM,List.getD_eq_getElem?_getD])⟩
theorem yh{α:Type}{enc:En α}{d:α}{k:Nat}{n:Nat}{L M:List α}{x:α}{c:List SV}(hn:L.length=n)(hx: ∀ j,j<k->Ceq (ap c j) (ap (enc std fun _=>x) j))(hM:L++ [x] =M){m:Nat}(hm:m=n+1):
 ba m k (bd n (ax enc d std fun _=>L) (bf [c])) (ax enc d std fun _=>M):=by
 subst hn hM hm
 exact ((au.lit L).cat (au.one hx)).eqr
theorem bk{α:Type}{L:List α}{d:α}(h:i<L.length):L.take i++ [L.getD i d] =L.take (i+1):=by
 rw [List.take_succ_eq_append_getElem h]
 simp [List.getD_eq_getElem?_getD,h]
end Go.Vd
