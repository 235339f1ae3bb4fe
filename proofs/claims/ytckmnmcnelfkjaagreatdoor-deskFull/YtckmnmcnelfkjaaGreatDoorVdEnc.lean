/- Rows of things: what a row says, as a list; one row for each way of cells. -/
import Derived.Test.YtckmnmcnelfkjaaGreatDoorVdLib
set_option linter.unusedVariables false
set_option linter.unusedSimpArgs false
namespace Go.Vd
abbrev En (α:Type):=Ar->(Unit->α)->List SV
variable {α:Type}
def aC (enc:En α)(d:α)(A:Ar)(L:Unit->List α):Nat->Nat->SV:=fun i j=>au (enc A fun _=>(L ()).getD i d) j
def av (enc:En α)(d:α)(k:Nat)(A:Ar)(L:Unit->List α):SV:= .slc (A.tn fun _=>(L ()).length) k (aC enc d A L)
def ay (enc:En α)(d:α)(k n:Nat)(f:Nat->Nat->SV)(L:List α):Prop:=L.length=n∧ ∀ i j,i<n->j<k->Ceq (f i j) (aC enc d std (fun _=>L) i j)
def ao (enc:En α)(d:α)(k n:Nat)(f:Nat->Nat->SV):Prop:= ∃ L,ay enc d k n f L
open Classical in
noncomputable def ab (enc:En α)(d:α)(k n:Nat)(f:Nat->Nat->SV):List α:=if h: ∃ L,ay enc d k n f L then Classical.choose h else []
def Inj (enc:En α)(k:Nat):Prop:= ∀ x y:α,(∀ j,j<k-> ∃ s,Ceq s (au (enc std fun _=>x) j)∧Ceq s (au (enc std fun _=>y) j))->x=y
section
variable {enc:En α} {d:α} {k n m:Nat} {f g:Nat->Nat->SV} {L M:List α}
theorem ay.get(h:ay enc d k n f L){i:Nat}(hi:i<n){j:Nat}(hj:j<k):Ceq (f i j) (au (enc std fun _=>L.getD i d) j):=h.2 i j hi hj
theorem ay.uniq(hI:Inj enc k)(h:ay enc d k n f L)(h':ay enc d k n f M):L=M:=by
 apply List.ext_getElem
 · rw [h.1,h'.1]
 · intro i h1 h2
   have hi:i<n:=by rw [<-h.1];exact h1
   have:=hI (L.getD i d) (M.getD i d) fun j hj=>⟨f i j,h.get hi hj,h'.get hi hj⟩
   simpa [List.getD_eq_getElem?_getD,h1,h2] using this
theorem lh(hI:Inj enc k)(h:ay enc d k n f L):ab enc d k n f=L:=by
 have hx: ∃ L,ay enc d k n f L:=⟨L,h⟩
 unfold ab
 rw [dif_pos hx]
 exact (Classical.choose_spec hx).uniq hI h
theorem ao.reps(h:ao enc d k n f):ay enc d k n f (ab enc d k n f):=by
 unfold ab
 have hx: ∃ L,ay enc d k n f L:=h
 rw [dif_pos hx]
 exact Classical.choose_spec hx
theorem aQ(h:ao enc d k n f):(ab enc d k n f).length=n:=h.reps.1
theorem ay.lit(L:List α):ay enc d k L.length (aC enc d std fun _=>L) L:=⟨rfl,fun i j _ _=> .refl _⟩
theorem gi(L:List α):ao enc d k L.length (aC enc d std fun _=>L):=⟨L, .lit L⟩
theorem eH(hI:Inj enc k)(L:List α):ab enc d k L.length (aC enc d std fun _=>L)=L:=lh hI (.lit L)
theorem ay.cut(L:List α)(c:Nat)(h:c<=L.length):ay enc d k c (aC enc d std fun _=>L) (L.take c):=by
 refine ⟨by simp;omega,fun i j hi hj=> .of_eq ?_⟩
 simp [aC,List.getD_eq_getElem?_getD,List.getElem?_take_of_lt hi]
theorem ay.take(h:ay enc d k n f L)(c:Nat)(hc:c<=n):ay enc d k c f (L.take c):=by
 refine ⟨by simp [h.1];omega,fun i j hi hj=>(h.2 i j (by omega) hj).trans (.of_eq ?_)⟩
 simp [aC,List.getD_eq_getElem?_getD,List.getElem?_take_of_lt hi]
theorem ay.cat(h:ay enc d k n f L)(h':ay enc d k m g M):ay enc d k (n+m) (bh n f g) (L++M):=by
 refine ⟨by simp [h.1,h'.1],fun i j hi hj=> ?_⟩
 show Ceq (if i<n then f i j else g (i - n) j) _
 by_cases hn:i<n
 · rw [if_pos hn]
   refine (h.2 i j hn hj).trans (.of_eq ?_)
   simp [aC,List.getD_eq_getElem?_getD,List.getElem?_append_left (show i<L.length by rw [h.1];exact hn)]
 · rw [if_neg hn]
   refine (h'.2 (i - n) j (by omega) hj).trans (.of_eq ?_)
   have:=h.1
   subst this
   simp [aC,List.getD_eq_getElem?_getD,List.getElem?_append_right (show L.length<=i by omega)]
theorem ay.shift(h:ay enc d k n f L)(lo:Nat)(hm:lo+m<=n):ay enc d k m (aL f lo) ((L.drop lo).take m):=by
 refine ⟨by simp [h.1];omega,fun i j hi hj=> ?_⟩
 show Ceq (f (lo+i) j) _
 refine (h.2 (lo+i) j (by omega) hj).trans (.of_eq ?_)
 simp [aC,List.getD_eq_getElem?_getD,List.getElem?_take_of_lt hi]
theorem ay.rset(h:ay enc d k n f L){i:Nat}(hi:i<n)(x:α){l:List SV}(hl:l.length=k)(hx: ∀ j,j<k->Ceq (au l j) (au (enc std fun _=>x) j)):ay enc d k n (bd f i 0 l) (L.set i x):=by
 refine ⟨by simp [h.1],fun i' j hi' hj=> ?_⟩
 show Ceq (if i'=i∧0<=j∧j<0+l.length then au l (j - 0) else f i' j) _
 by_cases he:i'=i
 · subst he
   rw [if_pos ⟨rfl,by omega,by omega⟩,Nat.sub_zero]
   refine (hx j hj).trans (.of_eq ?_)
   simp [aC,List.getD_eq_getElem?_getD,h.1,hi]
 · rw [if_neg (fun e=>he e.1)]
   refine (h.2 i' j hi' hj).trans (.of_eq ?_)
   simp [aC,List.getD_eq_getElem?_getD,List.getElem?_set,Ne.symm he]
theorem ay.rcopy(h:ay enc d k n f L)(h':ay enc d k m g M)(lo:Nat)(hm:lo+m<=n):ay enc d k n (aR f lo m g) (L.take lo++M++L.drop (lo+m)):=by
 have e1:=h.1
 have e2:=h'.1
 refine ⟨by simp;omega,fun i j hi hj=> ?_⟩
 show Ceq (if lo<=i∧i<lo+m then g (i - lo) j else f i j) _
 by_cases hc:lo<=i∧i<lo+m
 · rw [if_pos hc]
   refine (h'.2 (i - lo) j (by omega) hj).trans (.of_eq ?_)
   have t:(L.take lo).length=lo:=by simp;omega
   simp only [aC,List.getD_eq_getElem?_getD]
   rw [List.append_assoc,List.getElem?_append_right (by omega),t,List.getElem?_append_left (by omega)]
 · rw [if_neg hc]
   refine (h.2 i j hi hj).trans (.of_eq ?_)
   have t:(L.take lo).length=lo:=by simp;omega
   simp only [aC,List.getD_eq_getElem?_getD]
   by_cases hl:i<lo
   · rw [List.append_assoc,List.getElem?_append_left (by omega),List.getElem?_take_of_lt hl]
   · have e3:lo+m+(i - (lo+m))=i:=by omega
     rw [List.getElem?_append_right (by simp;omega),List.getElem?_drop,List.length_append,t,e2,e3]
theorem ay.lst{l:List (List SV)}{L:List α}(h:bu (fun c x=> ∀ j,j<k->Ceq (au c j) (au (enc std fun _=>x) j)) l L):ay enc d k l.length (bk l) L:=by
 have hlen:=h.length
 refine ⟨hlen.symm,fun i j hi hj=> ?_⟩
 show Ceq (au (l[i]?.getD []) j) _
 have:=h.get i l[i] (L[i]'(by omega)) (gEE hi) (gEE (by omega)) j hj
 simpa [aC,List.getD_eq_getElem?_getD,gEE hi,gEE (show i<L.length by omega)] using this
theorem ay.nil{f:Nat->Nat->SV} :ay enc d k 0 f [] :=⟨rfl,fun i j hi=>absurd hi (by omega)⟩
theorem ay.congr{n':Nat}{L':List α}(h:ay enc d k n f L)(e:n'=n)(e':L=L'):ay enc d k n' f L':=by subst e e';exact h
theorem ay.ceq{f':Nat->Nat->SV}(h:ay enc d k n f L)(e: ∀ i j,i<n->j<k->Ceq (f' i j) (f i j)):ay enc d k n f' L:=⟨h.1,fun i j hi hj=>(e i j hi hj).trans (h.2 i j hi hj)⟩
theorem ay.eqr(h:ay enc d k n f L):bf n k f (aC enc d std fun _=>L):=h.2
theorem ay.eqr'{m:Nat}(h:ay enc d k n f L)(e:m=n):bf m k f (aC enc d std fun _=>L):=e▸h.2
theorem ay.sv(h:ay enc d k n f L):sv1 (.slc n k f) (av enc d k std fun _=>L):=by
 refine ⟨aC enc d std fun _=>L, ?_,h.2⟩
 show SV.slc L.length k _=_
 rw [h.1]
theorem ay.cell(h:ay enc d k n f L):Ceq (.slc n k f) (av enc d k std fun _=>L):=by
 have:=h.1
 subst this
 exact .slc _ _ _ _ h.2
theorem ao.sv(h:ao enc d k n f):sv1 (.slc n k f) (av enc d k std fun _=>ab enc d k n f):=h.reps.sv
theorem Ceq.row{s:SV}{L:List α}(h:Ceq s (av enc d k std fun _=>L)):(L= [] ∧(s= .nils∨s= .emp))∨ ∃ f,s= .slc L.length k f∧ay enc d k L.length f L:=by
 have e:av enc d k std (fun _=>L)= .slc L.length k (aC enc d std fun _=>L):=rfl
 rw [e] at h
 generalize hn:L.length=n at h
 generalize hf:(aC enc d std fun _=>L)=g at h
 cases h with
 |refl=>subst hn hf;exact .inr ⟨_,rfl, .lit L⟩
 |slc _ _ f _ he=>subst hn hf;exact .inr ⟨f,rfl,rfl,he⟩
 |nils=>exact .inl ⟨List.length_eq_zero_iff.1 hn, .inl rfl⟩
 |emp=>exact .inl ⟨List.length_eq_zero_iff.1 hn, .inr rfl⟩
theorem Inj.row(hI:Inj enc k){s:SV}{L M:List α}(h:Ceq s (av enc d k std fun _=>L))(h':Ceq s (av enc d k std fun _=>M)):L=M:=by
 rcases h.row with ⟨rfl,hs⟩ | ⟨f,rfl,hr⟩
 · rcases h'.row with ⟨rfl,_⟩ | ⟨f,rfl,hr'⟩
   · rfl
   · rcases hs with hs|hs<;>cases hs
 · rcases h'.row with ⟨rfl,hs⟩ | ⟨f',e,hr'⟩
   · rcases hs with hs|hs<;>cases hs
   · have e1:L.length=M.length:=by injection e
     have e2:f=f':=by injection e
     subst e2
     rw [<-e1] at hr'
     exact hr.uniq hI hr'
end
section
variable {enc:En α} {d:α} {k n m:Nat} {f g:Nat->Nat->SV} {L M:List α}
theorem dg{n':Nat}(h:ay enc d k n f M)(e:n'=n)(e':M=L):bf n' k f (aC enc d std fun _=>L):=by subst e e';exact h.2
theorem ay.catE{n0:Nat}(h:ay enc d k n f L)(h':ay enc d k m g M)(e:n=n0):ay enc d k (n0+m) (bh n0 f g) (L++M):=by subst e;exact h.cat h'
theorem ay.rset'(h:ay enc d k n f L){i:Nat}(hi:i<n){l:List SV}(x:α)(hl:l.length=k)(hx: ∀ j,j<k->Ceq (au l j) (au (enc std fun _=>x) j)):ay enc d k n (bd f i 0 l) (L.set i x):=h.rset hi x hl hx
theorem ay.fill{x:α}(h: ∀ j,j<k->Ceq (g 0 j) (au (enc std fun _=>x) j))(hg: ∀ i,g i=g 0):ay enc d k n g (List.replicate n x):=by
 refine ⟨by simp,fun i j hi hj=> ?_⟩
 rw [hg i]
 refine (h j hj).trans (.of_eq ?_)
 simp [aC,List.getD_eq_getElem?_getD,hi]
theorem ay.one{c:List SV}{x:α}(hx: ∀ j,j<k->Ceq (au c j) (au (enc std fun _=>x) j)):ay enc d k 1 (bk [c]) [x] :=ay.lst (l:= [c]) (L:= [x]) ⟨hx,trivial⟩
end
@[simp] theorem bK {n k:Nat} {f:Nat->Nat->SV} :bf n k f f:=fun _ _ _ _=> .refl _
theorem yj{L:List α}{i:Nat}{d:α} :L.set i (L.getD i d)=L:=by
 apply List.ext_getElem?
 intro j
 rw [List.getElem?_set]
 split
 · rename_i h
   subst h
   split
   · rename_i h;simp [List.getD_eq_getElem?_getD,h]
   · rename_i h;rw [List.getElem?_eq_none (by omega)]
 · rfl
def eB:En UInt8:=fun A b=> [.int .u8 (A.ti fun _=>((b ()).toNat:Int))]
def eZ:En Int:=fun A z=> [.int .i64 (A.ti fun _=>z ())]
def eS:En (List UInt8):=fun A s=> [.str (A.ts fun _=>s ())]
def eBs:En (List UInt8):=fun A b=> [av eB 0 1 A b]
theorem F9:Inj eB 1:=fun x y h=>by
 obtain ⟨s,h1,h2⟩:=h 0 (by omega)
 have h1:Ceq s (.int .u8 (x.toNat:Int)):=h1
 have h2:Ceq s (.int .u8 (y.toNat:Int)):=h2
 rw [Ceq.int] at h1 h2
 subst h1
 injection h2 with _ h2
 exact UInt8.toNat_inj.1 (by omega)
theorem yk:Inj eZ 1:=fun x y h=>by
 obtain ⟨s,h1,h2⟩:=h 0 (by omega)
 have h1:Ceq s (.int .i64 x):=h1
 have h2:Ceq s (.int .i64 y):=h2
 rw [Ceq.int] at h1 h2
 subst h1
 injection h2
theorem Pb:Inj eS 1:=fun x y h=>by
 obtain ⟨s,h1,h2⟩:=h 0 (by omega)
 have h1:Ceq s (.str x):=h1
 have h2:Ceq s (.str y):=h2
 rw [Ceq.str] at h1 h2
 subst h1
 injection h2
theorem My:Inj eBs 1:=fun x y h=>by
 obtain ⟨s,h1,h2⟩:=h 0 (by omega)
 exact F9.row (d:=0) h1 h2
theorem uZ(z:Int): ∀ j,j<1->Ceq (au [SV.int .i64 z] j) (au (eZ std fun _=>z) j):=by
 intro j hj
 obtain rfl:j=0:=by omega
 exact .refl _
theorem Ga{n:Nat}{f:Nat->Nat->SV}{L:List UInt8}(h:ay eB 0 1 n f L):aP n f=L:=by
 apply List.ext_getElem
 · simp [std,aP,h.1]
 · intro i h1 h2
   have hi:i<n:=by rw [<-h.1];exact h2
   have:=h.get hi (show 0<1 by omega)
   have this:Ceq (f i 0) (.int .u8 ((L.getD i 0).toNat:Int)):=this
   rw [Ceq.int] at this
   simp [std,aP,this,ru,List.getD_eq_getElem?_getD,h2]
theorem ay.bytesOf(L:List UInt8)(f:Nat->Nat->SV)(h: ∀ i,f i 0= .int .u8 ((L[i]?.getD 0).toNat:Int)):ay eB 0 1 L.length f L:=⟨rfl,fun i j hi hj=>by
 obtain rfl:j=0:=by omega
 rw [h]
 exact .of_eq (by simp [aC,eB,au,std,aP,List.getD_eq_getElem?_getD])⟩
theorem ym{α:Type}{enc:En α}{d:α}{k:Nat}{n:Nat}{L M:List α}{x:α}{c:List SV}(hn:L.length=n)(hx: ∀ j,j<k->Ceq (au c j) (au (enc std fun _=>x) j))(hM:L++ [x] =M){m:Nat}(hm:m=n+1):
 bf m k (bh n (aC enc d std fun _=>L) (bk [c])) (aC enc d std fun _=>M):=by
 subst hn hM hm
 exact ((ay.lit L).cat (ay.one hx)).eqr
theorem bp{α:Type}{L:List α}{i:Nat}{d:α}(h:i<L.length):L.take i++ [L.getD i d] =L.take (i+1):=by
 rw [List.take_succ_eq_append_getElem h]
 simp [List.getD_eq_getElem?_getD,h]
end Go.Vd
