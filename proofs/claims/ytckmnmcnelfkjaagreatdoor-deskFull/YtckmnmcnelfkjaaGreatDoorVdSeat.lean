/- What a program's own tables must give: types, callees; and the way back from a contract to a call. -/
import Derived.Test.YtckmnmcnelfkjaaGreatDoorVdFn
import Derived.Laws.StructEq
import Derived.KernelRfl
set_option linter.unusedVariables false
set_option linter.unusedSimpArgs false
namespace Go.Vd
open Go.RowKit
variable {P:Program} {gl:Nat->SV} {rw N:Nat->Prop} {ρ:Nat->Value} {v:Value} {w:World} {f:FuncId} {s t:SV}
theorem aB.mk'{t:Nat}{ty:Ty}(d:TypeDesc)(zc:List Value)(hi:(P.info? t).map (fun i=>(i.size,i.zero.map fun z=>z.cells.toList))=some (ty.size,some zc))
 (hd:P.underlying t=some d) (h0:0<ty.size) (ha:i5 d=ty.agg) (h1:ty.agg=false->ty.size=1) (hz:eV zc=aj ty.zero) (ho:zc.all Value.oneCell'=true) (hl:zc.length=ty.size)
 (htag:La P t d ty.zero ty.tag):aB P t ty:=by
 cases e:P.info? t with
 |none=>rw [e] at hi;cases hi
 |some i=>
  rw [e] at hi
  simp only [Option.map_some,sIE,pIE] at hi
  obtain ⟨h2,h3⟩:=hi
  cases e2:i.zero with
  |none=>rw [e2] at h3;cases h3
  |some z=>
   rw [e2] at h3
   simp only [Option.map_some,sIE] at h3
   subst h3
   exact ⟨i,d,z,e,hd,h2,h0,ha,h1,e2,hz,fun v hv=>List.all_eq_true.1 ho v hv,by rw [h2,<-hl];simp,htag⟩
theorem bN{fs:Array Field}{places:List (Nat×Nat)}(h:fs.toList.map (fun f=>(P.info? f.type).map fun j=>(f.offset,j.size))=places.map some):
 ∃ fs':Array Field,TypeDesc.struct fs= .struct fs'∧fs'.size=places.length∧ ∀ i:Nat,nth places i=(fs'[i]?).bind fun f=>(P.info? f.type).map fun j=>(f.offset,j.size):=by
 refine ⟨fs,rfl, ?_,fun i=> ?_⟩
 · have:=congrArg List.length h
   simpa using this
 · have hn: ∀(l:List (Nat×Nat)) (i:Nat),nth l i=l[i]? :=by
    intro l
    induction l with
    |nil=>intro i;rfl
    |cons x l ih=>intro i;cases i with
     |zero=>rfl
     |succ i=>simpa [nth] using ih i
   rw [hn]
   have h2:=congrArg (fun l=>l[i]?) h
   simp only [List.getElem?_map] at h2
   rw [<-Array.getElem?_toList]
   cases e1:fs.toList[i]? with
   |none=>cases e2:places[i]? with
    |none=>rfl
    |some p=>rw [e1,e2] at h2;cases h2
   |some f=>cases e2:places[i]? with
    |none=>rw [e1,e2] at h2;cases h2
    |some p=>rw [e1,e2] at h2;simpa using h2.symm
theorem o9{e k:Nat}(hi:(P.info? e).map (fun i=>i.size)=some k): ∃ i:TypeInfo,P.info? e=some i∧i.size=k:=by
 cases h:P.info? e with
 |none=>rw [h] at hi;cases hi
 |some i=>rw [h] at hi;exact ⟨i,rfl,by simpa using hi⟩
theorem dB{e k b:Nat}(hi:(P.info? e).map (fun i=>(i.size,i.bytes,i.zero.map fun z=>z.cells.size))=some (k,b,some k)):
 ∃(i:TypeInfo) (z:Value),P.info? e=some i∧i.size=k∧i.bytes=b∧i.zero=some z∧z.cells.size=k:=by
 cases h:P.info? e with
 |none=>rw [h] at hi;cases hi
 |some i=>
  rw [h] at hi
  simp only [Option.map_some,sIE,pIE] at hi
  obtain ⟨h2,h3,h4⟩:=hi
  cases e2:i.zero with
  |none=>rw [e2] at h4;cases h4
  |some z=>
   rw [e2] at h4
   simp only [Option.map_some,sIE] at h4
   exact ⟨i,z,rfl,h2,h3,e2,h4⟩
inductive Plain (P:Program):Nat->List Field->List SV->Prop
 |nil {n} :Plain P n [] []
 |int {n f l z k a} (hn:f.name≠ "_") (ho:f.offset=n) (hd:P.underlying f.type=some (.int k)) (hr:Plain P (n+1) l z):Plain P n (f::l) (.int k a::z)
 |bool {n f l z a} (hn:f.name≠ "_") (ho:f.offset=n) (hd:P.underlying f.type=some .bool) (hr:Plain P (n+1) l z):Plain P n (f::l) (.bool a::z)
 |str {n f l z a} (hn:f.name≠ "_") (ho:f.offset=n) (hd:P.underlying f.type=some .string) (hr:Plain P (n+1) l z):Plain P n (f::l) (.str a::z)
theorem iN{t:TypeId}{d:TypeDesc}(hd:P.underlying t=some d)(ha:i5 d=false){xs:Array Value}{off:Nat}(hx:xs[off]? =some v)(w:World):(part t xs off).run P w= .ok v w:=by
 simp [part,fY hd w,ha,hx]
theorem eh(w:World){D:Nat}{xs ys:Array Value}{f:Field}{fs:List Field}{d:TypeDesc}(hn:f.name≠ "_")(hd:P.underlying f.type=some d)(hag:i5 d=false)
 {v u:Value} (hv:xs[f.offset]? =some v) (hu:ys[f.offset]? =some u) {b r:Bool} (he:(Op.equalIn (D+1) f.type v u).run P w= .ok b w) (ht:(Op.eqFields (D+1) xs ys fs).run P w= .ok r w):
 (Op.eqFields (D+1) xs ys (f::fs)).run P w= .ok (b && r) w:=by
 simp only [Op.eqFields,hn,ne_eq,not_false_eq_true,if_true,Sem.run_bind,iN hd hag hv,iN hd hag hu,Result.andThen_ok,he,Sem.run_ite]
 cases b
 · simp
 · simpa using ht
theorem dg{l:List Value}{n:Nat}{r:List Value}(h:l.drop n=v::r):l[n]? =some v∧l.drop (n+1)=r:=by
 constructor
 · rw [<-List.head?_drop,h];rfl
 · rw [<-List.tail_drop,h];rfl
theorem jH(w:World){D:Nat}{xs ys:Array Value} : ∀ {n:Nat} {fs:List Field} {z:List SV},Plain P n fs z-> ∀ {l m:List SV} {r:Bool},aS z l=true->aS z m=true->
 bp dX (xs.toList.drop n) l->bp dX (ys.toList.drop n) m->bJ std l m=some r->(Op.eqFields (D+1) xs ys fs).run P w= .ok r w:=by
 intro n fs z hp
 induction hp with
 |nil=>
  intro l m r hl hm _ _ h
  cases l with
  |nil=>cases m with
   |nil=>simp only [bJ,sIE] at h;subst h;simp [Op.eqFields]
   |cons y m=>simp [aS] at hm
  |cons x l=>simp [aS] at hl
 | @int n f fs z k a hn ho hd hr ih=>
   intro l m r hl hm hx hy h
   match l,m,hl,hm,hx,hy,h with
   | .int k1 a1::l, .int k2 a2::m,hl,hm,hx,hy,h=>
     simp only [aS,bAE] at hl hm
     obtain rfl:=gJ hl.1
     obtain rfl:=gJ hm.1
     match ex:xs.toList.drop n,ey:ys.toList.drop n,hx,hy with
     | .int k3 a3::xl, .int k4 a4::yl,hx,hy=>
       obtain ⟨⟨rfl,rfl⟩,hx2⟩:=hx
       obtain ⟨⟨rfl,rfl⟩,hy2⟩:=hy
       obtain ⟨hv,hxl⟩:=dg ex
       obtain ⟨hu,hyl⟩:=dg ey
       simp only [bJ] at h
       split at h
       · rename_i r' hr'
         cases h
         exact eh w hn hd rfl (by rw [ho,<-Array.getElem?_toList];exact hv) (by rw [ho,<-Array.getElem?_toList];exact hu) (run_equalIn_int w _ _ _ _ _ _ hd) (ih hl.2 hm.2 (by rw [hxl];exact hx2) (by rw [hyl];exact hy2) hr')
       · cases h
 | @bool n f fs z a hn ho hd hr ih=>
   intro l m r hl hm hx hy h
   match l,m,hl,hm,hx,hy,h with
   | .bool a1::l, .bool a2::m,hl,hm,hx,hy,h=>
     simp only [aS] at hl hm
     match ex:xs.toList.drop n,ey:ys.toList.drop n,hx,hy with
     | .bool a3::xl, .bool a4::yl,hx,hy=>
       obtain ⟨rfl,hx2⟩:=hx
       obtain ⟨rfl,hy2⟩:=hy
       obtain ⟨hv,hxl⟩:=dg ex
       obtain ⟨hu,hyl⟩:=dg ey
       simp only [bJ] at h
       split at h
       · rename_i r' hr'
         cases h
         exact eh w hn hd rfl (by rw [ho,<-Array.getElem?_toList];exact hv) (by rw [ho,<-Array.getElem?_toList];exact hu) (run_equalIn_bool' w _ _ _ _ hd) (ih hl hm (by rw [hxl];exact hx2) (by rw [hyl];exact hy2) hr')
       · cases h
 | @str n f fs z a hn ho hd hr ih=>
   intro l m r hl hm hx hy h
   match l,m,hl,hm,hx,hy,h with
   | .str a1::l, .str a2::m,hl,hm,hx,hy,h=>
     simp only [aS] at hl hm
     match ex:xs.toList.drop n,ey:ys.toList.drop n,hx,hy with
     | .string a3::xl, .string a4::yl,hx,hy=>
       obtain ⟨rfl,hx2⟩:=hx
       obtain ⟨rfl,hy2⟩:=hy
       obtain ⟨hv,hxl⟩:=dg ex
       obtain ⟨hu,hyl⟩:=dg ey
       simp only [bJ] at h
       split at h
       · rename_i r' hr'
         cases h
         refine eh w hn hd rfl (by rw [ho,<-Array.getElem?_toList];exact hv) (by rw [ho,<-Array.getElem?_toList];exact hu) ?_ (ih hl hm (by rw [hxl];exact hx2) (by rw [hyl];exact hy2) hr')
         rw [run_equalIn_string w _ _ _ _ hd]
         simp [std,bd,bf,bw,a8,aO,aI,ba,aM,aE,ByteArray.toList_eq]
       · cases h
theorem fx{t:Nat}{fs:Array Field}{z:List SV}(hg:P.eqGuardType P.depth t=false)(ht:P.underlying t=some (.struct fs))(hs:P.stoodInHeld t=false)(hp:Plain P 0 fs.toList z):xj P t z:=by
 refine ⟨hg,fun w xs ys l m r hl hm hx hy h=> ?_⟩
 have hfo:P.fieldsOf t=fs:=by simp [Program.fieldsOf,ht]
 rw [run_equalIn_agg w 9999 t _ _ (by rw [hfo];exact ht) hs,hfo]
 exact jH w hp hl hm (by simpa using hx) (by simpa using hy) h
abbrev Ct:=Ar->List SV->Option (Option Prop×SV)
def aq (f:Nat)(ct:Ct)(G:Ar->Pu):Ar->Pu:=fun A n args=>bif Nat.beq n f then ct A args else G A n args
def noC:Ar->Pu:=fun _ _ _=>none
theorem aP :az P gl (noC std):=fun f args p r h=>by cases h
theorem ao{f:Nat}{ct:Ct}{G:Ar->Pu}(hG:az P gl (G std))(hf:dk P f)(h: ∀ args p r,ct std args=some (p,r)->aK p->cS P gl f args r):az P gl (aq f ct G std):=by
 intro n args p r he hp
 unfold aq at he
 cases hb:Nat.beq n f<;>rw [hb] at he
 · exact hG n args p r he hp
 · obtain rfl:=nQE hb
   exact ⟨hf,h args p r he hp⟩
def noX:Ar->Xt:=fun _=> { meth:=fun _ _=>none,wt:=fun _ _ _ _ _ _=>none }
theorem ar :XtOk P gl (noX std):=⟨(fun t name f h=>by cases h),(fun f e k n g rest p n2 g2 h=>by cases h)⟩
def noI:Nat->Option Func:=fun _=>none
theorem ak :gF P noI:=fun f fn h=>by cases h
def bY (f:Nat)(fn:Func)(I:Nat->Option Func):Nat->Option Func:=fun n=>bif Nat.beq n f then some fn else I n
theorem bc{f:Nat}{fn:Func}{I:Nat->Option Func}(hI:gF P I)(hf:P.funcs[f]? =some fn)(hn:(fn.name== "runtime.NumGoroutine")=false):gF P (bY f fn I):=by
 intro n fn' h
 unfold bY at h
 cases hb:Nat.beq n f<;>rw [hb] at h
 · exact hI n fn' h
 · obtain rfl:=nQE hb
   cases h
   exact ⟨hf,hn⟩
def Tys.own (T:Tys):Tys:= { T with cv:=true }
theorem F7{T:Tys}{G:Ar->Pu}{X:Ar->Xt}{I:Nat->Option Func}(hT:TysOk P T)(hG:az P T.gl (G std))(hX:XtOk P T.gl (X std))(hI:gF P I)(hm:P.follows .mixedOrders=true){fn:Func}(hf:P.funcs[f]? =some fn)
 (how:How) (args:Ar->List SV) (R:Ar->SV) (h: ∀(A:Ar),A=std->uC A T (G A) (X A) I how fn (args A) (R A)):cS P T.gl f (args std) (R std):=
 IV hT hG hX hI hm hf (h std rfl)
theorem good_bool{args:List SV}{b:Bool}(h:cS P gl f args (.bool b)){vs:List Value}(hg:iv gl w fun _=>False)(hargs:bp (Rel w (fun _=>undef) (fun _=>False) (fun _=>False)) vs args):
 Calls P f vs.toArray w fun e w'=>e= .returned (.bool b)∧Ext w w':=by
 refine (h w (fun _=>undef) (fun _=>False) (fun _=>False) vs ⟨0,fun h=>h⟩ (fun _ h=>h.elim) hg hargs).mono fun e w' hq=> ?_
 obtain ⟨v,rfl,hext,hr⟩:=hq
 have h0:=hr 0 (fun h=>h)
 have h1:Rel w' (fun _=>undef) (fun _=>False) (fun _=>False) v (.bool b):=h0
 rw [h1.eq_bool]
 exact ⟨rfl,hext⟩
theorem RK{A:Ar}(hA:A=std){f:Unit->Bool}(h:f ()=true):A.dr f:=by subst hA;exact h
def sv1:SV->SV->Prop
 | .slc n k f,t=> ∃ g,t= .slc n k g∧ ∀ i j,i<n->j<k->Ceq (f i j) (g i j)
 | .run n f,t=> ∃ g,t= .run n g∧ ∀ i j,i<n->j<1->Ceq (f i j) (g i j)
 |s,t=>s=t
theorem Cm(h:Rel w ρ rw N v s)(e:sv1 s t):Rel w ρ rw N v t:=by
 cases s with
 |slc n k f=>
  obtain ⟨g,rfl,he⟩:=e
  cases h with
  |slc a _ c _ _ g2 hn hc ha hr=>exact .slc a n c k g g2 hn hc ha fun i j hi hj=>(hr i j hi hj).ceq (he i j hi hj)
 |run=>cases h
 |_=>cases e;exact h
theorem Cn(e:sv1 s t):fp (Rel w ρ rw N) (Rel w ρ rw N) s t∧(aH t=true-> ∀ k,cA k t->aH s=true∧cA k s):=by
 cases s with
 |slc n k f=>
  obtain ⟨g,rfl,he⟩:=e
  exact ⟨.of_not rfl rfl fun v hv=>Cm hv ⟨g,rfl,he⟩,fun h=>by cases h⟩
 |run n f=>
  obtain ⟨g,rfl,he⟩:=e
  exact ⟨⟨rfl,fun i v hi hv=>hv.ceq (Ceq.cl (he i 0 hi (by omega)))⟩,fun _ k hk=>hk.elim⟩
 |_=>cases e;exact ⟨⟨rfl,fun i v _ hv=>hv⟩,fun h k hk=>⟨h,hk⟩⟩
def sv2:SV->SV->Prop
 | .agg l,t=> ∃ m,t= .agg m∧bp sv1 l m
 |s,t=>sv1 s t
theorem Mx(h:Rel w ρ rw N v s)(e:sv2 s t):Rel w ρ rw N v t:=by
 cases s with
 |agg l=>
  obtain ⟨m,rfl,he⟩:=e
  generalize hs:SV.agg l=s at h
  cases h with
  |agg cs l' hl h1 hh hm=>
   cases hs
   have hlen:=he.length
   obtain ⟨q1,q2⟩:=fp.lift (R:=Rel w ρ rw N) (R':=Rel w ρ rw N) hlen fun j s t hs ht=>(Cn (he.get j s t hs ht)).1
   refine .agg _ _ (by omega) h1 (fun i v t hv ht=>q2 (cs:=cs.toList) (by simpa using hh) i v t (by simpa using hv) ht) fun t ht hr k hk=> ?_
   obtain ⟨j,hj⟩:=List.mem_iff_getElem?.1 ht
   have hjl:j<l.length:=by have:=(List.getElem?_eq_some_iff.1 hj).1;omega
   obtain ⟨p1,p2⟩:=(Cn (w:=w) (ρ:=ρ) (rw:=rw) (N:=N) (he.get j _ t (gEE hjl) hj)).2 hr k hk
   exact hm _ (List.getElem_mem _) p1 k p2
  |_=>cases hs
 |_=>exact Cm h e
theorem aJ{args args':List SV}{r:SV}(h:cS P gl f args' r)(he:bp sv2 args args'):cS P gl f args r:=by
 intro w ρ rw N vs hfr hrw hg hargs
 refine h w ρ rw N vs hfr hrw hg ?_
 have key: ∀ {vs:List Value} {l m:List SV},bp (Rel w ρ rw N) vs l->bp sv2 l m->bp (Rel w ρ rw N) vs m:=by
  intro vs
  induction vs with
  |nil=>intro l m h1 h2;cases l with
   |nil=>cases m with
    |nil=>trivial
    |cons=>exact h2.elim
   |cons=>exact h1.elim
  |cons v vs ih=>intro l m h1 h2;cases l with
   |nil=>exact h1.elim
   |cons s l=>cases m with
    |nil=>exact h2.elim
    |cons t m=>exact ⟨Mx h1.1 h2.1,ih h1.2 h2.2⟩
 exact key hargs he
end Go.Vd
