/- One operation of a region does what the generator says. -/
import Derived.Test.YtckmnmcnelfkjaaGreatDoorVdMem
import Derived.Laws.CopyRow
import Derived.ArgAppend
set_option linter.unusedVariables false
set_option linter.unusedSimpArgs false
namespace Go.Vd
open Go.RowKit
variable {v:Value} {key:Nat} {e:TypeId} {g k:Nat}
structure Ctx where
 w0:World
 R:Nat->Prop
 F:Nat->Prop
 gl:Nat->SV
 stk:List (Array Value)
def ka (w:World)(ρ:Nat->Value)(rw N:Nat->Prop):List (Array Value)->List (List SV)->Prop:=
 bp fun tmps fr=>tmps.size=fr.length∧ ∀ t,Rel w ρ rw N (tmps.getD t undef) (ap fr t)
theorem ka.imp{w w':World}{ρ ρ':Nat->Value}{rw rw' N N':Nat->Prop}(hr: ∀ v s,Rel w ρ rw N v s->Rel w' ρ' rw' N' v s): ∀ {l:List (Array Value)} {m:List (List SV)},ka w ρ rw N l m->ka w' ρ' rw' N' l m
 | [], [],_=>trivial
 |_::_,_::_,h=>⟨⟨h.1.1,fun t=>hr _ _ (h.1.2 t)⟩,ka.imp hr h.2⟩
 | [],_::_,h=>h.elim
 |_::_, [],h=>h.elim
structure SimR (c:Ctx) (U:Nat->Prop) (s:St) (a:Act) (w:World) (ρ:Nat->Value):Prop where
 dfr:a.defers= []
 sz:a.tmps.size=s.tmps.length
 tmps: ∀ t,Rel w ρ (ae c.F ρ s.mem) U (a.tmps.getD t undef) (ap s.tmps t)
 stk:ka w ρ (ae c.F ρ s.mem) U c.stk s.stk
 mem:MemOk c.F w ρ s.mem U
 keep:Keep c.R c.w0 w
 sub: ∀ b,bB ρ s.mem b->c.R b∨c.w0.heap.size<=b
 old: ∀ b,c.F b->b<c.w0.heap.size∧ ¬ c.R b
 glb:iv c.gl c.w0 fun b=>c.F b∨(c.R b∨c.w0.heap.size<=b)
def Sim (c:Ctx)(U:Nat->Prop)(s:St)(a:Act)(w:World):Prop:= ∃ ρ,SimR c U s a w ρ
section
variable {P:Program} {o:Oper} {a:Act} {w:World} {ρ:Nat->Value} {U:Nat->Prop} {c:Ctx} {s:St}
theorem SimR.gl(h:SimR c U s a w ρ):iv c.gl w (ae c.F ρ s.mem):=by
 refine h.glb.mono (h.keep.mono fun _ _ e=> .inr (.inl e)) fun b hb hr=> ?_
 rcases hr with hr|hr
 · exact .inl hr
 · exact .inr (h.sub b hr)
theorem Ft :Ij v=true->one v:=by cases v<;>simp [Ij,one,Value.oneCell']
theorem s8: ∀ {l:List Value},pJ l=true-> ∀ v∈l,one v
 | [],_,v,h=>by cases h
 |x::l,h,v,hv=>by
  simp only [pJ,bAE] at h
  rcases List.mem_cons.1 hv with rfl|hv
  · exact Ft h.1
  · exact s8 h.2 v hv
theorem SimR.ev(h:SimR c U s a w ρ)(x:Operand):Rel w ρ (ae c.F ρ s.mem) U (a.eval x) (ev c.gl s.tmps x):=by
 cases x with
 |tmp t=>exact h.tmps t
 |const v=>
  cases v with
  |agg cs=>
   show Rel w ρ _ U (.agg cs) (bif pJ cs.toList then .agg (eV cs.toList) else .any)
   cases hb:pJ cs.toList
   · exact .any _
   · exact .agg0 _ _ (by simp [e9]) (s8 hb) fun i v s hv hs=>eM cs.toList i v s (by simpa using hv) hs
  |_=>exact qs _
 |global g=>exact h.gl.1 g ρ U
 |func f=>exact .clo f #[] [] rfl (fun i v s h=>by simp at h) (fun k h=>by obtain ⟨s,h,_⟩:=h;cases h)
theorem rq{tmps:List SV}{rw:Nat->Prop}{r:SV}(hsz:a.tmps.size=tmps.length)(h: ∀ t,Rel w ρ rw U (a.tmps.getD t undef) (ap tmps t))(hv:Rel w ρ rw U v r)(d:Option Nat):
 (a.put d v).tmps.size=(put tmps d r).length∧ ∀ t,Rel w ρ rw U ((a.put d v).tmps.getD t undef) (ap (put tmps d r) t):=by
 cases d with
 |none=>exact ⟨hsz,h⟩
 |some d=>
  simp only [Act.put,put,i4]
  refine ⟨by simpa using hsz,fun t=> ?_⟩
  rw [bW,List.getElem?_set]
  by_cases hdt:d=t
  · subst hdt
    by_cases hlt:d<tmps.length
    · simp only [if_true,hlt,Option.getD_some]
      rw [show (a.tmps.setIfInBounds d v).getD d undef=v by simp [Array.getD,hsz,hlt]]
      exact hv
    · simp only [if_true,hlt,if_false,Option.getD_none]
      rw [show (a.tmps.setIfInBounds d v).getD d undef=undef by simp [Array.getD,hsz,hlt]]
      exact .un
  · simp only [hdt,if_false]
    have:=h t
    rw [bW] at this
    rw [show (a.tmps.setIfInBounds d v).getD t undef=a.tmps.getD t undef by rw [Array.getD_eq_getD_getElem?,Array.getElem?_setIfInBounds_ne hdt,<-Array.getD_eq_getD_getElem?]]
    exact this
theorem Act.put_defers(d:Option Nat)(v:Value):(a.put d v).defers=a.defers:=by cases d<;>rfl
theorem SimR.put{r:SV}{w':World}(h:SimR c U s a w ρ)(hx:Ext w w')(hv:Rel w' ρ (ae c.F ρ s.mem) U v r)(d:Option Nat):SimR c U { s with tmps:=put s.tmps d r } (a.put d v) w' ρ:=by
 obtain ⟨h1,h2⟩:=rq (a:=a) (w:=w') h.sz (fun t=>(h.tmps t).ext hx) hv d
 exact ⟨(Act.put_defers d v).trans h.dfr,h1,h2,h.stk.imp fun v s hv=>hv.ext hx,h.mem.ext hx,h.keep.trans (hx.keep (fun _=>False)) (fun _ _ e=>e.elim),h.sub,h.old,h.glb⟩
theorem SimR.more(h:SimR c U s a w ρ):SimR c (aL U key) s a w ρ:=
 ⟨h.dfr,h.sz,fun t=>(h.tmps t).mono (fun _ h=> .inl h) (fun _ _=>rfl) (Keep.refl _ _) fun _ _ e=>e,
  h.stk.imp fun v s hv=>hv.mono (fun _ h=> .inl h) (fun _ _=>rfl) (Keep.refl _ _) fun _ _ e=>e,
  ⟨fun e he=>(h.mem.blk e he).mono (h.mem.key e he) (fun _ h=> .inl h) (fun _ _=>rfl) (Keep.refl _ _) (fun _ _ e=>e) (fun _ _=>rfl),fun e he=> .inl (h.mem.key e he),h.mem.apart,h.mem.frg,h.mem.sorted⟩,
  h.keep,h.sub,h.old,h.glb⟩
theorem SimR.add(h:SimR c U s a w ρ)(hk: ¬ U key){w':World}(hx:Ext w w'){x:Value}{b:Blk}(hnew: ∀ g,av x=some g->w.heap.size<=g)
 (hb:dv w' (aQ ρ key x) (fun g=>ae c.F ρ s.mem g∨av x=some g) (aL U key) key b) {v:Value} {r:SV}
 (hv:Rel w' (aQ ρ key x) (ae c.F (aQ ρ key x) (ins s.mem key b)) (aL U key) v r) (d:Option Nat) (hkb: ∀ g,¬ fX (aQ ρ key x) b g:=by exact fun _ h=>h):
 SimR c (aL U key) { s with tmps:=Vd.put s.tmps d r,mem:=ins s.mem key b } (a.put d v) w' (aQ ρ key x):=by
 obtain ⟨h1,h2⟩:=rq (a:=a) (w:=w') h.sz (fun t=>(h.tmps t).add h.mem hk hx (b:=b) hnew hkb) hv d
 refine ⟨(Act.put_defers d v).trans h.dfr,h1,h2,h.stk.imp fun v s hv=>hv.add h.mem hk hx (b:=b) hnew hkb,h.mem.add hk hx hnew hb hkb,h.keep.trans (hx.keep (fun _=>False)) (fun _ _ e=>e.elim),fun g hg=> ?_,h.old,h.glb⟩
 rcases oI h.mem hk x hkb g hg with hg|hg
 · exact h.sub g hg
 · exact .inr (Nat.le_trans h.keep.size (hnew g hg))
theorem s9{t:TypeId}(w:World):(newVar t v).run P w= .ok ⟨w.heap.size,0,none⟩ (w.alloc (.cells v.cells t)):=by
 simp [newVar,newRow]
theorem Fu{t key:Nat}{cs:List SV}{arr:Array Value}(hs:arr.size=(aj cs).length)(h1: ∀ v∈arr.toList,one v)(h:SimR c U s a w ρ)(hk: ¬ U key)(hm:bR U cs)
 (hr: ∀(i:Nat) v t,arr[i]? =some v->(aj cs)[i]? =some t->Rel w ρ (ae c.F ρ s.mem) U v t) (d:Option Nat):
 Sim c (aL U key) { s with tmps:=Vd.put s.tmps d (.ptr key 0),mem:=ins s.mem key (.box t cs) } (a.put d (.pointer (some ⟨w.heap.size,0,none⟩))) (w.alloc (.cells arr t)):=by
 have hnew: ∀ g,av (.pointer (some ⟨w.heap.size,0,none⟩))=some g->w.heap.size<=g:=by
  intro g hg
  simp only [av,sIE] at hg
  omega
 refine ⟨_,h.add hk (Ext.alloc _ _) (x:= .pointer (some ⟨w.heap.size,0,none⟩)) hnew ?_ ?_ d⟩
 · refine ⟨w.heap.size,arr,aX _ _ _,heap_alloc_new _ _,hs,h1,fun i v t hv ht=> ?_,fun s hs hr k hk=> .inl (hm s hs hr k hk)⟩
   refine (hr i v t hv ht).mono (fun k hk=> .inl hk) (co hk ρ _) ((Ext.alloc _ _).keep _) fun g hg hrr=> ?_
   rcases hrr with hrr|hrr
   · exact hrr
   · exact absurd (hnew g hrr) (by omega)
 · exact .ptr _ _ _ (.inr rfl) (aX _ _ _)
theorem nb: ∀ {l:List Oper} {j d:Nat},j5 l j=some d->(l.toArray[j]?).bind (·.dst)=some d
 | [],j,d,h=>by cases h
 |o::l,0,d,h=>by simpa [j5] using h
 |o::l,j+1,d,h=>by have:=nb (l:=l) (j:=j) h;simpa using this
theorem nc{tmps:Array Value}{d:Nat}(h:tmps[d]? =some v):tmps.getD d undef=v:=by simp [Array.getD_eq_getD_getElem?,h]
theorem qy(h:SimR c U s a w ρ){all:List Oper}{j:Nat}{want:Bool}(hg:o.guard=some (j,want)){d:Nat}(hd:j5 all j=some d){cc b:Bool}(ht:wV (ap s.tmps d)=some (cc,b)):
 Region.wanted o (yielded all.toArray a.tmps)=std.want cc b want:=by
 have hr:=h.tmps d
 simp only [Region.wanted,hg,yielded,nb hd,Option.bind_some]
 unfold wV at ht
 split at ht
 · rename_i b' he
   simp only [sIE,pIE] at ht
   obtain ⟨rfl,rfl⟩:=ht
   rw [he] at hr
   have hv:=hr.eq_bool
   cases hx:a.tmps[d]? with
   |none=>rw [Array.getD_eq_getD_getElem?,hx] at hv;cases hv
   |some v=>
    rw [nc hx] at hv
    subst hv
    simp [std,bd,bf,bw,a8,aO,aI,ba,aM,aE]
 · rename_i c' b' he
   simp only [sIE,pIE] at ht
   obtain ⟨rfl,rfl⟩:=ht
   rw [he] at hr
   cases c' with
   |true=>
    have hv:=(hr.of_opt rfl).eq_bool
    cases hx:a.tmps[d]? with
    |none=>rw [Array.getD_eq_getD_getElem?,hx] at hv;cases hv
    |some v=>
     rw [nc hx] at hv
     subst hv
     simp [std,bd,bf,bw,a8,aO,aI,ba,aM,aE]
   |false=>
    have hv:=hr.of_opt' rfl
    cases hx:a.tmps[d]? with
    |none=>simp [std,bd,bf,bw,a8,aO,aI,ba,aM,aE]
    |some v=>
     rw [nc hx] at hv
     subst hv
     simp [std,bd,bf,bw,a8,aO,aI,ba,aM,aE,undef]
 · cases ht
theorem gR{e:Operand->SV} : ∀ {l:List Operand},aK (fU std e l)-> ∀ x∈l,aK (ln std (e x))
 | [],_,x,h=>by cases h
 |y::l,h,x,hx=>by
  simp only [fU,ep] at h
  rcases List.mem_cons.1 hx with rfl|hx
  · exact h.1
  · exact gR h.2 x hx
theorem rt{rw:Nat->Prop}{t:SV}(h:Rel w ρ rw U v t)(hn:aK (ln std t)):Rel w ρ rw U v (d9 t):=by
 cases t with
 |opt c t=>exact h.of_opt hn
 |_=>exact h
theorem DI{f:Prop->Prop}{p:Option Prop}(hf: ∀ q,f q->q)(h:aK (Dr f p)):aK p:=by
 cases p with
 |none=>trivial
 |some p=>exact hf _ h
theorem Fv(r:SV)(k k':Nat)(h:(cV k r).2=none):cV k' r=(r,none):=by
 have h1: ∀ s,bC k s=none->bC k' s=none:=fun s h=>by cases s<;>first|rfl|cases h
 have hL: ∀ l,cg k l=none->cg k' l=none:=fun l=>by
  induction l with
  |nil=>intro _;rfl
  |cons s l ih=>
   intro h
   simp only [cg] at h ⊢
   cases hs:bC k s with
   |some x=>rw [hs] at h;cases h
   |none=>
    rw [hs] at h
    rw [h1 s hs]
    cases hl:cg k l with
    |some x=>rw [hl] at h;cases h
    |none=>rw [ih hl]
 have h2: ∀ s,bE k s=none->bE k' s=none:=fun s h=>by
  cases s with
  |agg l=>
   simp only [bE] at h ⊢
   cases hl:cg k l with
   |some x=>rw [hl] at h;cases h
   |none=>rw [hL l hl]
  |frs=>cases h
  |_=>rfl
 have hT: ∀ l,cu k l=none->cu k' l=none:=fun l=>by
  induction l with
  |nil=>intro _;rfl
  |cons s l ih=>
   intro h
   simp only [cu] at h ⊢
   cases hs:bE k s with
   |some x=>rw [hs] at h;cases h
   |none=>
    rw [hs] at h
    rw [h2 s hs]
    cases hl:cu k l with
    |some x=>rw [hl] at h;cases h
    |none=>rw [ih hl]
 cases r with
 |tup l=>
  simp only [cV] at h ⊢
  cases hl:cu k l with
  |some x=>rw [hl] at h;cases h
  |none=>rw [hT l hl]
 |agg l=>
  simp only [cV] at h ⊢
  cases hl:bE k (.agg l) with
  |some x=>rw [hl] at h;cases h
  |none=>rw [h2 _ hl]
 |frs=>cases h
 |_=>rfl
theorem ru(h:SimR c U s a w ρ){t:SV}(hv:Rel w ρ (ae c.F ρ s.mem) U v t){n k:Nat}{f:Nat->Nat->SV}(hd:aZ std s.mem t= .slc n k f)(hpl:cF s.mem t=true):
 ∃(ad:Option Addr) (cp:Nat) (xs:List Value),v= .slice ad n cp∧xs.length=n*k∧(∀ u∈xs,one u)∧(0<n*k-> ∃ p,ad=some p∧ ∀ j u,xs[j]? =some u->w.cell? (p.add j)=some u)∧
  ∀ i j u,i<n->j<k->xs[i*k+j]? =some u->RelC w (ae c.F ρ s.mem) u (f i j):=by
 have plain0: ∀ {v:Value},Rel w ρ (ae c.F ρ s.mem) U v (.slc n k f)-> ∃(ad:Option Addr) (cp:Nat) (xs:List Value),v= .slice ad n cp∧xs.length=n*k∧(∀ u∈xs,one u)∧
  (0<n*k-> ∃ p,ad=some p∧ ∀ j u,xs[j]? =some u->w.cell? (p.add j)=some u)∧ ∀ i j u,i<n->j<k->xs[i*k+j]? =some u->RelC w (ae c.F ρ s.mem) u (f i j):=by
  intro v hv
  cases hv with
  |slc ad _ cp _ _ g hn hc ha hr=>
   have hdm: ∀ q,q<n*k->q / k<n∧q % k<k∧q / k*k+q % k=q:=fun q hq=>by
    have hk:0<k:=by
     rcases Nat.eq_zero_or_pos k with h|h
     · subst h;simp at hq
     · exact h
    exact ⟨(Nat.div_lt_iff_lt_mul hk).2 hq,Nat.mod_lt _ hk,Nat.div_add_mod' q k⟩
   refine ⟨ad,cp,(List.range (n*k)).map fun q=>g (q / k) (q % k),rfl,by simp,fun u hu=> ?_,fun h0=> ?_,fun i j u hi hj hu=> ?_⟩
   · obtain ⟨q,hq,rfl⟩:=List.mem_map.1 hu
     obtain ⟨d1,d2,_⟩:=hdm q (List.mem_range.1 hq)
     obtain ⟨_,_,_,h1,_⟩:=hc _ _ d1 d2
     exact h1
   · obtain ⟨d1,d2,_⟩:=hdm 0 h0
     obtain ⟨p,rfl,_⟩:=ha (Nat.pos_of_ne_zero fun e=>by subst e;simp at h0)
     refine ⟨p,rfl,fun q u hu=> ?_⟩
     rw [getElem?_range_map] at hu
     split at hu
     · rename_i hq
       obtain ⟨d1,d2,d3⟩:=hdm q hq
       obtain ⟨p',e,h1,_⟩:=hc _ _ d1 d2
       cases e
       rw [d3] at h1
       rw [h1]
       exact hu
     · cases hu
   · have hlt:i*k+j<n*k:=by
      have:(i+1)*k<=n*k:=Nat.mul_le_mul_right k hi
      rw [Nat.add_mul] at this
      omega
     rw [getElem?_range_map,if_pos hlt] at hu
     simp only [sIE] at hu
     have hk:0<k:=by omega
     have e1:(i*k+j) / k=i:=by rw [Nat.mul_comm,Nat.mul_add_div hk,Nat.div_eq_of_lt hj];omega
     have e2:(i*k+j) % k=j:=by rw [Nat.mul_comm,Nat.mul_add_mod,Nat.mod_eq_of_lt hj]
     rw [e1,e2] at hu
     subst hu
     exact hr i j hi hj
 have hown: ∀ {q e k' n' f' lo v},af s.mem q=some (.row e k' n' f')->Rel w ρ (ae c.F ρ s.mem) U v (.part q k' lo n)->k'=k->std.shift f' lo=f-> ∃(ad:Option Addr) (cp:Nat) (xs:List Value),v= .slice ad n cp∧xs.length=n*k∧(∀ u∈xs,one u)∧
  (0<n*k-> ∃ p,ad=some p∧ ∀ j u,xs[j]? =some u->w.cell? (p.add j)=some u)∧ ∀ i j u,i<n->j<k->xs[i*k+j]? =some u->RelC w (ae c.F ρ s.mem) u (f i j):=by
  intro q e k' n' f' lo v hl hv hk hf
  subst hk hf
  cases hv with
  |part _ _ _ _ ad cp hk hn hh=>
   rcases Nat.eq_zero_or_pos n with h0|h0
   · subst h0
     exact ⟨ad,cp, [],rfl,by simp,(fun u hu=>by cases hu),(fun h=>absurd h (by simp)),(fun i j u hi=>absurd hi (by omega))⟩
   · obtain ⟨g,n0,c0,hρ,hle,rfl⟩:=gV hn hh h0
     obtain ⟨rfl,hc⟩:=jB h.mem hl hρ (by omega)
     have hdm: ∀ q,q<n*k'->q / k'<n∧q % k'<k'∧q / k'*k'+q % k'=q:=fun q hq=>by
      have hk:0<k':=by
       rcases Nat.eq_zero_or_pos k' with h|h
       · subst h;simp at hq
       · exact h
      exact ⟨(Nat.div_lt_iff_lt_mul hk).2 hq,Nat.mod_lt _ hk,Nat.div_add_mod' q k'⟩
     have key: ∀ j,j<n*k'-> ∃ v,w.cell? ⟨g,lo*k'+j,none⟩=some v∧one v∧RelC w (ae c.F ρ s.mem) v (f' (lo+j / k') (j % k')):=fun j hj=>by
      obtain ⟨d1,d2,d3⟩:=hdm j hj
      have:=hc (lo+j / k') (j % k') (by omega) d2
      rwa [Nat.add_mul,Nat.add_assoc,d3] at this
     refine ⟨_,cp,(List.range (n*k')).map fun j=>(w.cell? ⟨g,lo*k'+j,none⟩).getD undef,rfl,by simp,fun u hu=> ?_,fun _=>⟨_,rfl,fun j u hu=> ?_⟩,fun i j u hi hj hu=> ?_⟩
     · obtain ⟨j,hj,rfl⟩:=List.mem_map.1 hu
       obtain ⟨v,c1,c2,_⟩:=key j (List.mem_range.1 hj)
       rw [c1];exact c2
     · rw [getElem?_range_map] at hu
       split at hu
       · rename_i hj
         obtain ⟨v,c1,_⟩:=key j hj
         rw [c1] at hu
         rw [Addr.add_lit,c1]
         exact hu
       · cases hu
     · have hlt:i*k'+j<n*k':=by
        have:(i+1)*k'<=n*k':=Nat.mul_le_mul_right k' hi
        rw [Nat.add_mul] at this
        omega
       rw [getElem?_range_map,if_pos hlt] at hu
       obtain ⟨v,c1,_,c3⟩:=key _ hlt
       rw [c1] at hu
       simp only [Option.getD_some,sIE] at hu
       subst hu
       have hk0:0<k':=by omega
       have e1:(i*k'+j) / k'=i:=by rw [Nat.mul_comm,Nat.mul_add_div hk0,Nat.div_eq_of_lt hj];omega
       have e2:(i*k'+j) % k'=j:=by rw [Nat.mul_comm,Nat.mul_add_mod,Nat.mod_eq_of_lt hj]
       rw [e1,e2] at c3
       exact c3
 cases t with
 |own q=>
  simp only [aZ] at hd
  cases hl:af s.mem q with
  |none=>rw [hl] at hd;cases hd
  |some b=>
   rw [hl] at hd
   cases b with
   |box=>cases hd
   |kmap=>cases hd
   |kids=>cases hd
   |krow=>simp only [cF,hl] at hpl;cases hpl
   |row e k' n' f'=>
    cases hd
    exact hown hl (eN h.mem hv hl) rfl (by funext i j;simp [std,bd,bf,bw,a8,aO,aI,ba,aM,aE])
 |part q k2 lo n2=>
  simp only [aZ] at hd
  cases hl:af s.mem q with
  |none=>rw [hl] at hd;cases hd
  |some b=>
   rw [hl] at hd
   cases b with
   |box=>cases hd
   |kmap=>cases hd
   |kids=>cases hd
   |krow=>cases hd
   |row e k' n' f'=>
    simp only at hd
    cases hb:Nat.beq k2 k'<;>rw [hb] at hd
    · cases hd
    · obtain rfl:=nQE hb
      cases hd
      exact hown hl hv rfl rfl
 |nils=>
  cases hd
  cases hv
  exact ⟨none,0, [],rfl,by simp,(fun u hu=>by cases hu),(fun h=>absurd h (by simp)),(fun i j u hi=>absurd hi (by omega))⟩
 |emp=>
  cases hd
  cases hv
  exact ⟨_,0, [],rfl,by simp,(fun u hu=>by cases hu),(fun h=>absurd h (by simp)),(fun i j u hi=>absurd hi (by omega))⟩
 |slc=>cases hd;exact plain0 hv
 |kid=>cases hpl
 |fkid q j n2 i=>
  simp only [aZ] at hd
  cases hl:af s.mem q with
  |none=>rw [hl] at hd;cases hd
  |some b=>
   rw [hl] at hd
   cases b with
   |box=>cases hd
   |kmap=>cases hd
   |row=>cases hd
   |krow=>cases hd
   |kids K=>
    simp only at hd
    split at hd
    · rename_i hh ho hf
      rw [bAE] at hf
      obtain rfl:=nQE hf.1
      obtain rfl:=nQE hf.2
      cases hd
      obtain ⟨ys,r1,r2,r3⟩:=DF h.mem hl hh ho hv
      obtain ⟨ad,cp,e1,e2,e3⟩:=AO r1
      exact ⟨ad,cp,ys,e1,e2,r2,e3,fun i j u hi hj hu=>r3 i j u hi hj hu⟩
    · cases hd
 |krun=>exact absurd hv.one1 (by simp [aH])
 |_=>cases hd
theorem isC.set{cur new:Array Value}(h:isC w g cur e k)(hs:new.size=cur.size):isC (w.setRow g new) g new e k:=by
 obtain ⟨mk,h,hm⟩:=h
 exact ⟨mk,setRow_heap w g cur new e mk h,by rw [hs];exact hm⟩
theorem isC.self{cur:Array Value}(h:isC w g cur e k):w.setRow g cur=w:=by
 obtain ⟨mk,h,hm⟩:=h
 exact setRow_self w g cur e mk h
theorem isC.setCell{cur:Array Value}(h:isC w g cur e k)(o:Nat)(v:Value):w.setCell ⟨g,o,none⟩ v=w.setRow g (cur.setIfInBounds o v):=by
 obtain ⟨mk,h,hm⟩:=h
 exact setCell_eq_setRow w g o cur e mk v h
theorem eg{k:Nat}(g o:Nat)(t:TypeId): ∀(vs:List Value) (i:Nat) (cur:Array Value) (w:World),isC w g cur t k->o+i+vs.length<=cur.size->(∀ v∈vs,v.oneCell'=true)->
 (storeCells ⟨g,o,none⟩ vs i).run P w= .ok () (w.setRow g (cur.toList.take (o+i)++vs++cur.toList.drop (o+i+vs.length)).toArray)
 | [],i,cur,w,hg,_,_=>by
   simp only [storeCells,List.append_nil,List.length_nil,Nat.add_zero,List.take_append_drop,Array.toArray_toList]
   rw [hg.self]
   rfl
 |v::rest,i,cur,w,hg,hl,h1=>by
  have hi:o+i<cur.size:=by simp at hl;omega
  have hadd:(⟨g,o,none⟩:Addr).add i=⟨g,o+i,none⟩:=by rw [Addr.add_lit]
  have hcell:w.cell? ⟨g,o+i,none⟩=some cur[o+i] :=by rw [hg.cell];simp [hi]
  have hst:(store ((⟨g,o,none⟩:Addr).add i) v).run P w= .ok () (w.setRow g (cur.setIfInBounds (o+i) v)):=by
   rw [hadd,run_store P w _ v _ (h1 v (by simp)),hcell]
   simp [hg.free hi,hg.setCell]
  have ih:=eg g o t rest (i+1) (cur.setIfInBounds (o+i) v) (w.setRow g (cur.setIfInBounds (o+i) v)) (hg.set (by simp)) (by simp at hl ⊢;omega) (fun x hx=>h1 x (by simp [hx]))
  simp only [storeCells,Sem.run_bind,hst,Result.andThen_ok,ih,setRow_setRow]
  congr 3
  have e:=list_seg_step cur.toList (o+i) v rest (by simp at hl ⊢;omega)
  simpa [Array.toList_setIfInBounds,Nat.add_assoc] using e
theorem ml{k:Nat}(w:World)(t ty e:TypeId)(i:TypeInfo)(ht:P.underlying t=some (.slice e))(hi:P.info? e=some i)
 (g sLen sCap:Nat) (cur:Array Value) (hg:isC w g cur e k)
 (a:Addr) (m c:Nat) (news:List Value) (hl:news.length=m*i.size) (hnews: ∀ j u,news[j]? =some u->w.cell? (a.add j)=some u) (h1: ∀ u∈news,u.oneCell'=true)
 (hroom:sLen+m<=sCap) (hfit:sLen*i.size+news.length<=cur.size):
 (Builtin.append_ #[t,t] ty #[.slice (some ⟨g,0,none⟩) sLen sCap, .slice (some a) m c]).run P w=
   .ok (.slice (some ⟨g,0,none⟩) (sLen+m) sCap) (w.setRow g (cur.toList.take (sLen*i.size)++news++cur.toList.drop (sLen*i.size+news.length)).toArray):=by
 have hf:=run_firstCells_some (P:=P) w i.size m a m c news hl hnews
 have hst:=eg (P:=P) g (sLen*i.size) e news 0 cur w hg (by simpa using hfit) h1
 simp only [Nat.add_zero] at hst
 simp [Builtin.append_,run_underlying ht,sizeOf,typeInfo,hi,Builtin.lenOf,hroom,hf,Addr.add_lit,hst]
theorem dm{t ty e:TypeId}{i:TypeInfo}{z:Value}{size bytes:Nat}(ht:P.underlying t=some (.slice e))(hi:P.info? e=some i)(hz:i.zero=some z)
 (hsize:i.size=size) (hby:i.bytes=bytes) (hzs:z.cells.size=size) (hsz:0<size) {v:Value} {n:Nat} {xs:List Value} (hown:bD w e size v n xs)
 {ad:Option Addr} {m cp:Nat} {news:List Value} (hl:news.length=m*size) (hr:0<m*size-> ∃ p,ad=some p∧ ∀ j u,news[j]? =some u->w.cell? (p.add j)=some u) (h1: ∀ u∈news,one u)
 (h63:n+m<=9223372036854775807) (hbytes:(n+m)*bytes<=140737488355328):
 ∃ v' w',(Builtin.append_ #[t,t] ty #[v, .slice ad m cp]).run P w= .ok v' w'∧bD w' e size v' (n+m) (xs++news)∧w.grownBy w' (av v)∧
   (∀ b,av v'=some b->av v=some b∨w.heap.size<=b):=by
 have hnone:m=0-> ∃ v' w',(Builtin.append_ #[t,t] ty #[v, .slice ad m cp]).run P w= .ok v' w'∧bD w' e size v' (n+m) (xs++news)∧w.grownBy w' (av v)∧(∀ b,av v'=some b->av v=some b∨w.heap.size<=b):=by
  intro hm
  subst hm
  obtain rfl:news= [] :=List.eq_nil_of_length_eq_zero (by simpa using hl)
  refine ⟨v,w, ?_,by simpa using hown,⟨rfl,rfl,rfl,Nat.le_refl _,fun _ _ _=>rfl⟩,fun b hb=> .inl hb⟩
  have hfc:(Builtin.firstCells i.size 0 (.slice ad 0 cp)).run P w= .ok #[] w:=by
   cases ad<;>simp [Builtin.firstCells,loadCells,loadCellsFrom]
  rcases hown.2 with ⟨⟨a,rfl⟩,rfl⟩ | ⟨g,cap,cur,rfl,_,_,hnc,_⟩
  · cases a<;>simp [Builtin.append_,run_underlying ht,aW hi,Builtin.lenOf,hfc,storeCells]
  · simp [Builtin.append_,run_underlying ht,aW hi,Builtin.lenOf,hfc,hnc,storeCells]
 by_cases h0:0<m*size
 · have hm:0<m:=by
    rcases Nat.eq_zero_or_pos m with h|h
    · subst h;simp at h0
    · exact h
   obtain ⟨p,rfl,hp⟩:=hr h0
   rcases hown.2 with ⟨⟨a,rfl⟩,rfl⟩ | ⟨g,cap,cur,rfl,hc0,hg,hnc,hcm,hcs,htake⟩
   · obtain rfl:xs= [] :=List.eq_nil_of_length_eq_zero (by simpa using hown.1)
     have hown0:w.ownsRow 0 e size (.slice none 0 0) 0 [] :=⟨by simp, .inl ⟨rfl,rfl⟩⟩
     obtain ⟨v',w',r1,r2,r3,_,r5⟩:=run_append_own_at (P:=P) w 0 t ty e i z size bytes ht hi hz hsize hby hzs hsz (.slice none 0 0) 0 [] hown0 p m cp news hl hp h1 (by simpa [maxLen] using h63) hbytes (Nat.zero_le _)
     have hrun:(Builtin.append_ #[t,t] ty #[.slice a 0 0, .slice (some p) m cp]).run P w=(Builtin.append_ #[t,t] ty #[.slice none 0 0, .slice (some p) m cp]).run P w:=by
      cases a with
      |none=>rfl
      |some a=>
       subst hsize hby
       have hr1:=run_append_grow (P:=P) (ty:=ty) w t e i z ht hi hz a 0 0 [] (by simp) (fun j u h=>by simp at h) p m cp news hl hp (by omega) (by omega) (growslice_fits (by omega) hbytes)
       have hr2:=run_append_nil (P:=P) (ty:=ty) w t e i z ht hi hz p m cp news hl hp (by omega) (by omega) (by have hb:=hbytes;simp only [Nat.zero_add] at hb;omega)
       rw [hr1,hr2]
       simp
     refine ⟨v',w',hrun.trans r1,rh r2,⟨r3.os,r3.tape,r3.output,r3.size,fun k hk _=>r3.block k hk (by simp [Value.ownBlock])⟩,fun b hb=> .inr ?_⟩
     have hvb:v'.ownBlock=some b:=by
      rcases (rh r2).2 with ⟨⟨x,rfl⟩,_⟩ | ⟨g,cap,cur,rfl,hcc,_⟩
      · rw [fq] at hb;cases hb
      · rw [aV hcc] at hb;exact hb
     rcases r5 with r5|r5
     · rw [r5] at hvb;cases hvb
     · rw [r5] at hvb;simp only [sIE] at hvb;omega
   · have hpo: ∀ j u,xs[j]? =some u->w.cell? ((⟨g,0,none⟩:Addr).add j)=some u:=fun j u hj=>by
      have hlt:j<n*size:=by
       have:=(List.getElem?_eq_some_iff.1 hj).1
       rw [hown.1] at this
       exact this
      rw [Addr.add_lit,hg.cell,<-Array.getElem?_toList,Nat.zero_add]
      rw [<-htake,List.getElem?_take,if_pos hlt] at hj
      exact hj
     by_cases hroom:n+m<=cap
     · have hfit:n*size+news.length<=cur.size:=by
        rw [hl,<-Nat.add_mul,hcs]
        exact Nat.mul_le_mul_right _ hroom
       have hrun:=ml (P:=P) w t ty e i ht hi g n cap cur hg p m cp news (by rw [hsize];exact hl) hp h1 hroom (by rw [hsize];exact hfit)
       rw [hsize] at hrun
       have hlen:(cur.toList.take (n*size)).length=n*size:=by rw [htake];exact hown.1
       have hnew:(cur.toList.take (n*size)++news++cur.toList.drop (n*size+news.length)).toArray.size=cur.size:=by
        simp only [List.size_toArray,List.length_append,hlen,List.length_drop,Array.length_toList]
        omega
       refine ⟨_,_,hrun,⟨by rw [List.length_append,hown.1,hl,Nat.add_mul], .inr ⟨g,cap,_,rfl,hc0,hg.set hnew,hroom,hcm,hnew.trans hcs, ?_⟩⟩, ?_,fun b hb=> .inl ?_⟩
       · rw [htake]
         show (xs++news++cur.toList.drop (n*size+news.length)).take ((n+m)*size)=xs++news
         have:(n+m)*size=(xs++news).length:=by rw [List.length_append,hown.1,hl,Nat.add_mul]
         rw [this]
         exact List.take_left
       · rw [aV hc0]
         refine ⟨rfl,rfl,rfl,by simp [World.setRow],fun k hk hne=> ?_⟩
         simp only [World.setRow,Array.getElem?_modify]
         rw [if_neg (fun e=>hne (by rw [e]))]
       · rw [aV hc0] at hb ⊢
         exact hb
     · obtain ⟨v',w',r1,r2,r3⟩:=run_append_arg_grows (P:=P) w t ty e i z size bytes ht hi hz hsize hby hzs hsz ⟨g,0,none⟩ n cap xs hown.1 hpo p m cp news hl hp (by omega) (by simpa [maxLen] using h63) hbytes
       refine ⟨v',w',r1,rh r2,⟨r3.os,r3.tape,r3.output,r3.size,fun k hk _=>r3.block k hk (by simp)⟩,fun b hb=> .inr ?_⟩
       rcases r2.2 with ⟨rfl,_⟩ | ⟨g',cap',cur',rfl,hge,_⟩
       · cases hb
       · have hc':0<cap':=by
          rcases Nat.eq_zero_or_pos cap' with h|h
          · subst h;rw [fq] at hb;cases hb
          · exact h
         rw [aV hc'] at hb
         simp only [sIE] at hb
         omega
 · refine hnone ?_
   rcases Nat.eq_zero_or_pos m with h|h
   · exact h
   · exact absurd (Nat.mul_pos h hsz) h0
theorem Mf{e k n:Nat}{xs:List Value}(h:bD w e k v n xs):one v:=by
 rcases h.2 with ⟨⟨a,rfl⟩,_⟩ | ⟨g,cap,cur,rfl,_⟩<;>rfl
structure Left (c:Ctx) (w:World) (ρ:Nat->Value) (U:Nat->Prop) (m m0:Mem) (b0:Option Nat):Prop where
 blk: ∀ x∈m0,dv w ρ (ae c.F ρ m) U x.1 x.2
 key: ∀ x∈m0,U x.1
 sub: ∀ x∈m0,∀ b,hasB ρ x b->bB ρ m b∧b0≠some b
 own: ∀ b,b0=some b->bB ρ m b
 apart:m0.Pairwise (cf ρ)
 sorted:m0.Pairwise fun e e'=>e'.1<e.1
theorem vL(h:SimR c U s a w ρ):Left c w ρ U s.mem s.mem none:=
 ⟨h.mem.blk,h.mem.key,fun x hx b hb=>⟨⟨x,hx,hb⟩,fun e=>(by cases e)⟩,fun b e=>(by cases e),h.mem.apart,h.mem.sorted⟩
theorem xt(h:SimR c U s a w ρ){q:Nat}{b:Blk}(hl:af s.mem q=some b){b0:Option Nat}(hb: ∀ g,b0=some g->hasB ρ (q,b) g):Left c w ρ U s.mem (del s.mem q) b0:=
 ⟨fun x hx=>h.mem.blk x (cQ hx),fun x hx=>h.mem.key x (cQ hx),fun x hx g hg=>⟨⟨x,cQ hx,hg⟩,fun e=>(ia h.mem.apart hl x hx).2 g (hb g e) hg⟩,fun g e=>⟨_,ag hl,hb g e⟩,fZ h.mem.apart,gx h.mem.sorted⟩
theorem nd(h:SimR c U s a w ρ)(hk: ¬ U key){e k n':Nat}{f':Nat->Nat->SV}{m0:Mem}{b0:Option Nat}{v':Value}{w':World}{xs:List Value}
 (hm0:Left c w ρ U s.mem m0 b0)
 (h1: ∀ u∈xs,one u) (hxs: ∀(rw':Nat->Prop),(∀ b,b<w.heap.size->rw' b->ae c.F ρ s.mem b)-> ∀ i j u,i<n'->j<k->xs[i*k+j]? =some u->RelC w' rw' u (f' i j))
 (r2:bD w' e k v' n' xs) (r3:w.grownBy w' b0) (r5: ∀ b,av v'=some b->b0=some b∨w.heap.size<=b) (d:Option Nat):
 Sim c (aL U key) { s with tmps:=Vd.put s.tmps d (.own key),mem:=ins m0 key (.row e k n' f') } (a.put d v') w':=by
 have hkeep0:Keep (bB ρ s.mem) w w':=⟨r3.os,r3.tape,r3.output,r3.size,fun b hb hn=>r3.block b hb fun e=>hn (hm0.own b e.symm)⟩
 have hkeep:Keep (ae c.F ρ s.mem) w w':=hkeep0.mono fun _ _ h=> .inr h
 have hnew: ∀ b,av v'=some b->b<w.heap.size->bB ρ s.mem b∧b0=some b:=by
  intro b hb hlt
  rcases r5 b hb with r5|r5
  · exact ⟨hm0.own b r5,r5⟩
  · omega
 have hU0:=hm0.key
 have hM0:MemOk c.F w ρ m0 U:=⟨fun x hx=>(hm0.blk x hx).mono (hU0 x hx) (fun _ h=>h) (fun _ _=>rfl) (Keep.refl _ _) (fun b _ hb=>hb.imp id fun ⟨y,hy,hr⟩=>(hm0.sub y hy b hr).1) (fun _ _=>rfl),hU0,hm0.apart,h.mem.frg,hm0.sorted⟩
 have hrw': ∀ b,ae c.F (aQ ρ key v') (ins m0 key (.row e k n' f')) b↔ae c.F ρ m0 b∨av v'=some b:=m9 (b:= .row e k n' f') hM0 hk v' (fun _ h=>h)
 have hrwle: ∀ b,b<w.heap.size->ae c.F (aQ ρ key v') (ins m0 key (.row e k n' f')) b->ae c.F ρ s.mem b:=by
  intro b hb hr
  rcases (hrw' b).1 hr with (hr| ⟨x,hx,hr⟩) |hr
  · exact .inl hr
  · exact .inr (hm0.sub x hx b hr).1
  · exact .inr (hnew b hr hb).1
 have hrel: ∀ {u:Value} {t:SV},Rel w ρ (ae c.F ρ s.mem) U u t->Rel w' (aQ ρ key v') (ae c.F (aQ ρ key v') (ins m0 key (.row e k n' f'))) (aL U key) u t:=
  fun hu=>hu.mono (fun k hk=> .inl hk) (co hk ρ v') hkeep hrwle
 have hblk:dv w' (aQ ρ key v') (ae c.F (aQ ρ key v') (ins m0 key (.row e k n' f'))) (aL U key) key (.row e k n' f'):=
  ⟨xs,by rw [aX];exact r2,h1,hxs _ hrwle⟩
 have hmem:MemOk c.F w' (aQ ρ key v') (ins m0 key (.row e k n' f')) (aL U key):=by
  refine ⟨fun x hx=> ?_,fun x hx=> ?_,kT ?_ fun x hx=> ?_,fun b hb=>Nat.lt_of_lt_of_le (h.mem.frg b hb) r3.size,dN hm0.sorted fun x hx e'=>hk (by have:=hU0 x hx;rw [e'] at this;exact this)⟩
  · rcases fc.1 hx with rfl|hx
    · exact hblk
    · exact (hm0.blk x hx).mono (hU0 x hx) (fun k hk=> .inl hk) (co hk ρ v') hkeep hrwle fun b hb=>
       r3.block b ((hm0.blk x hx).lt hb) fun e=>(hm0.sub x hx b hb).2 e.symm
  · rcases fc.1 hx with rfl|hx
    · exact .inr rfl
    · exact .inl (hU0 x hx)
  · refine hm0.apart.imp_of_mem fun {x x'} hx hx' hap=>⟨hap.1,fun b hb hb'=> ?_⟩
    exact hap.2 b ((hM0.hasB (co hk ρ v') hx b).1 hb) ((hM0.hasB (co hk ρ v') hx' b).1 hb')
  · refine ⟨fun e'=>hk (by have:=hU0 x hx;rw [<-e'] at this;exact this),fun b hb hb'=> ?_⟩
    have hb':=(hM0.hasB (co hk ρ v') hx b).1 hb'
    rcases hb with hb|hb
    · rw [aX] at hb
      exact (hm0.sub x hx b hb').2 (hnew b hb ((hm0.blk x hx).lt hb')).2
    · exact hb
 have hown:Rel w' (aQ ρ key v') (ae c.F (aQ ρ key v') (ins m0 key (.row e k n' f'))) (aL U key) v' (.own key):=by
  have:=Rel.own (w:=w') (ρ:=aQ ρ key v') (rw:=ae c.F (aQ ρ key v') (ins m0 key (.row e k n' f'))) (N:=aL U key) key (.inr rfl) (by rw [aX];exact Mf r2)
  rwa [aX] at this
 obtain ⟨t1,t2⟩:=rq (a:=a) (w:=w') h.sz (fun t=>hrel (h.tmps t)) hown d
 refine ⟨aQ ρ key v',(Act.put_defers d v').trans h.dfr,t1,t2,h.stk.imp fun v s hv=>hrel hv,hmem, ?_,fun b hb=> ?_,h.old,h.glb⟩
 · refine h.keep.trans hkeep0 fun b hb hr=> ?_
   rcases h.sub b hr with h'|h'
   · exact h'
   · omega
 · rcases oI (b:= .row e k n' f') hM0 hk v' (fun _ h=>h) b hb with ⟨x,hx,hr⟩ |hr
   · exact h.sub b (hm0.sub x hx b hr).1
   · by_cases hlt:b<w.heap.size
     · exact h.sub b (hnew b hr hlt).1
     · exact .inr (Nat.le_trans h.keep.size (by omega))
theorem mm(h:SimR c U s a w ρ)(hk: ¬ U key){e k n':Nat}{f':Nat->Nat->SV}{m0:Mem}{b0:Option Nat}{v':Value}{w':World}{xs:List Value}
 (hm0:(m0=s.mem∧b0=none)∨ ∃ q e0 k0 n f,m0=del s.mem q∧b0=av (ρ q)∧af s.mem q=some (.row e0 k0 n f))
 (h1: ∀ u∈xs,one u) (hxs: ∀(rw':Nat->Prop),(∀ b,b<w.heap.size->rw' b->ae c.F ρ s.mem b)-> ∀ i j u,i<n'->j<k->xs[i*k+j]? =some u->RelC w' rw' u (f' i j))
 (r2:bD w' e k v' n' xs) (r3:w.grownBy w' b0) (r5: ∀ b,av v'=some b->b0=some b∨w.heap.size<=b) (d:Option Nat):
 Sim c (aL U key) { s with tmps:=Vd.put s.tmps d (.own key),mem:=ins m0 key (.row e k n' f') } (a.put d v') w':=by
 refine nd h hk ?_ h1 hxs r2 r3 r5 d
 rcases hm0 with ⟨rfl,rfl⟩ | ⟨q,e0,k0,n,f,rfl,rfl,hl⟩
 · exact vL h
 · exact xt h hl fun g hg=> .inl hg
theorem nf(h:SimR c U s a w ρ)(hk: ¬ U key){e k m:Nat}{g:Nat->Nat->SV}{m0:Mem}{v v':Value}{w':World}{n:Nat}{f:Nat->Nat->SV}{xs news:List Value}
 (hm0:Left c w ρ U s.mem m0 (av v))
 (hxs:(∀ u∈xs,one u)∧ ∀ i j u,i<n->j<k->xs[i*k+j]? =some u->RelC w (ae c.F ρ s.mem) u (f i j)) (hxl:xs.length=n*k)
 (hnews:(∀ u∈news,one u)∧ ∀ i j u,i<m->j<k->news[i*k+j]? =some u->RelC w (ae c.F ρ s.mem) u (g i j))
 (r2:bD w' e k v' (n+m) (xs++news)) (r3:w.grownBy w' (av v)) (r5: ∀ b,av v'=some b->av v=some b∨w.heap.size<=b) (d:Option Nat):
 Sim c (aL U key) { s with tmps:=Vd.put s.tmps d (.own key),mem:=ins m0 key (.row e k (n+m) (std.cat n f g)) } (a.put d v') w':=by
 have hkeep:Keep (ae c.F ρ s.mem) w w':=⟨r3.os,r3.tape,r3.output,r3.size,fun b hb hn=>r3.block b hb fun e=>hn (.inr (hm0.own b e.symm))⟩
 refine nd h hk hm0 (fun u hu=> ?_) (fun rw' hrw' i j u hi hj hu=> ?_) r2 r3 r5 d
 · rcases List.mem_append.1 hu with hu|hu
   · exact hxs.1 u hu
   · exact hnews.1 u hu
 · by_cases hin:i<n
   · have hlt:i*k+j<xs.length:=by
      have:(i+1)*k<=n*k:=Nat.mul_le_mul_right k hin
      rw [Nat.add_mul] at this
      omega
     rw [List.getElem?_append,if_pos hlt] at hu
     simp only [std,bd,bf,bw,a8,aO,aI,ba,aM,aE,hin,if_true]
     exact (hxs.2 i j u hin hj hu).mono hkeep hrw'
   · have hge:n*k<=i*k:=Nat.mul_le_mul_right k (by omega)
     rw [List.getElem?_append,if_neg (by omega),hxl,show i*k+j - n*k=(i - n)*k+j by rw [Nat.sub_mul];omega] at hu
     simp only [std,bd,bf,bw,a8,aO,aI,ba,aM,aE,hin,if_false]
     exact (hnews.2 (i - n) j u (by omega) hj hu).mono hkeep hrw'
theorem oJ(h:SimR c U s a w ρ)(hk: ¬ U key){e k m:Nat}{g:Nat->Nat->SV}{m0:Mem}{v v':Value}{w':World}{n:Nat}{f:Nat->Nat->SV}{xs news:List Value}
 (hm0:(m0=s.mem∧av v=none)∨ ∃ q,m0=del s.mem q∧v=ρ q∧af s.mem q=some (.row e k n f))
 (hxs:(∀ u∈xs,one u)∧ ∀ i j u,i<n->j<k->xs[i*k+j]? =some u->RelC w (ae c.F ρ s.mem) u (f i j)) (hxl:xs.length=n*k)
 (hnews:(∀ u∈news,one u)∧ ∀ i j u,i<m->j<k->news[i*k+j]? =some u->RelC w (ae c.F ρ s.mem) u (g i j))
 (r2:bD w' e k v' (n+m) (xs++news)) (r3:w.grownBy w' (av v)) (r5: ∀ b,av v'=some b->av v=some b∨w.heap.size<=b) (d:Option Nat):
 Sim c (aL U key) { s with tmps:=Vd.put s.tmps d (.own key),mem:=ins m0 key (.row e k (n+m) (std.cat n f g)) } (a.put d v') w':=by
 refine nf h hk ?_ hxs hxl hnews r2 r3 r5 d
 rcases hm0 with ⟨rfl,h2⟩ | ⟨q,rfl,rfl,hl⟩
 · rw [h2];exact vL h
 · exact xt h hl fun g hg=> .inl hg
end
end Go.Vd
