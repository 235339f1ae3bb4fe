/- A head that says no more than what is there. -/
import Derived.Test.YtckmnmcnelfkjaaGreatDoorVdSeq
set_option linter.unusedVariables false
set_option linter.unusedSimpArgs false
namespace Go.Vd
open Go.RowKit
variable {w:World} {r:Ren} {n:Nat} {k:Nat} {m:Mem}
section
variable {P:Program} {c:Ctx}
def ρr (r:Ren)(ρ:Nat->Value)(k:Nat):Value:=
 match cm r k with
 |some q=>ρ q
 |none=> .slice none 0 0
theorem ki(h:fR r k=none):cm r k=some k:=by simp [cm,h]
theorem jG(h:fR r k=some none):cm r k=none:=by simp [cm,h]
theorem uL{r:Ren}{n:Nat}{ρ:Nat->Value}{rw rw' U:Nat->Prop}{v:Value}{s h:SV}(hrw: ∀ b,b<w.heap.size->rw' b->rw b)
 (hr:Rel w ρ rw U v s) (hl:le0 std r n s h):Rel w (ρr r ρ) rw' (aA n) v h∧ ∀ k,cA k h->k<n:=by
 unfold le0 at hl
 split at hl
 · exact ⟨.any _,fun k hk=>hk.elim⟩
 · obtain ⟨⟨rfl,rfl⟩,hk,hn⟩:=hl
   cases hr with
   |ptr _ _ g hu he=>exact ⟨.ptr _ _ g hk (by simp only [ρr,ki hn];exact he),fun k e=>by cases e;exact hk⟩
 · rename_i k
   obtain ⟨hk,hn⟩:=hl
   cases hr
   refine ⟨?_,fun k e=>by cases e;exact hk⟩
   have:=Rel.own (w:=w) (ρ:=ρr r ρ) (rw:=rw') (N:=aA n) k hk (by simp only [ρr,jG hn];rfl)
   simpa only [ρr,jG hn] using this
 · rename_i k q
   obtain ⟨hk,hn⟩:=hl
   cases hr with
   |own _ hu h1=>
    refine ⟨?_,fun k e=>by cases e;exact hk⟩
    have:=Rel.own (w:=w) (ρ:=ρr r ρ) (rw:=rw') (N:=aA n) k hk (by simp only [ρr,hn];exact h1)
    simpa only [ρr,hn] using this
 · obtain ⟨⟨hk,hn⟩,hw,h1,h2⟩:=hl
   have h1:_=_:=h1
   have h2:_=_:=h2
   subst hw h1 h2
   cases hr with
   |part _ _ _ _ a c hk' hc h=>
    exact ⟨.part _ _ _ _ a c hk hc (by simp only [ρr,hn];exact h),fun k e=>by first|exact e.elim| (cases e;exact hk)⟩
 · rename_i m k f m' k' f'
   obtain ⟨⟨hm,rfl⟩,hff⟩:=hl
   have hm:m'=m:=hm
   subst hm
   cases hr with
   |slc a _ cp _ _ g hn hc ha hr=>
    refine ⟨.slc a m' cp k' f g hn (fun i j hi hj=> ?_) ha fun i j hi hj=> ?_,fun k hk=>hk.elim⟩
    · obtain ⟨ad,e,q1,q2,q3⟩:=hc i j hi hj
      have hb:=World.block_lt_of_cell? _ _ q1
      rw [b9] at hb
      exact ⟨ad,e,q1,q2,fun e=>q3 (hrw _ hb e)⟩
    · have he:Ceq (f' i j) (f i j):=hff i j hi hj
      exact ((hr i j hi hj).mono (Keep.refl _ _) hrw).ceq he
 · rename_i m k f
   have hm:0=m:=hl
   subst hm
   cases hr
   exact ⟨.slc _ _ _ _ _ (fun _ _=>undef) (Nat.le_refl _) (fun i j hi=>absurd hi (by omega)) (fun h=>absurd h (by omega)) (fun i j hi=>absurd hi (by omega)),fun k hk=>hk.elim⟩
 · rename_i m k f
   have hm:0=m:=hl
   subst hm
   cases hr
   exact ⟨.slc _ _ _ _ _ (fun _ _=>undef) (Nat.le_refl _) (fun i j hi=>absurd hi (by omega)) (fun h=>absurd h (by omega)) (fun i j hi=>absurd hi (by omega)),fun k hk=>hk.elim⟩
 · obtain ⟨rfl,hm⟩:=hl
   have hm:_=_:=hm
   subst hm
   cases hr
   exact ⟨.int _ _,fun k hk=>hk.elim⟩
 · have hm:_=_:=hl
   subst hm
   cases hr
   exact ⟨.bool _,fun k hk=>hk.elim⟩
 · have hm:_=_:=hl
   subst hm
   cases hr
   exact ⟨.str _,fun k hk=>hk.elim⟩
 · have hm:_=_:=hl
   subst hm
   cases hr
   exact ⟨.flt _,fun k hk=>hk.elim⟩
 · have hm:_=_:=hl.1
   have hm':_=_:=hl.2
   subst hm hm'
   cases hr
   exact ⟨.cpx _ _,fun k hk=>hk.elim⟩
 · cases hr;exact ⟨.nilp,fun k hk=>hk.elim⟩
 · cases hr;exact ⟨.nils,fun k hk=>hk.elim⟩
 · cases hr;exact ⟨.emp _,fun k hk=>hk.elim⟩
 · cases hr;exact ⟨.emp _,fun k hk=>hk.elim⟩
 · subst hl
   cases hr
   exact ⟨.val _,fun k hk=>hk.elim⟩
 · cases hr;exact ⟨.un,fun k hk=>hk.elim⟩
 · obtain ⟨rfl,hm⟩:=hl
   have hm:_=_:=hm
   subst hm
   cases hr
   exact ⟨.ifc _ _ _ (by assumption),fun k hk=>hk.elim⟩
 · obtain ⟨rfl,hm⟩:=hl
   have hm:_=_:=hm
   subst hm
   cases hr
   exact ⟨.mth _ _ _ (by assumption),fun k hk=>hk.elim⟩
 · exact hl.elim
theorem x2 : ∀ {l m:List SV},Iq std r n l m->l.length=m.length∧ ∀(i:Nat) s t,l[i]? =some s->m[i]? =some t->le0 std r n s t
 | [], [],_=>⟨rfl,fun i s t h=>by simp at h⟩
 |s::l,h::m,hl=>by
  obtain ⟨h1,h2⟩:=x2 hl.2
  refine ⟨by simp [h1],fun i x y hx hy=> ?_⟩
  cases i with
  |zero=>simp at hx hy;subst hx hy;exact hl.1
  |succ i=>exact h2 i x y (by simpa using hx) (by simpa using hy)
 | [],_::_,h=>h.elim
 |_::_, [],h=>h.elim
theorem Ca{r:Ren}{n:Nat}{ρ:Nat->Value}{rw rw' U:Nat->Prop}{v:Value}{s h:SV}(hrw: ∀ b,b<w.heap.size->rw' b->rw b)
 (hr:Rel w ρ rw U v s) (hl:le1 std r n s h):Rel w (ρr r ρ) rw' (aA n) v h:=by
 unfold le1 at hl
 split at hl
 · rename_i f m f' l
   obtain ⟨rfl,hl⟩:=hl
   cases hr with
   |clo _ cs _ hlen hh _=>
    obtain ⟨q1,q2⟩:=x2 hl
    refine .clo _ cs m (by omega) (fun i v t hv ht=> ?_) fun k ⟨t,ht,hk⟩=> ?_
    · have hi:i<l.length:=by have:=(List.getElem?_eq_some_iff.1 ht).1;omega
      exact (uL hrw (hh i v _ hv (gEE hi)) (q2 i _ t (gEE hi) ht)).1
    · obtain ⟨i,hi⟩:=List.mem_iff_getElem?.1 ht
      have hil:i<l.length:=by have:=(List.getElem?_eq_some_iff.1 hi).1;omega
      have hic:i<cs.size:=by omega
      exact (uL hrw (hh i _ _ (Array.getElem?_eq_getElem hic) (gEE hil)) (q2 i _ t (gEE hil) hi)).2 k hk
 · exact (uL hrw hr hl).1
theorem FZ(s:SV):bz (cl s)=true:=by
 unfold cl
 cases h:bz s
 · rfl
 · exact h
theorem Ceq.cl{s t:SV}(h:Ceq s t):Ceq (cl s) (cl t):=by
 cases h with
 |refl=>exact .refl _
 |slc n k f g h=>exact .slc n k f g h
 |nils k f=>exact .nils k f
 |emp k f=>exact .emp k f
theorem Pa{ρ:Nat->Value}{rw rw' U:Nat->Prop}(hrw: ∀ b,b<w.heap.size->rw' b->rw b){s h:SV}(hl:leW std r n s h):
 wid h=wid s∧((∀ k,cA k h->k<n)∧ ∀ i v,i<wid s->Rel w ρ rw U v (atR s i)->Rel w (ρr r ρ) rw' (aA n) v (atR h i)):=by
 have clr: ∀ {v:Value} {s t:SV},Ceq s t->Rel w ρ rw U v (cl s)->Rel w (ρr r ρ) rw' (aA n) v (cl t):=fun {v s t} he hv=>
  (((hv.closed (FZ s)).mono (Keep.refl _ _) hrw).ceq he.cl).rel
 have fk: ∀ {v:Value} {q j k a m i:Nat},k<n->a<n->cm r a=some j->Rel w ρ rw U v (.fkid q j m i)->Rel w (ρr r ρ) rw' (aA n) v (.fkid k a m i):=fun {v q j k a m i} hk ha hi hv=>by
  generalize hs:SV.fkid q j m i=t at hv
  cases hv with
  |fkid _ _ _ _ hkq hf hi' h1=>
   cases hs
   have e:ρr r ρ a=ρ j:=by simp only [ρr,hi]
   have:=Rel.fkid (w:=w) (ρ:=ρr r ρ) (rw:=rw') (N:=aA n) k a m i hk ha hi' (by rw [e];exact h1)
   rwa [e] at this
  |_=>cases hs
 have fk0: ∀ {v:Value} {k a m i:Nat},i<m->k<n->a<n->fR r a=some none->Rel w ρ rw U v .nils->Rel w (ρr r ρ) rw' (aA n) v (.fkid k a m i):=fun {v k a m i} him hk ha hi hv=>by
  cases hv
  have e:ρr r ρ a= .slice none 0 0:=by simp only [ρr,jG hi]
  have:=Rel.fkid (w:=w) (ρ:=ρr r ρ) (rw:=rw') (N:=aA n) k a m i hk ha him (by rw [e];rfl)
  rwa [e] at this
 have hbt: ∀ {x y:Nat},x<y->Nat.blt x y=true:=fun {x y} hxy=>Nat.ble_eq_true_of_le hxy
 unfold leW at hl
 split at hl
 · exact ⟨hl.symm,fun k hk=>hk.elim,fun i v _ _=> .any _⟩
 · obtain ⟨rfl,hr⟩:=hl
   exact ⟨rfl,fun k hk=>hk.elim,fun i v hi hv=>clr (hr i 0 hi (by omega)) hv⟩
 · obtain ⟨rfl,hr⟩:=hl
   exact ⟨rfl,fun k hk=>hk.elim,fun i v hi hv=>clr (s:= .nils) (hr i 0 hi (by omega)) hv⟩
 · obtain rfl:=hl
   exact ⟨rfl,fun k hk=>hk.elim,fun i v hi hv=>by cases hv;exact .nils⟩
 · obtain ⟨rfl,⟨h1,h2⟩,h3,h4⟩:=hl
   exact ⟨rfl,fun k hk=>by rcases hk with rfl|rfl;exact h1;exact h3,fun i v hi hv=>fk h1 h3 h4 hv⟩
 · obtain ⟨rfl,⟨h1,h2⟩,h3,h4⟩:=hl
   exact ⟨rfl,fun k hk=>by rcases hk with rfl|rfl;exact h1;exact h3,fun i v hi hv=>fk0 hi h1 h3 h4 hv⟩
 · rename_i k a m q j p m' g
   obtain ⟨⟨rfl,hp⟩,⟨h1,h2⟩,h3,h4⟩:=hl
   obtain rfl:p=m':=hp
   refine ⟨rfl,fun k hk=>by rcases hk with rfl|rfl;exact h1;exact h3,fun i v hi hv=> ?_⟩
   have hi:i<p:=hi
   simp only [atR,hbt hi,cond_true] at hv
   exact fk h1 h3 h4 hv
 · rename_i k a p m g q j p' m' g'
   obtain ⟨⟨⟨rfl,hp⟩,hr⟩,⟨h1,h2⟩,h3,h4⟩:=hl
   obtain rfl:p'=p:=hp
   refine ⟨rfl,fun k hk=>by rcases hk with rfl|rfl;exact h1;exact h3,fun i v hi hv=> ?_⟩
   simp only [atR] at hv ⊢
   cases hb:Nat.blt i p'<;>rw [hb] at hv<;>simp only [cond_true,cond_false] at hv ⊢
   · exact clr (hr i 0 hi (by omega)) hv
   · exact fk h1 h3 h4 hv
 · rename_i k a p m g m' g'
   obtain ⟨⟨⟨rfl,hp⟩,hr⟩,⟨h1,h2⟩,h3,h4⟩:=hl
   obtain rfl:0=p:=hp
   refine ⟨rfl,fun k hk=>by rcases hk with rfl|rfl;exact h1;exact h3,fun i v hi hv=> ?_⟩
   have hb:Nat.blt i 0=false:=by
    cases hb:Nat.blt i 0
    · rfl
    · exact absurd (Nat.le_of_ble_eq_true hb) (by omega)
   simp only [atR,hb,cond_false] at hv ⊢
   exact clr (hr i 0 hi (by omega)) hv
 · exact hl.elim
theorem uM{ρ:Nat->Value}{rw rw' U:Nat->Prop}(hrw: ∀ b,b<w.heap.size->rw' b->rw b): ∀ {l m:List SV},leL std r n l m->(aj m).length=(aj l).length∧(bR (aA n) m∧
 ∀ {cs:List Value},(∀(i:Nat) v s,cs[i]? =some v->(aj l)[i]? =some s->Rel w ρ rw U v s)-> ∀(i:Nat) v t,cs[i]? =some v->(aj m)[i]? =some t->Rel w (ρr r ρ) rw' (aA n) v t)
 | [], [],_=>⟨rfl,(fun s hs=>(by cases hs)),fun {cs} _ i v t _ h=>by simp [aj] at h⟩
 |s::l,h::m,hl=>by
  obtain ⟨h1,h2,h3⟩:=uM (ρ:=ρ) (U:=U) hrw hl.2
  have hE:wid h=wid s∧((aH h=true-> ∀ k,cA k h->k<n)∧ ∀ i v,i<wid s->Rel w ρ rw U v (atR s i)->Rel w (ρr r ρ) rw' (aA n) v (atR h i)):=by
   have hl1:=hl.1
   cases hb:aH s||aH h<;>rw [hb] at hl1<;>simp only [cond_true,cond_false] at hl1
   · rw [Bool.or_eq_false_iff] at hb
     refine ⟨by rw [kD hb.1,kD hb.2],fun e=>(by rw [hb.2] at e;cases e),fun i v hi hv=> ?_⟩
     rw [kF hb.1] at hv
     rw [kF hb.2]
     exact Ca hrw hv hl1
   · obtain ⟨q1,q2,q3⟩:=Pa (ρ:=ρ) (U:=U) hrw hl1
     exact ⟨q1,fun _=>q2,q3⟩
  obtain ⟨e1,e2,e3⟩:=hE
  refine ⟨by simp only [aj,List.length_append,cz,e1,h1],fun t ht hr k hk=> ?_,fun {cs} hh i v t hv ht=> ?_⟩
  · rcases List.mem_cons.1 ht with rfl|ht
    · exact e2 hr k hk
    · exact h2 t ht hr k hk
  · rw [cP,e1] at ht
    split at ht
    · rename_i hi
      simp only [sIE] at ht
      subst ht
      exact e3 i v hi (hh i v _ hv (by rw [cP,if_pos hi]))
    · rename_i hi
      refine h3 (cs:=cs.drop (wid s)) (fun k u t hu ht=> ?_) (i - wid s) v t (by rw [List.getElem?_drop,show wid s+(i - wid s)=i by omega];exact hv) ht
      rw [List.getElem?_drop] at hu
      exact hh _ u t hu (by rw [cP,if_neg (by omega),show wid s+k - wid s=k by omega];exact ht)
 | [],_::_,h=>h.elim
 |_::_, [],h=>h.elim
theorem Ms{r:Ren}{n:Nat}{ρ:Nat->Value}{rw rw' U:Nat->Prop}{v:Value}{s h:SV}(hrw: ∀ b,b<w.heap.size->rw' b->rw b)
 (hr:Rel w ρ rw U v s) (hl:le2 std r n s h):Rel w (ρr r ρ) rw' (aA n) v h:=by
 unfold le2 at hl
 split at hl
 · rename_i m l
   generalize hs:SV.agg l=s at hr
   cases hr with
   |agg cs _ hlen h1 hh hm=>
    cases hs
    obtain ⟨q1,q2,q3⟩:=uM (ρ:=ρ) (U:=U) hrw hl
    exact .agg cs m (by omega) h1 (fun i u t hu ht=>q3 (cs:=cs.toList) (by simpa using hh) i u t (by simpa using hu) ht) q2
   |_=>cases hs
 · exact Ca hrw hr hl
theorem uN{ρ:Nat->Value}{rw rw' U:Nat->Prop}(hrw: ∀ b,b<w.heap.size->rw' b->rw b): ∀ {l m:List SV},leT std r n l m->l.length=m.length∧
 ∀(i:Nat) v,Rel w ρ rw U v (ap l i)->Rel w (ρr r ρ) rw' (aA n) v (ap m i)
 | [], [],_=>⟨rfl,fun i v h=>by simp only [ap] at h ⊢;cases h;exact .un⟩
 |s::l,h::m,hl=>by
  obtain ⟨h1,h2⟩:=uN (ρ:=ρ) (U:=U) hrw hl.2
  refine ⟨by simp [h1],fun i v hv=> ?_⟩
  cases i with
  |zero=>exact Ms hrw hv hl.1
  |succ i=>exact h2 i v hv
 | [],_::_,h=>h.elim
 |_::_, [],h=>h.elim
theorem Cb{ρ:Nat->Value}{rw rw' U:Nat->Prop}(hrw: ∀ b,b<w.heap.size->rw' b->rw b): ∀ {k:List (Array Value)} {l m:List (List SV)},leS std r n l m->ka w ρ rw U k l->ka w (ρr r ρ) rw' (aA n) k m
 | [], [], [],_,_=>trivial
 |tm::k,s::l,h::m,hl,hh=>by
  obtain ⟨q1,q2⟩:=uN (ρ:=ρ) (U:=U) hrw hl.1
  exact ⟨⟨hh.1.1.trans q1,fun t=>q2 t _ (hh.1.2 t)⟩,Cb hrw hl.2 hh.2⟩
 | [], [],_::_,h,_=>h.elim
 |_::_, [],_,_,h=>h.elim
 | [],_::_,_,_,h=>h.elim
 |_::_,_::_, [],h,_=>h.elim
theorem Cc : ∀ {h:Mem},leM std r n m h-> ∀ e∈h,e.1<n∧leB std r n e.1 m e.2
 | [],_,e,he=>by cases he
 | (k,b)::h,hl,e,he=>by
   rcases List.mem_cons.1 he with rfl|he
   · exact ⟨hl.1,hl.2.1⟩
   · exact Cc hl.2.2 e he
theorem qN{q:Nat} : ∀ {m:Mem},sJ r (some q) m=true-> ∀ e∈m,cm r e.1≠some q
 | [],_,e,h=>by cases h
 | (k,b)::m,h,e,he=>by
   simp only [sJ,bAE] at h
   rcases List.mem_cons.1 he with rfl|he
   · intro hi
     simp only at hi
     rw [hi] at h
     simp at h
   · exact qN h.2 e he
theorem tE : ∀ {m:Mem},w5 r m=true->m.Pairwise fun e e'=> ∀ q,cm r e.1=some q->cm r e'.1≠some q
 | [],_=>List.Pairwise.nil
 | (k,b)::m,h=>by
   simp only [w5,bAE] at h
   refine List.pairwise_cons.2 ⟨fun e he q hq=> ?_,tE h.2⟩
   simp only at hq
   rw [hq] at h
   exact qN h.1 e he
theorem x3 : ∀ {m:Mem},ltM k m=true-> ∀ e∈m,e.1<k
 | [],_,e,h=>by cases h
 | (k',b)::m,h,e,he=>by
   simp only [ltM,bAE] at h
   rcases List.mem_cons.1 he with rfl|he
   · exact Nat.le_of_ble_eq_true h.1
   · exact x3 h.2 e he
theorem lX: ∀ {m:Mem},sK m=true->m.Pairwise fun e e'=>e'.1<e.1
 | [],_=>List.Pairwise.nil
 | (k,b)::m,h=>by
   simp only [sK,bAE] at h
   exact List.pairwise_cons.2 ⟨fun e he=>x3 h.1 e he,lX h.2⟩
theorem D2(h:sK m=true):m.Pairwise fun e e'=>e.1≠e'.1:=(lX h).imp fun h=>Nat.ne_of_gt h
theorem D3{ρ:Nat->Value}(hp:m.Pairwise (cf ρ)){k k':Nat}{b b':Blk}(h:af m k=some b)(h':af m k'=some b')(hne:k≠k'):cf ρ (k,b) (k',b'):=
 B7 hp (ag h) (ag h') fun e=>hne (by injection e)
theorem Ceq.slc_inv{n k n' k':Nat}{f g:Nat->Nat->SV}(h:Ceq (.slc n k f) (.slc n' k' g)):n=n'∧(k=k'∧ ∀ i j,i<n->j<k->Ceq (f i j) (g i j)):=by
 cases h with
 |refl=>exact ⟨rfl,rfl,fun i j _ _=> .refl _⟩
 |slc n k f g h=>exact ⟨rfl,rfl,h⟩
theorem F0{s h:St}{a:Act}(hle:DE std s h)(hs:Sim c (aA s.next) s a w):Sim c (aA h.next) h a w:=by
 obtain ⟨ρ,hs⟩:=hs
 unfold DE at hle
 generalize sI s h=r at hle
 obtain ⟨h3,h4,h4s,h5,h6⟩:=hle
 have hkey: ∀ e∈h.mem,e.1<h.next∧leB std r h.next e.1 s.mem e.2:=Cc h4
 have hkro: ∀ {key key':Nat} {K K':Kids},cm r key=some key'->cm r K.fam=some K'.fam->std.eqn K'.n K.n->(match K.hl,K'.hl,K.ow,K'.ow with
  |none,none,none,none=>True
  |none,none,some p,some p'=>std.eqn p' p
  |none,none,none,some p'=>std.eqn p' K'.n
  |_,_,_,_=>False)->K.hl=none∧(K'.hl=none∧ ∀ i,K.own i->K'.own i):=by
  intro key key' K K' h1 h2 h3 h4
  have h3:K'.n=K.n:=h3
  split at h4
  · rename_i a1 a2 a3 a4
    exact ⟨a1,a2,fun i hi=>⟨by rw [h3];exact hi.1,by rw [a2];simp,fun p hp=>by rw [a4] at hp;cases hp⟩⟩
  · rename_i p p' a1 a2 a3 a4
    have h4:p'=p:=h4
    exact ⟨a1,a2,fun i hi=>⟨by rw [h3];exact hi.1,by rw [a2];simp,fun x hx=>by rw [a4] at hx;cases hx;rw [h4];exact hi.2.2 p a3⟩⟩
  · rename_i p' a1 a2 a3 a4
    have h4:p'=K'.n:=h4
    exact ⟨a1,a2,fun i hi=>⟨by rw [h3];exact hi.1,by rw [a2];simp,fun x hx=>by rw [a4] at hx;cases hx;rw [h4,h3];exact hi.1⟩⟩
  · exact h4.elim
 have hblk: ∀ e∈h.mem,∀ b,hasB (ρr r ρ) e b-> ∃ k b',cm r e.1=some k∧af s.mem k=some b'∧hasB ρ (k,b') b:=by
  intro e he b hb
  have hB:=(hkey e he).2
  obtain ⟨key,x⟩:=e
  cases x with
  |box t cs=>
   obtain ⟨hn,hB⟩:=hB
   split at hB
   · rename_i t' c' hl
     rcases hb with hb|hb
     · simp only [ρr,ki hn] at hb
       exact ⟨key,_,ki hn,hl, .inl hb⟩
     · exact hb.elim
   · exact hB.elim
  |row el k n f=>
   simp only [leB] at hB
   rcases hb with hb|hb
   · split at hB
     · rename_i key' hn
       split at hB
       · rename_i hl
         simp only [ρr,hn] at hb
         exact ⟨key',_,hn,hl, .inl hb⟩
       · exact hB.elim
     · rename_i hn
       simp only [ρr,hn] at hb
       cases hb
   · exact hb.elim
  |krow el K=>
   simp only [leB] at hB
   split at hB
   · rename_i key' hn
     split at hB
     · rename_i e' K' hl
       obtain ⟨⟨rfl,h1,h2⟩,⟨h3,h4⟩,⟨h5,h6⟩,h7⟩:=hB
       obtain ⟨a1,a2,a3⟩:=hkro hn h6 h3 h7
       refine ⟨key',_,hn,hl, ?_⟩
       rcases hb with hb| ⟨i,hi,hb⟩
       · simp only [ρr,hn] at hb
         exact .inl hb
       · simp only [ρr,h6] at hb
         exact .inr ⟨i,a3 i hi,hb⟩
     · exact hB.elim
   · exact hB.elim
  |kids K=>
   simp only [leB] at hB
   split at hB
   · rename_i key' hn
     split at hB
     · rename_i K' hl
       obtain ⟨⟨h1,h2⟩,⟨h3,h4⟩,⟨h5,h6⟩,h7⟩:=hB
       have h3:K'.n=K.n:=h3
       refine ⟨key',_,hn,hl, ?_⟩
       split at h7
       · rename_i a1 a2 a3 a4
         rcases hb with hb| ⟨i,hi,hb⟩
         · simp only [ρr,hn] at hb
           exact .inl hb
         · simp only [ρr,h6] at hb
           exact .inr ⟨i,⟨by rw [h3];exact hi.1,by rw [a2];simp,fun p hp=>by rw [a4] at hp;cases hp⟩,hb⟩
       · exact h7.elim
     · exact hB.elim
   · rename_i hn
     obtain ⟨⟨h1,h2⟩,_,_⟩:=hB
     rcases hb with hb| ⟨i,hi,hb⟩
     · simp only [ρr,hn] at hb
       cases hb
     · simp only [ρr,jG h2] at hb
       cases hb
  |kmap t vb M=>
   simp only [leB] at hB
   split at hB
   · rename_i key' hn
     split at hB
     · rename_i t' vb' M' hl
       rcases hb with hb|hb
       · simp only [ρr,hn] at hb
         exact ⟨key',_,hn,hl, .inl hb⟩
       · exact hb.elim
     · exact hB.elim
   · exact hB.elim
 have hown: ∀ b,bB (ρr r ρ) h.mem b->bB ρ s.mem b:=by
  rintro b ⟨e,he,hb⟩
  obtain ⟨k,b',_,hl,hb'⟩:=hblk e he b hb
  exact ⟨_,ag hl,hb'⟩
 have hrw': ∀ b,b<w.heap.size->ae c.F (ρr r ρ) h.mem b->ae c.F ρ s.mem b:=fun b _ hb=>hb.imp id (hown b)
 obtain ⟨t1,t2⟩:=uN (ρ:=ρ) (U:=aA s.next) (w:=w) (rw:=ae c.F ρ s.mem) (rw':=ae c.F (ρr r ρ) h.mem) hrw' h3
 refine ⟨ρr r ρ,hs.dfr,hs.sz.trans t1,fun t=>t2 t _ (hs.tmps t),Cb hrw' h4s hs.stk,⟨fun e he=> ?_,fun e he=>(hkey e he).1, ?_,hs.mem.frg,lX h6⟩,hs.keep,fun b hb=>hs.sub b (hown b hb),hs.old,hs.glb⟩
 · have hB:=(hkey e he).2
   obtain ⟨key,x⟩:=e
   cases x with
   |box t cs=>
    obtain ⟨hn,hB⟩:=hB
    split at hB
    · rename_i t' c' hl
      obtain ⟨rfl,hle⟩:=hB
      obtain ⟨g,arr,e0,hg,hsz,hone,hrel,hm⟩:=hs.mem.blk _ (ag hl)
      simp only at e0 hg hsz hone hrel
      obtain ⟨q1,q2,q3⟩:=uM (ρ:=ρ) (U:=aA s.next) (w:=w) (rw:=ae c.F ρ s.mem) (rw':=ae c.F (ρr r ρ) h.mem) hrw' hle
      exact ⟨g,arr,by simp only [ρr,ki hn];exact e0,hg,by omega,hone,fun i v t hv ht=>q3 (cs:=arr.toList) (by simpa using hrel) i v t (by simpa using hv) ht,q2⟩
    · exact hB.elim
   |row el k n f=>
    simp only [leB] at hB
    split at hB
    · rename_i key' hn
      split at hB
      · rename_i e' k' q' f' hl
        obtain ⟨⟨rfl,rfl⟩,hq,hff⟩:=hB
        have hq:q'=n:=hq
        subst hq
        obtain ⟨xs,hown,hone,hrel⟩:=hs.mem.blk _ (ag hl)
        simp only at hown hone hrel
        refine ⟨xs,by simp only [ρr,hn];exact hown,hone,fun i j v hi hj hv=> ?_⟩
        have he:Ceq (f' i j) (f i j):=hff i j hi hj
        exact ((hrel i j v hi hj hv).mono (Keep.refl _ _) hrw').ceq he
      · exact hB.elim
    · rename_i hn
      have hq:0=n:=hB
      subst hq
      exact ⟨[],by simp only [ρr,hn];exact ⟨by simp, .inl ⟨⟨_,rfl⟩,rfl⟩⟩,(fun v hv=>by cases hv),(fun i j v hi=>absurd hi (by omega))⟩
   |krow el K=>
    simp only [leB] at hB
    split at hB
    · rename_i key' hn
      split at hB
      · rename_i e' K' hl
        obtain ⟨⟨rfl,b1,b2⟩,⟨b3,b4⟩,⟨b5,b6⟩,b7⟩:=hB
        obtain ⟨a1,a2,a3⟩:=hkro hn b6 b3 b7
        have b3:K'.n=K.n:=b3
        obtain ⟨xs,hown,hone,hK⟩:=hs.mem.blk _ (ag hl)
        simp only at hown hone hK
        have ek:ρr r ρ key=ρ key':=by simp only [ρr,hn]
        have ef:ρr r ρ K.fam=ρ K'.fam:=by simp only [ρr,b6]
        have hc: ∀ i,i<K.n->Ceq (.slc (K'.ns i) K'.k (K'.f i)) (.slc (K.ns i) K.k (K.f i)):=fun i hi=>b4 i 0 (by rw [b3];exact hi) (by omega)
        refine ⟨xs,by rw [ek,<-b3];exact hown,hone,b5,by rw [<-b3];exact hK.len,by rw [ef,<-b3];exact hK.size,fun hz i hi hp=> ?_,fun i hi=>by rw [ef];exact hK.name i (a3 i hi),fun i hi=> ?_,fun i v p h1 h2 h3 h4 h5=> ?_,fun i j hij hi hj=>by rw [ef];exact hK.apart i j hij (a3 i hi) (a3 j hj),fun i hi=>by rw [ef,ek];exact hK.outer i (a3 i hi)⟩
        · rw [ef] at hz
          have:=hK.zero hz i (by rw [b3];exact hi) (a3 i ⟨hi,by rw [a1];simp,hp⟩).2.2
          rw [<-(hc i hi).slc_inv.1]
          exact this
        · rw [ef,<-b1,<-b2]
          obtain ⟨ys,z1,z2,z3⟩:=hK.row i (a3 i hi)
          obtain ⟨c1,c2,c3⟩:=(hc i hi.1).slc_inv
          rw [<-c1]
          exact ⟨ys,z1,z2,fun x j v hx hj hv=>((z3 x j v hx hj hv).mono (Keep.refl _ _) hrw').ceq (c3 x j hx hj)⟩
        · have: ∃ p',K'.ow=some p'∧ ¬ i<p':=by
           rw [h3,a1,a2] at b7
           cases h6:K'.ow with
           |none=>rw [h6] at b7;exact b7.elim
           |some p'=>
            rw [h6] at b7
            have b7:p'=p:=b7
            exact ⟨p',rfl,by rw [b7];exact h4⟩
          obtain ⟨p',q1,q2⟩:=this
          exact ((hK.frz i v p' (by rw [b3];exact h1) (by rw [a2];simp) q1 q2 h5).mono (Keep.refl _ _) hrw').ceq (hc i h1)
      · exact hB.elim
    · exact hB.elim
   |kids K=>
    simp only [leB] at hB
    split at hB
    · rename_i key' hn
      split at hB
      · rename_i K' hl
        obtain ⟨⟨b1,b2⟩,⟨b3,b4⟩,⟨b5,b6⟩,b7⟩:=hB
        have b3:K'.n=K.n:=b3
        split at b7
        · rename_i a1 a2 a3 a4
          obtain ⟨q0,q1,xs,hone,hK⟩:=hs.mem.blk _ (ag hl)
          simp only at q0 hone hK
          have ek:ρr r ρ key=ρ key':=by simp only [ρr,hn]
          have ef:ρr r ρ K.fam=ρ K'.fam:=by simp only [ρr,b6]
          have hc: ∀ i,i<K.n->Ceq (.slc (K'.ns i) K'.k (K'.f i)) (.slc (K.ns i) K.k (K.f i)):=fun i hi=>b4 i 0 (by rw [b3];exact hi) (by omega)
          have ow': ∀ i,K.own i->K'.own i:=fun i hi=>⟨by rw [b3];exact hi.1,by rw [a2];simp,fun p hp=>by rw [a4] at hp;cases hp⟩
          refine ⟨by rw [ek];exact q0,a3,xs,hone,b5,by rw [<-b3];exact hK.len,by rw [ef,<-b3];exact hK.size,fun hz i hi hp=> ?_,fun i hi=>by rw [ef];exact hK.name i (ow' i hi),fun i hi=> ?_,(fun i v p h1 h2 h3 h4 h5=>(by rw [a3] at h3;cases h3)),(fun i j hij hi hj=>(by rw [ef];exact hK.apart i j hij (ow' i hi) (ow' j hj))),fun i hi b _ hb2=>(by cases hb2)⟩
          · rw [ef] at hz
            have:=hK.zero hz i (by rw [b3];exact hi) (fun p hp=>by rw [a4] at hp;cases hp)
            rw [<-(hc i hi).slc_inv.1]
            exact this
          · rw [ef,<-b1,<-b2]
            obtain ⟨ys,z1,z2,z3⟩:=hK.row i (ow' i hi)
            obtain ⟨c1,c2,c3⟩:=(hc i hi.1).slc_inv
            rw [<-c1]
            exact ⟨ys,z1,z2,fun x j v hx hj hv=>((z3 x j v hx hj hv).mono (Keep.refl _ _) hrw').ceq (c3 x j hx hj)⟩
        · exact b7.elim
      · exact hB.elim
    · rename_i hn
      obtain ⟨⟨b1,b2⟩,⟨b3,b4⟩,b5⟩:=hB
      have b5: ∀ i,i<K.n->K.ns i=0:=b5
      have ek:ρr r ρ key= .slice none 0 0:=by simp only [ρr,hn]
      have ef:ρr r ρ K.fam= .slice none 0 0:=by simp only [ρr,jG b2]
      refine ⟨by rw [ek];rfl,b4,List.replicate K.n (.slice none 0 0),(fun v hv=>(by rw [List.eq_of_mem_replicate hv];rfl)),b1,by simp,fun arr ha=>(by rw [ef] at ha;cases ha),fun _ i hi _=>b5 i hi,fun i hi=> ?_,fun i hi=> ?_,(fun i v p h1 h2 h3=>(by rw [b4] at h3;cases h3)),(fun i j _ _ _ b hb=>(by rw [ef] at hb;cases hb)),fun i _ b hb=>(by rw [ef] at hb;cases hb)⟩
      · rw [ef]
        simp [hi.1,bU]
      · rw [ef,b5 i hi.1]
        exact ⟨[],⟨by simp, .inl ⟨⟨_,rfl⟩,rfl⟩⟩,(fun v hv=>by cases hv),fun x j v hx=>absurd hx (by omega)⟩
   |kmap t vb M=>
    simp only [leB] at hB
    split at hB
    · rename_i key' hn
      split at hB
      · rename_i t' vb' M' hl
        obtain ⟨⟨rfl,rfl⟩,hm⟩:=hB
        have hm:M'=M:=hm
        subst hm
        obtain ⟨g,es,clock,e0,hg,hE⟩:=hs.mem.blk _ (ag hl)
        simp only at e0 hg hE
        exact ⟨g,es,clock,by simp only [ρr,hn];exact e0,hg,hE⟩
      · exact hB.elim
    · exact hB.elim
 · refine ((D2 h6).and (tE h5)).imp_of_mem fun {e e'} he he' hne=>⟨hne.1,fun b hb hb'=> ?_⟩
   obtain ⟨k,x,hi,hl,hbk⟩:=hblk e he b hb
   obtain ⟨k',x',hi',hl',hbk'⟩:=hblk e' he' b hb'
   have hkk:k≠k':=fun e=>hne.2 k hi (e▸hi')
   exact (D3 hs.mem.apart hl hl' hkk).2 b hbk hbk'
theorem jd{s h:St}{a:Act}(hle:uB std s h)(hs:Sim c (aA s.next) s a w):Sim c (aA h.next) h a w:=by
 obtain ⟨ρ,hs⟩:=hs
 refine F0 hle ⟨ρ, ?_⟩
 rw [gM]
 exact (iI _ hs).1
end
end Go.Vd
