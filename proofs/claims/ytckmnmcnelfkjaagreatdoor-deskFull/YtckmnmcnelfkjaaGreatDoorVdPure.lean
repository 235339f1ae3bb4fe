/- An operation that leaves the call's own memory alone does what the generator says. -/
import Derived.Test.YtckmnmcnelfkjaaGreatDoorVdOps
set_option linter.unusedVariables false
set_option linter.unusedSimpArgs false
namespace Go.Vd
open Go.RowKit
variable {v:Value} {m:Mem} {t:TypeId} {rw':Nat->Prop} {s:SV} {key:Nat} {ty:Ty} {f:Nat->Nat->SV} {isb:Bool} {l:List SV} {e k b:Nat} {xs:List Value} {K:Kids} {w':World} {i:Nat} {q:Nat} {G:Pu}
section
variable {P:Program} {o:Oper} {a:Act} {w:World} {ρ:Nat->Value} {rw:Nat->Prop} {N:Nat->Prop} {F:Nat->Prop}
theorem Rel.of_opt{c:Bool}(h:Rel w ρ rw N v (.opt c s))(hc:c=true):Rel w ρ rw N v s:=by
 cases h with
 |opt _ _ _ h1 _ _=>exact h1 hc
theorem Rel.of_opt'{c:Bool}(h:Rel w ρ rw N v (.opt c s))(hc:c=false):v=undef:=by
 cases h with
 |opt _ _ _ _ h0 _=>exact h0 hc
theorem Rel.flat1_any(hf:pK s=true)(h:Rel w ρ rw N v s):Rel w' ρ rw' N v s:=by
 cases h<;>first|cases hf|skip
 · exact .any _
 · exact .un
 · exact .int _ _
 · exact .bool _
 · exact .str _
 · exact .flt _
 · exact .cpx _ _
 · exact .nilp
 · exact .nils
 · exact .val _
 · exact .emp _
 · rename_i f cs l hl h hm
   cases l with
   |nil=>
    obtain rfl:cs= #[] :=Array.eq_empty_of_size_eq_zero (by simpa using hl)
    exact .clo f #[] [] rfl (fun i v s h=>by simp at h) (fun k h=>by obtain ⟨s,h,_⟩:=h;cases h)
   |cons=>cases hf
 · exact .ifc _ _ _ (by assumption)
 · exact .mth _ _ _ (by assumption)
theorem Rel.flat2_any(hf:gp s=true)(h:Rel w ρ rw N v s):Rel w' ρ rw' N v s:=by
 cases s with
 |agg l=>
  generalize hs:SV.agg l=s at h
  cases h with
  |agg cs l' hl h1 h=>
   cases hs
   simp only [gp,List.all_eq_true] at hf
   have e:aj l=l:=iX fun s hs=>by
    have:=hf s hs
    cases s<;>first|rfl|cases this
   rw [e] at hl h
   exact .agg0 _ _ hl h1 fun i v s hv hs=>(h i v s hv hs).flat1_any (hf s (List.mem_of_getElem? hs))
  |_=>cases hs
 |_=>exact h.flat1_any hf
theorem Rel.flat_any(hf:flat s=true)(h:Rel w ρ rw N v s):Rel w' ρ rw' N v s:=by
 cases s with
 |tup l=>
  generalize hs:SV.tup l=s at h
  cases h with
  |tup cs l' hl h=>
   cases hs
   simp only [flat,List.all_eq_true] at hf
   exact .tup _ _ hl fun i v s hv hs=>(h i v s hv hs).flat2_any (hf s (List.mem_of_getElem? hs))
  |_=>cases hs
 |_=>exact h.flat2_any hf
theorem qt : ∀ {l:List SV},l.all pK=true->cg key l=none
 | [],_=>rfl
 |s::l,h=>by
  simp only [List.all_cons,bAE] at h
  have h1:bC key s=none:=by cases s<;>first|rfl|cases h.1
  simp only [cg,h1,qt h.2]
theorem qu(h:gp s=true):bE key s=none:=by
 cases s with
 |agg l=>simp only [bE,qt (show l.all pK=true from h)]
 |frs=>cases h
 |_=>rfl
theorem qv : ∀ {l:List SV},l.all gp=true->cu key l=none
 | [],_=>rfl
 |s::l,h=>by
  simp only [List.all_cons,bAE] at h
  simp only [cu,qu h.1,qv h.2]
theorem m6(h:flat s=true):cV key s=(s,none):=by
 cases s with
 |tup l=>simp only [cV,qv (show l.all gp=true from h)]
 |frs=>cases h
 |agg l=>simp only [cV,qu (show gp (.agg l)=true from h)]
 |_=>rfl
theorem isC.cell{g k:Nat}{cur:Array Value}{e:TypeId}(h:isC w g cur e k)(off:Nat):w.cell? ⟨g,off,none⟩=cur[off]? :=by
 obtain ⟨mk,h,_⟩:=h
 exact cell_of_row w g _ cur e mk h
theorem isC.free{g k:Nat}{cur:Array Value}{e:TypeId}(h:isC w g cur e k){off:Nat}(ho:off<cur.size):w.frozen? ⟨g,off,none⟩=false:=by
 obtain ⟨mk,h,hm⟩:=h
 unfold World.frozen?
 rw [h]
 rcases hm with rfl| ⟨rfl,_⟩
 · simp
 · simp;omega
theorem jB(hm:MemOk F w ρ m N){q e k n:Nat}(hl:af m q=some (.row e k n f)){g n0 c0:Nat}(hρ:ρ q= .slice (some ⟨g,0,none⟩) n0 c0)(h0:0<n0):
 n0=n∧ ∀ i j,i<n->j<k-> ∃ v,w.cell? ⟨g,i*k+j,none⟩=some v∧one v∧RelC w (ae F ρ m) v (f i j):=by
 obtain ⟨xs,⟨hxl,hx⟩,h1,hr⟩:=hm.blk _ (ag hl)
 simp only at hx hr
 rcases hx with ⟨⟨a,e0⟩,_⟩ | ⟨g',cap,cur,e0,_,hg,hnc,_,hcs,htake⟩
 · rw [hρ] at e0;injection e0 with _ e1;omega
 · rw [hρ] at e0
   injection e0 with e1 e2 e3
   injection e1 with e1
   injection e1 with e1
   subst e1 e2 e3
   refine ⟨rfl,fun i j hi hj=> ?_⟩
   have hlt:i*k+j<n0*k:=by
    have:(i+1)*k<=n0*k:=Nat.mul_le_mul_right k hi
    rw [Nat.add_mul] at this
    omega
   have hx1:xs[i*k+j]? =some (xs[i*k+j]'(by omega)):=gEE (by omega)
   refine ⟨_, ?_,h1 _ (List.mem_of_getElem? hx1),hr i j _ hi hj hx1⟩
   rw [hg.cell,<-Array.getElem?_toList,<-hx1,<-htake,List.getElem?_take,if_pos hlt]
theorem i7(hm:MemOk F w ρ m N)(hrw: ∀ b,b<w.heap.size->rw' b->ae F ρ m b){v:Value}{q k lo n e n':Nat}{f:Nat->Nat->SV}(hq: ∀ b,av (ρ q)=some b-> ¬ rw' b)
 (h:Rel w ρ (ae F ρ m) N v (.part q k lo n)) (hl:af m q=some (.row e k n' f)):Rel w ρ rw' N v (.slc n k (std.shift f lo)):=by
 cases h with
 |part _ _ _ _ a c hk hn h=>
  rcases Nat.eq_zero_or_pos n with h0|h0
  · subst h0
    exact .slc _ _ _ _ _ (fun _ _=>undef) hn (fun i j hi=>absurd hi (by omega)) (fun h=>absurd h (by omega)) (fun i j hi=>absurd hi (by omega))
  · obtain ⟨g,n0,c0,hρ,hle,rfl⟩:=gV hn h h0
    obtain ⟨rfl,hc⟩:=jB hm hl hρ (by omega)
    have hcap:0<c0:=by
     obtain ⟨xs,⟨_,hx⟩,_⟩:=hm.blk _ (ag hl)
     simp only at hx
     rcases hx with ⟨⟨a,e0⟩,_⟩ | ⟨g',cap,cur,e0,hc0,_⟩
     · rw [hρ] at e0;injection e0 with _ e1;omega
     · rw [hρ] at e0;injection e0 with _ _ e3;omega
    have hb:av (ρ q)=some g:=by rw [hρ,aV hcap]
    have key: ∀ i j,i<n->j<k-> ∃ v,w.cell? ⟨g,lo*k+(i*k+j),none⟩=some v∧one v∧RelC w (ae F ρ m) v (f (lo+i) j):=fun i j hi hj=>by
     have:=hc (lo+i) j (by omega) hj
     rwa [Nat.add_mul,Nat.add_assoc] at this
    refine .slc _ _ _ _ _ (fun i j=>(w.cell? ⟨g,lo*k+(i*k+j),none⟩).getD undef) hn (fun i j hi hj=> ?_) (fun _=>⟨_,rfl,rfl⟩) (fun i j hi hj=> ?_)
    · obtain ⟨v,c1,c2,_⟩:=key i j hi hj
      refine ⟨_,rfl, ?_, ?_,fun e=>hq g hb e⟩
      · rw [Addr.add_lit,c1];rfl
      · rw [c1];exact c2
    · obtain ⟨v,c1,_,c3⟩:=key i j hi hj
      rw [c1]
      exact c3.mono (Keep.refl _ _) hrw
theorem eN(hm:MemOk F w ρ m N){q e k n:Nat}(h:Rel w ρ (ae F ρ m) N v (.own q))(hl:af m q=some (.row e k n f)):
 Rel w ρ (ae F ρ m) N v (.part q k 0 n):=by
 obtain ⟨xs,⟨_,hx⟩,_⟩:=hm.blk _ (ag hl)
 simp only at hx
 cases h with
 |own _ hk ho=>
  rcases hx with ⟨⟨a,e0⟩,rfl⟩ | ⟨g,cap,cur,e0,_,_,hnc,_⟩
  · rw [e0];exact .part _ _ _ _ _ _ hk (Nat.le_refl _) ⟨a,0,0,e0,by omega,by omega,fun h=>absurd h (by omega)⟩
  · rw [e0];exact .part _ _ _ _ _ _ hk hnc ⟨some ⟨g,0,none⟩,n,cap,e0,by omega,by omega,fun _=>⟨g,rfl,by simp⟩⟩
theorem jC{rw':Nat->Prop}{e k n:Nat}{f:Nat->Nat->SV}(h:bD w e k v n xs)(h1: ∀ u∈xs,one u)
 (hr: ∀ i j u,i<n->j<k->xs[i*k+j]? =some u->RelC w rw' u (f i j)) (hq: ∀ b,av v=some b-> ¬ rw' b):RelC w rw' v (.slc n k f):=by
 obtain ⟨hlen,h⟩:=h
 rcases h with ⟨⟨a,rfl⟩,rfl⟩ | ⟨g,cap,cur,rfl,hc0,hg,hnc,_,hcs,htake⟩
 · exact .slc _ _ _ _ _ (fun _ _=>undef) (Nat.le_refl _) (fun i j hi=>absurd hi (by omega)) (fun h=>absurd h (by omega)) (fun i j hi=>absurd hi (by omega))
 · have key: ∀ i j,i<n->j<k-> ∃ u,xs[i*k+j]? =some u∧w.cell? ⟨g,i*k+j,none⟩=some u:=fun i j hi hj=>by
    have hlt:i*k+j<n*k:=by
     have:(i+1)*k<=n*k:=Nat.mul_le_mul_right k hi
     rw [Nat.add_mul] at this
     omega
    refine ⟨xs[i*k+j]'(by omega),gEE (by omega), ?_⟩
    rw [hg.cell,<-Array.getElem?_toList,<-gEE (by omega),<-htake,List.getElem?_take,if_pos hlt]
   refine .slc _ _ _ _ _ (fun i j=>(w.cell? ⟨g,i*k+j,none⟩).getD undef) hnc (fun i j hi hj=> ?_) (fun _=>⟨_,rfl,rfl⟩) (fun i j hi hj=> ?_)
   · obtain ⟨u,c1,c2⟩:=key i j hi hj
     refine ⟨_,rfl, ?_, ?_,fun e=>hq g (aV hc0) e⟩
     · rw [Addr.add_lit,Nat.zero_add,c2];rfl
     · rw [c2];exact h1 u (List.mem_of_getElem? c1)
   · obtain ⟨u,c1,c2⟩:=key i j hi hj
     rw [c2]
     exact hr i j u hi hj c1
theorem Kids.own_or(K:Kids)(h1:i<K.n)(h2:K.hl≠some i):K.own i∨ ∃ p,K.ow=some p∧ ¬ i<p:=by
 cases ho:K.ow with
 |none=>exact .inl ⟨h1,h2,fun p h=>by rw [ho] at h;cases h⟩
 |some p=>
  by_cases hp:i<p
  · exact .inl ⟨h1,h2,fun p' h=>by rw [ho] at h;cases h;exact hp⟩
  · exact .inr ⟨p,rfl,hp⟩
theorem xp(hm:MemOk F w ρ m N)(hrw: ∀ b,b<w.heap.size->rw' b->ae F ρ m b){v:Value}{q e:Nat}(hl:af m q=some (.krow e K))(hq: ∀ b,hasB ρ (q, .krow e K) b-> ¬ rw' b)
 (hh:K.hl=none) (h:Rel w ρ (ae F ρ m) N v (.own q)):RelC w rw' v (.slc K.n 1 fun i _=> .slc (K.ns i) K.k (K.f i)):=by
 obtain ⟨xs,ho,h1,hK⟩:=hm.blk _ (ag hl)
 generalize hs:SV.own q=s at h
 cases h with
 |own _ hk _=>
  cases hs
  refine jC ho h1 (fun i j u hi hj hu=> ?_) fun b hb=>hq b (.inl hb)
  obtain rfl:j=0:=by omega
  rw [Nat.mul_one,Nat.add_zero] at hu
  rcases K.own_or hi (by rw [hh];simp) with ho'| ⟨p,hp,hip⟩
  · have:=hK.name i ho'
    rw [hu] at this
    cases this
    obtain ⟨ys,r1,r2,r3⟩:=hK.row i ho'
    exact jC r1 r2 (fun x j v hx hj hv=>(r3 x j v hx hj hv).mono (Keep.refl _ _) hrw) fun b hb=>hq b (.inr ⟨i,ho',hb⟩)
  · exact (hK.frz i u p hi (by rw [hh];simp) hp hip hu).mono (Keep.refl _ _) hrw
 |_=>cases hs
theorem bD.slice{w:World}{e k n:Nat}(h:bD w e k v n xs): ∃ a c,v= .slice a n c:=by
 rcases h.2 with ⟨⟨a,rfl⟩,rfl⟩ | ⟨g,cap,cur,rfl,_⟩
 · exact ⟨a,0,rfl⟩
 · exact ⟨_,cap,rfl⟩
theorem uH(hm:MemOk F w ρ m N){q e:Nat}(hl:af m q=some (.krow e K)):Ir (ρ K.fam) (ρ q)=some K.n:=by
 obtain ⟨xs,ho,h1,hK⟩:=hm.blk _ (ag hl)
 simp only at ho hK
 obtain ⟨a,c,e0⟩:=ho.slice
 unfold Ir
 split
 · rename_i arr ha
   rw [hK.size arr ha]
 · rename_i h2 _
   rw [e0] at h2
   cases h2
   rfl
 · rename_i h2
   exact (h2 _ _ _ e0).elim
theorem B1(hm:MemOk F w ρ m N)(hrw: ∀ b,b<w.heap.size->rw' b->ae F ρ m b){v:Value}{q e i:Nat}(hl:af m q=some (.krow e K))(hq: ∀ b,hasB ρ (q, .krow e K) b-> ¬ rw' b)
 (hh:K.hl=none) (ho:K.ow=none) (h:Rel w ρ (ae F ρ m) N v (.kid q K.fam i)):RelC w rw' v (.slc (K.ns i) K.k (K.f i)):=by
 have hlim:=uH hm hl
 obtain ⟨xs,_,h1,hK⟩:=hm.blk _ (ag hl)
 generalize hs:SV.kid q K.fam i=s at h
 cases h with
 |kid _ _ _ hk hf ho1 hi=>
  cases hs
  have hin:=hi _ hlim
  have hown:K.own i:=⟨hin,by rw [hh];simp,fun p h=>by rw [ho] at h;cases h⟩
  obtain ⟨ys,r1,r2,r3⟩:=hK.row i hown
  exact jC r1 r2 (fun x j v hx hj hv=>(r3 x j v hx hj hv).mono (Keep.refl _ _) hrw) fun b hb=>hq b (.inr ⟨i,hown,hb⟩)
 |_=>cases hs
theorem xq(hm:MemOk F w ρ m N)(hrw: ∀ b,b<w.heap.size->rw' b->ae F ρ m b){v:Value}{q i:Nat}(hl:af m q=some (.kids K))(hq: ∀ b,hasB ρ (q, .kids K) b-> ¬ rw' b)
 (hh:K.hl=none) (ho:K.ow=none) (h:Rel w ρ (ae F ρ m) N v (.fkid q K.fam K.n i)):RelC w rw' v (.slc (K.ns i) K.k (K.f i)):=by
 obtain ⟨_,_,xs,h1,hK⟩:=hm.blk _ (ag hl)
 generalize hs:SV.fkid q K.fam K.n i=s at h
 cases h with
 |fkid _ _ _ _ hk hf hi ho1=>
  cases hs
  have hown:K.own i:=⟨hi,by rw [hh];simp,fun p h=>by rw [ho] at h;cases h⟩
  obtain ⟨ys,r1,r2,r3⟩:=hK.row i hown
  exact jC r1 r2 (fun x j v hx hj hv=>(r3 x j v hx hj hv).mono (Keep.refl _ _) hrw) fun b hb=>hq b (.inr ⟨i,hown,hb⟩)
 |_=>cases hs
theorem AO{e k n:Nat}(h:bD w e k v n xs):
 ∃ ad cp,v= .slice ad n cp∧xs.length=n*k∧(0<n*k-> ∃ p,ad=some p∧ ∀ j u,xs[j]? =some u->w.cell? (p.add j)=some u):=by
 obtain ⟨hlen,h⟩:=h
 rcases h with ⟨⟨a,rfl⟩,rfl⟩ | ⟨g,cap,cur,rfl,hc0,hg,hnc,_,hcs,htake⟩
 · exact ⟨a,0,rfl,hlen,fun h=>absurd h (by simp)⟩
 · refine ⟨_,cap,rfl,hlen,fun _=>⟨_,rfl,fun j u hu=> ?_⟩⟩
   have hj:j<n*k:=by rw [<-hlen];exact (List.getElem?_eq_some_iff.1 hu).1
   rw [Addr.add_lit,Nat.zero_add,hg.cell,<-Array.getElem?_toList,<-hu,<-htake,List.getElem?_take,if_pos hj]
theorem DF(hm:MemOk F w ρ m N){v:Value}{q i:Nat}(hl:af m q=some (.kids K))
 (hh:K.hl=none) (ho:K.ow=none) (h:Rel w ρ (ae F ρ m) N v (.fkid q K.fam K.n i)): ∃ ys,bD w K.e K.k v (K.ns i) ys∧(∀ u∈ys,one u)∧ ∀ x j u,x<K.ns i->j<K.k->ys[x*K.k+j]? =some u->RelC w (ae F ρ m) u (K.f i x j):=by
 obtain ⟨_,_,xs,h1,hK⟩:=hm.blk _ (ag hl)
 generalize hs:SV.fkid q K.fam K.n i=s at h
 cases h with
 |fkid _ _ _ _ hk hf hi ho1=>
  cases hs
  exact hK.row i ⟨hi,by rw [hh];simp,fun p h=>by rw [ho] at h;cases h⟩
 |_=>cases hs
theorem hZ(hm:MemOk F w ρ m N)(h:Rel w ρ (ae F ρ m) N v s):Rel w ρ (fun _=>False) N v (aZ std m s):=by
 have h0:Rel w ρ (fun _=>False) N v s:=h.mono (fun _ h=>h) (fun _ _=>rfl) (Keep.refl _ _) fun _ _ e=>e.elim
 cases s with
 |own q=>
  simp only [aZ]
  cases hl:af m q with
  |none=>exact .any _
  |some b=>
   cases b with
   |box=>exact .any _
   |kmap=>exact .any _
   |kids=>exact .any _
   |row e k n f=>
    have:=i7 hm (rw':=fun _=>False) (fun _ _ e=>e.elim) (fun _ _ e=>e) (eN hm h hl) hl
    have e0:std.shift f 0=f:=by funext i j;simp [std,bd,bf,bw,a8,aO,aI,ba,aM,aE]
    rwa [e0] at this
   |krow e K=>
    simp only
    cases hh:K.hl with
    |some _=>exact .any _
    |none=>exact (xp hm (fun _ _ e=>e.elim) hl (fun _ _ e=>e) hh h).rel
 |kid q j i=>
  simp only [aZ]
  cases hl:af m q with
  |none=>exact .any _
  |some b=>
   cases b with
   |box=>exact .any _
   |kmap=>exact .any _
   |row=>exact .any _
   |kids=>exact .any _
   |krow e K=>
    simp only
    split
    · rename_i hh ho hf
      obtain rfl:=nQE hf
      exact (B1 hm (fun _ _ e=>e.elim) hl (fun _ _ e=>e) hh ho h).rel
    · exact .any _
 |part q k lo n=>
  simp only [aZ]
  cases hl:af m q with
  |none=>exact .any _
  |some b=>
   cases b with
   |box=>exact .any _
   |kmap=>exact .any _
   |krow=>exact .any _
   |kids=>exact .any _
   |row e k' n' f=>
    simp only
    cases hb:Nat.beq k k'
    · exact .any _
    · obtain rfl:=nQE hb
      exact i7 hm (fun _ _ e=>e.elim) (fun _ _ e=>e) h hl
 |nils=>
  cases h
  exact .slc _ _ _ _ _ (fun _ _=>undef) (Nat.le_refl _) (fun i j hi=>absurd hi (by omega)) (fun h=>absurd h (by omega)) (fun i j hi=>absurd hi (by omega))
 |emp=>
  cases h
  exact .slc _ _ _ _ _ (fun _ _=>undef) (Nat.le_refl _) (fun i j hi=>absurd hi (by omega)) (fun h=>absurd h (by omega)) (fun i j hi=>absurd hi (by omega))
 |fkid q j n i=>
  simp only [aZ]
  cases hl:af m q with
  |none=>exact .any _
  |some b=>
   cases b with
   |box=>exact .any _
   |kmap=>exact .any _
   |row=>exact .any _
   |krow=>exact .any _
   |kids K=>
    simp only
    split
    · rename_i hh ho hf
      rw [bAE] at hf
      obtain rfl:=nQE hf.1
      obtain rfl:=nQE hf.2
      exact (xq hm (fun _ _ e=>e.elim) hl (fun _ _ e=>e) hh ho h).rel
    · exact .any _
 |nrun=>cases h
 |krun=>cases h
 |mrun=>cases h
 |_=>exact h0
theorem jD(h:j4 s=false){rw:Nat->Prop}(hr:Rel w ρ rw N v s):Rel w ρ rw N v (aZ std m s):=by
 cases s with
 |own=>cases h
 |part=>cases h
 |kid=>cases h
 |fkid=>cases h
 |nrun=>cases hr
 |krun=>cases hr
 |mrun=>cases hr
 |nils=>
  cases hr
  exact .slc _ _ _ _ _ (fun _ _=>undef) (Nat.le_refl _) (fun i j hi=>absurd hi (by omega)) (fun h=>absurd h (by omega)) (fun i j hi=>absurd hi (by omega))
 |emp=>
  cases hr
  exact .slc _ _ _ _ _ (fun _ _=>undef) (Nat.le_refl _) (fun i j hi=>absurd hi (by omega)) (fun h=>absurd h (by omega)) (fun i j hi=>absurd hi (by omega))
 |_=>exact hr
theorem Rel.noClaim1(h:Rel w ρ rw N v s):bC key s=none:=by cases h<;>rfl
theorem oD : ∀ {l:List SV},(∀ s∈l,bC key s=none)->cg key l=none
 | [],_=>rfl
 |s::l,h=>by simp only [cg,h s (List.mem_cons_self ..),oD fun t ht=>h t (List.mem_cons_of_mem _ ht)]
theorem Rel.noClaim2(h:Rel w ρ rw N v s):bE key s=none:=by
 cases h<;>first|rfl|skip
 rename_i cs l hl h1 h hm
 have e: ∀ s∈l,bC key s=none:=fun s hs=>by
  cases hr:aH s
  · obtain ⟨i,hi⟩:=List.mem_iff_getElem?.1 (oA hs hr)
    have hlt:i<cs.size:=by rw [hl];exact (List.getElem?_eq_some_iff.1 hi).1
    exact (h i _ s (Array.getElem?_eq_getElem hlt) hi).noClaim1
  · cases s<;>first|rfl|cases hr
 simp only [bE,oD e]
theorem qw : ∀ {cs:List Value} {l:List SV},cs.length=l.length->(∀(i:Nat) v s,cs[i]? =some v->l[i]? =some s->Rel w ρ rw N v s)->cu key l=none
 | [], [],_,_=>rfl
 |v::cs,s::l,hl,h=>by
  simp only [cu,(h 0 v s rfl rfl).noClaim2,qw (cs:=cs) (l:=l) (by simpa using hl) fun i v s hv hs=>h (i+1) v s (by simpa using hv) (by simpa using hs)]
 | [],_::_,hl,_=>by simp at hl
 |_::_, [],hl,_=>by simp at hl
theorem Rel.noClaim(h:Rel w ρ rw N v s):cV key s=(s,none):=by
 have h2:=h.noClaim2 (key:=key)
 cases h with
 |tup cs l hl h=>simp only [cV,qw (key:=key) (cs:=cs.toList) (l:=l) (by simpa using hl) (by simpa using h)]
 |_=>simp only [cV,h2]
theorem i6.of_rel{w0:World}(h:Rel w ρ rw N v s):i6 w0 w ρ rw N v s:=fun key _=>by
 rw [h.noClaim]
 exact h
theorem sU(m:Mem): ∀ l:List SV,eW std m l=l.map (aZ std m)
 | [] =>rfl
 |_::l=>by simp [eW,sU m l]
theorem oE(m:Mem)(s:SV):wid (aZ std m s)=wid s:=by
 cases s<;>simp only [aZ]<;>(repeat' split)<;>first|rfl| (cases Nat.beq _ _<;>rfl)
theorem m7(m:Mem)(q j n:Nat):(∃(ns:Nat->Nat) (k:Nat) (f:Nat->Nat->Nat->SV),aZ std m (.krun q j n)= .run n (fun i _=> .slc (ns i) k (f i))∧ ∀ i,aZ std m (.fkid q j n i)= .slc (ns i) k (f i))∨aZ std m (.krun q j n)= .arun n:=by
 simp only [aZ]
 split
 · rename_i K hl
   split
   · exact .inl ⟨K.ns,K.k,K.f,rfl,fun _=>rfl⟩
   · exact .inr rfl
 · exact .inr rfl
theorem oF(h:aH s=false):aH (aZ std m s)=false:=by
 cases s<;>first| (cases h;done) | (simp only [aZ]<;>(repeat' split)<;>first|rfl| (cases Nat.beq _ _<;>rfl))
theorem kF(h:aH s=false)(i:Nat):atR s i=s:=by cases s<;>first| (cases h;done) |rfl
theorem Iv{R R':Value->SV->Prop}(hd: ∀ v t,R v t->(s=t∨t= .nils∨j4 s=true)->R' v (aZ std m t))(h0: ∀ v t,bz t=true->R v t->R' v t)(ha: ∀ v,R' v .any)(h:R v (atR s i)):R' v (atR (aZ std m s) i):=by
 cases hr:aH s
 · rw [kF hr] at h
   rw [kF (oF hr)]
   exact hd v s h (.inl rfl)
 · cases s<;>first| (cases hr;done) |skip
   · rename_i n g
     refine h0 _ _ ?_ h
     simp only [aZ,atR,cl]
     cases hc:bz (g i 0)
     · rfl
     · exact hc
   · have:=hd v _ h (.inr (.inl rfl))
     exact this
   · exact ha v
   · rename_i q j n
     have:=hd v _ h (.inr (.inr rfl))
     rcases m7 m q j n with ⟨ns,k,f,e1,e2⟩ |e1
     · rw [show atR (SV.krun q j n) i= .fkid q j n i from rfl,e2 i] at this
       rw [e1]
       exact this
     · rw [e1];exact ha v
   · exact ha v
theorem sV(hr:aH (aZ std m s)=true)(k:Nat): ¬ cA k (aZ std m s):=by
 cases h:aH s
 · rw [oF h] at hr;cases hr
 · cases s<;>first| (cases h;done) |exact fun h=>h|skip
   rename_i q j n
   rcases m7 m q j n with ⟨ns,kk,f,e1,_⟩ |e1<;>rw [e1]<;>exact fun h=>h
theorem jq :bR N (eW std m l):=fun s hs hr k hk=>by
 rw [sU] at hs
 obtain ⟨t,_,rfl⟩:=List.mem_map.1 hs
 exact (sV hr k hk).elim
theorem iz(m:Mem): ∀ l:List SV,(aj (eW std m l)).length=(aj l).length
 | [] =>rfl
 |s::l=>by simp only [eW,aj,List.length_append,cz,oE,iz m l]
theorem iA{R R':Value->SV->Prop}(h0: ∀ v t,bz t=true->R v t->R' v t)(ha: ∀ v,R' v .any): ∀ {l:List SV} (_: ∀ v t,∀ s∈l,R v t->(s=t∨t= .nils∨j4 s=true)->R' v (aZ std m t)) {cs:List Value},
 (∀(i:Nat) v t,cs[i]? =some v->(aj l)[i]? =some t->R v t)-> ∀(i:Nat) v t,cs[i]? =some v->(aj (eW std m l))[i]? =some t->R' v t
 | [],_,cs,_,i,v,t,_,ht=>by simp [eW,aj] at ht
 |s::l,hd,cs,h,i,v,t,hv,ht=>by
  simp only [eW] at ht
  rw [cP,oE] at ht
  split at ht
  · rename_i hi
    simp only [sIE] at ht
    subst ht
    exact Iv (fun v t hr he=>hd v t s (List.mem_cons_self ..) hr he) h0 ha (h i v _ hv (by rw [cP,if_pos hi]))
  · rename_i hi
    refine iA h0 ha (fun v t s' hs'=>hd v t s' (List.mem_cons_of_mem _ hs')) (cs:=cs.drop (wid s)) (fun k u t hu ht=> ?_) (i - wid s) v t (by rw [List.getElem?_drop,show wid s+(i - wid s)=i by omega];exact hv) ht
    rw [List.getElem?_drop] at hu
    exact h _ u t hu (by rw [cP,if_neg (by omega),show wid s+k - wid s=k by omega];exact ht)
theorem kR(hd: ∀ v s,Rel w ρ (ae F ρ m) N v s->s∈([] :List SV)∨True->Rel w ρ rw' N v (aZ std m s))
 (h0: ∀ v s,Rel w ρ (ae F ρ m) N v s->Rel w ρ rw' N v s): ∀(xs:List Operand) (e:Operand->SV),(∀ x∈xs,Rel w ρ (ae F ρ m) N (a.eval x) (e x))->
   bp (Rel w ρ rw' N) (xs.map a.eval) (bK std m (bu e xs))
 | [],_,_=>trivial
 |x::xs,e,h=>by
  have ih:=kR hd h0 xs e fun y hy=>h y (List.mem_cons_of_mem _ hy)
  have hx:=h x (List.mem_cons_self ..)
  simp only [bu,List.map_cons]
  cases hs:e x with
  |agg l=>
   rw [hs] at hx
   generalize hss:SV.agg l=s at hx
   generalize a.eval x=vx at hx ⊢
   cases hx with
   |agg cs l' hl h1 hh=>
    cases hss
    exact ⟨.agg _ _ (by rw [hl,iz]) h1 (fun i v s hv hs'=>iA (R:=Rel w ρ (ae F ρ m) N) (cs:=cs.toList) (fun v t _ h=>h0 v t h) (fun v=> .any v) (fun v t s _ hr _=>hd v t hr (.inr trivial)) (by simpa using hh) i v s (by simpa using hv) hs') jq,ih⟩
   |_=>cases hss
  |_=>exact ⟨hd _ _ (by rw [hs] at hx;exact hx) (.inr trivial),ih⟩
theorem gE{m:Mem} : ∀(xs:List Operand) (e:Operand->SV),b8 (bu e xs)=false->(∀ x∈xs,Rel w ρ rw N (a.eval x) (e x))->
 bp (Rel w ρ rw N) (xs.map a.eval) (bK std m (bu e xs))
 | [],_,_,_=>trivial
 |x::xs,e,ho,h=>by
  have hx:=h x (List.mem_cons_self ..)
  simp only [bu,List.map_cons] at ho ⊢
  cases hs:e x with
  |agg l=>
   rw [hs] at hx ho
   simp only [b8,Bool.or_eq_false_iff] at ho
   have ih:=gE (m:=m) xs e ho.2 fun y hy=>h y (List.mem_cons_of_mem _ hy)
   generalize hss:SV.agg l=s at hx
   generalize a.eval x=vx at hx ⊢
   cases hx with
   |agg cs l' hl h1 hh=>
    cases hss
    refine ⟨.agg _ _ (by rw [hl,iz]) h1 (fun i v s hv hs'=>iA (R:=Rel w ρ rw N) (cs:=cs.toList) (fun v t _ h=>h) (fun v=> .any v) (fun v t s hs hr he=> ?_) (by simpa using hh) i v s (by simpa using hv) hs') jq,ih⟩
    have hno:j4 s=false:=by have:=List.any_eq_false.1 ho.1 s hs;simpa using this
    refine jD ?_ hr
    rcases he with rfl|rfl|he
    · exact hno
    · rfl
    · rw [hno] at he;cases he
   |_=>cases hss
  |_=>
   rw [hs] at hx ho
   simp only [b8,Bool.or_eq_false_iff] at ho
   exact ⟨jD ho.1 hx,gE (m:=m) xs e ho.2 fun y hy=>h y (List.mem_cons_of_mem _ hy)⟩
theorem iB{f:FuncId}(hc:dk P f)(args:Array Value)(w:World):(callFunc f args).run P w= .ok (.enter f args) w:=by
 obtain ⟨fn,h1,h2,h3⟩:=hc
 unfold callFunc
 simp only [Sem.run_bind,program,Sem.run,Result.andThen,h1,h3,h2,Bool.false_eq_true,if_false,Sem.run_pure]
def gu:Op->Bool
 | .call { callee:= .value (.func _), .. } =>false
 |_=>true
theorem Me{f:FuncId}{args:Array Operand}{ts:Array TypeId}(ho:o.op= .call { callee:= .value (.func f),args:=args,argTypes:=ts })(hc:dk P f)
 {K:Act->World->Prop} {Q:Exit->Act->World->Prop} (h:Calls P f (args.toList.map a.eval).toArray w fun e w'=> ∃ v,e= .returned v∧K (a.put o.dst v) w'):o.wp P a w K Q:=by
 have hrun:(execOp a.eval o).run P w= .ok (.enter f (args.toList.map a.eval).toArray) w:=by
  have e1:(args.toList.map a.eval).toArray=args.map a.eval:=by rw [<-Array.toList_map,Array.toArray_toList]
  have e2:a.eval (.func f)= .func (.func f) #[] #[] :=rfl
  rw [e1]
  simp only [execOp,ho,resolve,e2,Deferred.ofValue,Sem.run_bind,Sem.run_pure,Result.andThen_ok,invoke]
  have e3: #[] ++args.map a.eval++ #[] =args.map a.eval:=by simp
  rw [e3,iB hc]
 unfold Oper.wp
 rw [hrun,Oper.upon_enter]
 exact h.mono fun e w' ⟨v,he,hk⟩=>by subst he;exact hk
theorem DG{gl:Nat->SV}(hG:az P gl G)(hfr: ∃ key,¬ N key)(hm:MemOk F w ρ m N)(hgl:iv gl w (ae F ρ m)){f:FuncId}{args:Array Operand}{ts:Array TypeId}
 (ho:o.op= .call { callee:= .value (.func f),args:=args,argTypes:=ts }) {e:Operand->SV} (he: ∀ x∈args.toList,Rel w ρ (ae F ρ m) N (a.eval x) (e x)) {p:Option Prop} {r:SV}
 (h:G f (bK std m (bu e args.toList))=some (p,r)) (hb:(!b8 (bu e args.toList) ||flat r)=true) (hp:aK p)
 {K:Act->World->Prop} {Q:Exit->Act->World->Prop} (hK: ∀ v w',Ext w w'->i6 w w' ρ (ae F ρ m) N v r->(gu o.op=true->Rel w' ρ (ae F ρ m) N v r)->K (a.put o.dst v) w'):o.wp P a w K Q:=by
 obtain ⟨hcal,hgood⟩:=hG _ _ _ _ h hp
 refine Me ho hcal ?_
 cases hown:b8 (bu e args.toList) with
 |false=>
  have:=hgood w ρ (ae F ρ m) N (args.toList.map a.eval) hfr (fun b hb=>hm.lt hb) hgl (gE _ _ hown he)
  exact this.mono fun e w' ⟨v,h1,h2,h3⟩=>⟨v,h1,hK v w' h2 h3 (by rw [ho];intro e;cases e)⟩
 |true=>
  rw [hown] at hb
  simp only [Bool.not_true,Bool.false_or] at hb
  have:=hgood w ρ (fun _=>False) N (args.toList.map a.eval) hfr (fun b hb=>hb.elim) (hgl.mono (Keep.refl _ _) fun _ _ e=>e.elim) (kR (m:=m) (fun v s hv _=>hZ hm hv) (fun v s hv=>hv.mono (fun _ h=>h) (fun _ _=>rfl) (Keep.refl _ _) fun _ _ e=>e.elim) _ _ he)
  refine this.mono fun e w' ⟨v,h1,h2,h3⟩=>⟨v,h1,hK v w' h2 ?_ (by rw [ho];intro e;cases e)⟩
  refine .of_rel ?_
  obtain ⟨key,hkey⟩:=hfr
  have h4:=h3 key hkey
  rw [m6 hb] at h4
  exact h4.flat_any hb
theorem Iw{f:FuncId}{x:Operand}{args:Array Operand}{ts:Array TypeId}(ho:o.op= .call { callee:= .value x,args:=args,argTypes:=ts })(hc:dk P f)(hx:a.eval x= .func (.func f) #[] #[])
 {K:Act->World->Prop} {Q:Exit->Act->World->Prop} (h:Calls P f (args.toList.map a.eval).toArray w fun e w'=> ∃ v,e= .returned v∧K (a.put o.dst v) w'):o.wp P a w K Q:=by
 have hrun:(execOp a.eval o).run P w= .ok (.enter f (args.toList.map a.eval).toArray) w:=by
  have e1:(args.toList.map a.eval).toArray=args.map a.eval:=by rw [<-Array.toList_map,Array.toArray_toList]
  rw [e1]
  simp only [execOp,ho,resolve,hx,Deferred.ofValue,Sem.run_bind,Sem.run_pure,Result.andThen_ok,invoke]
  have e3: #[] ++args.map a.eval++ #[] =args.map a.eval:=by simp
  rw [e3,iB hc]
 unfold Oper.wp
 rw [hrun,Oper.upon_enter]
 exact h.mono fun e w' ⟨v,he,hk⟩=>by subst he;exact hk
theorem AP{gl:Nat->SV}(hG:az P gl G)(hfr: ∃ key,¬ N key)(hm:MemOk F w ρ m N)(hgl:iv gl w (ae F ρ m)){f:FuncId}{x:Operand}{args:Array Operand}{ts:Array TypeId}
 (ho:o.op= .call { callee:= .value x,args:=args,argTypes:=ts }) (hx:Rel w ρ (ae F ρ m) N (a.eval x) (.clo f [])) {e:Operand->SV} (he: ∀ x∈args.toList,Rel w ρ (ae F ρ m) N (a.eval x) (e x)) {p:Option Prop} {r:SV}
 (h:G f (bK std m (bu e args.toList))=some (p,r)) (hb:flat r=true) (hp:aK p)
 {K:Act->World->Prop} {Q:Exit->Act->World->Prop} (hK: ∀ v w',Ext w w'->i6 w w' ρ (ae F ρ m) N v r->(gu o.op=true->Rel w' ρ (ae F ρ m) N v r)->K (a.put o.dst v) w'):o.wp P a w K Q:=by
 obtain ⟨hcal,hgood⟩:=hG _ _ _ _ h hp
 have hxe:a.eval x= .func (.func f) #[] #[] :=by
  generalize a.eval x=xv at hx
  cases hx with
  |clo _ cs _ hl hh _=>
   have:cs= #[] :=by
    apply Array.eq_empty_of_size_eq_zero
    simpa using hl
   rw [this]
 refine Iw ho hcal hxe ?_
 have:=hgood w ρ (fun _=>False) N (args.toList.map a.eval) hfr (fun b hb=>hb.elim) (hgl.mono (Keep.refl _ _) fun _ _ e=>e.elim) (kR (m:=m) (fun v s hv _=>hZ hm hv) (fun v s hv=>hv.mono (fun _ h=>h) (fun _ _=>rfl) (Keep.refl _ _) fun _ _ e=>e.elim) _ _ he)
 refine this.mono fun e w' ⟨v,h1,h2,h3⟩=> ?_
 obtain ⟨key,hkey⟩:=hfr
 have h4:=h3 key hkey
 rw [m6 hb] at h4
 have h5:Rel w' ρ (ae F ρ m) N v r:=h4.flat_any hb
 exact ⟨v,h1,hK v w' h2 (.of_rel h5) fun _=>h5⟩
theorem pT{K:Act->World->Prop}{Q:Exit->Act->World->Prop}{s:Sem Value}(hs:execOp a.eval o=(do pure (.value (<-s)))){r:SV}
 (h: ∃ z w',s.run P w= .ok z w'∧Ext w w'∧Rel w' ρ rw N z r) (hK: ∀ v w',Ext w w'->i6 w w' ρ rw N v r->(gu o.op=true->Rel w' ρ rw N v r)->K (a.put o.dst v) w'):o.wp P a w K Q:=by
 obtain ⟨z,w',h1,h2,h3⟩:=h
 exact aU (by rw [hs,Sem.run_bind,h1];rfl) (hK z w' h2 (.of_rel h3) fun _=>h3)
theorem aG{K:Act->World->Prop}{Q:Exit->Act->World->Prop}{s:Sem Value}(hs:execOp a.eval o=(do pure (.value (<-s)))){r:SV}
 (h: ∃ z,s.run P w= .ok z w∧Rel w ρ rw N z r) (hK: ∀ v w',Ext w w'->i6 w w' ρ rw N v r->(gu o.op=true->Rel w' ρ rw N v r)->K (a.put o.dst v) w'):o.wp P a w K Q:=by
 obtain ⟨z,h1,h3⟩:=h
 exact pT hs ⟨z,w,h1,Keep.refl _ _,h3⟩ hK
theorem jV{t e:TypeId}{ty te:Ty}{n k:Nat}(ht:aB P t ty)(htag:ty.tag= .array n e k)(hte:aB P e te)(hsz:te.size=k)(hx:Rel w ρ rw N v (.agg l)){q:IntKind}{aa:Nat}(ha:aa<n)(hfl:aj l=l)(hl:aa*k+k<=l.length):
 ∃ z,(Instr.index t v (.int q (Int.ofNat aa))).run P w= .ok z w∧Rel w ρ rw N z (bif te.agg then .agg ((l.drop (aa*k)).take k) else ap l (aa*k)):=by
 obtain ⟨_,d,_,_,hd,_,_,_,_,_,_,_,_,hT⟩:=ht
 rw [htag] at hT
 obtain ⟨rfl,i,hi,hsi⟩:=hT
 obtain ⟨i',d',_,hi',hd',hs',hpos,hagg,h1,_⟩:=hte
 rw [hi] at hi'
 cases hi'
 cases hx with
 |agg cs _ hcl h1c hr=>
  rw [hfl] at hcl hr
  have e0:(Instr.index t (.agg cs) (.int q (Int.ofNat aa))).run P w=(part e cs (aa*k)).run P w:=by
   simp [Instr.index,asIntOf,run_underlying hd w,ha,aW hi w,hsi,go_sem]
  rw [e0]
  cases hb:te.agg
  · have hk1:k=1:=by rw [<-hsz];exact h1 hb
    have hlt:aa*k<cs.size:=by omega
    refine ⟨cs[aa*k], ?_, ?_⟩
    · simp [part,fY hd' w,hagg,hb,hlt,go_sem]
    · simp only [cond_false]
      rw [bW,gEE (by omega)]
      exact hr _ _ _ (Array.getElem?_eq_getElem hlt) (gEE (by omega))
  · refine ⟨.agg (cs.extract (aa*k) (aa*k+k)), ?_, ?_⟩
    · simp [part,fY hd' w,hagg,hb,aW hi w,hsi,go_sem]
    · simp only [cond_true]
      refine .agg0 _ _ (by simp;omega) (fun v hv=>h1c v ?_) fun j v s hv hs=> ?_
      · rw [Array.toList_extract,List.extract_eq_take_drop] at hv
        exact List.mem_of_mem_drop (List.mem_of_mem_take hv)
      · rw [List.getElem?_take] at hs
        split at hs
        · rename_i hj
          rw [List.getElem?_drop] at hs
          rw [Array.getElem?_extract] at hv
          split at hv
          · exact hr _ _ _ hv hs
          · cases hv
        · cases hs
theorem vJ{t u:TypeId}{ty tu:Ty}{places:List (Nat×Nat)}{eqs:Bool}(ht:aB P t ty)(htag:ty.tag= .struct places eqs){fs:Array Field}{f:Field}(hu:P.underlying t=some (.struct fs))(hf:fs[i]? =some f)(hft:f.type=u)
 (htu:aB P u tu) {oo sz:Nat} (hn:nth places i=some (oo,sz)) (hsz:tu.size=sz) {v:Value} {l:List SV} (hx:Rel w ρ rw N v (.agg l)) (hl:oo+sz<=bq l):
 ∃ z,(Instr.field t v i).run P w= .ok z w∧Rel w ρ rw N z (bif tu.agg then .agg (fm l oo sz) else od l oo):=by
 rw [cO] at hl
 obtain ⟨_,d,_,_,hd,_,_,_,_,_,_,_,_,hT⟩:=ht
 rw [htag] at hT
 obtain ⟨_,fs',rfl,_,hpl⟩:=hT
 rw [hd] at hu
 obtain rfl:fs'=fs:=by cases hu;rfl
 have h5:=hpl i
 rw [hn,hf] at h5
 obtain ⟨i',d',_,hi',hd',hs',hpos,hagg,h1,_⟩:=htu
 subst hft
 simp only [Option.bind_some,hi',Option.map_some,sIE,pIE] at h5
 obtain ⟨ho,hsj⟩:=h5
 cases hx with
 |agg cs _ hcl h1c hr hrm=>
  have e0:(Instr.field t (.agg cs) i).run P w=(part f.type cs oo).run P w:=by
   simp [Instr.field,Sem.run_bind,run_underlying hd w,Result.andThen,hf,asAgg,ho,go_sem]
  rw [e0]
  cases hb:tu.agg
  · have hk1:sz=1:=by rw [<-hsz];exact h1 hb
    have hlt:oo<cs.size:=by omega
    refine ⟨cs[oo], ?_, ?_⟩
    · simp [part,fY hd' w,hagg,hb,hlt,go_sem]
    · simp only [cond_false]
      rw [pQ,gEE (by omega)]
      exact hr _ _ _ (Array.getElem?_eq_getElem hlt) (gEE (by omega))
  · refine ⟨.agg (cs.extract oo (oo+sz)), ?_, ?_⟩
    · simp [part,fY hd' w,hagg,hb,aW hi' w,<-hsj,go_sem]
    · simp only [cond_true]
      refine .agg _ _ (by rw [fW];simp;omega) (fun v hv=>h1c v ?_) (fun j v s hv hs=> ?_) (hrm.take _ _)
      · rw [Array.toList_extract,List.extract_eq_take_drop] at hv
        exact List.mem_of_mem_drop (List.mem_of_mem_take hv)
      · rw [fW,List.getElem?_take] at hs
        split at hs
        · rename_i hj
          rw [List.getElem?_drop] at hs
          rw [Array.getElem?_extract] at hv
          split at hv
          · exact hr _ _ _ hv hs
          · cases hv
        · cases hs
theorem vK{b:Nat} : ∀ {zs:List SV} {j:Nat} {p:Option Prop} {cs:List SV},mQ std l b zs j=some (p,cs)->aK p->cs.length=zs.length∧ ∀ i,i<zs.length->cs[i]? =some (ap l (b+(j+i)))
 | [],j,p,cs,h,_=>by
   simp only [mQ,sIE,pIE] at h
   obtain ⟨_,rfl⟩:=h
   exact ⟨rfl,fun i hi=>by cases hi⟩
 |z::zs,j,p,cs,h,hp=>by
  have main: ∀ {p1:Option Prop} {cs1:List SV} {c:SV},mQ std l b zs (j+1)=some (p1,cs1)->aK p1->c=ap l (b+j)->(c::cs1).length=(z::zs).length∧ ∀ i,i<(z::zs).length->(c::cs1)[i]? =some (ap l (b+(j+i))):=by
   intro p1 cs1 c h1 h2 h3
   obtain ⟨q1,q2⟩:=vK h1 h2
   refine ⟨by simp [q1],fun i hi=> ?_⟩
   cases i with
   |zero=>simp [h3]
   |succ i=>
    have:=q2 i (by simpa using hi)
    rw [show j+1+i=j+(i+1) by omega] at this
    simpa using this
  simp only [mQ] at h
  split at h
  · rename_i p1 cs1 kd n0 h1
    simp only [sIE,pIE] at h
    obtain ⟨rfl,rfl⟩:=h
    rw [ep] at hp
    have hi:uE kd (ap l (b+j)):=hp.1
    obtain ⟨m,hm⟩:=hi
    refine main h1 hp.2 ?_
    show SV.int kd (uD (ap l (b+j)))=_
    rw [hm];rfl
  · rename_i p1 cs1 s0 h1
    simp only [sIE,pIE] at h
    obtain ⟨rfl,rfl⟩:=h
    rw [ep] at hp
    have hi:uG (ap l (b+j)):=hp.1
    obtain ⟨m,hm⟩:=hi
    refine main h1 hp.2 ?_
    show SV.str (uF (ap l (b+j)))=_
    rw [hm];rfl
  · cases h
theorem oG{b:Nat} : ∀ {zs:List SV} {j:Nat} {p:Option Prop} {cs:List SV},mQ std l b zs j=some (p,cs)->aj zs=zs
 | [],j,p,cs,_=>rfl
 |z::zs,j,p,cs,h=>by
  simp only [mQ] at h
  split at h
  · rename_i h1;simp only [aj,oG h1];rfl
  · rename_i h1;simp only [aj,oG h1];rfl
  · cases h
theorem wF{t e:TypeId}{ty te:Ty}{n k n':Nat}(ht:aB P t ty)(htag:ty.tag= .array n e k)(hte:aB P e te)(hn:n'=n)(hk:k=1)(hsz:te.size=1)(hag:te.agg=false){g:Nat->Nat->SV}(hx:Rel w ρ rw N v (.agg [.run n' g]))
 {q:IntKind} {aa:Int} (ha:0<=aa∧aa<(n:Int)):
 ∃ z,(Instr.index t v (.int q aa)).run P w= .ok z w∧Rel w ρ rw N z (cl (g aa.toNat 0)):=by
 subst hn hk
 cases hx with
 |agg cs _ hcl h1c hr hrm=>
  have e1:aj [SV.run n' g] =bv (atR (.run n' g)) 0 n':=by simp [aj,ip,aH,wid]
  have h2:Rel w ρ rw N (.agg cs) (.agg (aj [SV.run n' g])):=by
   have e2:aj (aj [SV.run n' g])=aj [SV.run n' g] :=by rw [e1];exact lJ (fun i=>oy _) _ _
   exact .agg _ _ (by rw [e2];exact hcl) h1c (by rw [e2];exact hr) (.flat fun s hs=>by
    rw [e1] at hs
    obtain ⟨i,hi⟩:=List.mem_iff_getElem?.1 hs
    rw [cN] at hi
    split at hi
    · rw [<-Option.some.inj hi];exact oy _
    · cases hi)
  have hlen:(aj [SV.run n' g]).length=n':=by rw [e1];exact iY _ _ _
  obtain ⟨z,q1,q2⟩:=jV (rw:=rw) ht htag hte hsz h2 (q:=q) (aa:=aa.toNat) (by omega) (by rw [e1];exact lJ (fun i=>oy _) _ _) (by omega)
  refine ⟨z, ?_, ?_⟩
  · rw [show (Int.ofNat aa.toNat)=aa by simp;omega] at q1
    exact q1
  · rw [hag,Nat.mul_one] at q2
    simp only [cond_false] at q2
    rw [bW,e1,cN,if_pos (by omega),Nat.zero_add] at q2
    exact q2
theorem wG{t e:TypeId}{ty te:Ty}{n k:Nat}(ht:aB P t ty)(htag:ty.tag= .array n e k)(hte:aB P e te)(hsz:te.size=k)(hx:Rel w ρ rw N v (.agg l)){q:IntKind}{aa:Int}(ha:0<=aa∧aa<(n:Int))(hfl:aj l=l)(hzf:aj te.zero=te.zero)(hl:n*k<=l.length)
 {p:Option Prop} {cs:List SV} (hs:mQ std l (aa.toNat*k) te.zero 0=some (p,cs)) (hp:aK p):
 ∃ z,(Instr.index t v (.int q aa)).run P w= .ok z w∧Rel w ρ rw N z (bif te.agg then .agg cs else ap cs 0):=by
 have hle:(aa.toNat+1)*k<=n*k:=Nat.mul_le_mul_right k (by omega)
 rw [Nat.add_mul] at hle
 obtain ⟨z,h1,h2⟩:=jV (rw:=rw) ht htag hte hsz hx (q:=q) (aa:=aa.toNat) (by omega) hfl (by omega)
 obtain ⟨q1,q2⟩:=vK hs hp
 have hlen:te.zero.length=k:=by
  obtain ⟨i,d,z0,hi,hd,hs',hpos,hagg,h1',hz0,hz1,hz2,hz3,_⟩:=hte
  rw [<-hzf,<-hz1,e9,Array.length_toList,hz3,hs',hsz]
 have hpos:0<k:=by
  obtain ⟨i,d,z0,hi,hd,hs',hpos,_⟩:=hte
  omega
 refine ⟨z, ?_, ?_⟩
 · rw [show (Int.ofNat aa.toNat)=aa by simp;omega] at h1
   exact h1
 · have e1:(l.drop (aa.toNat*k)).take k=cs:=by
    apply List.ext_getElem?
    intro i
    rw [List.getElem?_take]
    split
    · rename_i hik
      rw [q2 i (by omega),List.getElem?_drop,bW,Nat.zero_add,gEE (by omega)]
      rfl
    · rw [List.getElem?_eq_none (by omega)]
   have e2:ap cs 0=ap l (aa.toNat*k):=by
    have:=q2 0 (by omega)
    rw [bW,this]
    simp
   rw [e1,<-e2] at h2
   exact h2
theorem gQ(ht:aB P t ty)(hm:MemOk F w ρ m N){b base n i:Nat}(hv:Rel w ρ (ae F ρ m) N v (.iptr b base n i))
 {u:Nat} {c:List SV} (hb:af m b=some (.box u c)) (hsz:ty.size=1) (hag:ty.agg=false) {sr:SV} (hr:jo c base n=some sr):
 ∃ z,(Instr.loadAt t v).run P w= .ok z w∧Rel w ρ (ae F ρ m) N z (atR sr i):=by
 obtain ⟨q1,q2,q3,q4⟩:=i3 hr
 cases hv with
 |iptr _ _ _ _ g hk h hi=>
  have h0:=iw (P:=P) (t:=t) ht hm (k:=b) (off:=base+i) (.ptr _ _ g hk h) hb (by omega)
  rw [hag,pQ,q4 i hi] at h0
  exact h0
theorem rl(ht:aB P t ty){n e:Nat}(htag:ty.tag= .array n e 1){v:Value}{k off:Nat}{q:IntKind}{i:Int}
 (hv:Rel w ρ rw N v (.ptr k off)) (hi:0<=i∧i<(n:Int)): ∃ z,(Instr.indexAt t v (.int q i)).run P w= .ok z w∧Rel w ρ rw N z (.iptr k off n i.toNat):=by
 obtain ⟨_,d,_,_,hd,_,_,_,_,_,_,_,_,hT⟩:=ht
 rw [htag] at hT
 obtain ⟨rfl,j,hj,hjs⟩:=hT
 cases hv with
 |ptr _ _ g hk h=>
  refine ⟨.pointer (some ⟨g,off+i.toNat,none⟩), ?_, .iptr _ _ _ _ g hk h (by omega)⟩
  have h2:i<((n:Nat):Int):=hi.2
  simp [Instr.indexAt,asIntOf,Sem.run_bind,run_underlying hd w,Result.andThen,hi.1,h2,aW hj,hjs,Instr.sureAddr,Addr.add_lit]
theorem wH(ht:aB P t ty)(hm:MemOk F w ρ m N){q k i off:Nat}(hv:Rel w ρ (ae F ρ m) N v (.eptr q k i off))
 {e n:Nat} {f:Nat->Nat->SV} (hb:af m q=some (.row e k n f)) (hoff:off+ty.size<=k):
 ∃ z,(Instr.loadAt t v).run P w= .ok z w∧Rel w ρ (ae F ρ m) N z (bif ty.agg then .agg (bv (f i) off ty.size) else f i off):=by
 obtain ⟨xs,⟨hxl,hx⟩,h1,hr⟩:=hm.blk _ (ag hb)
 simp only at hx hr
 cases hv with
 |eptr _ _ _ _ g n' c hk h hi=>
  rcases hx with ⟨⟨_,e0⟩,_⟩ | ⟨g',cap,cur,e0,_,hg,hnc,_,hcs,htake⟩
  · rw [h] at e0;injection e0 with _ e1;omega
  · rw [h] at e0
    injection e0 with e1 e2 e3
    injection e1 with e1
    injection e1 with e1
    subst e1 e2 e3
    have hcell: ∀ j,j<k-> ∃ v,xs[i*k+j]? =some v∧w.cell? ⟨g,i*k+j,none⟩=some v:=fun j hj=>by
     have hlt:i*k+j<n'*k:=by
      have:(i+1)*k<=n'*k:=Nat.mul_le_mul_right k hi
      rw [Nat.add_mul] at this
      omega
     have hx1:xs[i*k+j]? =some (xs[i*k+j]'(by omega)):=gEE (by omega)
     refine ⟨_,hx1, ?_⟩
     rw [hg.cell,<-Array.getElem?_toList,<-hx1,<-htake,List.getElem?_take,if_pos hlt]
    have hpos:0<ty.size:=by obtain ⟨_,_,_,_,_,_,hpos,_⟩:=ht;exact hpos
    let cs:List Value:=(List.range ty.size).map fun j=>(xs[i*k+(off+j)]?).getD undef
    have hcl:cs.length=ty.size:=by simp [cs]
    have hcg: ∀ j v,cs[j]? =some v->j<ty.size∧xs[i*k+(off+j)]? =some v∧w.cell? ⟨g,i*k+(off+j),none⟩=some v:=by
     intro j v hj
     rw [show cs[j]? =if j<ty.size then some ((xs[i*k+(off+j)]?).getD undef) else none from getElem?_range_map _ _ _] at hj
     split at hj
     · rename_i hjs
       obtain ⟨u,q1,q2⟩:=hcell (off+j) (by omega)
       rw [q1] at hj ⊢
       simp only [Option.getD_some,sIE] at hj
       subst hj
       exact ⟨hjs,rfl,q2⟩
     · cases hj
    have hld:=eP (P:=P) (w:=w) ht ⟨g,i*k+off,none⟩ cs hcl (fun j v hj=>by
     rw [Addr.add_lit,show i*k+off+j=i*k+(off+j) by omega]
     exact (hcg j v hj).2.2)
    refine ⟨_,by simp only [Instr.loadAt,Instr.sureAddr,Sem.run_bind,Sem.run_pure,Result.andThen];exact hld, ?_⟩
    cases hbb:ty.agg
    · simp only [cond_false]
      obtain ⟨u,q1,q2⟩:=hcell off (by omega)
      have e0:cs.headD undef=u:=by
       have h0:cs[0]? =some ((xs[i*k+(off+0)]?).getD undef):=by
        rw [show cs[0]? =if 0<ty.size then some ((xs[i*k+(off+0)]?).getD undef) else none from getElem?_range_map _ _ _,if_pos hpos]
       rw [Nat.add_zero,q1] at h0
       cases hcs':cs with
       |nil=>rw [hcs'] at h0;cases h0
       |cons y ys=>rw [hcs'] at h0;simpa using h0
      rw [e0]
      exact (hr i off u hi (by omega) q1).rel
    · simp only [cond_true]
      refine Lb (by rw [hcl,gW]) (fun v hv=> ?_) fun j v s hv hs=> ?_
      · obtain ⟨j,hj⟩:=List.mem_iff_getElem?.1 hv
        exact h1 v (List.mem_of_getElem? (hcg j v hj).2.1)
      · obtain ⟨hj,q1,_⟩:=hcg j v hv
        rw [jU,if_pos hj] at hs
        simp only [sIE] at hs
        subst hs
        exact (hr i (off+j) v hi (by omega) q1).rel
theorem rm(ht:aB P t ty){places:List (Nat×Nat)}{eqs:Bool}(htag:ty.tag= .struct places eqs){v:Value}{q k j off i oo sz:Nat}
 (hv:Rel w ρ rw N v (.eptr q k j off)) (hp:nth places i=some (oo,sz)) (hsz:sz≠0): ∃ z,(Instr.fieldAt t v i).run P w= .ok z w∧Rel w ρ rw N z (.eptr q k j (off+oo)):=by
 obtain ⟨_,d,_,_,hd,_,_,_,_,_,_,_,_,hT⟩:=ht
 rw [htag] at hT
 obtain ⟨_,fs,rfl,_,hfs⟩:=hT
 have:=hfs i
 rw [hp] at this
 cases hf:fs[i]? with
 |none=>rw [hf] at this;cases this
 |some f=>
  rw [hf] at this
  simp only [Option.bind_some] at this
  cases hi:P.info? f.type with
  |none=>rw [hi] at this;cases this
  |some jj=>
   rw [hi] at this
   simp only [Option.map_some,sIE,pIE] at this
   obtain ⟨rfl,rfl⟩:=this
   cases hv with
   |eptr _ _ _ _ g n c hk h hlt=>
    refine ⟨.pointer (some ⟨g,j*k+(off+f.offset),none⟩), ?_, .eptr q k j (off+f.offset) g n c hk h hlt⟩
    simp [Instr.fieldAt,Sem.run_bind,run_underlying hd w,Result.andThen,hf,Instr.sureAddr,fieldPlace,aW hi,hsz,Addr.add_lit,Nat.add_assoc]
theorem wJ(ht:aB P t ty)(hm:MemOk F w ρ m N){q i:Nat}(hv:Rel w ρ (ae F ρ m) N v (.eptr q 1 i 0))
 {e:Nat} {K:Kids} (hb:af m q=some (.krow e K)) (hsz:ty.size=1) (hag:ty.agg=false):
 ∃ z xs,(Instr.loadAt t v).run P w= .ok z w∧KidsOk w ρ (ae F ρ m) N (av (ρ q)) xs K∧xs[i]? =some z∧i<K.n∧one z∧N q:=by
 obtain ⟨xs,⟨hxl,hx⟩,h1,hK⟩:=hm.blk _ (ag hb)
 simp only at hx hK
 cases hv with
 |eptr _ _ _ _ g n' c hk h hi=>
  rcases hx with ⟨⟨_,e0⟩,_⟩ | ⟨g',cap,cur,e0,_,hg,hnc,_,hcs,htake⟩
  · rw [h] at e0;injection e0 with _ e1;omega
  · rw [h] at e0
    injection e0 with e1 e2 e3
    injection e1 with e1
    injection e1 with e1
    subst e1 e2 e3
    have hxi:xs[i]? =some (xs[i]'(by omega)):=gEE (by omega)
    have hcell:w.cell? ⟨g,i,none⟩=some (xs[i]'(by omega)):=by
     rw [hg.cell,<-Array.getElem?_toList,<-hxi,<-htake,List.getElem?_take,if_pos (by omega)]
    have hld:=eP (P:=P) (w:=w) ht ⟨g,i*1+0,none⟩ [xs[i]'(by omega)] (by rw [hsz];rfl) (fun j v hj=>by
     match j with
     |0=>simp at hj;subst hj;rw [Addr.add_lit,show i*1+0+0=i by omega];exact hcell
     |j+1=>simp at hj)
    refine ⟨_,xs,by simp only [Instr.loadAt,Instr.sureAddr,Sem.run_bind,Sem.run_pure,Result.andThen];exact hld,hK, ?_,hi, ?_,hk⟩
    · rw [hag];simp only [cond_false,List.headD_cons];exact hxi
    · rw [hag];simp only [cond_false,List.headD_cons];exact h1 _ (List.getElem_mem _)
theorem kS(ht:aB P t ty)(htag:ty.tag= .slice e k b isb){rw:Nat->Prop}(hv:Rel w ρ rw N v (.own q))
 {e' n:Nat} {xs:List Value} (ho:bD w e' k (ρ q) n xs) {kk:IntKind} {i:Int} (hi:0<=i∧i<(n:Int)):
 ∃ z,(Instr.indexAt t v (.int kk i)).run P w= .ok z w∧Rel w ρ rw N z (.eptr q k i.toNat 0):=by
 obtain ⟨_,d,_,_,hd,_,_,_,_,_,_,_,_,hT⟩:=ht
 rw [htag] at hT
 obtain ⟨rfl,_,_,j,z,hj,hjs,_⟩:=hT
 obtain ⟨hxl,hx⟩:=ho
 generalize hs:SV.own q=s at hv
 cases hv with
 |own _ hk ho=>
  cases hs
  rcases hx with ⟨_,rfl⟩ | ⟨g',cap,cur,e0,_,hg,hnc,_,hcs,htake⟩
  · omega
  · refine ⟨.pointer (some ⟨g',i.toNat*k+0,none⟩), ?_, .eptr q k i.toNat 0 g' n cap hk e0 (by omega)⟩
    have h2:i<((n:Nat):Int):=hi.2
    rw [e0]
    simp [Instr.indexAt,asIntOf,Sem.run_bind,run_underlying hd w,Result.andThen,hi.1,h2,aW hj,hjs,Addr.add_lit]
 |_=>cases hs
theorem sW(ht:aB P t ty)(htag:ty.tag= .slice e k b isb)(hm:MemOk F w ρ m N)(hv:Rel w ρ (ae F ρ m) N v (.own q))
 {e' n:Nat} {f:Nat->Nat->SV} (hb:af m q=some (.row e' k n f)) {kk:IntKind} {i:Int} (hi:0<=i∧i<(n:Int)):
 ∃ z,(Instr.indexAt t v (.int kk i)).run P w= .ok z w∧Rel w ρ (ae F ρ m) N z (.eptr q k i.toNat 0):=by
 obtain ⟨xs,ho,_⟩:=hm.blk _ (ag hb)
 exact kS ht htag hv ho hi
theorem rn(ht:aB P t ty){e b:Nat}(htag:ty.tag= .slice e 1 b isb)(hm:MemOk F w ρ m N)(hv:Rel w ρ (ae F ρ m) N v (.own q))
 {e':Nat} {K:Kids} (hb:af m q=some (.krow e' K)) {kk:IntKind} {i:Int} (hi:0<=i∧i<(K.n:Int)):
 ∃ z,(Instr.indexAt t v (.int kk i)).run P w= .ok z w∧Rel w ρ (ae F ρ m) N z (.eptr q 1 i.toNat 0):=by
 obtain ⟨xs,ho,_⟩:=hm.blk _ (ag hb)
 exact kS ht htag hv ho hi
theorem ro(ht:aB P t ty)(htag:ty.tag= .slice e k b isb){q lo n:Nat}(hv:Rel w ρ rw N v (.part q k lo n))
 {kk:IntKind} {i:Int} (hi:0<=i∧i<(n:Int)): ∃ z,(Instr.indexAt t v (.int kk i)).run P w= .ok z w∧Rel w ρ rw N z (.eptr q k (lo+i.toNat) 0):=by
 obtain ⟨_,d,_,_,hd,_,_,_,_,_,_,_,_,hT⟩:=ht
 rw [htag] at hT
 obtain ⟨rfl,_,_,j,z,hj,hjs,_⟩:=hT
 cases hv with
 |part _ _ _ _ a c hk hn h=>
  obtain ⟨g,n0,c0,hρ,hle,rfl⟩:=gV hn h (by omega)
  refine ⟨.pointer (some ⟨g,(lo+i.toNat)*k+0,none⟩), ?_, .eptr q k (lo+i.toNat) 0 g n0 c0 hk hρ (by omega)⟩
  have h2:i<((n:Nat):Int):=hi.2
  simp [Instr.indexAt,asIntOf,Sem.run_bind,run_underlying hd w,Result.andThen,hi.1,h2,aW hj,hjs,Addr.add_lit,Nat.add_mul]
theorem js{ad:Option Addr}{q n c k lo l h:Nat}(hv:Rel w ρ rw N (.slice ad n c) (.part q k lo n))(h1:l<=h)(h2: ∀ a0 n0 c0,ρ q= .slice a0 n0 c0->n0<=c0∧lo+h<=n0):
 Rel w ρ rw N (.slice (if c=l then ad else ad.map (·.add (l*k))) (h - l) (c - l)) (.part q k (lo+l) (h - l)):=by
 generalize hvv:Value.slice ad n c=v at hv
 cases hv with
 |part _ _ _ _ a c' hk hn hh=>
  injection hvv with e1 e2 e3
  subst e1 e3
  obtain ⟨a0,n0,c0,hρ,hle,hcc,hg⟩:=hh
  obtain ⟨q1,q2⟩:=h2 _ _ _ hρ
  refine .part _ _ _ _ _ _ hk (by omega) ⟨a0,n0,c0,hρ,by omega,by omega,fun h0=> ?_⟩
  rw [if_neg (by omega)]
  obtain ⟨g,e,rfl⟩:=hg (by omega)
  exact ⟨g,e,by simp [Addr.add_lit,Nat.add_mul]⟩
theorem m8{F:Nat->Prop}(hm:MemOk F w ρ m N){q e k n:Nat}(hl:af m q=some (.row e k n f)): ∀ a0 n0 c0,ρ q= .slice a0 n0 c0->n0<=c0∧n=n0:=by
 intro a0 n0 c0 e0
 obtain ⟨xs,⟨_,hx⟩,_⟩:=hm.blk _ (ag hl)
 simp only at hx
 rcases hx with ⟨⟨a,e1⟩,rfl⟩ | ⟨g,cap,cur,e1,_,_,hnc,_⟩
 · rw [e0] at e1;injection e1 with _ e2 e3;omega
 · rw [e0] at e1;injection e1 with _ e2 e3;omega
theorem sX(ht:aB P t ty)(htag:ty.tag= .slice e k b isb){x:Value}{q o n r0:Nat}{lo hi mx:Option Operand}{ev:Operand->SV}
 {p:Option Prop} {r:SV} (h:sC std q k o n r0 (bn ev lo) (bn ev hi) (bn ev mx)=some (p,r)) (hp:aK p) (hx:Rel w ρ rw N x (.part q k o n)) (hr0: ∀ a0 n0 c0,ρ q= .slice a0 n0 c0->n0<=c0∧r0=n0 - o)
 (hlo: ∀ y,lo=some y->Rel w ρ rw N (a.eval y) (ev y)) (hhi: ∀ y,hi=some y->Rel w ρ rw N (a.eval y) (ev y)) (hmx: ∀ y,mx=some y->Rel w ρ rw N (a.eval y) (ev y)):
 ∃ z,(Instr.sliceAt t x (lo.map a.eval) (hi.map a.eval) (mx.map a.eval)).run P w= .ok z w∧Rel w ρ rw N z r:=by
 obtain ⟨_,d,_,_,hd,_,_,_,_,_,_,_,_,hT⟩:=ht
 rw [htag] at hT
 obtain ⟨rfl,hk0,_,i,z,hi',his,_⟩:=hT
 have hel:P.elem t=e:=by simp [Program.elem,hd]
 have hd':P.underlying t=some (.slice (P.elem t)):=by rw [hel];exact hd
 have hsz: ∀ w,(sizeOf (P.elem t)).run P w= .ok k w:=fun w=>by rw [hel,aW hi',his]
 have hx0:=hx
 cases hx with
 |part _ _ _ _ ad c hk hn hh=>
  obtain ⟨a0,n0,c0,hρ,hle,hcc,_⟩:=hh
  obtain ⟨hnc,hr⟩:=hr0 _ _ _ hρ
  have hon: ∀ h,h<=r0-> ∀ a1 n1 c1,ρ q= .slice a1 n1 c1->n1<=c1∧o+h<=n1:=fun h hh a1 n1 c1 e=>by
   rw [hρ] at e;injection e with _ e2 e3;omega
  rw [run_sliceAt_slice w t _ _ _ _ hd']
  unfold sC at h
  split at h
  · rename_i e1 e2 e3
    simp only [sIE,pIE] at h
    obtain ⟨rfl,rfl⟩:=h
    cases lo<;>cases hi<;>cases mx<;>simp only [bn,reduceCtorEq] at e1 e2 e3
    refine ⟨_,by simp only [Option.map_none];rw [run_slice_all w t ad n c hd',hsz];rfl, ?_⟩
    have:=js (l:=0) (h:=n) hx0 (by omega) (hon _ (by omega))
    simpa [sliced] using this
  · rename_i q' bb e1 e2 e3
    simp only [sIE,pIE] at h
    obtain ⟨rfl,rfl⟩:=h
    cases lo<;>cases hi<;>cases mx<;>simp only [bn,reduceCtorEq,sIE] at e1 e2 e3
    have hv:=hhi _ rfl
    rw [e2] at hv
    simp only [aK,std,bd,bf,bw,a8,aO,aI,ba,aM,aE] at hp
    refine ⟨_,by simp only [Option.map_none,Option.map_some];rw [hv.eq_int,run_slice_h w t ad n c hd' q' bb hp.1 (by omega),hsz];rfl, ?_⟩
    have:=js (l:=0) (h:=bb.toNat) hx0 (by omega) (hon _ (by omega))
    simpa [sliced,std,bd,bf,bw,a8,aO,aI,ba,aM,aE] using this
  · rename_i q' aa e1 e2 e3
    simp only [sIE,pIE] at h
    obtain ⟨rfl,rfl⟩:=h
    cases lo<;>cases hi<;>cases mx<;>simp only [bn,reduceCtorEq,sIE] at e1 e2 e3
    have hv:=hlo _ rfl
    rw [e1] at hv
    simp only [aK,std,bd,bf,bw,a8,aO,aI,ba,aM,aE] at hp
    refine ⟨_,by simp only [Option.map_none,Option.map_some];rw [hv.eq_int,run_slice_l w t ad n c hd' q' aa hp.1 (by omega),hsz];rfl, ?_⟩
    have:=js (l:=aa.toNat) (h:=n) hx0 (by omega) (hon _ (by omega))
    simpa [sliced,std,bd,bf,bw,a8,aO,aI,ba,aM,aE] using this
  · rename_i q' aa q2 bb e1 e2 e3
    simp only [sIE,pIE] at h
    obtain ⟨rfl,rfl⟩:=h
    cases lo<;>cases hi<;>cases mx<;>simp only [bn,reduceCtorEq,sIE] at e1 e2 e3
    have hv:=hlo _ rfl
    have hv':=hhi _ rfl
    rw [e1] at hv
    rw [e2] at hv'
    simp only [aK,std,bd,bf,bw,a8,aO,aI,ba,aM,aE] at hp
    refine ⟨_,by simp only [Option.map_none,Option.map_some];rw [hv.eq_int,hv'.eq_int,run_slice_lh w t ad n c hd' q' q2 aa bb hp.2.1 (by omega) (by omega),hsz];rfl, ?_⟩
    have:=js (l:=aa.toNat) (h:=bb.toNat) hx0 (by omega) (hon _ (by omega))
    simpa [sliced,std,bd,bf,bw,a8,aO,aI,ba,aM,aE] using this
  · rename_i q' aa q2 bb q3 cc e1 e2 e3
    simp only [sIE,pIE] at h
    obtain ⟨rfl,rfl⟩:=h
    cases lo<;>cases hi<;>cases mx<;>simp only [bn,reduceCtorEq,sIE] at e1 e2 e3
    have hv:=hlo _ rfl
    have hv':=hhi _ rfl
    have hv'':=hmx _ rfl
    rw [e1] at hv
    rw [e2] at hv'
    rw [e3] at hv''
    simp only [aK,std,bd,bf,bw,a8,aO,aI,ba,aM,aE] at hp
    exact ⟨_,by simp only [Option.map_none,Option.map_some];rw [hv.eq_int,hv'.eq_int,hv''.eq_int,run_slice_lhm w t ad n c hd' q' q2 q3 aa bb cc hp.2.2.1 (by omega) (by omega) (by omega),hsz];rfl, .any _⟩
  · cases h
theorem AQ{lo hi mx:Option Operand}(h:fV lo hi mx=true):lo=none∧hi=some (.const (.int .i64 0))∧mx=some (.const (.int .i64 0)):=by
 unfold fV at h
 split at h
 · exact ⟨rfl,rfl,rfl⟩
 · cases h
theorem gw(ht:aB P t ty)(htag:ty.tag= .slice e k b isb){x:Value}(hx: ∃ ad n c,x= .slice ad n c){lo hi mx:Option Operand}(hz:fV lo hi mx=true):
 ∃ z,(Instr.sliceAt t x (lo.map a.eval) (hi.map a.eval) (mx.map a.eval)).run P w= .ok z w∧Rel w ρ rw N z .emp:=by
 obtain ⟨_,d,_,_,hd,_,_,_,_,_,_,_,_,hT⟩:=ht
 rw [htag] at hT
 obtain ⟨rfl,hk0,_,i,z,hi',his,_⟩:=hT
 have hel:P.elem t=e:=by simp [Program.elem,hd]
 have hd':P.underlying t=some (.slice (P.elem t)):=by rw [hel];exact hd
 have hsz: ∀ w,(sizeOf (P.elem t)).run P w= .ok k w:=fun w=>by rw [hel,aW hi',his]
 obtain ⟨rfl,rfl,rfl⟩:=AQ hz
 obtain ⟨ad,n,c,rfl⟩:=hx
 rw [run_sliceAt_slice w t _ _ _ _ hd']
 refine ⟨.slice ad 0 0, ?_, .emp ad⟩
 have e1:a.eval (.const (.int .i64 0))= .int .i64 0:=rfl
 simp only [Option.map_none,Option.map_some,e1]
 rw [run_slice_hm w t ad n c hd' .i64 .i64 0 0 (by omega) (by omega) (by omega),hsz]
 simp [sliced]
theorem Fs(hm:MemOk F w ρ m N){q e k n:Nat}(h:Rel w ρ (ae F ρ m) N v (.own q))(hl:af m q=some (.row e k n f)): ∃ ad n c,v= .slice ad n c:=by
 have:=eN hm h hl
 cases this
 exact ⟨_,_,_,rfl⟩
theorem Rel.flatF(h:Rel w ρ rw N v s)(hf:gp s=true):RelF v s:=by
 have h1: ∀ {v:Value} {s:SV},Rel w ρ rw N v s->pK s=true->RelF v s:=fun {v s} h hf=>by
  cases h<;>first|cases hf|skip
  · exact .any _
  · exact .un
  · exact .int _ _
  · exact .bool _
  · exact .str _
  · exact .flt _
  · exact .cpx _ _
  · exact .nilp
  · exact .nils
  · exact .val _
  · exact .emp _
  · rename_i f cs l hl h hm
    cases l with
    |nil=>
     obtain rfl:cs= #[] :=Array.eq_empty_of_size_eq_zero (by simpa using hl)
     exact .clo f
    |cons=>cases hf
  · exact .ifc _ _ _ (by assumption)
  · exact .mth _ _ _ (by assumption)
 cases s with
 |agg l=>
  generalize hs:SV.agg l=s at h
  cases h with
  |agg cs l' hl h1' hh=>
   cases hs
   have e:aj l=l:=iX fun s hs=>by
    have:=List.all_eq_true.1 hf s hs
    cases s<;>first|rfl|cases this
   rw [e] at hl hh
   exact .agg _ _ hl h1' fun i v s hv hs=>h1 (hh i v s hv hs) (List.all_eq_true.1 hf s (List.mem_of_getElem? hs))
  |_=>cases hs
 |_=>exact h1 h hf
theorem qx{t ty:TypeId}{y:Ty}(ht:aB P t y){v:Value} :
 (∀ n k f,(∃ e k' b i,y.tag= .slice e k' b i)->Rel w ρ rw N v (.slc n k f)->(Builtin.len_ #[t] ty #[v]).run P w= .ok (.int .i64 (n:Int)) w)∧
 (∀ s,y.tag= .str->Rel w ρ rw N v (.str s)->(Builtin.len_ #[t] ty #[v]).run P w= .ok (.int .i64 (s.length:Int)) w):=by
 obtain ⟨_,d,_,_,hd,_,_,_,_,_,_,_,_,hT⟩:=ht
 refine ⟨fun n k f ⟨e,k',b,i,he⟩ hv=> ?_,fun s he hv=> ?_⟩
 · rw [he] at hT
   obtain ⟨rfl,_⟩:=hT
   cases hv
   simp [Builtin.len_,run_underlying hd w,goInt]
 · rw [he] at hT
   obtain rfl:=hT
   rw [hv.eq_str]
   have hsz:(ByteArray.mk s.toArray).size=s.length:=by simp [ByteArray.size]
   simp [Builtin.len_,run_underlying hd w,goInt,hsz]
theorem sY: ∀ {xs:List Value} {l:List SV} {ys:List Value} {m:List SV} {r:Bool},xs.length=l.length->ys.length=m.length->bJ std l m=some r->
 (∀(i:Nat) v s,xs[i]? =some v->l[i]? =some s->Rel w ρ rw N v s)->(∀(i:Nat) v s,ys[i]? =some v->m[i]? =some s->Rel w ρ rw N v s)->bp dX xs l∧bp dX ys m
 | [], [], [], [],_,_,_,_,_,_=>⟨trivial,trivial⟩
 |x::xs,s::l,y::ys,t::m,r,h1,h2,h,hx,hy=>by
  have hx0:=hx 0 x s rfl rfl
  have hy0:=hy 0 y t rfl rfl
  have rest: ∀ r',bJ std l m=some r'->bp dX xs l∧bp dX ys m:=fun r' hr'=>
   sY (by simpa using h1) (by simpa using h2) hr' (fun i v s hv hs=>hx (i+1) v s (by simpa using hv) (by simpa using hs)) (fun i v s hv hs=>hy (i+1) v s (by simpa using hv) (by simpa using hs))
  cases s<;>cases t<;>simp only [bJ,reduceCtorEq] at h
  · split at h
    · rename_i r' hr'
      obtain ⟨q1,q2⟩:=rest r' hr'
      rw [hx0.eq_int,hy0.eq_int]
      exact ⟨⟨⟨rfl,rfl⟩,q1⟩,⟨⟨rfl,rfl⟩,q2⟩⟩
    · cases h
  · split at h
    · rename_i r' hr'
      obtain ⟨q1,q2⟩:=rest r' hr'
      rw [hx0.eq_bool,hy0.eq_bool]
      exact ⟨⟨rfl,q1⟩,⟨rfl,q2⟩⟩
    · cases h
  · split at h
    · rename_i r' hr'
      obtain ⟨q1,q2⟩:=rest r' hr'
      rw [hx0.eq_str,hy0.eq_str]
      exact ⟨⟨rfl,q1⟩,⟨rfl,q2⟩⟩
    · cases h
 |x::xs,s::l, [], [],r,_,_,h,_,_=>by cases s<;>simp only [bJ,reduceCtorEq] at h
 | [], [],y::ys,t::m,r,_,_,h,_,_=>by simp only [bJ,reduceCtorEq] at h
 | [],_::_,_,_,_,h,_,_,_,_=>by simp at h
 |_::_, [],_,_,_,h,_,_,_,_=>by simp at h
 |_,_, [],_::_,_,_,h,_,_,_=>by simp at h
 |_,_,_::_, [],_,_,h,_,_,_=>by simp at h
theorem gK: ∀ {z l:List SV},aS z l=true->aj l=l
 | [], [],_=>rfl
 | [],_::_,h=>by simp [aS] at h
 |x::z, [],h=>by cases x<;>simp [aS] at h
 |x::z,y::l,h=>by
  cases x<;>cases y<;>simp only [aS,bAE,Bool.false_eq_true] at h
  · rw [aj,gK h.2];rfl
  · rw [aj,gK h];rfl
  · rw [aj,gK h];rfl
theorem oH{z:List SV}(hE:xj P t z){x y:Operand}{l m:List SV}{r:Bool}(hs1:aS z l=true)(hs2:aS z m=true)(hx:Rel w ρ rw N (a.eval x) (.agg l))(hy:Rel w ρ rw N (a.eval y) (.agg m))(h:bJ std l m=some r):
 (do eqGuard .eql t x y (a.eval x) (a.eval y);binOp .eql t (a.eval x) (a.eval y):Sem Value).run P w= .ok (.bool r) w∧
 (do eqGuard .neq t x y (a.eval x) (a.eval y);binOp .neq t (a.eval x) (a.eval y):Sem Value).run P w= .ok (.bool (!r)) w:=by
 generalize a.eval x=u at hx ⊢
 generalize a.eval y=v at hy ⊢
 cases hx with
 |agg cs _ hl h1 hh=>
  cases hy with
  |agg ds _ hl' h1' hh'=>
   rw [gK hs1] at hl hh
   rw [gK hs2] at hl' hh'
   obtain ⟨q1,q2⟩:=sY (xs:=cs.toList) (ys:=ds.toList) (by simpa using hl) (by simpa using hl') h (by simpa using hh) (by simpa using hh')
   have hrun:=hE.2 w cs.toList ds.toList l m r hs1 hs2 q1 q2 h
   simp only [Array.toArray_toList] at hrun
   constructor
   · rw [Sem.run_bind,run_eqGuard_agg w _ t x y cs ds hE.1,Result.andThen_ok,run_eql_struct,hrun];rfl
   · rw [Sem.run_bind,run_eqGuard_agg w _ t x y cs ds hE.1,Result.andThen_ok,run_neq_struct,hrun];rfl
theorem sZ(ht:P.underlying t=some .bool){x y:Operand}(b c:Bool):
 (do eqGuard .eql t x y (.bool b) (.bool c);binOp .eql t (.bool b) (.bool c):Sem Value).run P w= .ok (.bool (b==c)) w∧
 (do eqGuard .neq t x y (.bool b) (.bool c);binOp .neq t (.bool b) (.bool c):Sem Value).run P w= .ok (.bool (!(b==c))) w:=by
 have hE:(Op.equalIn 10000 t (.bool b) (.bool c)).run P w= .ok (b==c) w:=run_equalIn_bool' w 9999 t b c ht
 constructor
 · simp only [eqGuard_at_bool,Sem.run_bind,Sem.run_pure,Result.andThen_ok,binOp,Op.equal,Op.maxDepth,hE]
 · simp only [eqGuard_at_bool,Sem.run_bind,Sem.run_pure,Result.andThen_ok,binOp,Op.equal,Op.maxDepth,hE]
set_option maxHeartbeats 1000000 in
theorem fb{T:Tys}(hT:TysOk P T)(hG:az P T.gl G)(hfr: ∃ key,¬ N key)(hm:MemOk F w ρ m N)(hgl:iv T.gl w (ae F ρ m)){e:Operand->SV}
 (he: ∀ x∈o.op.operands.toList,Rel w ρ (ae F ρ m) N (a.eval x) (e x)) {p:Option Prop} {r:SV} (h:aw std T G o.op e m=some (p,r)) (hp:aK p)
 {K:Act->World->Prop} {Q:Exit->Act->World->Prop} (hK: ∀ v w',Ext w w'->i6 w w' ρ (ae F ρ m) N v r->(gu o.op=true->Rel w' ρ (ae F ρ m) N v r)->K (a.put o.dst v) w'):o.wp P a w K Q:=by
 have hrw: ∀ b,ae F ρ m b->b<w.heap.size:=fun b hb=>hm.lt hb
 unfold aw at h
 split at h
 · rename_i x ho
   simp only [sIE,pIE] at h
   obtain ⟨rfl,rfl⟩:=h
   exact aU (v:=a.eval x) (by simp [execOp,ho]) (hK _ _ (Keep.refl _ _) (.of_rel (he x (by simp [ho,Op.operands]))) fun _=>he x (by simp [ho,Op.operands]))
 · rename_i x ho
   simp only [sIE,pIE] at h
   obtain ⟨rfl,rfl⟩:=h
   exact aU (v:=a.eval x) (by simp [execOp,ho]) (hK _ _ (Keep.refl _ _) (.of_rel (he x (by simp [ho,Op.operands]))) fun _=>he x (by simp [ho,Op.operands]))
 · rename_i x ho
   have hx:=he x (by simp [ho,Op.operands])
   split at h
   · rename_i k off ex
     simp only [sIE,pIE] at h
     obtain ⟨rfl,rfl⟩:=h
     rw [ex] at hx
     have hv: ∃ g,a.eval x= .pointer (some ⟨g,off,none⟩):=by
      generalize a.eval x=xv at hx
      cases hx with
      |ptr _ _ g _ _=>exact ⟨g,rfl⟩
     obtain ⟨g,hv⟩:=hv
     exact aU (v:=a.eval x) (by simp [execOp,ho,hv]) (hK _ _ (Keep.refl _ _) (.of_rel hx) fun _=>hx)
   · cases h
 · rename_i c x y ho
   have hc:=he c (by simp [ho,Op.operands])
   have hx:=he x (by simp [ho,Op.operands])
   have hy:=he y (by simp [ho,Op.operands])
   unfold Fi at h
   split at h
   · rename_i b q1 q2 ec ex ey
     simp only [sIE,pIE] at h
     obtain ⟨rfl,rfl⟩:=h
     rw [ec] at hc
     rw [ep] at hp
     refine aU (v:= .bool (bif b then q1 else q2)) (w':=w) ?_ (hK _ _ (Keep.refl _ _) (.of_rel (.bool _)) fun _=> .bool _)
     have hcb:=hc.eq_bool
     cases b with
     |true=>
      have:a.eval x= .bool q1:=by
       cases hxx:e x<;>rw [hxx] at hx ex hp<;>simp only [d9,reduceCtorEq] at ex
       · rw [ex] at hx;exact hx.eq_bool
       · subst ex
         exact (hx.of_opt (hp.1 rfl)).eq_bool
      simp [execOp,ho,hcb,asBool,this]
     |false=>
      have:a.eval y= .bool q2:=by
       cases hyy:e y<;>rw [hyy] at hy ey hp<;>simp only [d9,reduceCtorEq] at ey
       · rw [ey] at hy;exact hy.eq_bool
       · subst ey
         exact (hy.of_opt (hp.2 rfl)).eq_bool
      simp [execOp,ho,hcb,asBool,this]
   · cases h
 · rename_i t x ho
   have hx:=he x (by simp [ho,Op.operands])
   have hex:execOp a.eval o=(do pure (.value (<-Instr.loadAt t (a.eval x)))):=by simp [execOp,ho]
   split at h
   · rename_i k off ty ex hty
     rw [ex] at hx
     split at h
     · rename_i u c hl
       have hl':=iw (P:=P) (hT _ _ hty) hm hx hl
       cases hb:ty.agg<;>simp only [hb,cond_true,cond_false] at h hl'
       · cases hle:Nat.ble (off+1) (bq c)<;>simp only [hle,cond_true,cond_false,reduceCtorEq,sIE,pIE] at h
         obtain ⟨rfl,rfl⟩:=h
         have h1:ty.size=1:=by obtain ⟨_,_,_,_,_,_,_,_,h1,_⟩:=hT _ _ hty;exact h1 hb
         exact aG hex (hl' (by rw [h1];exact Nat.le_of_ble_eq_true hle)) hK
       · cases hle:Nat.ble (off+ty.size) (bq c)<;>simp only [hle,cond_true,cond_false,reduceCtorEq,sIE,pIE] at h
         obtain ⟨rfl,rfl⟩:=h
         exact aG hex (hl' (Nat.le_of_ble_eq_true hle)) hK
     · cases h
   · rename_i b base n i ty ex hty
     rw [ex] at hx
     split at h
     · rename_i u c hl
       cases hb:(Nat.beq ty.size 1 && !ty.agg)<;>simp only [hb,cond_true,cond_false,reduceCtorEq] at h
       simp only [bAE,Bool.not_eq_true'] at hb
       split at h
       · rename_i n' g hr
         simp only [sIE,pIE] at h
         obtain ⟨rfl,rfl⟩:=h
         exact aG hex (gQ (hT _ _ hty) hm hx hl (nQE hb.1) hb.2 hr) hK
       · rename_i n' hr
         simp only [sIE,pIE] at h
         obtain ⟨rfl,rfl⟩:=h
         exact aG hex (gQ (hT _ _ hty) hm hx hl (nQE hb.1) hb.2 hr) hK
       · rename_i q j n' hr
         simp only [sIE,pIE] at h
         obtain ⟨rfl,rfl⟩:=h
         have hl':=gQ (P:=P) (hT _ _ hty) hm hx hl (nQE hb.1) hb.2 hr
         have hw:n'=n:=(i3 hr).2.1
         subst hw
         exact aG hex hl' hK
       · rename_i q j p' n' g hr
         simp only [sIE,pIE] at h
         obtain ⟨rfl,rfl⟩:=h
         have hl':=gQ (P:=P) (hT _ _ hty) hm hx hl (nQE hb.1) hb.2 hr
         have hp':(p':Int)<=(i:Int):=hp
         have e1:Nat.blt i p'=false:=by
          cases hb2:Nat.blt i p'
          · rfl
          · have:i+1<=p':=Nat.le_of_ble_eq_true hb2
            omega
         simp only [atR,e1,cond_false] at hl'
         exact aG hex hl' hK
       · cases h
     · cases h
   · rename_i k f ty ex hty
     rw [ex] at hx
     have hl':=xm (P:=P) (hT _ _ hty) hx
     cases hb:ty.agg<;>simp only [hb,cond_true,cond_false] at h hl'
     · cases hle:Nat.ble 1 k<;>simp only [hle,cond_true,cond_false,reduceCtorEq,sIE,pIE] at h
       obtain ⟨rfl,rfl⟩:=h
       have h1:ty.size=1:=by obtain ⟨_,_,_,_,_,_,_,_,h1,_⟩:=hT _ _ hty;exact h1 hb
       exact aG hex (hl' (by rw [h1];exact Nat.le_of_ble_eq_true hle)) hK
     · cases hle:Nat.ble ty.size k<;>simp only [hle,cond_true,cond_false,reduceCtorEq,sIE,pIE] at h
       obtain ⟨rfl,rfl⟩:=h
       exact aG hex (hl' (Nat.le_of_ble_eq_true hle)) hK
   · rename_i q k i off ty ex hty
     rw [ex] at hx
     split at h
     · rename_i e' k' n f hl
       cases hb:(Nat.beq k k' && Nat.ble (off+ty.size) k)<;>simp only [hb,cond_true,cond_false,reduceCtorEq] at h
       simp only [bAE] at hb
       obtain rfl:k=k':=nQE hb.1
       have hl':=wH (P:=P) (hT _ _ hty) hm hx hl (Nat.le_of_ble_eq_true hb.2)
       cases hb2:ty.agg<;>simp only [hb2,cond_true,cond_false] at h hl'
       · split at h
         · simp only [sIE,pIE] at h
           obtain ⟨rfl,rfl⟩:=h
           obtain ⟨n0,e0⟩:=hp
           rw [e0] at hl' hK
           exact aG hex hl' hK
         · simp only [sIE,pIE] at h
           obtain ⟨rfl,rfl⟩:=h
           exact aG hex hl' hK
       · simp only [sIE,pIE] at h
         obtain ⟨rfl,rfl⟩:=h
         exact aG hex hl' hK
     · rename_i e' K0 hl
       cases hb:(Nat.beq k 1 &&(Nat.beq off 0 &&(Nat.beq ty.size 1 && !ty.agg)))<;>simp only [hb,cond_true,cond_false,reduceCtorEq] at h
       simp only [bAE,Bool.not_eq_true'] at hb
       obtain ⟨b1,b2,b3,b4⟩:=hb
       obtain rfl:k=1:=nQE b1
       obtain rfl:off=0:=nQE b2
       obtain ⟨z,xs,q1,q2,q3,q4,q5,q6⟩:=wJ (P:=P) (hT _ _ hty) hm hx hl (nQE b3) b4
       split at h
       · rename_i h1 h2
         simp only [sIE,pIE] at h
         obtain ⟨rfl,rfl⟩:=h
         have hown:K0.own i:=⟨q4,by rw [h2];simp,fun p h=>by rw [h1] at h;cases h⟩
         have e0:=q2.name i hown
         rw [q3] at e0
         cases e0
         exact aG hex ⟨_,q1, .kid q K0.fam i q6 q2.key q5 fun n hn=>by rw [uH hm hl] at hn;cases hn;exact q4⟩ hK
       · rename_i p' h1 h2
         simp only [sIE,pIE] at h
         obtain ⟨rfl,rfl⟩:=h
         have hp:(p':Int)<=(i:Int):=hp
         exact aG hex ⟨_,q1,(q2.frz i z p' q4 (by rw [h2];simp) h1 (by omega) q3).rel⟩ hK
       · cases h
     · cases h
   · cases h
 · rename_i t x i ho
   have hx:=he x (by simp [ho,Op.operands])
   have hex:execOp a.eval o=(do pure (.value (<-Instr.fieldAt t (a.eval x) i))):=by simp [execOp,ho]
   split at h
   · rename_i k off ty ex hty
     rw [ex] at hx
     split at h
     · rename_i places eqs htag
       split at h
       · rename_i oo sz hn
         cases hle:Nat.ble 1 sz<;>simp only [hle,cond_true,cond_false,reduceCtorEq,sIE,pIE] at h
         obtain ⟨rfl,rfl⟩:=h
         exact aG hex (lr (hT _ _ hty) htag hx hn (by have:=Nat.le_of_ble_eq_true hle;omega)) hK
       · cases h
     · cases h
   · rename_i k f ty ex hty
     rw [ex] at hx
     split at h
     · rename_i places eqs htag
       split at h
       · rename_i oo sz hn
         cases hle:(Nat.ble 1 sz && Nat.ble (oo+sz) k)<;>simp only [hle,cond_true,cond_false,reduceCtorEq,sIE,pIE] at h
         obtain ⟨rfl,rfl⟩:=h
         simp only [bAE] at hle
         exact aG hex (sM (hT _ _ hty) htag hx hn (by have:=Nat.le_of_ble_eq_true hle.1;omega) (Nat.le_of_ble_eq_true hle.2)) hK
       · cases h
     · cases h
   · rename_i q k j off ty ex hty
     rw [ex] at hx
     split at h
     · rename_i places eqs htag
       split at h
       · rename_i oo sz hn
         cases hle:Nat.ble 1 sz<;>simp only [hle,cond_true,cond_false,reduceCtorEq,sIE,pIE] at h
         obtain ⟨rfl,rfl⟩:=h
         exact aG hex (rm (hT _ _ hty) htag hx hn (by have:=Nat.le_of_ble_eq_true hle;omega)) hK
       · cases h
     · cases h
   · cases h
 · rename_i t x i ho
   have hx:=he x (by simp [ho,Op.operands])
   have hi:=he i (by simp [ho,Op.operands])
   have hex:execOp a.eval o=(do pure (.value (<-Instr.indexAt t (a.eval x) (a.eval i)))):=by simp [execOp,ho]
   split at h
   · rename_i k off q aa ty ex ei hty
     rw [ex] at hx
     rw [ei] at hi
     rw [hi.eq_int] at hex
     split at h
     · rename_i n e1 ek htag
       cases hb:Nat.beq ek 1<;>simp only [hb,cond_true,cond_false,reduceCtorEq,sIE,pIE] at h
       obtain ⟨rfl,rfl⟩:=h
       obtain rfl:ek=1:=nQE hb
       exact aG hex (rl (hT _ _ hty) htag hx hp) hK
     · cases h
   · rename_i k f q aa ty ex ei hty
     rw [ex] at hx
     rw [ei] at hi
     rw [hi.eq_int] at hex
     split at h
     · rename_i n e1 ek htag
       cases hb:Nat.ble (n*ek) k<;>simp only [hb,cond_true,cond_false,reduceCtorEq,sIE,pIE] at h
       obtain ⟨rfl,rfl⟩:=h
       exact aG hex (sO (hT _ _ hty) htag hx hp (Nat.le_of_ble_eq_true hb)) hK
     · cases h
   · rename_i n k f q aa ty ex ei hty
     rw [ex] at hx
     rw [ei] at hi
     rw [hi.eq_int] at hex
     split at h
     · rename_i e1 k' b isb htag
       cases hb:Nat.beq k k'<;>simp only [hb,cond_true,cond_false,reduceCtorEq,sIE,pIE] at h
       obtain ⟨rfl,rfl⟩:=h
       obtain rfl:k=k':=nQE hb
       exact aG hex (sN (hT _ _ hty) htag hx hp) hK
     · cases h
   · rename_i qq q aa ty ex ei hty
     rw [ex] at hx
     rw [ei] at hi
     rw [hi.eq_int] at hex
     split at h
     · rename_i e1 k' b isb e2 k n f htag hl
       cases hb:Nat.beq k k'<;>simp only [hb,cond_true,cond_false,reduceCtorEq,sIE,pIE] at h
       obtain ⟨rfl,rfl⟩:=h
       obtain rfl:k=k':=nQE hb
       exact aG hex (sW (hT _ _ hty) htag hm hx hl hp) hK
     · rename_i e1 k' b isb e2 K0 htag hl
       cases hb:Nat.beq 1 k'<;>simp only [hb,cond_true,cond_false,reduceCtorEq,sIE,pIE] at h
       obtain ⟨rfl,rfl⟩:=h
       obtain rfl:1=k':=nQE hb
       exact aG hex (rn (hT _ _ hty) htag hm hx hl hp) hK
     · cases h
   · rename_i qq k lo n q aa ty ex ei hty
     rw [ex] at hx
     rw [ei] at hi
     rw [hi.eq_int] at hex
     split at h
     · rename_i e1 k' b isb e2 k2 n2 f htag hl
       cases hb:(Nat.beq k k' && Nat.beq k k2)<;>simp only [hb,cond_true,cond_false,reduceCtorEq,sIE,pIE] at h
       obtain ⟨rfl,rfl⟩:=h
       simp only [bAE] at hb
       obtain rfl:k=k':=nQE hb.1
       exact aG hex (ro (hT _ _ hty) htag hx hp) hK
     · cases h
   · cases h
 · rename_i t x i ho
   have hx:=he x (by simp [ho,Op.operands])
   have hi:=he i (by simp [ho,Op.operands])
   have hex:execOp a.eval o=(do pure (.value (<-Instr.index t (a.eval x) (a.eval i)))):=by simp [execOp,ho]
   split at h
   · rename_i l q aa ty ex ei hty
     rw [ex] at hx
     rw [ei] at hi
     rw [hi.eq_int,hx.eq_str] at hex
     split at h
     · rename_i htag
       simp only [sIE,pIE] at h
       obtain ⟨rfl,rfl⟩:=h
       simp only [aK,std,bd,bf,bw,a8,aO,aI,ba,aM,aE] at hp
       obtain ⟨h0,h1⟩:=hp
       exact aG hex ⟨_,wE (hT _ _ hty) htag h0 (by omega), .int _ _⟩ hK
     · cases h
   · rename_i l q aa ty ex ei hty
     rw [ex] at hx
     rw [ei] at hi
     split at h
     · rename_i n e k htag
       split at h
       · rename_i te hte
         generalize hxv:a.eval x=xv at hx
         rw [hi.eq_int,hxv] at hex
         cases hr1:Fh l<;>simp only [hr1,cond_true,cond_false] at h
         rotate_left
         · split at h
           · rename_i n' g
             cases hb:((Nat.beq n' n && Nat.beq k 1)&&(Nat.beq te.size 1 && !te.agg))<;>simp only [hb,cond_true,cond_false,reduceCtorEq,sIE,pIE] at h
             obtain ⟨rfl,rfl⟩:=h
             simp only [bAE,Bool.not_eq_true'] at hb
             exact aG hex (wF (hT _ _ hty) htag (hT _ _ hte) (nQE hb.1.1) (nQE hb.1.2) (nQE hb.2.1) hb.2.2 hx hp) hK
           · cases h
         cases hb:((Dp l && Nat.beq te.size k)&& Nat.ble (n*k) (len l))<;>simp only [hb,cond_true,cond_false,reduceCtorEq] at h
         simp only [bAE] at hb
         obtain ⟨⟨hb0,hb2⟩,hb4⟩:=hb
         have hfl:=AN hb0
         split at h
         · rename_i pp cs hsel
           simp only [sIE,pIE] at h
           obtain ⟨rfl,rfl⟩:=h
           rw [ep] at hp
           exact aG hex (wG (hT _ _ hty) htag (hT _ _ hte) (nQE hb2) hx hp.1 hfl (oG hsel) (by rw [<-dW];exact Nat.le_of_ble_eq_true hb4) hsel hp.2) hK
         · split at h
           · rename_i aa _
             cases hb:(Nat.blt aa n && Nat.ble (aa*k+k) (len l))<;>simp only [hb,cond_true,cond_false,reduceCtorEq,sIE,pIE] at h
             obtain ⟨rfl,rfl⟩:=h
             simp only [bAE] at hb
             obtain ⟨hb1,hb3⟩:=hb
             rw [lK] at hK
             exact aG hex (jV (hT _ _ hty) htag (hT _ _ hte) (nQE hb2) hx (Nat.le_of_ble_eq_true hb1) hfl (by rw [<-dW];exact Nat.le_of_ble_eq_true hb3)) hK
           · cases h
       · cases h
     · cases h
   · cases h
 · rename_i op t x y t' ho
   have hx:=he x (by simp [ho,Op.operands])
   have hy:=he y (by simp [ho,Op.operands])
   have hex:execOp a.eval o=(do pure (.value (<-(do eqGuard op t x y (a.eval x) (a.eval y);binOp op t (a.eval x) (a.eval y):Sem Value)))):=by simp [execOp,ho]
   split at h
   · rename_i l1 l2 ex ey
     rw [ex] at hx
     rw [ey] at hy
     split at h
     · rename_i ty r' hty hce
       split at h
       · rename_i places htag
         cases hsh:(aS ty.zero l1 && aS ty.zero l2)<;>simp only [hsh,cond_true,cond_false,reduceCtorEq,sIE,pIE] at h
         simp only [bAE] at hsh
         obtain ⟨rfl,rfl⟩:=h
         obtain ⟨_,d,_,_,hd,_,_,_,_,_,_,_,_,hTT⟩:=hT _ _ hty
         rw [htag] at hTT
         exact aG hex ⟨_,(oH (hTT.1 rfl) hsh.1 hsh.2 hx hy hce).1, .bool _⟩ hK
       · cases h
     · rename_i ty r' hty hce
       split at h
       · rename_i places htag
         cases hsh:(aS ty.zero l1 && aS ty.zero l2)<;>simp only [hsh,cond_true,cond_false,reduceCtorEq,sIE,pIE] at h
         simp only [bAE] at hsh
         obtain ⟨rfl,rfl⟩:=h
         obtain ⟨_,d,_,_,hd,_,_,_,_,_,_,_,_,hTT⟩:=hT _ _ hty
         rw [htag] at hTT
         exact aG hex ⟨_,(oH (hTT.1 rfl) hsh.1 hsh.2 hx hy hce).2, .bool _⟩ hK
       · cases h
     · cases h
   · rename_i b1 b2 ex ey
     rw [ex] at hx
     rw [ey] at hy
     rw [hx.eq_bool,hy.eq_bool] at hex
     split at h
     · rename_i ty hty
       split at h
       · rename_i htag
         simp only [sIE,pIE] at h
         obtain ⟨rfl,rfl⟩:=h
         obtain ⟨_,d,_,_,hd,_,_,_,_,_,_,_,_,hTT⟩:=hT _ _ hty
         rw [htag] at hTT
         obtain rfl:=hTT
         exact aG hex ⟨_,(sZ hd b1 b2).1, .bool _⟩ hK
       · cases h
     · rename_i ty hty
       split at h
       · rename_i htag
         simp only [sIE,pIE] at h
         obtain ⟨rfl,rfl⟩:=h
         obtain ⟨_,d,_,_,hd,_,_,_,_,_,_,_,_,hTT⟩:=hT _ _ hty
         rw [htag] at hTT
         obtain rfl:=hTT
         exact aG hex ⟨_,(sZ hd b1 b2).2, .bool _⟩ hK
       · cases h
     · cases h
   · exact aG hex (Fr h hp hx hy) hK
 · rename_i t x ho
   have hx:=he x (by simp [ho,Op.operands])
   split at h
   · rename_i b ex
     rw [ex] at hx
     simp only [sIE,pIE] at h
     obtain ⟨rfl,rfl⟩:=h
     exact aU (v:= .bool (!b)) (w':=w) (by simp [execOp,ho,hx.eq_bool,Op.unary]) (hK _ _ (Keep.refl _ _) (.of_rel (.bool _)) fun _=> .bool _)
   · cases h
 · rename_i t x ho
   have hx:=he x (by simp [ho,Op.operands])
   split at h
   · rename_i k n ex
     rw [ex] at hx
     simp only [sIE,pIE] at h
     obtain ⟨rfl,rfl⟩:=h
     exact aU (v:= .int k (k.wrap (0 - n))) (w':=w) (by simp [execOp,ho,hx.eq_int,Op.unary,Op.intArith]) (hK _ _ (Keep.refl _ _) (.of_rel (.int _ _)) fun _=> .int _ _)
   · cases h
 · rename_i s d x ho
   have hx:=he x (by simp [ho,Op.operands])
   have hex:execOp a.eval o=(do pure (.value (<-convert s d (a.eval x)))):=by simp [execOp,ho]
   cases hown:j4 (e x) with
   |false=>exact pT hex (sP hT h hp (jD hown hx) hrw) hK
   |true=>
    have hfl:flat r=true:=by
     have key: ∀ t,(∃ n k f,t= .slc n k f)∨t= .any->me std T s d t=some (p,r)->flat r=true:=by
      intro t ht h
      rcases ht with ⟨n,k,f,rfl⟩ |rfl
      · unfold me at h
        split at h<;>try cases h
        all_goals rename_i heq
        all_goals try cases heq
        all_goals (split at h<;>first| (simp only [sIE,pIE] at h;obtain ⟨rfl,rfl⟩:=h;rfl) |cases h)
      · unfold me at h
        split at h<;>try cases h
        all_goals rename_i heq
        all_goals cases heq
     refine key _ ?_ h
     cases hx':e x<;>rw [hx'] at hown<;>simp only [j4,reduceCtorEq] at hown
     · rename_i q
       simp only [aZ]
       cases af m q with
       |none=>exact .inr rfl
       |some b=>cases b with
        |box=>exact .inr rfl
        |kmap=>exact .inr rfl
        |kids=>exact .inr rfl
        |row=>exact .inl ⟨_,_,_,rfl⟩
        |krow e K=>
         simp only
         cases K.hl with
         |some _=>exact .inr rfl
         |none=>exact .inl ⟨_,_,_,rfl⟩
     · rename_i q k lo n
       simp only [aZ]
       cases af m q with
       |none=>exact .inr rfl
       |some b=>cases b with
        |box=>exact .inr rfl
        |kmap=>exact .inr rfl
        |kids=>exact .inr rfl
        |row e' k' n' f'=>
         simp only
         cases Nat.beq k k'
         · exact .inr rfl
         · exact .inl ⟨_,_,_,rfl⟩
        |krow=>exact .inr rfl
     · rename_i q j i
       simp only [aZ]
       cases af m q with
       |none=>exact .inr rfl
       |some b=>cases b with
        |box=>exact .inr rfl
        |kmap=>exact .inr rfl
        |kids=>exact .inr rfl
        |row=>exact .inr rfl
        |krow e K=>
         simp only
         split
         · exact .inl ⟨_,_,_,rfl⟩
         · exact .inr rfl
     · rw [hx'] at hx;exact absurd hx.one1 (by simp [aH])
     · rw [hx'] at hx;exact absurd hx.one1 (by simp [aH])
     · rename_i q j n i
       simp only [aZ]
       cases af m q with
       |none=>exact .inr rfl
       |some b=>cases b with
        |box=>exact .inr rfl
        |kmap=>exact .inr rfl
        |row=>exact .inr rfl
        |krow=>exact .inr rfl
        |kids K=>
         simp only
         split
         · exact .inl ⟨_,_,_,rfl⟩
         · exact .inr rfl
    obtain ⟨z,w',h1,h2,h3⟩:=sP hT h hp (hZ hm hx) (fun b hb=>hb.elim)
    exact pT hex ⟨z,w',h1,h2,h3.flat_any hfl⟩ hK
 · rename_i t i ho
   have hx:=he t (by simp [ho,Op.operands])
   split at h
   · rename_i l ex
     rw [ex] at hx
     cases hle:Nat.ble (i+1) (len l)<;>simp only [hle,cond_true,cond_false,reduceCtorEq,sIE,pIE] at h
     obtain ⟨rfl,rfl⟩:=h
     have hle':i+1<=l.length:=by rw [<-dW];exact Nat.le_of_ble_eq_true hle
     have hex:execOp a.eval o=(do pure (.value (<-Instr.extract (a.eval t) i))):=by simp [execOp,ho]
     generalize a.eval t=v at hx hex
     cases hx with
     |tup cs _ hl hh=>
      refine aG hex ⟨cs[i]'(by omega),by simp [Instr.extract,show i<cs.size by omega], ?_⟩ hK
      rw [bW,gEE (by omega)]
      exact hh i _ _ (by simp [show i<cs.size by omega]) (by simp)
   · cases h
 · rename_i t x i ho
   have hx:=he x (by simp [ho,Op.operands])
   have hex:execOp a.eval o=(do pure (.value (<-Instr.field t (a.eval x) i))):=by simp [execOp,ho]
   split at h
   · rename_i l ty u ex hty hfl
     rw [ex] at hx
     split at h
     · rename_i places eqs tu htag htu
       split at h
       · rename_i oo sz hn
         cases hle:(Nat.beq tu.size sz && Nat.ble (oo+sz) (bq l))<;>simp only [hle,cond_true,cond_false,reduceCtorEq,sIE,pIE] at h
         obtain ⟨rfl,rfl⟩:=h
         obtain ⟨hb1,hb2⟩:=Bool.and_eq_true_iff.1 hle
         obtain ⟨fs,f,h1,h2,h3⟩:=hT.fl _ _ _ hfl
         exact aG hex (vJ (hT _ _ hty) htag h1 h2 h3 (hT _ _ htu) hn (nQE hb1) hx (Nat.le_of_ble_eq_true hb2)) hK
       · cases h
     · cases h
   · cases h
 · rename_i t parts ho
   have hex:execOp a.eval o=(do pure (.value (<-Instr.build t (parts.map fun (i,x)=>(i,a.eval x))))):=by simp [execOp,ho]
   have hx: ∀ x∈parts.toList,Rel w ρ (ae F ρ m) N (a.eval x.2) (e x.2):=fun x hx=>he x.2 (by
    simp only [ho,Op.operands]
    exact List.mem_map.2 ⟨x,hx,rfl⟩)
   split at h
   · rename_i ty hty
     split at h
     · rename_i places eqs htag
       split at h
       · rename_i c hf
         cases hzz:zOk ty.zero<;>simp only [hzz,cond_true,cond_false,reduceCtorEq,sIE,pIE] at h
         obtain ⟨rfl,rfl⟩:=h
         exact aG hex (vI (hT _ _ hty) htag hf hzz hx) hK
       · cases h
     · cases h
   · cases h
 · rename_i t n parts ho
   have hex:execOp a.eval o=(do pure (.value (<-Instr.buildSlice t n (parts.map fun (i,x)=>(i,a.eval x))))):=by simp [execOp,ho]
   have hx: ∀ x∈parts.toList,Rel w ρ (ae F ρ m) N (a.eval x.2) (e x.2):=fun x hx=>he x.2 (by
    simp only [ho,Op.operands]
    exact List.mem_map.2 ⟨x,hx,rfl⟩)
   split at h
   · rename_i ty hty
     split at h
     · rename_i e1 k b isb htag
       split at h
       · rename_i ls hf
         cases hb:(Nat.beq n ls.length &&(Nat.ble 1 n && Nat.ble (n*k) 16777216))<;>simp only [hb,cond_true,cond_false,reduceCtorEq,sIE,pIE] at h
         obtain ⟨rfl,rfl⟩:=h
         simp only [bAE] at hb
         obtain rfl:n=ls.length:=nQE hb.1
         exact pT hex (oC (hT _ _ hty) htag hf hx (Nat.le_of_ble_eq_true hb.2.2) (Nat.le_of_ble_eq_true hb.2.1) hrw) hK
       · cases h
     · cases h
   · cases h
 · rename_i t x lo hi mx ho
   have hx:=he x (by simp [ho,Op.operands])
   have hlo: ∀ y,lo=some y->Rel w ρ (ae F ρ m) N (a.eval y) (e y):=fun y hy=>he y (by simp [ho,Op.operands,hy])
   have hhi: ∀ y,hi=some y->Rel w ρ (ae F ρ m) N (a.eval y) (e y):=fun y hy=>he y (by simp [ho,Op.operands,hy])
   have hmx: ∀ y,mx=some y->Rel w ρ (ae F ρ m) N (a.eval y) (e y):=fun y hy=>he y (by simp [ho,Op.operands,hy])
   have hex:execOp a.eval o=(do pure (.value (<-Instr.sliceAt t (a.eval x) (lo.map a.eval) (hi.map a.eval) (mx.map a.eval)))):=by simp [execOp,ho]
   split at h
   · rename_i ty hty
     split at h
     · rename_i e1 k' b isb htag
       split at h
       · rename_i n k f ex
         rw [ex] at hx
         cases hz:fV lo hi mx<;>simp only [hz,cond_true,cond_false] at h
         · cases hb:Nat.beq k k'<;>simp only [hb,cond_true,cond_false,reduceCtorEq] at h
           obtain rfl:k=k':=nQE hb
           exact aG hex (sQ (hT _ _ hty) htag h hp hx hlo hhi hmx) hK
         · simp only [sIE,pIE] at h
           obtain ⟨rfl,rfl⟩:=h
           exact aG hex (gw (hT _ _ hty) htag (by generalize a.eval x=v at hx;cases hx;exact ⟨_,_,_,rfl⟩) hz) hK
       · rename_i ex
         rw [ex] at hx
         cases hz:fV lo hi mx<;>simp only [hz,cond_true,cond_false] at h
         · split at h
           · rename_i q' bb f1 f2 f3
             simp only [sIE,pIE] at h
             obtain ⟨rfl,rfl⟩:=h
             cases lo<;>cases hi<;>cases mx<;>simp only [bn,reduceCtorEq,sIE] at f1 f2 f3
             have hv:=hhi _ rfl
             rw [f2] at hv
             simp only [aK,std,bd,bf,bw,a8,aO,aI,ba,aM,aE] at hp
             obtain ⟨_,d,_,_,hd,_,_,_,_,_,_,_,_,hTT⟩:=hT _ _ hty
             rw [htag] at hTT
             obtain ⟨rfl,hk0,_,i,z,hi',his,_⟩:=hTT
             have hel:P.elem t=e1:=by simp [Program.elem,hd]
             have hd':P.underlying t=some (.slice (P.elem t)):=by rw [hel];exact hd
             have hsz: ∀ w,(sizeOf (P.elem t)).run P w= .ok _ w:=fun w=>by rw [hel,aW hi',his]
             have hxv:a.eval x= .slice none 0 0:=by
              generalize a.eval x=v at hx
              cases hx
              rfl
             refine aG hex ⟨.slice none 0 0, ?_, .nils⟩ hK
             have hb:bb.toNat=0:=by omega
             rw [hxv,run_sliceAt_slice w t _ _ _ _ hd']
             simp only [Option.map_none,Option.map_some]
             rw [hv.eq_int,run_slice_h w t none 0 0 hd' q' bb hp.1 (by omega),hsz]
             simp [sliced,hb]
           · cases h
         · simp only [sIE,pIE] at h
           obtain ⟨rfl,rfl⟩:=h
           exact aG hex (gw (hT _ _ hty) htag (by generalize a.eval x=v at hx;cases hx;exact ⟨_,_,_,rfl⟩) hz) hK
       · rename_i ex
         rw [ex] at hx
         cases hz:fV lo hi mx<;>simp only [hz,cond_true,cond_false,reduceCtorEq,sIE,pIE] at h
         obtain ⟨rfl,rfl⟩:=h
         exact aG hex (gw (hT _ _ hty) htag (by generalize a.eval x=v at hx;cases hx;exact ⟨_,_,_,rfl⟩) hz) hK
       · rename_i q ex
         rw [ex] at hx
         split at h
         · rename_i e2 k n f hl
           cases hz:fV lo hi mx<;>simp only [hz,cond_true,cond_false] at h
           · cases hb:Nat.beq k k'<;>simp only [hb,cond_true,cond_false,reduceCtorEq] at h
             obtain rfl:k=k':=nQE hb
             exact aG hex (sX (hT _ _ hty) htag h hp (eN hm hx hl) (fun a0 n0 c0 e=>by have:=m8 hm hl a0 n0 c0 e;omega) hlo hhi hmx) hK
           · simp only [sIE,pIE] at h
             obtain ⟨rfl,rfl⟩:=h
             exact aG hex (gw (hT _ _ hty) htag (Fs hm hx hl) hz) hK
         · cases h
       · rename_i q k oo n ex
         rw [ex] at hx
         split at h
         · rename_i e2 k2 n2 f2 hl
           cases hb:(Nat.beq k k' && Nat.beq k k2)<;>simp only [hb,cond_true,cond_false,reduceCtorEq] at h
           simp only [bAE] at hb
           obtain rfl:k=k':=nQE hb.1
           exact aG hex (sX (hT _ _ hty) htag h hp hx (fun a0 n0 c0 e=>by have:=m8 hm hl a0 n0 c0 e;simp only [std,bd,bf,bw,a8,aO,aI,ba,aM,aE];omega) hlo hhi hmx) hK
         · cases h
       · cases h
     · rename_i htag
       split at h
       · rename_i l ex
         rw [ex] at hx
         exact aG hex (sR (hT _ _ hty) htag h hp hx hlo hhi) hK
       · cases h
     · cases h
   · cases h
 · rename_i f first captured ho
   split at h
   · rename_i hfst
     cases hb:(bu e captured.toList).all Ik<;>simp only [hb,cond_true,cond_false,reduceCtorEq,sIE,pIE] at h
     obtain ⟨rfl,rfl⟩:=h
     have hf0:first= #[] :=by rw [<-Array.toArray_toList (xs:=first),hfst]
     subst hf0
     have hc: ∀ x∈captured.toList,Rel w ρ (ae F ρ m) N (a.eval x) (e x):=fun x hx=>he x (by simp [ho,Op.operands];simpa using hx)
     refine aU (v:= .func (.func f) #[] (captured.map a.eval)) (w':=w) (by simp [execOp,ho,Instr.makeFunc]) ?_
     have hlen: ∀ l:List Operand,(bu e l).length=l.length:=fun l=>by induction l with
      |nil=>rfl
      |cons x l ih=>simp [bu,ih]
     have hget: ∀(l:List Operand) (i:Nat),(bu e l)[i]? =(l[i]?).map e:=fun l=>by induction l with
      |nil=>intro i;simp [bu]
      |cons x l ih=>intro i;cases i with
       |zero=>simp [bu]
       |succ i=>simpa [bu] using ih i
     have hrel:Rel w ρ (ae F ρ m) N (.func (.func f) #[] (captured.map a.eval)) (.clo f (bu e captured.toList)):=by
      have hcell: ∀(i:Nat) v s,(captured.map a.eval)[i]? =some v->(bu e captured.toList)[i]? =some s->Rel w ρ (ae F ρ m) N v s:=fun i v s hv hs=>by
       rw [hget] at hs
       rw [Array.getElem?_map] at hv
       cases hx:captured[i]? with
       |none=>rw [hx] at hv;cases hv
       |some x=>
        rw [hx] at hv
        rw [<-Array.getElem?_toList] at hx
        rw [hx] at hs
        simp only [Option.map_some,sIE] at hv hs
        subst hv hs
        exact hc x (List.mem_of_getElem? hx)
      refine .clo _ _ _ (by simp [hlen]) hcell fun k ⟨s,hs,hk⟩=> ?_
      obtain ⟨i,hi⟩:=List.mem_iff_getElem?.1 hs
      have hlt:i<(captured.map a.eval).size:=by
       have:=(List.getElem?_eq_some_iff.1 hi).1
       rw [hlen] at this
       simpa using this
      have hr:=hcell i _ s (Array.getElem?_eq_getElem hlt) hi
      have hc0:Ik s=true:=List.all_eq_true.1 hb s hs
      cases s<;>first|cases hk|skip
      all_goals first|cases hc0|skip
      generalize (captured.map a.eval)[i] =vv at hr
      cases hr
      assumption
     exact hK _ _ (Keep.refl _ _) (.of_rel hrel) fun _=>hrel
   · rename_i x hfst
     split at h
     · rename_i hcap
       cases hb:gp (e x)<;>simp only [hb,cond_true,cond_false,reduceCtorEq,sIE,pIE] at h
       obtain ⟨rfl,rfl⟩:=h
       have hf0:first= #[x] :=by rw [<-Array.toArray_toList (xs:=first),hfst]
       have hc0:captured= #[] :=by rw [<-Array.toArray_toList (xs:=captured),hcap]
       subst hf0 hc0
       have hx:=he x (by simp [ho,Op.operands])
       have hrel:Rel w ρ (ae F ρ m) N (.func (.func f) #[a.eval x] #[]) (.mth f (e x)):= .mth _ _ _ (hx.flatF hb)
       refine aU (v:= .func (.func f) #[a.eval x] #[]) (w':=w) (by simp [execOp,ho,Instr.makeFunc]) ?_
       exact hK _ _ (Keep.refl _ _) (.of_rel hrel) fun _=>hrel
     · cases h
   · cases h
 · rename_i t x ho
   have hx:=he x (by simp [ho,Op.operands])
   have hex:execOp a.eval o=(do pure (.value (<-Instr.makeInterface t (a.eval x)))):=by simp [execOp,ho]
   split at h
   · rename_i ty hty
     split at h
     · rename_i places eqs htag
       cases hb:gp (e x)<;>simp only [hb,cond_true,cond_false,reduceCtorEq,sIE,pIE] at h
       obtain ⟨rfl,rfl⟩:=h
       obtain ⟨_,d,_,_,hd,_,_,_,_,_,_,_,_,hTT⟩:=hT _ _ hty
       rw [htag] at hTT
       obtain ⟨_,fs,rfl,_⟩:=hTT
       exact aG hex ⟨.iface t (a.eval x),by simp [Instr.makeInterface,run_underlying hd], .ifc _ _ _ (hx.flatF hb)⟩ hK
     · cases h
   · cases h
 · rename_i f args ts ho
   split at h
   · rename_i p' r' hg
     cases hb:(!b8 (bu e args.toList) ||flat r')<;>simp only [hb,cond_true,cond_false,reduceCtorEq,sIE,pIE] at h
     obtain ⟨rfl,rfl⟩:=h
     exact DG hG hfr hm hgl ho (fun x hx=>he x (by simp only [ho,Op.operands,Call.operands];simp;right;simpa using hx)) hg hb hp hK
   · cases h
 · rename_i t args ts ho
   split at h
   · rename_i f hx
     split at h
     · rename_i p' r' hg
       cases hb:flat r'<;>simp only [hb,cond_true,cond_false,reduceCtorEq,sIE,pIE] at h
       obtain ⟨rfl,rfl⟩:=h
       exact AP hG hfr hm hgl ho (hx▸he (.tmp t) (by simp [ho,Op.operands,Call.operands])) (fun x hx=>he x (by simp only [ho,Op.operands,Call.operands];simp;right;simpa using hx)) hg hb hp hK
     · cases h
   · cases h
 · rename_i args ts ho
   split at h
   · rename_i x t ea et
     have hx:=hZ hm (he x (by simp only [ho,Op.operands,Call.operands];simp;rw [<-Array.mem_toList_iff,ea];simp))
     have hargs:args= #[x] :=by rw [<-Array.toArray_toList (xs:=args),ea]
     have hts:ts= #[t] :=by rw [<-Array.toArray_toList (xs:=ts),et]
     have hex:execOp a.eval o=(do pure (.value (<-Builtin.len_ #[t] o.type #[a.eval x]))):=by simp [execOp,ho,resolve,invoke,builtin,hargs,hts]
     split at h
     · rename_i n k f ty ex hty
       rw [ex] at hx
       split at h
       · rename_i e1 k' b isb htag
         simp only [sIE,pIE] at h
         obtain ⟨rfl,rfl⟩:=h
         exact aG hex ⟨_,(qx (hT _ _ hty)).1 n k f ⟨_,_,_,_,htag⟩ hx, .int _ _⟩ hK
       · cases h
     · rename_i l ty ex hty
       rw [ex] at hx
       split at h
       · rename_i htag
         simp only [sIE,pIE] at h
         obtain ⟨rfl,rfl⟩:=h
         exact aG hex ⟨_,(qx (hT _ _ hty)).2 l htag hx, .int _ _⟩ hK
       · cases h
     · cases h
   · cases h
 · rename_i args ts ho
   split at h
   · rename_i x y ea
     have hx:=he x (by simp only [ho,Op.operands,Call.operands];simp;rw [<-Array.mem_toList_iff,ea];simp)
     have hy:=he y (by simp only [ho,Op.operands,Call.operands];simp;rw [<-Array.mem_toList_iff,ea];simp)
     have hargs:args= #[x,y] :=by rw [<-Array.toArray_toList (xs:=args),ea]
     have hex:execOp a.eval o=(do pure (.value (<-Builtin.complex_ ts o.type #[a.eval x,a.eval y]))):=by simp [execOp,ho,resolve,invoke,builtin,hargs]
     split at h
     · rename_i b1 b2 ex ey
       rw [ex] at hx
       rw [ey] at hy
       simp only [sIE,pIE] at h
       obtain ⟨rfl,rfl⟩:=h
       exact aG hex ⟨.complex .f64 b1 b2,by rw [hx.eq_flt,hy.eq_flt];exact (congrArg (fun m=>Sem.run P m w) (show Builtin.complex_ ts o.type #[.float .f64 b1, .float .f64 b2] =pure (.complex .f64 b1 b2) from rfl)).trans (Sem.run_pure ..), .cpx _ _⟩ hK
     · cases h
   · cases h
 · rename_i args ts ho
   split at h
   · rename_i x ea
     have hx:=he x (by simp only [ho,Op.operands,Call.operands];simp;rw [<-Array.mem_toList_iff,ea];simp)
     have hargs:args= #[x] :=by rw [<-Array.toArray_toList (xs:=args),ea]
     have hex:execOp a.eval o=(do pure (.value (<-Builtin.real_ ts o.type #[a.eval x]))):=by simp [execOp,ho,resolve,invoke,builtin,hargs]
     split at h
     · rename_i b1 b2 ex
       rw [ex] at hx
       simp only [sIE,pIE] at h
       obtain ⟨rfl,rfl⟩:=h
       exact aG hex ⟨.float .f64 b1,by rw [hx.eq_cpx];exact (congrArg (fun m=>Sem.run P m w) (show Builtin.real_ ts o.type #[.complex .f64 b1 b2] =pure (.float .f64 b1) from rfl)).trans (Sem.run_pure ..), .flt _⟩ hK
     · cases h
   · cases h
 · rename_i args ts ho
   split at h
   · rename_i x ea
     have hx:=he x (by simp only [ho,Op.operands,Call.operands];simp;rw [<-Array.mem_toList_iff,ea];simp)
     have hargs:args= #[x] :=by rw [<-Array.toArray_toList (xs:=args),ea]
     have hex:execOp a.eval o=(do pure (.value (<-Builtin.imag_ ts o.type #[a.eval x]))):=by simp [execOp,ho,resolve,invoke,builtin,hargs]
     split at h
     · rename_i b1 b2 ex
       rw [ex] at hx
       simp only [sIE,pIE] at h
       obtain ⟨rfl,rfl⟩:=h
       exact aG hex ⟨.float .f64 b2,by rw [hx.eq_cpx];exact (congrArg (fun m=>Sem.run P m w) (show Builtin.imag_ ts o.type #[.complex .f64 b1 b2] =pure (.float .f64 b2) from rfl)).trans (Sem.run_pure ..), .flt _⟩ hK
     · cases h
   · cases h
 · rename_i args ts ho
   split at h
   · rename_i x t ea et
     have hx:=he x (by simp only [ho,Op.operands,Call.operands];simp;rw [<-Array.mem_toList_iff,ea];simp)
     have hargs:args= #[x] :=by rw [<-Array.toArray_toList (xs:=args),ea]
     have hts:ts= #[t] :=by rw [<-Array.toArray_toList (xs:=ts),et]
     have hex:execOp a.eval o=(do pure (.value (<-Builtin.cap_ #[t] o.type #[a.eval x]))):=by simp [execOp,ho,resolve,invoke,builtin,hargs,hts]
     split at h
     · rename_i ty ex hty
       rw [ex] at hx
       split at h
       · rename_i e1 k' b isb htag
         simp only [sIE,pIE] at h
         obtain ⟨rfl,rfl⟩:=h
         obtain ⟨_,d,_,_,hd,_,_,_,_,_,_,_,_,hTT⟩:=hT _ _ hty
         rw [htag] at hTT
         obtain ⟨rfl,_⟩:=hTT
         have hxv:a.eval x= .slice none 0 0:=by
          generalize a.eval x=v at hx
          cases hx
          rfl
         exact aG hex ⟨.int .i64 0,by rw [hxv];simp [Builtin.cap_,run_underlying hd w,goInt], .int _ _⟩ hK
       · cases h
     · cases h
   · cases h
 · cases h
end
end Go.Vd
