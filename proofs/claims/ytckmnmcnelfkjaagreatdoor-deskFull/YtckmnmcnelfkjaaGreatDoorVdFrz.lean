/- A row that nobody writes any more. -/
import Derived.Test.YtckmnmcnelfkjaaGreatDoorVdDraw
set_option linter.unusedVariables false
set_option linter.unusedSimpArgs false
namespace Go.Vd
open Go.RowKit
section
variable {P:Program} {a:Act} {w:World} {ρ:Nat->Value} {U:Nat->Prop} {c:Ctx} {s:St}
def DY (m:Mem)(q:Nat):Blk->Blk
 | .box t l=> .box t (jW std m q l)
 |b=>b
def gQ:Blk->Bool
 | .box _ _| .kmap _ _ _=>false
 |_=>true
theorem IK{m:Mem}{q:Nat}{b:Blk}{ρ:Nat->Value}(g:Nat):ga ρ (DY m q b) g↔ga ρ b g:=by cases b<;>exact Iff.rfl
theorem df{m:Mem}{q:Nat}{e:Nat×Blk} : ∀ {r:Mem},e∈bJ std m q r-> ∃ b,(e.1,b)∈r∧e.2=DY m q b∧(gQ b=true->e.1≠q)
 | [],h=>by cases h
 | (k, .box t l)::r,h=>by
   simp only [bJ] at h
   rcases List.mem_cons.1 h with rfl|h
   · exact ⟨.box t l,List.mem_cons_self ..,rfl,fun e=>by cases e⟩
   · obtain ⟨b,h1,h2,h3⟩:=df h
     exact ⟨b,List.mem_cons_of_mem _ h1,h2,h3⟩
 | (k, .kmap t v M)::r,h=>by
   simp only [bJ] at h
   rcases List.mem_cons.1 h with rfl|h
   · exact ⟨.kmap t v M,List.mem_cons_self ..,rfl,fun e=>by cases e⟩
   · obtain ⟨b,h1,h2,h3⟩:=df h
     exact ⟨b,List.mem_cons_of_mem _ h1,h2,h3⟩
 | (k, .row x y z u)::r,h=>by
   simp only [bJ] at h
   cases hb:Nat.beq k q<;>simp only [hb,cond_true,cond_false] at h
   · rcases List.mem_cons.1 h with rfl|h
     · exact ⟨.row x y z u,List.mem_cons_self ..,rfl,fun _ e=>by simp only at e;subst e;rw [Nat.beq_refl] at hb;cases hb⟩
     · obtain ⟨b,h1,h2,h3⟩:=df h
       exact ⟨b,List.mem_cons_of_mem _ h1,h2,h3⟩
   · obtain ⟨b,h1,h2,h3⟩:=df h
     exact ⟨b,List.mem_cons_of_mem _ h1,h2,h3⟩
 | (k, .krow x K)::r,h=>by
   simp only [bJ] at h
   cases hb:Nat.beq k q<;>simp only [hb,cond_true,cond_false] at h
   · rcases List.mem_cons.1 h with rfl|h
     · exact ⟨.krow x K,List.mem_cons_self ..,rfl,fun _ e=>by simp only at e;subst e;rw [Nat.beq_refl] at hb;cases hb⟩
     · obtain ⟨b,h1,h2,h3⟩:=df h
       exact ⟨b,List.mem_cons_of_mem _ h1,h2,h3⟩
   · obtain ⟨b,h1,h2,h3⟩:=df h
     exact ⟨b,List.mem_cons_of_mem _ h1,h2,h3⟩
 | (k, .kids K)::r,h=>by
   simp only [bJ] at h
   cases hb:Nat.beq k q<;>simp only [hb,cond_true,cond_false] at h
   · rcases List.mem_cons.1 h with rfl|h
     · exact ⟨.kids K,List.mem_cons_self ..,rfl,fun _ e=>by simp only at e;subst e;rw [Nat.beq_refl] at hb;cases hb⟩
     · obtain ⟨b,h1,h2,h3⟩:=df h
       exact ⟨b,List.mem_cons_of_mem _ h1,h2,h3⟩
   · obtain ⟨b,h1,h2,h3⟩:=df h
     exact ⟨b,List.mem_cons_of_mem _ h1,h2,h3⟩
theorem lg{m:Mem}{q:Nat}{e:Nat×Blk}{b:Blk}{ρ:Nat->Value}(h:e.2=DY m q b)(g:Nat):hasB ρ e g↔hasB ρ (e.1,b) g:=by
 simp only [hasB,h,IK]
theorem mF{m:Mem}{q:Nat}{ρ:Nat->Value} : ∀ {r:Mem},r.Pairwise (cm ρ)->(bJ std m q r).Pairwise (cm ρ)
 | [],_=>by simp [bJ]
 | (k,b)::r,h=>by
   rw [List.pairwise_cons] at h
   have key: ∀ b',b'=DY m q b->((k,b')::bJ std m q r).Pairwise (cm ρ):=fun b' hb'=>by
    refine List.pairwise_cons.2 ⟨fun e he=> ?_,mF h.2⟩
    obtain ⟨x,h1,h2,_⟩:=df he
    have hap:=h.1 _ h1
    exact ⟨hap.1,fun g g1 g2=>hap.2 g ((lg (e:=(k,b')) hb' g).1 g1) ((lg h2 g).1 g2)⟩
   cases b with
   |box t l=>simp only [bJ];exact key _ rfl
   |kmap t v M=>simp only [bJ];exact key _ rfl
   |row x y z u=>
    simp only [bJ]
    cases Nat.beq k q<;>simp only [cond_true,cond_false]
    · exact key _ rfl
    · exact mF h.2
   |krow x K=>
    simp only [bJ]
    cases Nat.beq k q<;>simp only [cond_true,cond_false]
    · exact key _ rfl
    · exact mF h.2
   |kids K=>
    simp only [bJ]
    cases Nat.beq k q<;>simp only [cond_true,cond_false]
    · exact key _ rfl
    · exact mF h.2
theorem eC{m:Mem}{q:Nat} : ∀ {r:Mem},((bJ std m q r).map (·.1)).Sublist (r.map (·.1))
 | [] =>by simp [bJ]
 | (k, .box t l)::r=>by simp only [bJ,List.map_cons];exact eC.cons_cons _
 | (k, .kmap t v M)::r=>by simp only [bJ,List.map_cons];exact eC.cons_cons _
 | (k, .row x y z u)::r=>by
   simp only [bJ]
   cases Nat.beq k q<;>simp only [cond_true,cond_false,List.map_cons]
   · exact eC.cons_cons _
   · exact eC.cons _
 | (k, .krow x K)::r=>by
   simp only [bJ]
   cases Nat.beq k q<;>simp only [cond_true,cond_false,List.map_cons]
   · exact eC.cons_cons _
   · exact eC.cons _
 | (k, .kids K)::r=>by
   simp only [bJ]
   cases Nat.beq k q<;>simp only [cond_true,cond_false,List.map_cons]
   · exact eC.cons_cons _
   · exact eC.cons _
theorem Ca{ρ:Nat->Value}{m:Mem}(hp:m.Pairwise (cm ρ)){e e':Nat×Blk}(h:e∈m)(h':e'∈m)(hne:e≠e'):cm ρ e e':=by
 induction m with
 |nil=>cases h
 |cons x m ih=>
  rw [List.pairwise_cons] at hp
  rcases List.mem_cons.1 h with e1|h1<;>rcases List.mem_cons.1 h' with e2|h2
  · exact absurd (e1.trans e2.symm) hne
  · rw [e1];exact hp.1 _ h2
  · rw [e2];exact (hp.1 _ h1).symm
  · exact ih hp.2 h1 h2
theorem eF{F:Nat->Prop}{m:Mem}{q:Nat}(b:Nat)(h:ae F ρ (bJ std m q m) b):ae F ρ m b:=by
 rcases h with h| ⟨e,he,hb⟩
 · exact .inl h
 · obtain ⟨x,h1,h2,_⟩:=df he
   exact .inr ⟨_,h1,(lg h2 b).1 hb⟩
theorem Mm{m:Mem}{q:Nat}(b:Nat)(h:bE ρ (bJ std m q m) b):bE ρ m b:=by
 obtain ⟨e,he,hb⟩:=h
 obtain ⟨x,h1,h2,_⟩:=df he
 exact ⟨_,h1,(lg h2 b).1 hb⟩
theorem xS(h:SimR c U s a w ρ){q:Nat}{br:Blk}(hl:af s.mem q=some br)(hrb:gQ br=true)(b:Nat)(hb:hasB ρ (q,br) b): ¬ ae c.F ρ (bJ std s.mem q s.mem) b:=by
 rintro (hf| ⟨e,he,hb'⟩)
 · obtain ⟨h1,h2⟩:=h.old b hf
   rcases h.sub b ⟨_,ai hl,hb⟩ with h'|h'
   · exact h2 h'
   · omega
 · obtain ⟨bl,h1,h2,h3⟩:=df he
   have hne:(e.1,bl)≠(q,br):=by
    intro e0
    injection e0 with e1 e2
    exact h3 (by rw [e2];exact hrb) e1
   exact (Ca h.mem.apart h1 (ai hl) hne).2 b ((lg h2 b).1 hb') hb
theorem rJ(h:SimR c U s a w ρ){q:Nat}{br:Blk}(hl:af s.mem q=some br)(hrb:gQ br=true){v:Value}{t:SV}(hv:Rel w ρ (ae c.F ρ s.mem) U v t):
 Rel w ρ (ae c.F ρ (bJ std s.mem q s.mem)) U v (gJ std s.mem q t):=by
 have hmono: ∀ {v t},Rel w ρ (ae c.F ρ s.mem) U v t->Rel w ρ (ae c.F ρ (bJ std s.mem q s.mem)) U v t:=fun hv=>hv.mono (fun _ h=>h) (fun _ _=>rfl) (Keep.refl _ _) fun b _ hb=>eF b hb
 have hfree:=xS h hl hrb
 unfold gJ
 split
 · rename_i k
   cases hb:Nat.beq k q
   · exact hmono hv
   · obtain rfl:=nQE hb
     simp only [cond_true,bc,hl]
     cases br with
     |box=>cases hrb
     |kmap=>cases hrb
     |row x y z u=>
      have:=ja h.mem (rw':=ae c.F ρ (bJ std s.mem k s.mem)) (fun b _ hb=>eF b hb) (fun b hb=>hfree b (.inl hb)) (eU h.mem hv hl) hl
      have e0:std.shift u 0=u:=by funext i j;simp [std,bh,bk,bA,bd,aR,aL,bf,aP,aI]
      rwa [e0] at this
     |krow e K=>
      simp only
      cases hh:K.hl with
      |some _=>exact .any _
      |none=>exact (xu h.mem (fun b _ hb=>eF b hb) hl hfree hh hv).rel
     |kids K=>exact .any _
 · rename_i k kk lo n
   cases hb:Nat.beq k q
   · exact hmono hv
   · obtain rfl:=nQE hb
     simp only [cond_true,bc,hl]
     cases br with
     |box=>cases hrb
     |kmap=>cases hrb
     |krow e K=>exact .any _
     |kids K=>exact .any _
     |row x y z u=>
      simp only
      cases hb:Nat.beq kk y
      · exact .any _
      · obtain rfl:=nQE hb
        exact ja h.mem (fun b _ hb=>eF b hb) (fun b hb=>hfree b (.inl hb)) hv hl
 · rename_i k j i
   cases hb:Nat.beq k q
   · exact hmono hv
   · obtain rfl:=nQE hb
     simp only [cond_true,bc,hl]
     cases br with
     |box=>cases hrb
     |kmap=>cases hrb
     |row=>exact .any _
     |kids=>exact .any _
     |krow e K=>
      simp only
      split
      · rename_i hh ho hf
        obtain rfl:=nQE hf
        exact (B5 h.mem (fun b _ hb=>eF b hb) hl hfree hh ho hv).rel
      · exact .any _
 · rename_i k j n i
   cases hb:Nat.beq k q
   · exact hmono hv
   · obtain rfl:=nQE hb
     simp only [cond_true,bc,hl]
     cases br with
     |box=>cases hrb
     |kmap=>cases hrb
     |row=>exact .any _
     |krow=>exact .any _
     |kids K=>
      simp only
      split
      · rename_i hh ho hf
        rw [bAE] at hf
        obtain rfl:=nQE hf.1
        obtain rfl:=nQE hf.2
        exact (xw h.mem (fun b _ hb=>eF b hb) hl hfree hh ho hv).rel
      · exact .any _
 · exact absurd hv.one1 (by simp [aK])
 · exact absurd hv.one1 (by simp [aK])
 · rename_i k kk i o
   cases hb:Nat.beq k q
   · exact hmono hv
   · exact .any _
 · rename_i f l
   cases hb:l.any (sI q)
   · exact hmono hv
   · exact .any _
 · exact hmono hv
theorem xT{m:Mem}{q:Nat}(s:SV):wid (gJ std m q s)=wid s:=by
 unfold gJ
 split<;>first|rfl|skip
 all_goals first
  | (cases Nat.beq _ _<;>simp only [cond_true,cond_false,oM];done)
  | (cases Nat.beq _ _<;>rfl)
  | (cases List.any _ _<;>rfl)
theorem xU{m:Mem}{q:Nat}{s:SV}(h:aK s=false):aK (gJ std m q s)=false:=by
 unfold gJ
 split<;>first|exact h|skip
 all_goals first
  | (cases h;done)
  | (cases Nat.beq _ _<;>simp only [cond_true,cond_false]<;>first|exact oN h|rfl)
  | (cases List.any _ _<;>rfl)
theorem Mn(h:SimR c U s a w ρ){q:Nat}{br:Blk}(hl:af s.mem q=some br)(hrb:gQ br=true){v:Value}{t:SV}{i:Nat}(hv:Rel w ρ (ae c.F ρ s.mem) U v (atR t i)):
 Rel w ρ (ae c.F ρ (bJ std s.mem q s.mem)) U v (atR (gJ std s.mem q t) i):=by
 have hmono: ∀ {v t},Rel w ρ (ae c.F ρ s.mem) U v t->Rel w ρ (ae c.F ρ (bJ std s.mem q s.mem)) U v t:=fun hv=>hv.mono (fun _ h=>h) (fun _ _=>rfl) (Keep.refl _ _) fun b _ hb=>eF b hb
 cases hr:aK t
 · rw [kN hr] at hv
   rw [kN (xU hr)]
   exact rJ h hl hrb hv
 · cases t<;>first| (cases hr;done) |exact hmono hv|skip
   · rename_i k j n
     have h1:=rJ h hl hrb hv
     simp only [atR,gJ] at h1 ⊢
     cases hb:Nat.beq k q<;>rw [hb] at h1<;>simp only [cond_true,cond_false] at h1 ⊢
     · exact h1
     · rcases nj s.mem k j n with ⟨ns,kk,f,e1,e2⟩ |e1
       · rw [e2 i] at h1
         rw [e1]
         exact h1
       · rw [e1];exact .any _
   · rename_i k j p n g
     simp only [gJ]
     cases Nat.beq k q
     · exact hmono hv
     · exact .any _
theorem FU{m:Mem}{q:Nat}{s:SV}(hr:aK (gJ std m q s)=true){k:Nat}(hk:cD k (gJ std m q s)):aK s=true∧cD k s:=by
 cases h:aK s
 · rw [xU h] at hr;cases hr
 · refine ⟨rfl, ?_⟩
   cases s<;>first| (cases h;done) |exact hk|skip
   · rename_i k' j n
     simp only [gJ] at hk hr
     cases hb:Nat.beq k' q<;>rw [hb] at hk hr<;>simp only [cond_true,cond_false] at hk hr
     · exact hk
     · exact absurd hk (s8 hr k)
   · rename_i k' j p n g
     simp only [gJ] at hk
     cases hb:Nat.beq k' q<;>rw [hb] at hk<;>simp only [cond_true,cond_false] at hk
     · exact hk
     · exact hk.elim
theorem xX{m:Mem}{q:Nat} : ∀ l:List SV,jW std m q l=l.map (gJ std m q)
 | [] =>rfl
 |_::l=>by simp [jW,xX l]
theorem rK{m:Mem}{q:Nat} : ∀ l:List SV,(ap (jW std m q l)).length=(ap l).length
 | [] =>rfl
 |s::l=>by simp only [jW,ap,List.length_append,cC,xT,rK l]
theorem wd{m:Mem}{q:Nat}{l:List SV}{N:Nat->Prop}(h:bU N l):bU N (jW std m q l):=fun s hs hr k hk=>by
 rw [xX] at hs
 obtain ⟨t,ht,rfl⟩:=List.mem_map.1 hs
 obtain ⟨h1,h2⟩:=FU hr hk
 exact h t ht h1 k h2
theorem rL(h:SimR c U s a w ρ){q:Nat}{br:Blk}(hl:af s.mem q=some br)(hrb:gQ br=true): ∀ {l:List SV} {cs:List Value},
 (∀(i:Nat) v t,cs[i]? =some v->(ap l)[i]? =some t->Rel w ρ (ae c.F ρ s.mem) U v t)-> ∀(i:Nat) v t,cs[i]? =some v->(ap (jW std s.mem q l))[i]? =some t->Rel w ρ (ae c.F ρ (bJ std s.mem q s.mem)) U v t
 | [],cs,_,i,v,t,_,ht=>by simp [jW,ap] at ht
 |x::l,cs,hh,i,v,t,hv,ht=>by
  simp only [jW] at ht
  rw [cV,xT] at ht
  split at ht
  · rename_i hi
    simp only [sIE] at ht
    subst ht
    exact Mn h hl hrb (hh i v _ hv (by rw [cV,if_pos hi]))
  · rename_i hi
    refine rL h hl hrb (cs:=cs.drop (wid x)) (fun k u t hu ht=> ?_) (i - wid x) v t (by rw [List.getElem?_drop,show wid x+(i - wid x)=i by omega];exact hv) ht
    rw [List.getElem?_drop] at hu
    exact hh _ u t hu (by rw [cV,if_neg (by omega),show wid x+k - wid x=k by omega];exact ht)
theorem xY{m:Mem}{q:Nat} : ∀(l:List SV) (i:Nat),(oy std m q l)[i]? =(l[i]?).map (xk std m q)
 | [],i=>by simp [oy]
 |_::_,0=>by simp [oy]
 |_::l,i+1=>by simpa [oy] using xY l i
theorem xZ{m:Mem}{q:Nat} : ∀(l:List SV) (i:Nat),(iX std m q l)[i]? =(l[i]?).map (Dz std m q)
 | [],i=>by simp [iX]
 |_::_,0=>by simp [iX]
 |_::l,i+1=>by simpa [iX] using xZ l i
theorem qR{m:Mem}{q:Nat} : ∀(l:List SV),(oy std m q l).length=l.length
 | [] =>rfl
 |_::l=>by simp [oy,qR l]
theorem l5{m:Mem}{q:Nat} : ∀(l:List SV),(iX std m q l).length=l.length
 | [] =>rfl
 |_::l=>by simp [iX,l5 l]
theorem x1(h:SimR c U s a w ρ){q:Nat}{br:Blk}(hl:af s.mem q=some br)(hrb:gQ br=true){v:Value}{t:SV}(hv:Rel w ρ (ae c.F ρ s.mem) U v t):
 Rel w ρ (ae c.F ρ (bJ std s.mem q s.mem)) U v (xk std s.mem q t):=by
 unfold xk
 split
 · rename_i l
   generalize hs:SV.agg l=t at hv
   cases hv with
   |agg cs l' hlen h1 hh hm=>
    cases hs
    exact .agg _ _ (by rw [rK];exact hlen) h1 (fun i v t hv ht=>rL h hl hrb (cs:=cs.toList) (by simpa using hh) i v t (by simpa using hv) ht) (wd hm)
   |_=>cases hs
 · exact rJ h hl hrb hv
theorem IL(h:SimR c U s a w ρ){q:Nat}{br:Blk}(hl:af s.mem q=some br)(hrb:gQ br=true){v:Value}{t:SV}(hv:Rel w ρ (ae c.F ρ s.mem) U v t):
 Rel w ρ (ae c.F ρ (bJ std s.mem q s.mem)) U v (Dz std s.mem q t):=by
 unfold Dz
 split
 · rename_i l
   generalize hs:SV.tup l=t at hv
   cases hv with
   |tup cs l' hlen hh=>
    cases hs
    refine .tup _ _ (by rw [qR];exact hlen) fun i v t hv ht=> ?_
    rw [xY] at ht
    cases hli:l[i]? with
    |none=>rw [hli] at ht;cases ht
    |some t'=>
     rw [hli] at ht
     simp only [Option.map_some,sIE] at ht
     subst ht
     exact x1 h hl hrb (hh i v t' hv hli)
   |_=>cases hs
 · rename_i cc t
   cases Fn q t
   · exact hv.mono (fun _ h=>h) (fun _ _=>rfl) (Keep.refl _ _) fun b _ hb=>eF b hb
   · exact .any _
 · exact x1 h hl hrb hv
theorem x2(h:SimR c U s a w ρ){q:Nat}{br:Blk}(hl:af s.mem q=some br)(hrb:gQ br=true){tmps:Array Value}{fr:List SV}(hv: ∀ t,Rel w ρ (ae c.F ρ s.mem) U (tmps.getD t undef) (au fr t))(t:Nat):
 Rel w ρ (ae c.F ρ (bJ std s.mem q s.mem)) U (tmps.getD t undef) (au (iX std s.mem q fr) t):=by
 have:=hv t
 rw [bZ] at this ⊢
 rw [xZ]
 cases hf:fr[t]? with
 |none=>
  rw [hf] at this
  exact this.mono (fun _ h=>h) (fun _ _=>rfl) (Keep.refl _ _) fun b _ hb=>eF b hb
 |some x=>
  rw [hf] at this
  exact IL h hl hrb this
theorem x3(h:SimR c U s a w ρ){q:Nat}{br:Blk}(hl:af s.mem q=some br)(hrb:gQ br=true): ∀ {l:List (Array Value)} {m:List (List SV)},ki w ρ (ae c.F ρ s.mem) U l m->
 ki w ρ (ae c.F ρ (bJ std s.mem q s.mem)) U l (uC std s.mem q m)
 | [], [],_=>trivial
 |_::_,_::_,hh=>⟨⟨by rw [l5];exact hh.1.1,x2 h hl hrb hh.1.2⟩,x3 h hl hrb hh.2⟩
 | [],_::_,h=>h.elim
 |_::_, [],h=>h.elim
theorem A5{m m0:Mem}{q:Nat}(h:m.Pairwise fun e e'=>e'.1<e.1):(bJ std m0 q m).Pairwise fun e e'=>e'.1<e.1:=by
 have e: ∀ m:Mem,m.Pairwise (fun e e'=>e'.1<e.1)↔(m.map (·.1)).Pairwise fun k k'=>k'<k:=fun m=>by rw [List.pairwise_map]
 rw [e]
 exact ((e _).1 h).sublist eC
theorem rM(h:SimR c U s a w ρ){q:Nat}{br:Blk}(hl:af s.mem q=some br)(hrb:gQ br=true):
 SimR c U { next:=s.next,tmps:=iX std s.mem q s.tmps,mem:=bJ std s.mem q s.mem,stk:=uC std s.mem q s.stk } a w ρ∧ ∀ b,ae c.F ρ (bJ std s.mem q s.mem) b->ae c.F ρ s.mem b:=by
 refine ⟨⟨h.dfr,by rw [l5];exact h.sz,x2 h hl hrb h.tmps,x3 h hl hrb h.stk,⟨fun e he=> ?_,fun e he=> ?_,mF h.mem.apart,h.mem.frg,A5 h.mem.sorted⟩,h.keep,fun b hb=>h.sub b (Mm b hb),h.old,h.glb⟩,fun b hb=>eF b hb⟩
 · obtain ⟨bl,h1,h2,h3⟩:=df he
   have hok:=h.mem.blk _ h1
   simp only at hok
   rw [h2]
   cases bl with
   |box t l=>
    obtain ⟨g,arr,e0,hg,hsz,hone,hrel,hm⟩:=hok
    exact ⟨g,arr,e0,hg,by rw [rK];exact hsz,hone,fun i v t hv ht=>rL h hl hrb (cs:=arr.toList) (by simpa using hrel) i v t (by simpa using hv) ht,wd hm⟩
   |row ee kk nn ff=>
    exact hok.mono (by have:=h.mem.key _ h1;exact this) (fun _ h=>h) (fun _ _=>rfl) (Keep.refl _ _) (fun b _ hb=>eF b hb) fun _ _=>rfl
   |krow ee K=>
    exact hok.mono (by have:=h.mem.key _ h1;exact this) (fun _ h=>h) (fun _ _=>rfl) (Keep.refl _ _) (fun b _ hb=>eF b hb) fun _ _=>rfl
   |kmap t v M=>
    exact hok.mono (by have:=h.mem.key _ h1;exact this) (fun _ h=>h) (fun _ _=>rfl) (Keep.refl _ _) (fun b _ hb=>eF b hb) fun _ _=>rfl
   |kids K=>
    exact hok.mono (by have:=h.mem.key _ h1;exact this) (fun _ h=>h) (fun _ _=>rfl) (Keep.refl _ _) (fun b _ hb=>eF b hb) fun _ _=>rfl
 · obtain ⟨bl,h1,_⟩:=df he
   have:=h.mem.key _ h1
   exact this
theorem Cb(h:SimR c U s a w ρ)(q:Nat):SimR c U (frz std q s) a w ρ∧ ∀ b,ae c.F ρ (frz std q s).mem b->ae c.F ρ s.mem b:=by
 unfold frz
 split
 · rename_i hl
   exact rM h hl rfl
 · rename_i hl
   exact rM h hl rfl
 · rename_i hl
   exact rM h hl rfl
 · exact ⟨h,fun _ h=>h⟩
theorem iN: ∀(ks:List Nat) {s:St},SimR c U s a w ρ->SimR c U (dm std ks s) a w ρ∧ ∀ b,ae c.F ρ (dm std ks s).mem b->ae c.F ρ s.mem b
 | [],s,h=>⟨h,fun _ h=>h⟩
 |q::ks,s,h=>by
  obtain ⟨h1,h2⟩:=Cb h q
  obtain ⟨h3,h4⟩:=iN ks h1
  exact ⟨h3,fun b hb=>h2 b (h4 b hb)⟩
theorem x4(q:Nat)(s:St):(frz std q s).next=s.next:=by unfold frz;split<;>rfl
theorem gR: ∀(ks:List Nat) (s:St),(dm std ks s).next=s.next
 | [],s=>rfl
 |q::ks,s=>by rw [dm,gR,x4]
end
end Go.Vd
