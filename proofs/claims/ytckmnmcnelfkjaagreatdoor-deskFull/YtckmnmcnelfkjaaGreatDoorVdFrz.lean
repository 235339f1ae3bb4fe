/- A row that nobody writes any more. -/
import Derived.Test.YtckmnmcnelfkjaaGreatDoorVdDraw
set_option linter.unusedVariables false
set_option linter.unusedSimpArgs false
namespace Go.Vd
open Go.RowKit
variable {q:Nat} {m:Mem} {br:Blk} {v:Value} {t:SV}
section
variable {P:Program} {a:Act} {w:World} {ρ:Nat->Value} {U:Nat->Prop} {c:Ctx} {s:St}
def DV (m:Mem)(q:Nat):Blk->Blk
 | .box t l=> .box t (jS std m q l)
 |b=>b
def gL:Blk->Bool
 | .box _ _| .kmap _ _ _=>false
 |_=>true
theorem IJ{b:Blk}{ρ:Nat->Value}(g:Nat):fX ρ (DV m q b) g↔fX ρ b g:=by cases b<;>exact Iff.rfl
theorem cZ{e:Nat×Blk} : ∀ {r:Mem},e∈bF std m q r-> ∃ b,(e.1,b)∈r∧e.2=DV m q b∧(gL b=true->e.1≠q)
 | [],h=>by cases h
 | (k, .box t l)::r,h=>by
   simp only [bF] at h
   rcases List.mem_cons.1 h with rfl|h
   · exact ⟨.box t l,List.mem_cons_self ..,rfl,fun e=>by cases e⟩
   · obtain ⟨b,h1,h2,h3⟩:=cZ h
     exact ⟨b,List.mem_cons_of_mem _ h1,h2,h3⟩
 | (k, .kmap t v M)::r,h=>by
   simp only [bF] at h
   rcases List.mem_cons.1 h with rfl|h
   · exact ⟨.kmap t v M,List.mem_cons_self ..,rfl,fun e=>by cases e⟩
   · obtain ⟨b,h1,h2,h3⟩:=cZ h
     exact ⟨b,List.mem_cons_of_mem _ h1,h2,h3⟩
 | (k, .row x y z u)::r,h=>by
   simp only [bF] at h
   cases hb:Nat.beq k q<;>simp only [hb,cond_true,cond_false] at h
   · rcases List.mem_cons.1 h with rfl|h
     · exact ⟨.row x y z u,List.mem_cons_self ..,rfl,fun _ e=>by simp only at e;subst e;rw [Nat.beq_refl] at hb;cases hb⟩
     · obtain ⟨b,h1,h2,h3⟩:=cZ h
       exact ⟨b,List.mem_cons_of_mem _ h1,h2,h3⟩
   · obtain ⟨b,h1,h2,h3⟩:=cZ h
     exact ⟨b,List.mem_cons_of_mem _ h1,h2,h3⟩
 | (k, .krow x K)::r,h=>by
   simp only [bF] at h
   cases hb:Nat.beq k q<;>simp only [hb,cond_true,cond_false] at h
   · rcases List.mem_cons.1 h with rfl|h
     · exact ⟨.krow x K,List.mem_cons_self ..,rfl,fun _ e=>by simp only at e;subst e;rw [Nat.beq_refl] at hb;cases hb⟩
     · obtain ⟨b,h1,h2,h3⟩:=cZ h
       exact ⟨b,List.mem_cons_of_mem _ h1,h2,h3⟩
   · obtain ⟨b,h1,h2,h3⟩:=cZ h
     exact ⟨b,List.mem_cons_of_mem _ h1,h2,h3⟩
 | (k, .kids K)::r,h=>by
   simp only [bF] at h
   cases hb:Nat.beq k q<;>simp only [hb,cond_true,cond_false] at h
   · rcases List.mem_cons.1 h with rfl|h
     · exact ⟨.kids K,List.mem_cons_self ..,rfl,fun _ e=>by simp only at e;subst e;rw [Nat.beq_refl] at hb;cases hb⟩
     · obtain ⟨b,h1,h2,h3⟩:=cZ h
       exact ⟨b,List.mem_cons_of_mem _ h1,h2,h3⟩
   · obtain ⟨b,h1,h2,h3⟩:=cZ h
     exact ⟨b,List.mem_cons_of_mem _ h1,h2,h3⟩
theorem kW{e:Nat×Blk}{b:Blk}{ρ:Nat->Value}(h:e.2=DV m q b)(g:Nat):hasB ρ e g↔hasB ρ (e.1,b) g:=by
 simp only [hasB,h,IJ]
theorem mt{ρ:Nat->Value} : ∀ {r:Mem},r.Pairwise (cf ρ)->(bF std m q r).Pairwise (cf ρ)
 | [],_=>by simp [bF]
 | (k,b)::r,h=>by
   rw [List.pairwise_cons] at h
   have key: ∀ b',b'=DV m q b->((k,b')::bF std m q r).Pairwise (cf ρ):=fun b' hb'=>by
    refine List.pairwise_cons.2 ⟨fun e he=> ?_,mt h.2⟩
    obtain ⟨x,h1,h2,_⟩:=cZ he
    have hap:=h.1 _ h1
    exact ⟨hap.1,fun g g1 g2=>hap.2 g ((kW (e:=(k,b')) hb' g).1 g1) ((kW h2 g).1 g2)⟩
   cases b with
   |box t l=>simp only [bF];exact key _ rfl
   |kmap t v M=>simp only [bF];exact key _ rfl
   |row x y z u=>
    simp only [bF]
    cases Nat.beq k q<;>simp only [cond_true,cond_false]
    · exact key _ rfl
    · exact mt h.2
   |krow x K=>
    simp only [bF]
    cases Nat.beq k q<;>simp only [cond_true,cond_false]
    · exact key _ rfl
    · exact mt h.2
   |kids K=>
    simp only [bF]
    cases Nat.beq k q<;>simp only [cond_true,cond_false]
    · exact key _ rfl
    · exact mt h.2
theorem eu : ∀ {r:Mem},((bF std m q r).map (·.1)).Sublist (r.map (·.1))
 | [] =>by simp [bF]
 | (k, .box t l)::r=>by simp only [bF,List.map_cons];exact eu.cons_cons _
 | (k, .kmap t v M)::r=>by simp only [bF,List.map_cons];exact eu.cons_cons _
 | (k, .row x y z u)::r=>by
   simp only [bF]
   cases Nat.beq k q<;>simp only [cond_true,cond_false,List.map_cons]
   · exact eu.cons_cons _
   · exact eu.cons _
 | (k, .krow x K)::r=>by
   simp only [bF]
   cases Nat.beq k q<;>simp only [cond_true,cond_false,List.map_cons]
   · exact eu.cons_cons _
   · exact eu.cons _
 | (k, .kids K)::r=>by
   simp only [bF]
   cases Nat.beq k q<;>simp only [cond_true,cond_false,List.map_cons]
   · exact eu.cons_cons _
   · exact eu.cons _
theorem B7{ρ:Nat->Value}(hp:m.Pairwise (cf ρ)){e e':Nat×Blk}(h:e∈m)(h':e'∈m)(hne:e≠e'):cf ρ e e':=by
 induction m with
 |nil=>cases h
 |cons x m ih=>
  rw [List.pairwise_cons] at hp
  rcases List.mem_cons.1 h with e1|h1<;>rcases List.mem_cons.1 h' with e2|h2
  · exact absurd (e1.trans e2.symm) hne
  · rw [e1];exact hp.1 _ h2
  · rw [e2];exact (hp.1 _ h1).symm
  · exact ih hp.2 h1 h2
theorem ew{F:Nat->Prop}(b:Nat)(h:ae F ρ (bF std m q m) b):ae F ρ m b:=by
 rcases h with h| ⟨e,he,hb⟩
 · exact .inl h
 · obtain ⟨x,h1,h2,_⟩:=cZ he
   exact .inr ⟨_,h1,(kW h2 b).1 hb⟩
theorem Mm(b:Nat)(h:bB ρ (bF std m q m) b):bB ρ m b:=by
 obtain ⟨e,he,hb⟩:=h
 obtain ⟨x,h1,h2,_⟩:=cZ he
 exact ⟨_,h1,(kW h2 b).1 hb⟩
theorem xO(h:SimR c U s a w ρ)(hl:af s.mem q=some br)(hrb:gL br=true)(b:Nat)(hb:hasB ρ (q,br) b): ¬ ae c.F ρ (bF std s.mem q s.mem) b:=by
 rintro (hf| ⟨e,he,hb'⟩)
 · obtain ⟨h1,h2⟩:=h.old b hf
   rcases h.sub b ⟨_,ag hl,hb⟩ with h'|h'
   · exact h2 h'
   · omega
 · obtain ⟨bl,h1,h2,h3⟩:=cZ he
   have hne:(e.1,bl)≠(q,br):=by
    intro e0
    injection e0 with e1 e2
    exact h3 (by rw [e2];exact hrb) e1
   exact (B7 h.mem.apart h1 (ag hl) hne).2 b ((kW h2 b).1 hb') hb
theorem rz(h:SimR c U s a w ρ)(hl:af s.mem q=some br)(hrb:gL br=true)(hv:Rel w ρ (ae c.F ρ s.mem) U v t):
 Rel w ρ (ae c.F ρ (bF std s.mem q s.mem)) U v (gC std s.mem q t):=by
 have hmono: ∀ {v t},Rel w ρ (ae c.F ρ s.mem) U v t->Rel w ρ (ae c.F ρ (bF std s.mem q s.mem)) U v t:=fun hv=>hv.mono (fun _ h=>h) (fun _ _=>rfl) (Keep.refl _ _) fun b _ hb=>ew b hb
 have hfree:=xO h hl hrb
 unfold gC
 split
 · rename_i k
   cases hb:Nat.beq k q
   · exact hmono hv
   · obtain rfl:=nQE hb
     simp only [cond_true,aZ,hl]
     cases br with
     |box=>cases hrb
     |kmap=>cases hrb
     |row x y z u=>
      have:=i7 h.mem (rw':=ae c.F ρ (bF std s.mem k s.mem)) (fun b _ hb=>ew b hb) (fun b hb=>hfree b (.inl hb)) (eN h.mem hv hl) hl
      have e0:std.shift u 0=u:=by funext i j;simp [std,bd,bf,bw,a8,aO,aI,ba,aM,aE]
      rwa [e0] at this
     |krow e K=>
      simp only
      cases hh:K.hl with
      |some _=>exact .any _
      |none=>exact (xp h.mem (fun b _ hb=>ew b hb) hl hfree hh hv).rel
     |kids K=>exact .any _
 · rename_i k kk lo n
   cases hb:Nat.beq k q
   · exact hmono hv
   · obtain rfl:=nQE hb
     simp only [cond_true,aZ,hl]
     cases br with
     |box=>cases hrb
     |kmap=>cases hrb
     |krow e K=>exact .any _
     |kids K=>exact .any _
     |row x y z u=>
      simp only
      cases hb:Nat.beq kk y
      · exact .any _
      · obtain rfl:=nQE hb
        exact i7 h.mem (fun b _ hb=>ew b hb) (fun b hb=>hfree b (.inl hb)) hv hl
 · rename_i k j i
   cases hb:Nat.beq k q
   · exact hmono hv
   · obtain rfl:=nQE hb
     simp only [cond_true,aZ,hl]
     cases br with
     |box=>cases hrb
     |kmap=>cases hrb
     |row=>exact .any _
     |kids=>exact .any _
     |krow e K=>
      simp only
      split
      · rename_i hh ho hf
        obtain rfl:=nQE hf
        exact (B1 h.mem (fun b _ hb=>ew b hb) hl hfree hh ho hv).rel
      · exact .any _
 · rename_i k j n i
   cases hb:Nat.beq k q
   · exact hmono hv
   · obtain rfl:=nQE hb
     simp only [cond_true,aZ,hl]
     cases br with
     |box=>cases hrb
     |kmap=>cases hrb
     |row=>exact .any _
     |krow=>exact .any _
     |kids K=>
      simp only
      split
      · rename_i hh ho hf
        rw [bAE] at hf
        obtain rfl:=nQE hf.1
        obtain rfl:=nQE hf.2
        exact (xq h.mem (fun b _ hb=>ew b hb) hl hfree hh ho hv).rel
      · exact .any _
 · exact absurd hv.one1 (by simp [aH])
 · exact absurd hv.one1 (by simp [aH])
 · rename_i k kk i o
   cases hb:Nat.beq k q
   · exact hmono hv
   · exact .any _
 · rename_i f l
   cases hb:l.any (sD q)
   · exact hmono hv
   · exact .any _
 · exact hmono hv
theorem xP(s:SV):wid (gC std m q s)=wid s:=by
 unfold gC
 split<;>first|rfl|skip
 all_goals first
  | (cases Nat.beq _ _<;>simp only [cond_true,cond_false,oE];done)
  | (cases Nat.beq _ _<;>rfl)
  | (cases List.any _ _<;>rfl)
theorem xQ{s:SV}(h:aH s=false):aH (gC std m q s)=false:=by
 unfold gC
 split<;>first|exact h|skip
 all_goals first
  | (cases h;done)
  | (cases Nat.beq _ _<;>simp only [cond_true,cond_false]<;>first|exact oF h|rfl)
  | (cases List.any _ _<;>rfl)
theorem Mn(h:SimR c U s a w ρ)(hl:af s.mem q=some br)(hrb:gL br=true){i:Nat}(hv:Rel w ρ (ae c.F ρ s.mem) U v (atR t i)):
 Rel w ρ (ae c.F ρ (bF std s.mem q s.mem)) U v (atR (gC std s.mem q t) i):=by
 have hmono: ∀ {v t},Rel w ρ (ae c.F ρ s.mem) U v t->Rel w ρ (ae c.F ρ (bF std s.mem q s.mem)) U v t:=fun hv=>hv.mono (fun _ h=>h) (fun _ _=>rfl) (Keep.refl _ _) fun b _ hb=>ew b hb
 cases hr:aH t
 · rw [kF hr] at hv
   rw [kF (xQ hr)]
   exact rz h hl hrb hv
 · cases t<;>first| (cases hr;done) |exact hmono hv|skip
   · rename_i k j n
     have h1:=rz h hl hrb hv
     simp only [atR,gC] at h1 ⊢
     cases hb:Nat.beq k q<;>rw [hb] at h1<;>simp only [cond_true,cond_false] at h1 ⊢
     · exact h1
     · rcases m7 s.mem k j n with ⟨ns,kk,f,e1,e2⟩ |e1
       · rw [e2 i] at h1
         rw [e1]
         exact h1
       · rw [e1];exact .any _
   · rename_i k j p n g
     simp only [gC]
     cases Nat.beq k q
     · exact hmono hv
     · exact .any _
theorem FR{s:SV}(hr:aH (gC std m q s)=true){k:Nat}(hk:cA k (gC std m q s)):aH s=true∧cA k s:=by
 cases h:aH s
 · rw [xQ h] at hr;cases hr
 · refine ⟨rfl, ?_⟩
   cases s<;>first| (cases h;done) |exact hk|skip
   · rename_i k' j n
     simp only [gC] at hk hr
     cases hb:Nat.beq k' q<;>rw [hb] at hk hr<;>simp only [cond_true,cond_false] at hk hr
     · exact hk
     · exact absurd hk (sV hr k)
   · rename_i k' j p n g
     simp only [gC] at hk
     cases hb:Nat.beq k' q<;>rw [hb] at hk<;>simp only [cond_true,cond_false] at hk
     · exact hk
     · exact hk.elim
theorem xR : ∀ l:List SV,jS std m q l=l.map (gC std m q)
 | [] =>rfl
 |_::l=>by simp [jS,xR l]
theorem rA : ∀ l:List SV,(aj (jS std m q l)).length=(aj l).length
 | [] =>rfl
 |s::l=>by simp only [jS,aj,List.length_append,cz,xP,rA l]
theorem wa{l:List SV}{N:Nat->Prop}(h:bR N l):bR N (jS std m q l):=fun s hs hr k hk=>by
 rw [xR] at hs
 obtain ⟨t,ht,rfl⟩:=List.mem_map.1 hs
 obtain ⟨h1,h2⟩:=FR hr hk
 exact h t ht h1 k h2
theorem rB(h:SimR c U s a w ρ)(hl:af s.mem q=some br)(hrb:gL br=true): ∀ {l:List SV} {cs:List Value},
 (∀(i:Nat) v t,cs[i]? =some v->(aj l)[i]? =some t->Rel w ρ (ae c.F ρ s.mem) U v t)-> ∀(i:Nat) v t,cs[i]? =some v->(aj (jS std s.mem q l))[i]? =some t->Rel w ρ (ae c.F ρ (bF std s.mem q s.mem)) U v t
 | [],cs,_,i,v,t,_,ht=>by simp [jS,aj] at ht
 |x::l,cs,hh,i,v,t,hv,ht=>by
  simp only [jS] at ht
  rw [cP,xP] at ht
  split at ht
  · rename_i hi
    simp only [sIE] at ht
    subst ht
    exact Mn h hl hrb (hh i v _ hv (by rw [cP,if_pos hi]))
  · rename_i hi
    refine rB h hl hrb (cs:=cs.drop (wid x)) (fun k u t hu ht=> ?_) (i - wid x) v t (by rw [List.getElem?_drop,show wid x+(i - wid x)=i by omega];exact hv) ht
    rw [List.getElem?_drop] at hu
    exact hh _ u t hu (by rw [cP,if_neg (by omega),show wid x+k - wid x=k by omega];exact ht)
theorem xS : ∀(l:List SV) (i:Nat),(og std m q l)[i]? =(l[i]?).map (xh std m q)
 | [],i=>by simp [og]
 |_::_,0=>by simp [og]
 |_::l,i+1=>by simpa [og] using xS l i
theorem xT : ∀(l:List SV) (i:Nat),(iV std m q l)[i]? =(l[i]?).map (Dw std m q)
 | [],i=>by simp [iV]
 |_::_,0=>by simp [iV]
 |_::l,i+1=>by simpa [iV] using xT l i
theorem qJ : ∀(l:List SV),(og std m q l).length=l.length
 | [] =>rfl
 |_::l=>by simp [og,qJ l]
theorem lU : ∀(l:List SV),(iV std m q l).length=l.length
 | [] =>rfl
 |_::l=>by simp [iV,lU l]
theorem xU(h:SimR c U s a w ρ)(hl:af s.mem q=some br)(hrb:gL br=true)(hv:Rel w ρ (ae c.F ρ s.mem) U v t):
 Rel w ρ (ae c.F ρ (bF std s.mem q s.mem)) U v (xh std s.mem q t):=by
 unfold xh
 split
 · rename_i l
   generalize hs:SV.agg l=t at hv
   cases hv with
   |agg cs l' hlen h1 hh hm=>
    cases hs
    exact .agg _ _ (by rw [rA];exact hlen) h1 (fun i v t hv ht=>rB h hl hrb (cs:=cs.toList) (by simpa using hh) i v t (by simpa using hv) ht) (wa hm)
   |_=>cases hs
 · exact rz h hl hrb hv
theorem IK(h:SimR c U s a w ρ)(hl:af s.mem q=some br)(hrb:gL br=true)(hv:Rel w ρ (ae c.F ρ s.mem) U v t):
 Rel w ρ (ae c.F ρ (bF std s.mem q s.mem)) U v (Dw std s.mem q t):=by
 unfold Dw
 split
 · rename_i l
   generalize hs:SV.tup l=t at hv
   cases hv with
   |tup cs l' hlen hh=>
    cases hs
    refine .tup _ _ (by rw [qJ];exact hlen) fun i v t hv ht=> ?_
    rw [xS] at ht
    cases hli:l[i]? with
    |none=>rw [hli] at ht;cases ht
    |some t'=>
     rw [hli] at ht
     simp only [Option.map_some,sIE] at ht
     subst ht
     exact xU h hl hrb (hh i v t' hv hli)
   |_=>cases hs
 · rename_i cc t
   cases Fl q t
   · exact hv.mono (fun _ h=>h) (fun _ _=>rfl) (Keep.refl _ _) fun b _ hb=>ew b hb
   · exact .any _
 · exact xU h hl hrb hv
theorem xX(h:SimR c U s a w ρ)(hl:af s.mem q=some br)(hrb:gL br=true){tmps:Array Value}{fr:List SV}(hv: ∀ t,Rel w ρ (ae c.F ρ s.mem) U (tmps.getD t undef) (ap fr t))(t:Nat):
 Rel w ρ (ae c.F ρ (bF std s.mem q s.mem)) U (tmps.getD t undef) (ap (iV std s.mem q fr) t):=by
 have:=hv t
 rw [bW] at this ⊢
 rw [xT]
 cases hf:fr[t]? with
 |none=>
  rw [hf] at this
  exact this.mono (fun _ h=>h) (fun _ _=>rfl) (Keep.refl _ _) fun b _ hb=>ew b hb
 |some x=>
  rw [hf] at this
  exact IK h hl hrb this
theorem xY(h:SimR c U s a w ρ)(hl:af s.mem q=some br)(hrb:gL br=true): ∀ {l:List (Array Value)} {m:List (List SV)},ka w ρ (ae c.F ρ s.mem) U l m->
 ka w ρ (ae c.F ρ (bF std s.mem q s.mem)) U l (uw std s.mem q m)
 | [], [],_=>trivial
 |_::_,_::_,hh=>⟨⟨by rw [lU];exact hh.1.1,xX h hl hrb hh.1.2⟩,xY h hl hrb hh.2⟩
 | [],_::_,h=>h.elim
 |_::_, [],h=>h.elim
theorem A2{m m0:Mem}(h:m.Pairwise fun e e'=>e'.1<e.1):(bF std m0 q m).Pairwise fun e e'=>e'.1<e.1:=by
 have e: ∀ m:Mem,m.Pairwise (fun e e'=>e'.1<e.1)↔(m.map (·.1)).Pairwise fun k k'=>k'<k:=fun m=>by rw [List.pairwise_map]
 rw [e]
 exact ((e _).1 h).sublist eu
theorem rC(h:SimR c U s a w ρ)(hl:af s.mem q=some br)(hrb:gL br=true):
 SimR c U { next:=s.next,tmps:=iV std s.mem q s.tmps,mem:=bF std s.mem q s.mem,stk:=uw std s.mem q s.stk } a w ρ∧ ∀ b,ae c.F ρ (bF std s.mem q s.mem) b->ae c.F ρ s.mem b:=by
 refine ⟨⟨h.dfr,by rw [lU];exact h.sz,xX h hl hrb h.tmps,xY h hl hrb h.stk,⟨fun e he=> ?_,fun e he=> ?_,mt h.mem.apart,h.mem.frg,A2 h.mem.sorted⟩,h.keep,fun b hb=>h.sub b (Mm b hb),h.old,h.glb⟩,fun b hb=>ew b hb⟩
 · obtain ⟨bl,h1,h2,h3⟩:=cZ he
   have hok:=h.mem.blk _ h1
   simp only at hok
   rw [h2]
   cases bl with
   |box t l=>
    obtain ⟨g,arr,e0,hg,hsz,hone,hrel,hm⟩:=hok
    exact ⟨g,arr,e0,hg,by rw [rA];exact hsz,hone,fun i v t hv ht=>rB h hl hrb (cs:=arr.toList) (by simpa using hrel) i v t (by simpa using hv) ht,wa hm⟩
   |row ee kk nn ff=>
    exact hok.mono (by have:=h.mem.key _ h1;exact this) (fun _ h=>h) (fun _ _=>rfl) (Keep.refl _ _) (fun b _ hb=>ew b hb) fun _ _=>rfl
   |krow ee K=>
    exact hok.mono (by have:=h.mem.key _ h1;exact this) (fun _ h=>h) (fun _ _=>rfl) (Keep.refl _ _) (fun b _ hb=>ew b hb) fun _ _=>rfl
   |kmap t v M=>
    exact hok.mono (by have:=h.mem.key _ h1;exact this) (fun _ h=>h) (fun _ _=>rfl) (Keep.refl _ _) (fun b _ hb=>ew b hb) fun _ _=>rfl
   |kids K=>
    exact hok.mono (by have:=h.mem.key _ h1;exact this) (fun _ h=>h) (fun _ _=>rfl) (Keep.refl _ _) (fun b _ hb=>ew b hb) fun _ _=>rfl
 · obtain ⟨bl,h1,_⟩:=cZ he
   have:=h.mem.key _ h1
   exact this
theorem B8(h:SimR c U s a w ρ)(q:Nat):SimR c U (frz std q s) a w ρ∧ ∀ b,ae c.F ρ (frz std q s).mem b->ae c.F ρ s.mem b:=by
 unfold frz
 split
 · rename_i hl
   exact rC h hl rfl
 · rename_i hl
   exact rC h hl rfl
 · rename_i hl
   exact rC h hl rfl
 · exact ⟨h,fun _ h=>h⟩
theorem iI: ∀(ks:List Nat) {s:St},SimR c U s a w ρ->SimR c U (di std ks s) a w ρ∧ ∀ b,ae c.F ρ (di std ks s).mem b->ae c.F ρ s.mem b
 | [],s,h=>⟨h,fun _ h=>h⟩
 |q::ks,s,h=>by
  obtain ⟨h1,h2⟩:=B8 h q
  obtain ⟨h3,h4⟩:=iI ks h1
  exact ⟨h3,fun b hb=>h2 b (h4 b hb)⟩
theorem xZ(q:Nat)(s:St):(frz std q s).next=s.next:=by unfold frz;split<;>rfl
theorem gM: ∀(ks:List Nat) (s:St),(di std ks s).next=s.next
 | [],s=>rfl
 |q::ks,s=>by rw [di,gM,xZ]
end
end Go.Vd
