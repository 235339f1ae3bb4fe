/- Code: the generator's condition is enough. -/
import Derived.Test.YtckmnmcnelfkjaaGreatDoorVdLe
import Derived.Test.YtckmnmcnelfkjaaGreatDoorVdChain
import Derived.ScopeJumps
set_option linter.unusedVariables false
set_option linter.unusedSimpArgs false
namespace Go.Vd
open Go.RowKit
universe u
section
variable {P:Program} {c:Ctx} {T:Tys} {G:Pu} {X:Xt} {C:Cl}
def post (c:Ctx)(K:Ks):Exit->Act->World->Prop
 | .normal,a,w=> ∃ s,K.nrm s∧Sim c (aA s.next) s a w
 | .ret,a,w=> ∃ s,K.ret s∧Sim c (aA s.next) s a w
 | .exit id,a,w=> ∃ s,K.ext id s∧Sim c (aA s.next) s a w
 | .goto l,a,w=> ∃ s,K.gto l s∧Sim c (aA s.next) s a w
 |_,_,_=>False
theorem D4{p:Nat->Prop}(h: ∃ n,p n): ∃ n,p n∧ ∀ m,p m->n<=m:=by
 obtain ⟨n,hn⟩:=h
 induction n using Nat.strongRecOn with
 |_ n ih=>
  by_cases hm: ∃ m,m<n∧p m
  · obtain ⟨m,hlt,hpm⟩:=hm
    exact ih m hlt hpm
  · exact ⟨n,hn,fun m hpm=>Nat.le_of_not_lt fun hlt=>hm ⟨m,hlt,hpm⟩⟩
noncomputable def uP {ι:Type u}(I:ι->Act->World->Prop)(mu:ι->Nat)(a:Act)(w:World):Nat:=
 open Classical in if h: ∃ n,∃ x,I x a w∧mu x=n then (D4 h).choose else 0
theorem Cd{ι:Type u}{I:ι->Act->World->Prop}{mu:ι->Nat}{a:Act}{w:World}{x:ι}(h:I x a w):uP I mu a w<=mu x:=by
 have hx: ∃ n,∃ x,I x a w∧mu x=n:=⟨_,x,h,rfl⟩
 unfold uP
 rw [dif_pos hx]
 exact (D4 hx).choose_spec.2 _ ⟨x,h,rfl⟩
theorem Ce{ι:Type u}{I:ι->Act->World->Prop}{mu:ι->Nat}{a:Act}{w:World}(h: ∃ x,I x a w): ∃ x,I x a w∧mu x=uP I mu a w:=by
 obtain ⟨x,hx⟩:=h
 have hx: ∃ n,∃ x,I x a w∧mu x=n:=⟨_,x,hx,rfl⟩
 unfold uP
 rw [dif_pos hx]
 exact (D4 hx).choose_spec.1
theorem mw{l:Nat} : ∀ {a:Code},dj l a=true↔(findLabel a l).isSome=true:=fun {a} =>by
 induction a with
 |seq x y ihx ihy=>
  simp only [dj,Bool.or_eq_true,ihx,ihy,findLabel]
  cases findLabel x l<;>simp
 |label l'=>
  simp only [dj,findLabel]
  constructor
  · intro h
    obtain rfl:l'=l:=nQE h
    simp
  · intro h
    by_cases e:l'=l
    · subst e;exact Nat.beq_refl l'
    · simp [e] at h
 |_=>simp [dj,findLabel]
theorem A4{l:Nat} : ∀ {a:Code},kx a=some l->dj l a=true:=fun {a} =>by
 induction a with
 |seq x y ihx ihy=>
  intro h
  simp only [kx] at h
  simp only [dj,Bool.or_eq_true]
  split at h
  · rename_i l' hl;cases h;exact .inl (ihx hl)
  · exact .inr (ihy h)
 |label l'=>intro h;simp only [kx,sIE] at h;subst h;exact Nat.beq_refl l'
 |_=>intro h;cases h
theorem ig{l' l:Nat}{p:Prop}(hp:bif Nat.beq l' l then p else False):l'=l∧p:=by
 cases hb:Nat.beq l' l<;>rw [hb] at hp
 · exact hp.elim
 · exact ⟨nQE hb,hp⟩
def RJ (P:Program)(c:Ctx)(T:Tys)(G:Pu)(X:Xt)(C:Cl)(code:Code):Prop:= ∀ s K,vc std T G X C .run code s K-> ∀ a w,Sim c (aA s.next) s a w->code.wp P (post c K) a w
def Cf (P:Program)(c:Ctx)(T:Tys)(G:Pu)(X:Xt)(C:Cl)(code:Code):Prop:= ∀ l s K,vc std T G X C (.after l) code s K-> ∃ rest,findLabel code l=some rest∧ ∀ a w,Sim c (aA s.next) s a w->rest.wp P (post c K) a w
def F2 (P:Program)(c:Ctx)(T:Tys)(G:Pu)(X:Xt)(C:Cl)(code:Code):Prop:= ∀ l s K (Q:Exit->Act->World->Prop),vc std T G X C (.upto l) code s K->(∀ e a w,e≠ .normal->post c K e a w->Q e a w)->
    (∀ s',K.lbl s'-> ∃ s'' K2,(∀ a w,Sim c (aA s'.next) s' a w->Sim c (aA s''.next) s'' a w)∧vc std T G X C (.after l) code s'' K2∧ ∀ e a w,post c K2 e a w->Q e a w)->
    ∀ a w,Sim c (aA s.next) s a w->code.wp P Q a w
theorem uQ{Q:Exit->Act->World->Prop}{K:Ks}{nx:Act->World->Prop}{nn:St->Prop}(hn: ∀ s a w,nn s->Sim c (aA s.next) s a w->nx a w)(hq: ∀ e a w,e≠ .normal->post c K e a w->Q e a w):
 ∀ e a w,post c { K with nrm:=nn } e a w->Exit.then nx Q e a w:=by
 intro e a w h
 cases e with
 |normal=>obtain ⟨s,h1,h2⟩:=h;exact hn s a w h1 h2
 |exit id=>exact hq _ _ _ (fun e=>by cases e) h
 |goto l=>exact hq _ _ _ (fun e=>by cases e) h
 |ret=>exact hq _ _ _ (fun e=>by cases e) h
 |panic ch=>exact h.elim
 |outgrown=>exact h.elim
theorem x9(hT:TysOk P T)(hG:az P T.gl G)(hX:XtOk P T.gl X)(hC:rD P T C)(hgl:T.gl=c.gl)(hm:P.follows .mixedOrders=true): ∀ code:Code,RJ P c T G X C code∧Cf P c T G X C code∧F2 P c T G X C code:=by
 have noA: ∀ {code:Code},(∀ l s K,vc std T G X C (.after l) code s K->False)->Cf P c T G X C code:=fun h l s K hv=>(h l s K hv).elim
 have noU: ∀ {code:Code},(∀ l s K,vc std T G X C (.upto l) code s K->False)->F2 P c T G X C code:=fun h l s K Q hv=>(h l s K hv).elim
 intro code
 induction code with
 |skip=>exact ⟨fun s K h a w hs=>wp_skip ⟨s,h,hs⟩,noA fun _ _ _ h=>h,noU fun _ _ _ h=>h⟩
 |label l'=>
  refine ⟨fun s K h a w hs=>wp_label ⟨s,h,hs⟩,fun l s K h=> ?_,fun l s K Q h hq hlbl a w hs=> ?_⟩
  · simp only [vc] at h
    obtain ⟨rfl,h'⟩:=ig h
    exact ⟨.skip,by simp [findLabel],fun a w hs=>wp_skip ⟨s,h',hs⟩⟩
  · simp only [vc] at h
    obtain ⟨rfl,h'⟩:=ig h
    obtain ⟨s'',K2,h1,h2,h3⟩:=hlbl s h'
    simp only [vc] at h2
    obtain ⟨_,h2⟩:=ig h2
    exact wp_label (h3 .normal a w ⟨s'',h2,h1 a w hs⟩)
 |region id ops draw=>
  exact ⟨fun s K h a w hs=>x8 (K:=K.nrm) hT hG hX hC hgl hm (fun s' a w hk hs'=>⟨s',hk,hs'⟩) h hs,noA fun _ _ _ h=>h,noU fun _ _ _ h=>h⟩
 |seq x y ihx ihy=>
  have hrun: ∀(K:Ks) (x':Code) a w,x'.wp P (post c { K with nrm:=fun s'=>vc std T G X C .run y s' K }) a w->(Code.seq x' y).wp P (post c K) a w:=fun K x' a w hx=>
   wp_seq (wp_mono hx (uQ (fun s a w h hs=>ihy.1 s K h a w hs) fun e a w _ h=>h))
  refine ⟨fun s K h a w hs=>hrun K x a w (ihx.1 s _ h a w hs),fun l s K h=> ?_,fun l s K Q h hq hlbl a w hs=> ?_⟩
  · simp only [vc] at h
    cases hb:dj l x<;>simp only [hb,cond_true,cond_false] at h
    · obtain ⟨rest,hr,hw⟩:=ihy.2.1 l s K h
      refine ⟨rest, ?_,hw⟩
      have:findLabel x l=none:=by
       cases hf:findLabel x l with
       |none=>rfl
       |some r=>rw [mw.2 (by rw [hf];rfl)] at hb;cases hb
      simp only [findLabel,this,hr]
    · obtain ⟨rest,hr,hw⟩:=ihx.2.1 l s _ h
      exact ⟨.seq rest y,by simp only [findLabel,hr],fun a w hs=>hrun K rest a w (hw a w hs)⟩
  · simp only [vc] at h
    cases hb:dj l x<;>simp only [hb,cond_true,cond_false] at h
    · refine wp_seq (wp_mono (ihx.1 s _ h a w hs) (uQ (fun s' a w h' hs'=> ?_) hq))
      refine ihy.2.2 l s' K Q h' hq (fun s1 hl1=> ?_) a w hs'
      obtain ⟨s'',K2,h1,h2,h3⟩:=hlbl s1 hl1
      simp only [vc,hb,cond_false] at h2
      exact ⟨s'',K2,h1,h2,h3⟩
    · refine wp_seq (ihx.2.2 l s K _ h (fun e a w he hp=> ?_) (fun s1 hl1=> ?_) a w hs)
      · cases e with
        |normal=>exact absurd rfl he
        |exit id=>exact hq _ _ _ he hp
        |goto l=>exact hq _ _ _ he hp
        |ret=>exact hq _ _ _ he hp
        |panic ch=>exact hp.elim
        |outgrown=>exact hp.elim
      · obtain ⟨s'',K2,h1,h2,h3⟩:=hlbl s1 hl1
        simp only [vc,hb,cond_true] at h2
        exact ⟨s'',_,h1,h2,uQ (fun s3 a w h' hs'=>wp_mono (ihy.1 s3 K2 h' a w hs') h3) fun e a w _ h=>h3 e a w h⟩
 |cond cc x y ihx ihy=>
  refine ⟨fun s K h a w hs=> ?_,noA fun _ _ _ h=>h,noU fun _ _ _ h=>h⟩
  simp only [vc] at h
  split at h
  · rename_i t ht
    obtain ⟨ρ,hs'⟩:=hs
    have hv:=hs'.ev cc
    rw [<-hgl,ht] at hv
    exact wp_cond_split hv.eq_bool (fun e=>ihx.1 s K (h.1 e) a w ⟨ρ,hs'⟩) (fun e=>ihy.1 s K (h.2 e) a w ⟨ρ,hs'⟩)
  · exact h.elim
 |block id x ih=>
  refine ⟨fun s K h a w hs=>wp_block (wp_mono (ih.1 s _ h a w hs) fun e a w hq=> ?_),noA fun _ _ _ h=>h,noU fun _ _ _ h=>h⟩
  cases e with
  |normal=>exact hq
  |exit i=>
   obtain ⟨s',hk,hs'⟩:=hq
   simp only [Exit.inBlock]
   simp only at hk
   by_cases hi:i=id
   · subst hi
     rw [if_pos rfl]
     rw [Nat.beq_refl] at hk
     exact ⟨s',hk,hs'⟩
   · rw [if_neg hi]
     have:Nat.beq i id=false:=by
      cases hb:Nat.beq i id with
      |false=>rfl
      |true=>exact absurd (nQE hb) hi
     rw [this] at hk
     exact ⟨s',hk,hs'⟩
  |goto l=>exact hq
  |ret=>exact hq
  |panic ch=>exact hq
  |outgrown=>exact hq
 |loop x ih=>
  refine ⟨fun s K h a w hs=> ?_,noA fun _ _ _ h=>h,noU fun _ _ _ h=>h⟩
  obtain ⟨L,⟨x0,hle⟩,hbody⟩:=h
  refine wp_loop (fun a w=> ∃ y,Sim c (aA (gU std s (writes x) L y).next) (gU std s (writes x) L y) a w) (uP (fun y a w=>Sim c (aA (gU std s (writes x) L y).next) (gU std s (writes x) L y) a w) L.mu) ⟨x0,jd hle hs⟩ fun a w hI=> ?_
  obtain ⟨y,hy,hmu⟩:=Ce (mu:=L.mu) hI
  refine wp_mono (ih.1 _ _ (hbody y) a w hy) fun e a' w' hq=> ?_
  cases e with
  |normal=>
   obtain ⟨s',⟨y',hle',hlt⟩,hs'⟩:=hq
   have hsy:=jd hle' hs'
   refine ⟨⟨y',hsy⟩, ?_⟩
   rw [<-hmu]
   exact Nat.lt_of_le_of_lt (Cd (mu:=L.mu) hsy) hlt
  |exit id=>exact hq
  |goto l=>exact hq
  |ret=>exact hq
  |panic ch=>exact hq
  |outgrown=>exact hq
 |scope x ih=>
  refine ⟨fun s K h a w hs=> ?_,noA fun _ _ _ h=>h,noU fun _ _ _ h=>h⟩
  simp only [vc] at h
  split at h
  · refine wp_scope_straight (wp_mono (ih.1 s _ h a w hs) fun e a w hq=> ?_)
    cases e with
    |goto l=>obtain ⟨_,hf,_⟩:=hq;exact hf.elim
    |normal=>exact hq
    |exit id=>exact hq
    |ret=>exact hq
    |panic ch=>exact hq
    |outgrown=>exact hq
  · rename_i l hl
    have hfl: ∃ rest,findLabel x l=some rest:=Option.isSome_iff_exists.1 (mw.1 (A4 hl))
    obtain ⟨rest,hr⟩:=hfl
    let Gd:St->Lp->Prop:=fun s0 L=> ∀ y,vc std T G X C (.after l) x (gU std s0 (fG l x) L y) { K with gto:=fun l' s'=>bif Nat.beq l' l then ∃ x',uB std s' (gU std s0 (fG l x) L x')∧L.mu x'<L.mu y else False }
    let ι:= { p:(Σ (s0:St) (L:Lp),L.I) // Gd p.1 p.2.1 }
    let Inv:ι->Act->World->Prop:=fun p a w=>Sim c (aA (gU std p.1.1 (fG l x) p.1.2.1 p.1.2.2).next) (gU std p.1.1 (fG l x) p.1.2.1 p.1.2.2) a w
    let mu:ι->Nat:=fun p=>p.1.2.1.mu p.1.2.2
    have hjump: ∀(K':Ks) (J:Act->World->Prop),(∀ l' s',K'.gto l' s'-> ∀ a w,Sim c (aA s'.next) s' a w->l'=l∧J a w)->(∀ s,K'.nrm s->K.nrm s)->(∀ s,K'.ret s->K.ret s)->(∀ i s,K'.ext i s->K.ext i s)->
     ∀ e a w,post c K' e a w->Exit.jump l J (post c K) e a w:=by
     intro K' J hJ h1 h2 h3 e a w hq
     cases e with
     |goto l'=>obtain ⟨s',hk,hs'⟩:=hq;exact hJ l' s' hk a w hs'
     |normal=>obtain ⟨s',hk,hs'⟩:=hq;exact ⟨s',h1 _ hk,hs'⟩
     |exit id=>obtain ⟨s',hk,hs'⟩:=hq;exact ⟨s',h3 _ _ hk,hs'⟩
     |ret=>obtain ⟨s',hk,hs'⟩:=hq;exact ⟨s',h2 _ hk,hs'⟩
     |panic ch=>exact hq.elim
     |outgrown=>exact hq.elim
    refine wp_scope_jumps l (fun a w=> ∃ p,Inv p a w) (uP Inv mu) hr ?_ fun a w hI=> ?_
    · refine ih.2.2 l s _ _ h (fun e a w _ hp=> ?_) (fun s0 hl0=> ?_) a w hs
      · refine hjump _ _ ?_ ?_ ?_ ?_ e a w hp
        rotate_left
        · exact fun _ h=>h
        · exact fun _ h=>h
        · exact fun _ _ h=>h
        intro l' s' hk a w hs'
        obtain ⟨e,L,⟨y,hle⟩,hg⟩:=ig hk
        exact ⟨e,⟨⟨s',L,y⟩,hg⟩,jd hle hs'⟩
      · obtain ⟨L,⟨y,hle⟩,hg⟩:=hl0
        refine ⟨gU std s0 (fG l x) L y,_,fun a w hs'=>jd hle hs',hg y,hjump _ _ (fun l' s' hk a w hs'=> ?_) (fun _ h=>h) (fun _ h=>h) (fun _ _ h=>h)⟩
        obtain ⟨e,y',hle',_⟩:=ig hk
        exact ⟨e,⟨⟨s0,L,y'⟩,hg⟩,jd hle' hs'⟩
    · obtain ⟨⟨⟨s0,L,y⟩,hg⟩,hy,hmu⟩:=Ce (mu:=mu) hI
      obtain ⟨rest',hr',hw⟩:=ih.2.1 l _ _ (hg y)
      rw [hr] at hr'
      cases hr'
      refine wp_mono (hw a w hy) (hjump _ _ (fun l' s' hk a w hs'=> ?_) (fun _ h=>h) (fun _ h=>h) (fun _ _ h=>h))
      obtain ⟨e,y',hle',hlt⟩:=ig hk
      have hsy:=jd hle' hs'
      refine ⟨e,⟨⟨⟨s0,L,y'⟩,hg⟩,hsy⟩, ?_⟩
      rw [<-hmu]
      exact Nat.lt_of_le_of_lt (Cd (I:=Inv) (mu:=mu) (x:=⟨⟨s0,L,y'⟩,hg⟩) hsy) hlt
 |exit id=>exact ⟨fun s K h a w hs=>wp_exit ⟨s,h,hs⟩,noA fun _ _ _ h=>h,noU fun _ _ _ h=>h⟩
 |goto l'=>exact ⟨fun s K h a w hs=>wp_goto ⟨s,h,hs⟩,noA fun _ _ _ h=>h,noU fun _ _ _ h=>h⟩
 |ret=>exact ⟨fun s K h a w hs=>wp_ret ⟨s,h,hs⟩,noA fun _ _ _ h=>h,noU fun _ _ _ h=>h⟩
 |rangeFunc f ps as b=>exact ⟨fun s K h=>h.elim,noA fun _ _ _ h=>h,noU fun _ _ _ h=>h⟩
 |refuse why=>exact ⟨fun s K h=>h.elim,noA fun _ _ _ h=>h,noU fun _ _ _ h=>h⟩
end
end Go.Vd
