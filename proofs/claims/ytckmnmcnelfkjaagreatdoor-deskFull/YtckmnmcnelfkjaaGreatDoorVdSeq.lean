/- Regions in the text's order, with calls that are gone into. -/
import Derived.Test.YtckmnmcnelfkjaaGreatDoorVdMaps
import Derived.Lib.SliceRun
set_option linter.unusedVariables false
set_option linter.unusedSimpArgs false
namespace Go.Vd
open Go.RowKit
variable {p:Option Prop} {args:List SV} {g:Bool->Prop} {s':St} {f:Nat}
def rD (P:Program)(T:Tys)(C:Cl):Prop:=
 ∀ f args s K,C f args s K-> ∀(c:Ctx) (a:Act) (w:World) (ρ:Nat->Value) (vs:List Value),T.gl=c.gl->SimR c (aA s.next) s a w ρ->bp (Rel w ρ (ae c.F ρ s.mem) (aA s.next)) vs args->
   dk P f∧Calls P f vs.toArray w fun e w'=> ∃ v s' r ρ',e= .returned v∧K s' r∧SimR c (aA s'.next) s' a w' ρ'∧Rel w' ρ' (ae c.F ρ' s'.mem) (aA s'.next) v r
section
variable {P:Program} {o:Oper} {a:Act} {w:World} {ρ:Nat->Value} {c:Ctx} {s:St} {T:Tys} {G:Pu} {X:Xt}
theorem rE{U:Nat->Prop}{n:Nat}(h:Sim c U s a w):Sim c U { s with next:=n } a w:=h.next n
theorem ez{n:Nat}(h:Sim c (aL (aA n) n) s a w):Sim c (aA (n+1)) s a w:=h.wide fun k hk=>by simp only [aA,aL] at hk ⊢;omega
theorem rG(hT:TysOk P T)(hG:az P T.gl G)(hgl:T.gl=c.gl){all:List Oper}{p:Option Prop}{s':St}(hs:dz std T G all s.next 0 o { s with next:=s.next+1 } =some (p,s'))(hp:aK p)(h:Sim c (aA s.next) s a w){Q:Exit->Act->World->Prop} :
 if Region.wanted o (yielded all.toArray a.tmps)=true then o.wp P a w (fun a' w'=>Sim c (aA s'.next) s' a' w') Q else Sim c (aA s'.next) s' (a.put o.dst undef) w:=by
 have hn:s'.next=s.next+1:=qF hs
 have:=oO (Q:=Q) hT hG hgl (U:=aA s.next) (base:=s.next) (i:=0) (fun e=>by simp [aA] at e) (fun k hk=>hk) (rE (n:=s.next+1) h) hs hp
 rw [hn]
 split
 · rename_i hw
   rw [if_pos hw] at this
   exact Oper.wp_mono (fun a' w' h=>ez h) this
 · rename_i hw
   rw [if_neg hw] at this
   exact ez this
theorem oX(hs:xOp std T G X o s≠ .no):o.guard=none:=by
 unfold xOp at hs
 cases hg:o.guard with
 |none=>rfl
 |some g=>rw [hg] at hs;exact absurd rfl hs
theorem jy(hg:o.guard=none)(all:Array Oper)(tmps:Array Value):Region.wanted o (yielded all tmps)=true:=by simp [Region.wanted,hg]
theorem qL(hT:TysOk P T)(hG:az P T.gl G)(hgl:T.gl=c.gl)(hg:o.guard=none){ks:List Nat}{p:Option Prop}{s':St}(hs:dz std T G [] (di std ks s).next 0 o { di std ks s with next:=(di std ks s).next+1 } =some (p,s'))(hp:aK p)
 (h:SimR c (aA s.next) s a w ρ) {Q:Exit->Act->World->Prop} :o.wp P a w (fun a' w'=>Sim c (aA s'.next) s' a' w') Q:=by
 have h1:=(iI ks h).1
 have h2:Sim c (aA (di std ks s).next) (di std ks s) a w:=by rw [gM];exact ⟨ρ,h1⟩
 have:=rG (Q:=Q) hT hG hgl hs hp h2
 rw [if_pos (jy hg _ _)] at this
 exact this
set_option maxHeartbeats 1000000 in
theorem IM(hT:TysOk P T)(hG:az P T.gl G)(hX:XtOk P T.gl X)(hgl:T.gl=c.gl)(h:Sim c (aA s.next) s a w)(hs:xOp std T G X o s= .step p s')(hp:aK p){Q:Exit->Act->World->Prop} :
 o.wp P a w (fun a' w'=>Sim c (aA s'.next) s' a' w') Q:=by
 have hg:o.guard=none:=oX (T:=T) (G:=G) (X:=X) (s:=s) (by rw [hs];exact fun e=>by cases e)
 obtain ⟨ρ,h⟩:=h
 unfold xOp at hs
 rw [hg] at hs
 simp only at hs
 split at hs
 ·
  rename_i t ho
  split at hs
  · rename_i ty hty
    split at hs
    · rename_i k e vb htag
      simp only [XR.step.injEq] at hs
      obtain ⟨rfl,rfl⟩:=hs
      obtain ⟨z,w',hrun,hsim⟩:=DZ (P:=P) h (key:=s.next) (fun e=>by simp [aA] at e) t vb o.dst
      refine aU (v:=z) (w':=w') (by
       have hex:execOp a.eval o=(do pure (.value (<-Instr.makeMap t none))):=by simp [execOp,ho]
       rw [hex,Sem.run_bind,hrun];rfl) ?_
      exact ez (rE (n:=s.next+1) hsim)
    · cases hs
  · cases hs
 ·
  rename_i t x k ho
  split at hs
  · rename_i ty q p b hty hxe hke
    split at hs
    · rename_i k1 e1 vb t' vb' M htag hlk
      cases hb:(Nat.beq t t' &&(bif vb then vb' else !vb'))<;>simp only [hb,cond_true,cond_false,reduceCtorEq,XR.step.injEq] at hs
      obtain ⟨rfl,rfl⟩:=hs
      have hvb:vb'=vb:=by
       have:=(Bool.and_eq_true_iff.1 hb).2
       cases vb<;>cases vb'<;>first|rfl|cases this
      subst hvb
      have hxv:=h.ev x
      have hkv:=h.ev k
      rw [<-hgl,hxe] at hxv
      rw [<-hgl,hke] at hkv
      obtain ⟨z,hrun,hrel⟩:=FW (P:=P) h (hT _ _ hty) htag hxv hlk hkv
      refine aU (v:=z) (w':=w) (by
       have hex:execOp a.eval o=(do pure (.value (<-Instr.lookup t (a.eval x) (a.eval k) false))):=by simp [execOp,ho]
       rw [hex,Sem.run_bind,hrun];rfl) ?_
      exact ⟨ρ,h.put (Keep.refl _ _) hrel o.dst⟩
    · cases hs
  · cases hs
 ·
  rename_i t x k v ho
  split at hs
  · rename_i ty q p b hty hxe hke
    split at hs
    · rename_i k1 e1 vb t' vb' M n htag hlk hmv
      cases hb:(Nat.beq t t' &&(bif vb then vb' else !vb'))<;>simp only [hb,cond_true,cond_false,reduceCtorEq,XR.step.injEq] at hs
      obtain ⟨rfl,rfl⟩:=hs
      have hvb:vb'=vb:=by
       have:=(Bool.and_eq_true_iff.1 hb).2
       cases vb<;>cases vb'<;>first|rfl|cases this
      subst hvb
      have hxv:=h.ev x
      have hkv:=h.ev k
      have hvv:=h.ev v
      rw [<-hgl,hxe] at hxv
      rw [<-hgl,hke] at hkv
      rw [<-hgl] at hvv
      have hval:a.eval v=bif vb' then .bool (n !=0) else .int .i64 n:=by
       rw [htag] at hmv
       simp only at hmv
       unfold Fn at hmv
       split at hmv
       · rename_i b1 hb1
         rw [hb1] at hvv
         cases vb'<;>simp only [cond_true,cond_false,sIE,reduceCtorEq] at hmv
         subst hmv
         rw [hvv.eq_bool]
         cases b1<;>rfl
       · rename_i n1 hn1
         rw [hn1] at hvv
         cases vb'<;>simp only [cond_true,cond_false,sIE,reduceCtorEq] at hmv
         subst hmv
         exact hvv.eq_int
       · cases hmv
      obtain ⟨w',hrun,hsim⟩:=Mq (P:=P) h (hT _ _ hty) htag hxv hlk hkv hval
      refine ft (w':=w') (by simp only [execOp,ho,Sem.run_bind,hrun];rfl) ?_
      exact ⟨ρ,hsim.put (Keep.refl _ _) .un o.dst⟩
    · cases hs
  · cases hs
 ·
  rename_i args ts ho
  split at hs
  · rename_i x t hargs hts
    split at hs
    · rename_i ty q hty hxe
      split at hs
      · rename_i k1 e1 vb t' vb' M htag hlk
        simp only [XR.step.injEq] at hs
        obtain ⟨rfl,rfl⟩:=hs
        have ea:args= #[x] :=by rw [<-Array.toArray_toList (xs:=args),hargs]
        have et:ts= #[t] :=by rw [<-Array.toArray_toList (xs:=ts),hts]
        have hxv:=h.ev x
        rw [<-hgl,hxe] at hxv
        have hrun:=O9 (P:=P) (ty':=o.type) h (hT _ _ hty) htag hxv hlk
        refine aU (v:= .int .i64 (std.mlen M)) (w':=w) (by
         have hex:execOp a.eval o=(do pure (.value (<-Builtin.len_ #[t] o.type #[a.eval x]))):=by simp [execOp,ho,resolve,invoke,builtin,ea,et]
         rw [hex,Sem.run_bind,hrun];rfl) ?_
        exact ⟨ρ,h.put (Keep.refl _ _) (.int _ _) o.dst⟩
      · cases hs
    · cases hs
  · cases hs
 ·
  rename_i t pp x ho
  split at hs
  · rename_i b base n i ty hep hty
    split at hs
    · rename_i u cs hxn hlb
      split at hs
      · rename_i q j nn hrun
        split at hs
        · rename_i K0 hlq
          split at hs
          · rename_i q1 q2 q3
            simp only [XR.step.injEq] at hs
            obtain ⟨rfl,rfl⟩:=hs
            simp only [bAE] at q3
            obtain ⟨⟨b1,b2⟩,b3,_⟩:=q3
            obtain rfl:=nQE b1
            obtain rfl:=nQE b2
            have hpv:=h.ev pp
            rw [<-hgl,hep] at hpv
            have hxv:=h.ev x
            rw [<-hgl,hxn] at hxv
            have hxe:a.eval x= .slice none 0 0:=by
             generalize a.eval x=xv at hxv
             cases hxv
             rfl
            obtain ⟨w',hrun',ρ',hsim⟩:=Mi (P:=P) h (key:=s.next) (fun e=>by simp [aA] at e) (hT _ _ hty) (nQE b3) hpv hlb hrun hlq q1 q2 hp
            refine ft (w':=w') (by simp only [execOp,ho,hxe,Sem.run_bind,hrun'];rfl) ?_
            exact ez (rE (n:=s.next+1) ⟨ρ',hsim.put (Keep.refl _ _) .un o.dst⟩)
          · cases hs
        · cases hs
      · cases hs
    · cases hs
  · rename_i q k i off ty hep hty
    split at hs
    · rename_i l hlx
      split at hs
      · rename_i l' e k' n f hl' hlk
        cases hb:(Nat.beq k k' &&(Nat.beq (len l') ty.size &&(Nat.ble (off+ty.size) k && bM l')))<;>simp only [hb,cond_true,cond_false,reduceCtorEq,XR.step.injEq] at hs
        obtain ⟨rfl,rfl⟩:=hs
        simp only [bAE] at hb
        obtain ⟨b1,b2,b3,b4⟩:=hb
        obtain rfl:=nQE b1
        obtain ⟨h1,hrw⟩:=iI (kP l) h
        have hpv:Rel w ρ (ae c.F ρ (di std (kP l) s).mem) (aA s.next) (a.eval pp) (.eptr q k i off):=by
         have:=h.ev pp
         rw [<-hgl,hep] at this
         exact this.mono (fun _ h=>h) (fun _ _=>rfl) (Keep.refl _ _) fun b _ hb=>hrw b hb
        have hxv:=h1.ev x
        rw [<-hgl] at hxv
        obtain ⟨w',hrun,hsim⟩:=qz h1 (hT _ _ hty) hpv hxv hl' b4 hlk (by rw [<-dW];exact nQE b2) (Nat.le_of_ble_eq_true b3)
        refine ft (w':=w') (by simp only [execOp,ho,Sem.run_bind,hrun];rfl) ?_
        have:=hsim.put (Keep.refl _ _) .un o.dst
        refine Sim.wide (fun k hk=> ?_) ⟨ρ,this⟩
        simp only [aA,gM] at hk ⊢
        exact hk
      · cases hs
    · cases hs
  · cases hs
 ·
  split at hs
  · split at hs<;>cases hs
  · split at hs<;>cases hs
  · cases hs
 ·
  rename_i args ts ho
  split at hs
  · rename_i x t hargs hts
    split at hs
    · rename_i ty hty
      split at hs
      · rename_i el k0 by_ isb htag
        split at hs
        · rename_i te q k lo n hte hx
          split at hs
          · rename_i e k' n0 f hlk
            cases hb:((Nat.beq k k' && Nat.beq k k0)&&(Nat.beq e el &&(bM te.zero && Nat.beq (len te.zero) k)))<;>simp only [hb,cond_true,cond_false,reduceCtorEq,XR.step.injEq] at hs
            obtain ⟨rfl,rfl⟩:=hs
            simp only [bAE] at hb
            obtain ⟨⟨b1,b2⟩,b3,b4,b5⟩:=hb
            obtain rfl:=nQE b1
            obtain rfl:=nQE b2
            obtain rfl:=nQE b3
            have ea:args= #[x] :=by rw [<-Array.toArray_toList (xs:=args),hargs]
            have et:ts= #[t] :=by rw [<-Array.toArray_toList (xs:=ts),hts]
            have hex:execOp a.eval o=(do pure (.value (<-Builtin.clear_ #[t] o.type #[a.eval x]))):=by simp [execOp,ho,resolve,invoke,builtin,ea,et]
            have hxv:=h.ev x
            rw [<-hgl] at hxv
            have hpart:Rel w ρ (ae c.F ρ s.mem) (aA s.next) (a.eval x) (.part q k lo n):=by
             split at hx
             · rename_i q' hq'
               rw [hq'] at hxv
               split at hx
               · rename_i e2 k2 n2 f2 hl2
                 simp only [sIE,pIE] at hx
                 obtain ⟨rfl,rfl,rfl,rfl⟩:=hx
                 rw [hl2] at hlk
                 cases hlk
                 exact eN h.mem hxv hl2
               · cases hx
             · rename_i q' k2 lo' n' hq'
               rw [hq'] at hxv
               simp only [sIE,pIE] at hx
               obtain ⟨rfl,rfl,rfl,rfl⟩:=hx
               exact hxv
             · cases hx
            obtain ⟨w',hrun,hsim⟩:=Iy (ty':=o.type) h (hT _ _ hty) htag (hT _ _ hte) b4 (by rw [<-dW];exact nQE b5) hpart hlk
            refine aU (v:= .tuple #[]) (w':=w') (by rw [hex,Sem.run_bind,hrun];rfl) ?_
            exact ⟨ρ,hsim.put (Keep.refl _ _) (.tup _ _ rfl (fun i v s hv=>by simp at hv)) o.dst⟩
          · cases hs
        · cases hs
      · cases hs
    · cases hs
  · cases hs
 ·
  rename_i args ts ho
  split at hs
  · rename_i x y t u hargs hts
    split at hs
    · rename_i ty m k g hty hsrc
      split at hs
      · rename_i el k0 by_ isb htag
        split at hs
        · rename_i q lo n hx
          split at hs
          · rename_i e k' n0 f hlk
            cases hb:((Nat.beq k k' && Nat.beq k k0)&& Nat.beq e el)<;>simp only [hb,cond_true,cond_false,reduceCtorEq,XR.step.injEq] at hs
            obtain ⟨rfl,rfl⟩:=hs
            simp only [bAE] at hb
            obtain ⟨⟨b1,b2⟩,b3⟩:=hb
            obtain rfl:=nQE b1
            obtain rfl:=nQE b2
            cases htu:(Nat.beq t u && cF s.mem (ev T.gl s.tmps y))<;>simp only [htu,cond_true,cond_false,reduceCtorEq] at hsrc
            have hpl:=(Bool.and_eq_true_iff.1 htu).2
            have ea:args= #[x,y] :=by rw [<-Array.toArray_toList (xs:=args),hargs]
            have et:ts= #[t,u] :=by rw [<-Array.toArray_toList (xs:=ts),hts]
            have hex:execOp a.eval o=(do pure (.value (<-Builtin.copy_ #[t,u] o.type #[a.eval x,a.eval y]))):=by simp [execOp,ho,resolve,invoke,builtin,ea,et]
            have hxv:=h.ev x
            rw [<-hgl] at hxv
            have hpart:Rel w ρ (ae c.F ρ s.mem) (aA s.next) (a.eval x) (.part q k lo n):=by
             split at hx
             · rename_i q' hq'
               rw [hq'] at hxv
               split at hx
               · rename_i e2 k2 n2 f2 hl2
                 simp only [sIE,pIE] at hx
                 obtain ⟨rfl,rfl,rfl⟩:=hx
                 rw [hl2] at hlk
                 cases hlk
                 exact eN h.mem hxv hl2
               · cases hx
             · rename_i q' k2 lo' n' hq'
               rw [hq'] at hxv
               cases hkk:Nat.beq k2 k<;>simp only [hkk,cond_true,cond_false,reduceCtorEq,sIE,pIE] at hx
               obtain ⟨rfl,rfl,rfl⟩:=hx
               obtain rfl:=nQE hkk
               exact hxv
             · cases hx
            have hyv:=h.ev y
            rw [<-hgl] at hyv
            obtain ⟨w',hrun,hsim⟩:=Mo (u:=u) (ty':=o.type) h (hT _ _ hty) htag hpart hlk (fun h0=>by
             generalize a.eval x=xv at hpart
             cases hpart with
             |part _ _ _ _ da dc hk hn hh=>
              obtain ⟨gg,n1,c1,hρ,hle,_⟩:=gV hn hh h0
              obtain ⟨rfl,_⟩:=jB h.mem hlk hρ (by omega)
              exact hle) hyv hsrc hpl
            refine aU (v:= .int .i64 (Nat.min n m:Nat)) (w':=w') (by rw [hex,Sem.run_bind,hrun];rfl) ?_
            exact ⟨ρ,hsim.put (Keep.refl _ _) (.int _ _) o.dst⟩
          · cases hs
        · cases hs
      · cases hs
    · cases hs
  · cases hs
 ·
  rename_i t n parts ho
  split at hs
  · split at hs
    · rename_i ty hty
      split at hs
      · rename_i el k by_ htag
        split at hs
        · rename_i ls hch
          cases hb:(Nat.beq n ls.length &&(Nat.ble 1 n && Nat.ble (n*k) 16777216))<;>simp only [hb,cond_true,cond_false,reduceCtorEq,XR.step.injEq] at hs
          obtain ⟨rfl,rfl⟩:=hs
          simp only [bAE] at hb
          obtain rfl:n=ls.length:=nQE hb.1
          obtain ⟨z,w',hrun,hsim⟩:=qC h (key:=s.next) (fun e=>by simp [aA] at e) (hT _ _ hty) htag hch (fun x _=>by rw [hgl];exact h.ev x.2) (Nat.le_of_ble_eq_true hb.2.2) (Nat.le_of_ble_eq_true hb.2.1) o.dst
          refine aU (v:=z) (w':=w') (by
           have hex:execOp a.eval o=(do pure (.value (<-Instr.buildSlice t ls.length (parts.map fun (i,x)=>(i,a.eval x))))):=by simp [execOp,ho]
           rw [hex,Sem.run_bind,hrun];rfl) ?_
          exact ez (rE (n:=s.next+1) hsim)
        · cases hs
      · cases hs
    · cases hs
  · rename_i ks hks
    split at hs
    · rename_i p' s'' hst
      cases hs
      exact qL hT hG hgl hg hst hp h
    · cases hs
 ·
  rename_i src dst x ho
  split at hs
  · rename_i ty hty
    split at hs
    · rename_i el k by_ htag
      split at hs
      · rename_i q hx
        split at hs
        · rename_i e k' n f hlk
          cases hb:(Nat.beq src dst &&(Nat.beq k' k && Nat.beq e el))<;>simp only [hb,cond_true,cond_false,reduceCtorEq,XR.step.injEq] at hs
          obtain ⟨rfl,rfl⟩:=hs
          simp only [bAE] at hb
          obtain rfl:src=dst:=nQE hb.1
          obtain rfl:k'=k:=nQE hb.2.1
          obtain rfl:e=el:=nQE hb.2.2
          obtain ⟨_,d,_,_,hd,_,_,_,_,_,_,_,_,hTT⟩:=hT _ _ hty
          rw [htag] at hTT
          obtain ⟨rfl,_,hu8,_⟩:=hTT
          have hxv:=h.ev x
          rw [<-hgl,hx] at hxv
          have hp':(0:Int)<=0∧(0:Int)<(n:Int):=hp
          obtain ⟨w',hrun,hsim,hrel⟩:=Mp h hlk (by omega) hd (hu8 rfl) hxv
          have hex:execOp a.eval o=(do pure (.value (<-convert src src (a.eval x)))):=by simp [execOp,ho]
          refine aU (v:=a.eval x) (w':=w') (by rw [hex,Sem.run_bind,hrun];rfl) ?_
          have:=hsim.put (Keep.refl _ _) hrel o.dst
          refine Sim.wide (fun k hk=> ?_) ⟨ρ,this⟩
          simp only [aA,xZ] at hk ⊢
          exact hk
        · cases hs
      · cases hs
    · rename_i htag
      split at hs
      · rename_i td l _ htd hx
        split at hs
        · rename_i el ks bs htag'
          cases hs
          obtain ⟨_,ds,_,_,hus,_,_,_,_,_,_,_,_,hTs⟩:=hT _ _ hty
          obtain ⟨_,dd,_,_,hud,_,_,_,_,_,_,_,_,hTd⟩:=hT _ _ htd
          rw [htag] at hTs
          rw [htag'] at hTd
          obtain rfl:=hTs
          obtain ⟨rfl,_,hu8,_⟩:=hTd
          have hxv:=h.ev x
          rw [<-hgl,hx] at hxv
          have hp':(0:Int)<=((l.length:Nat):Int)∧((l.length:Nat):Int)<((4611686018427387904:Nat):Int):=hp
          obtain ⟨z,w',hrun,hsim⟩:=qB h (key:=s.next) (fun e=>by simp [aA] at e) hus hud (hu8 rfl) l (by omega) o.dst
          have hex:execOp a.eval o=(do pure (.value (<-convert src dst (a.eval x)))):=by simp [execOp,ho]
          refine aU (v:=z) (w':=w') (by rw [hex,hxv.eq_str,Sem.run_bind,hrun];rfl) ?_
          exact ez (rE (n:=s.next+1) hsim)
        · cases hs
      · cases hs
    · cases hs
  · cases hs
 ·
  rename_i x args ts ho
  split at hs
  · cases hs
  · rename_i f al hcal
    split at hs
    · rename_i p' r hGf
      split at hs
      · cases hb:(!b8 al||flat r)<;>simp only [hb,cond_true,cond_false,reduceCtorEq] at hs
        split at hs
        · rename_i p2 s'' hst
          cases hs
          exact qL hT hG hgl hg hst hp h
        · cases hs
      · cases hs
    · split at hs
      · rename_i q rest hGn
        split at hs
        · rename_i e k n g hlk
          split at hs
          · rename_i p' n' g' hwt
            cases hb:(!b8 rest)<;>simp only [hb,cond_true,cond_false,reduceCtorEq] at hs
            simp only [Bool.not_eq_true',Bool.not_eq_eq_eq_not,Bool.not_true] at hb
            obtain ⟨frs,caps,hxv,hall⟩:=jY h hgl hcal
            cases hsl:inW f X.sl<;>rw [hsl] at hs<;>simp only [cond_true,cond_false,XR.step.injEq] at hs
            rotate_left
            ·
             obtain ⟨rfl,rfl⟩:=hs
             obtain ⟨hcall,hgood⟩:=hX.wt _ _ _ _ _ _ _ _ _ hwt hp
             rw [hsl] at hgood
             simp only [cond_true] at hgood
             refine jb ho hcall hxv ?_
             obtain ⟨xs,hown,hone,hxr⟩:=h.mem.blk _ (ag hlk)
             simp only at hown hone hxr
             cases hvs:frs.toList++args.toList.map a.eval++caps.toList with
             |nil=>rw [hvs] at hall;exact hall.elim
             |cons v vs=>
              rw [hvs] at hall
              have hv:v=ρ q:=by
               have:=hall.1
               cases this
               rfl
              subst hv
              have hglw:=h.gl
              rw [<-hgl] at hglw
              refine (hgood w ρ (ae c.F ρ s.mem) (aA s.next) (ρ q) vs xs (fun b hb=>h.mem.lt hb) hglw (fun b hb=> .inr ⟨_,ag hlk, .inl hb⟩) hown hone hxr (dG hb hall.2)).mono fun en w' hq=> ?_
              obtain ⟨rfl,xs',r2,r1,r3,r6⟩:=hq
              obtain ⟨m1,m2,m3,m4⟩:=h.mem.turn hlk r3 (b:= .row e k n g') ⟨xs',r2,r1,r6 _ fun _ _ h=>h⟩
              have h2:=h.written m1 m2 m3 m4
              have h3:Sim c (aA s.next) { s with tmps:=put s.tmps o.dst (.tup []),mem:=upd s.mem q (.row e k n g') } (a.put o.dst (.tuple #[])) w':=
               ⟨ρ,h2.put (Keep.refl _ _) (.tup #[] [] rfl (fun i v s h=>by simp at h)) o.dst⟩
              exact ⟨_,rfl,(h3.next (s.next+1)).wide fun k hk=>by simp only [aA] at hk ⊢;omega⟩
            obtain ⟨rfl,rfl⟩:=hs
            obtain ⟨hcall,hgood⟩:=hX.wt _ _ _ _ _ _ _ _ _ hwt hp
            rw [hsl] at hgood
            simp only [cond_false] at hgood
            refine jb ho hcall hxv ?_
            obtain ⟨xs,hown,hone,hxr⟩:=h.mem.blk _ (ag hlk)
            simp only at hown hone hxr
            cases hvs:frs.toList++args.toList.map a.eval++caps.toList with
            |nil=>rw [hvs] at hall;exact hall.elim
            |cons v vs=>
             rw [hvs] at hall
             have hv:v=ρ q:=by
              have:=hall.1
              cases this
              rfl
             subst hv
             have hglw:=h.gl
             rw [<-hgl] at hglw
             refine (hgood w ρ (ae c.F ρ s.mem) (aA s.next) (ρ q) vs xs (fun b hb=>h.mem.lt hb) hglw (fun b hb=> .inr ⟨_,ag hlk, .inl hb⟩) hown hone hxr (dG hb hall.2)).mono fun en w' hq=> ?_
             obtain ⟨v',xs',rfl,r2,r1,r3,r5,r6⟩:=hq
             refine ⟨v',rfl,ez (rE (n:=s.next+1) (mm h (key:=s.next) (fun e=>by simp [aA] at e) (.inr ⟨q,e,k,n,g,rfl,rfl,hlk⟩) r1 r6 r2 r3 r5 o.dst))⟩
          · cases hs
        · cases hs
      · rename_i q j cn ix rest hGn
        split at hs
        · rename_i K0 hlk
          split at hs
          · rename_i q1 q2 q3
            split at hs
            · rename_i p' n' g' hwt
              cases hb:(!b8 rest && !inW f X.sl)<;>simp only [hb,cond_true,cond_false,reduceCtorEq,XR.step.injEq] at hs
              obtain ⟨rfl,rfl⟩:=hs
              simp only [bAE,Bool.not_eq_true',Bool.not_eq_eq_eq_not,Bool.not_true] at hb
              simp only [bAE] at q3
              obtain ⟨frs,caps,hxv,hall⟩:=jY h hgl hcal
              obtain ⟨hcall,hgood⟩:=hX.wt _ _ _ _ _ _ _ _ _ hwt hp
              rw [hb.2] at hgood
              simp only [cond_false] at hgood
              refine jb ho hcall hxv ?_
              cases hvs:frs.toList++args.toList.map a.eval++caps.toList with
              |nil=>rw [hvs] at hall;exact hall.elim
              |cons v vs=>
               rw [hvs] at hall
               have hxr:=hall.1
               rw [<-nQE q3.1,<-nQE q3.2] at hxr
               obtain ⟨rfl,hown,xs,hrow,hone,hxr'⟩:=ke h hlk q1 hxr
               have hglw:=h.gl
               rw [<-hgl] at hglw
               refine (hgood w ρ (ae c.F ρ s.mem) (aA s.next) _ vs xs (fun b hb=>h.mem.lt hb) hglw (fun b hb=> .inr ⟨_,ag hlk, .inr ⟨ix,hown,hb⟩⟩) hrow hone hxr' (dG hb.1 hall.2)).mono fun en w' hq=> ?_
               obtain ⟨v',xs',rfl,r2,r1,r3,r5,r6⟩:=hq
               exact ⟨v',rfl,ez (rE (n:=s.next+1) (nd h (key:=s.next) (fun e=>by simp [aA] at e) (oM h hlk q1 hown) r1 r6 r2 r3 r5 o.dst))⟩
            · cases hs
          · cases hs
        · cases hs
      · cases hs
 ·
  split at hs
  · split at hs
    · cases hs
    · cases hs
  · cases hs
 · cases hs
theorem ie{b:Bool}(h:(bif b then XR.step p s' else .no)= .call f args):False:=by cases b<;>cases h
theorem IP{b d:Bool}{p p':Option Prop}{s' s'':St}(h:(bif b then (bif d then XR.step p s' else .step p' s'') else .no)= .call f args):False:=by cases b<;>cases d<;>cases h
theorem FX{b d:Bool}{p p':Option Prop}{s' s'':St}{f:Bool->St}(h:(bif b then (bif d then XR.step p s' else .step p' s'') else .no)= .all g f):False:=by cases b<;>cases d<;>cases h
theorem f8{b:Bool}{f:Bool->St}(h:(bif b then XR.step p s' else .no)= .all g f):False:=by cases b<;>cases h
theorem IQ(hX:XtOk P T.gl X)(hgl:T.gl=c.gl)(h:SimR c (aA s.next) s a w ρ)(hs:xOp std T G X o s= .call f args){Q:Exit->Act->World->Prop} :
 ∃ vs,bp (Rel w ρ (ae c.F ρ s.mem) (aA s.next)) vs args∧ ∀ {K:Act->World->Prop},dk P f->(Calls P f vs.toArray w fun e w'=> ∃ v,e= .returned v∧K (a.put o.dst v) w')->o.wp P a w K Q:=by
 have hg:o.guard=none:=oX (T:=T) (G:=G) (X:=X) (s:=s) (by rw [hs];exact fun e=>by cases e)
 unfold xOp at hs
 rw [hg] at hs
 simp only at hs
 split at hs
 · (repeat' split at hs)<;>cases hs
 · (repeat' split at hs)<;>first|cases hs|exact (ie hs).elim
 · (repeat' split at hs)<;>first|cases hs|exact (ie hs).elim
 · (repeat' split at hs)<;>cases hs
 · split at hs
   · (repeat' split at hs)<;>cases hs
   · split at hs
     · split at hs
       · exact (ie hs).elim
       · cases hs
     · cases hs
   · cases hs
 · split at hs
   · split at hs<;>cases hs
   · split at hs<;>cases hs
   · cases hs
 · split at hs
   · split at hs
     · split at hs
       · split at hs
         · split at hs
           · exact (ie hs).elim
           · cases hs
         · cases hs
       · cases hs
     · cases hs
   · cases hs
 · split at hs
   · split at hs
     · split at hs
       · split at hs
         · split at hs
           · exact (ie hs).elim
           · cases hs
         · cases hs
       · cases hs
     · cases hs
   · cases hs
 · split at hs
   · split at hs
     · split at hs
       · split at hs
         · exact (ie hs).elim
         · cases hs
       · cases hs
     · cases hs
   · split at hs<;>cases hs
 · split at hs
   · split at hs
     · split at hs
       · split at hs
         · exact (ie hs).elim
         · cases hs
       · cases hs
     · split at hs
       · split at hs
         · cases hs
         · cases hs
       · cases hs
     · cases hs
   · cases hs
 · rename_i x ops ts ho
   split at hs
   · cases hs
   · rename_i f' al hcal
     obtain ⟨frs,caps,hxv,hall⟩:=jY h hgl hcal
     have main:f'=f∧al=args-> ∃ vs,bp (Rel w ρ (ae c.F ρ s.mem) (aA s.next)) vs args∧ ∀ {K:Act->World->Prop},dk P f->(Calls P f vs.toArray w fun e w'=> ∃ v,e= .returned v∧K (a.put o.dst v) w')->o.wp P a w K Q:=
      fun ⟨e1,e2⟩=>⟨_,e2▸hall,fun {K} hc hcalls=>jb (Q:=Q) ho (e1▸hc) hxv (e1▸hcalls)⟩
     split at hs
     · split at hs
       · rename_i r _ _ _
         cases hb:(!b8 al||flat _)<;>rw [hb] at hs
         · simp only [cond_false] at hs
           split at hs<;>cases hs
         · cases hs
       · cases hs;exact main ⟨rfl,rfl⟩
     · split at hs
       · split at hs
         · split at hs
           · exact (IP hs).elim
           · cases hs;exact main ⟨rfl,rfl⟩
         · cases hs;exact main ⟨rfl,rfl⟩
       · split at hs
         · split at hs
           · split at hs
             · exact (ie hs).elim
             · cases hs;exact main ⟨rfl,rfl⟩
           · cases hs;exact main ⟨rfl,rfl⟩
         · cases hs;exact main ⟨rfl,rfl⟩
       · cases hs;exact main ⟨rfl,rfl⟩
 · rename_i x name args ts ho
   split at hs
   · rename_i t pp he
     split at hs
     · rename_i f' hm
       simp only [XR.call.injEq] at hs
       obtain ⟨rfl,rfl⟩:=hs
       have hx:=h.ev x
       rw [<-hgl,he] at hx
       generalize hxv:a.eval x=xv at hx
       cases hx with
       |ifc _ pv _ hF=>
        exact ⟨pv::args.toList.map a.eval,⟨hF.rel,ib fun y _=>by rw [hgl];exact h.ev y⟩,fun {K} hc hcalls=>FT ho hc hxv (fun args w=>hX.meth _ _ _ hm pv args w) hcalls⟩
     · cases hs
   · cases hs
 · cases hs
theorem x1{t e:TypeId}(ht:P.underlying t=some (.slice e)){x y:Operand}(ad:Option Addr)(n cp:Nat):
 (do eqGuard .eql t x y (.slice ad n cp) (.slice none 0 0);binOp .eql t (.slice ad n cp) (.slice none 0 0):Sem Value).run P w= .ok (.bool ad.isNone) w∧
 (do eqGuard .neq t x y (.slice ad n cp) (.slice none 0 0);binOp .neq t (.slice ad n cp) (.slice none 0 0):Sem Value).run P w= .ok (.bool (!ad.isNone)) w:=by
 have hE:(Op.equalIn 10000 t (.slice ad n cp) (.slice none 0 0)).run P w= .ok ad.isNone w:=Lib.run_equalIn_slice_nil (P:=P) w 9999 t e ad n cp 0 0 ht
 constructor
 · simp only [eqGuard_at_slice,Sem.run_bind,Sem.run_pure,Result.andThen_ok,binOp,Op.equal,Op.maxDepth,hE]
 · simp only [eqGuard_at_slice,Sem.run_bind,Sem.run_pure,Result.andThen_ok,binOp,Op.equal,Op.maxDepth,hE]
theorem D1{y:Operand}(h:w4 y=true):y= .const (.slice none 0 0):=by
 unfold w4 at h
 split at h
 · rfl
 · cases h
theorem FY(h:SimR c (aA s.next) s a w ρ){v:Value}{x:SV}{n:Nat}(hx:Rel w ρ (ae c.F ρ s.mem) (aA s.next) v x)(hn:Dx s.mem x=some n): ∃ ad cp,v= .slice ad n cp∧(ad=none->n=0):=by
 have hpart: ∀ {v q k lo n},Rel w ρ (ae c.F ρ s.mem) (aA s.next) v (.part q k lo n)-> ∃ ad cp,v= .slice ad n cp∧(ad=none->n=0):=fun {v q k lo n} hv=>by
  cases hv with
  |part _ _ _ _ ad cp hk hnc hh=>
   refine ⟨ad,cp,rfl,fun e=> ?_⟩
   rcases Nat.eq_zero_or_pos n with h0|h0
   · exact h0
   · obtain ⟨g,n0,c0,_,_,e2⟩:=gV hnc hh h0
     rw [e] at e2;cases e2
 unfold Dx at hn
 split at hn
 · cases hn
   cases hx with
   |slc ad _ cp _ _ g hnc hc ha hr=>
    refine ⟨ad,cp,rfl,fun e=> ?_⟩
    rcases Nat.eq_zero_or_pos n with h0|h0
    · exact h0
    · obtain ⟨ad',e2,_⟩:=ha h0
      rw [e] at e2;cases e2
 · cases hn;cases hx;exact ⟨none,0,rfl,fun _=>rfl⟩
 · cases hn;cases hx;exact ⟨_,0,rfl,fun _=>rfl⟩
 · cases hn;exact hpart hx
 · split at hn
   · rename_i hl
     cases hn
     exact hpart (eN h.mem hx hl)
   · cases hn
 · cases hn
theorem Mr(hT:TysOk P T)(hgl:T.gl=c.gl)(h:SimR c (aA s.next) s a w ρ){s':Bool->St}(hs:xOp std T G X o s= .all g s'){Q:Exit->Act->World->Prop} :
 ∃ b,g b∧ ∀ {K:Act->World->Prop},(∀ a',SimR c (aA (s' b).next) (s' b) a' w ρ->K a' w)->o.wp P a w K Q:=by
 have hg:o.guard=none:=oX (T:=T) (G:=G) (X:=X) (s:=s) (by rw [hs];exact fun e=>by cases e)
 unfold xOp at hs
 rw [hg] at hs
 simp only at hs
 split at hs
 · (repeat' split at hs)<;>cases hs
 · (repeat' split at hs)<;>first|cases hs|exact (f8 hs).elim
 · (repeat' split at hs)<;>first|cases hs|exact (f8 hs).elim
 · (repeat' split at hs)<;>cases hs
 · split at hs
   · (repeat' split at hs)<;>cases hs
   · split at hs
     · split at hs
       · exact (f8 hs).elim
       · cases hs
     · cases hs
   · cases hs
 · rename_i b t x y u ho
   have main: ∀(bo:BinOp) (n:Nat) (ty:Ty) (bb:Bool),(bo= .eql∧bb=true∨bo= .neq∧bb=false)->b=bo->w4 y=true->Dx s.mem (ev T.gl s.tmps x)=some n->T t=some ty->(∃ e k b i,ty.tag= .slice e k b i)->
    ∃ b:Bool,(b=bb->n=0)∧ ∀ {K:Act->World->Prop},(∀ a',SimR c (aA s.next) { s with tmps:=put s.tmps o.dst (.bool b) } a' w ρ->K a' w)->o.wp P a w K Q:=by
    intro bo n ty bb hbo hb hnil hrn hty ⟨e1,k1,b1,i1,htag⟩
    subst hb
    obtain rfl:=D1 hnil
    have hxv:=h.ev x
    rw [<-hgl] at hxv
    obtain ⟨ad,cp,hv,hz⟩:=FY h hxv hrn
    obtain ⟨_,d,_,_,hd,_,_,_,_,_,_,_,_,hTT⟩:=hT _ _ hty
    rw [htag] at hTT
    obtain ⟨rfl,_⟩:=hTT
    have heq:=x1 (P:=P) (w:=w) hd (x:=x) (y:= .const (.slice none 0 0)) ad n cp
    rcases hbo with ⟨rfl,rfl⟩ | ⟨rfl,rfl⟩
    · refine ⟨ad.isNone,fun e=>hz (by simpa using e),fun {K} hK=> ?_⟩
      refine aU (v:= .bool ad.isNone) (w':=w) ?_ (hK _ (h.put (Keep.refl _ _) (.bool _) o.dst))
      have e1:a.eval (.const (.slice none 0 0))= .slice none 0 0:=rfl
      have e2:execOp a.eval o=(do pure (.value (<-(do eqGuard .eql t x (.const (.slice none 0 0)) (.slice ad n cp) (.slice none 0 0);binOp .eql t (.slice ad n cp) (.slice none 0 0))))):=by simp [execOp,ho,e1,hv]
      rw [e2,Sem.run_bind,heq.1]
      rfl
    · refine ⟨!ad.isNone,fun e=>hz (by simpa using e),fun {K} hK=> ?_⟩
      refine aU (v:= .bool (!ad.isNone)) (w':=w) ?_ (hK _ (h.put (Keep.refl _ _) (.bool _) o.dst))
      have e1:a.eval (.const (.slice none 0 0))= .slice none 0 0:=rfl
      have e2:execOp a.eval o=(do pure (.value (<-(do eqGuard .neq t x (.const (.slice none 0 0)) (.slice ad n cp) (.slice none 0 0);binOp .neq t (.slice ad n cp) (.slice none 0 0))))):=by simp [execOp,ho,e1,hv]
      rw [e2,Sem.run_bind,heq.2]
      rfl
   split at hs
   · rename_i n ty hnil hrn hty
     split at hs
     · rename_i e1 k1 b1 i1 htag
       cases hs
       exact main .eql n ty true (.inl ⟨rfl,rfl⟩) rfl hnil hrn hty ⟨_,_,_,_,htag⟩
     · cases hs
   · rename_i n ty hnil hrn hty
     split at hs
     · rename_i e1 k1 b1 i1 htag
       cases hs
       exact main .neq n ty false (.inr ⟨rfl,rfl⟩) rfl hnil hrn hty ⟨_,_,_,_,htag⟩
     · cases hs
   · cases hs
 · split at hs
   · split at hs
     · split at hs
       · split at hs
         · split at hs
           · exact (f8 hs).elim
           · cases hs
         · cases hs
       · cases hs
     · cases hs
   · cases hs
 · split at hs
   · split at hs
     · split at hs
       · split at hs
         · split at hs
           · exact (f8 hs).elim
           · cases hs
         · cases hs
       · cases hs
     · cases hs
   · cases hs
 · split at hs
   · split at hs
     · split at hs
       · split at hs
         · exact (f8 hs).elim
         · cases hs
       · cases hs
     · cases hs
   · split at hs<;>cases hs
 · split at hs
   · split at hs
     · split at hs
       · split at hs
         · exact (f8 hs).elim
         · cases hs
       · cases hs
     · split at hs
       · split at hs
         · cases hs
         · cases hs
       · cases hs
     · cases hs
   · cases hs
 · split at hs
   · cases hs
   · rename_i f' al hcal
     split at hs
     · split at hs
       · cases hb:(!b8 al||flat _)<;>rw [hb] at hs
         · simp only [cond_false] at hs
           split at hs<;>cases hs
         · cases hs
       · cases hs
     · split at hs
       · split at hs
         · split at hs
           · exact (FX hs).elim
           · cases hs
         · cases hs
       · split at hs
         · split at hs
           · split at hs
             · exact (f8 hs).elim
             · cases hs
           · cases hs
         · cases hs
       · cases hs
 · split at hs
   · split at hs<;>cases hs
   · cases hs
 · cases hs
theorem oY{U:Nat->Prop}(hgl:T.gl=c.gl){orig:List SV}(h0: ∀ t,Rel w ρ (ae c.F ρ s.mem) U (a.tmps.getD t undef) (ap orig t)): ∀ {l:List Operand} {tmps:List SV},SimR c U { s with tmps:=tmps } a w ρ->(∀ x∈l,aK (ln std (ev T.gl orig x)))->SimR c U { s with tmps:=mf orig l tmps } a w ρ
 | [],tmps,h,_=>h
 |x::l,tmps,h,hn=>by
  cases x with
  |tmp t=>
   refine oY hgl h0 (l:=l) (tmps:=dL tmps t (d9 (ap orig t))) ?_ fun y hy=>hn y (List.mem_cons_of_mem _ hy)
   refine { h with sz:=by rw [i4,List.length_set];exact h.sz,tmps:=fun d=> ?_ }
   have hd:=h.tmps d
   simp only [i4,bW,List.getElem?_set] at hd ⊢
   by_cases e:t=d
   · subst e
     rw [if_pos rfl]
     split
     · rw [<-bW];exact rt (h0 t) (hn (.tmp t) (List.mem_cons_self ..))
     · rename_i hlt
       rw [List.getElem?_eq_none (by omega)] at hd
       exact hd
   · rw [if_neg e];exact hd
  |_=>exact oY (l:=l) hgl h0 h fun y hy=>hn y (List.mem_cons_of_mem _ hy)
theorem lV{C:Cl}(hT:TysOk P T)(hG:az P T.gl G)(hX:XtOk P T.gl X)(hC:rD P T C)(hgl:T.gl=c.gl){all:List Oper}{Q:Exit->Act->World->Prop}{R:St->Prop}{N:Act->World->Prop}
 (hgo: ∀ s',R s'-> ∀ a' w',Sim c (aA s'.next) s' a' w'->N a' w') (hg:o.guard=none) (h:lq std T G X C all o s R) (hs:Sim c (aA s.next) s a w):o.wp P a w N Q:=by
 have hstep: ∀ p s',dz std T G all s.next 0 o { s with next:=s.next+1 } =some (p,s')->aK p->R s'->o.wp P a w N Q:=by
  intro p s' hst hp hrest
  have hsd:=rG (Q:=Q) hT hG hgl hst hp hs
  rw [if_pos (jy hg _ _)] at hsd
  exact Oper.wp_mono (hgo s' hrest) hsd
 have hx: ∀ p s',xOp std T G X o s= .step p s'->aK p->R s'->o.wp P a w N Q:=by
  intro p s' hst hp hrest
  have hsd:=IM (Q:=Q) hT hG hX hgl hs hst hp
  exact Oper.wp_mono (hgo s' hrest) hsd
 unfold lq at h
 split at h
 · rename_i s' hst
   exact hx _ _ hst trivial h
 · rename_i p s' hst
   exact hx _ _ hst h.1 h.2
 · rename_i f args hst
   obtain ⟨ρ,hs⟩:=hs
   obtain ⟨vs,hall,hwp⟩:=IQ (Q:=Q) hX hgl hs hst
   obtain ⟨hcal,hcalls⟩:=hC f args s _ h c a w ρ vs hgl hs hall
   refine hwp hcal (hcalls.mono fun e w' hq=> ?_)
   obtain ⟨v,s',r,ρ',rfl,hk,hsim,hrel⟩:=hq
   exact ⟨v,rfl,hgo _ hk _ _ ⟨ρ',hsim.put (Keep.refl _ _) hrel o.dst⟩⟩
 · rename_i g s' hst
   obtain ⟨ρ,hs⟩:=hs
   obtain ⟨b,hb,hwp⟩:=Mr (Q:=Q) hT hgl hs hst
   exact hwp fun a' hs'=>hgo _ (h b hb) _ _ ⟨ρ,hs'⟩
 · split at h
   · rename_i s' hst
     exact hstep _ _ hst trivial h
   · rename_i p s' hst
     exact hstep _ _ hst h.1 h.2
   · exact h.elim
theorem oZ{all:List Oper}{base i:Nat}{o:Oper}{s:St}{x:Option Prop×St}(h:ux std T G all base i o s=some x):dz std T G all base i o s=some x:=by
 unfold ux at h
 cases hd:K5 o.op<;>rw [hd] at h
 · exact h
 · cases h
theorem qM{C:Cl}(hT:TysOk P T)(hG:az P T.gl G)(hX:XtOk P T.gl X)(hC:rD P T C)(hgl:T.gl=c.gl){all:List Oper}{Q:Exit->Act->World->Prop}{K:St->Prop}(hK: ∀ s a w,K s->Sim c (aA s.next) s a w->Q .normal a w):
 ∀(l:List Oper) (i:Nat) (s:St) (a:Act) (w:World),(∀ j,l[j]? =all[i+j]?)->i+l.length=all.length->cR std T G X C all l s K->Sim c (aA s.next) s a w->
  wpOps P all.toArray Q (List.range' i l.length) a w
 | [],i,s,a,w,_,hi,h,hs=>hK s a w h hs
 |o::l,i,s,a,w,hl,hi,h,hs=>by
  have h0:all.toArray[i]? =some o:=by simpa using (hl 0).symm
  have hgo: ∀ s',cR std T G X C all l s' K-> ∀ a' w',Sim c (aA s'.next) s' a' w'->wpOps P all.toArray Q (List.range' (i+1) l.length) a' w':=fun s' hv a' w' hs'=>
   qM hT hG hX hC hgl hK l (i+1) s' a' w' (fun j=>by have:=hl (j+1);simpa [Nat.add_assoc,Nat.add_comm 1 j] using this) (by simp at hi;omega) hv hs'
  have hstep: ∀ p s',dz std T G all s.next 0 o { s with next:=s.next+1 } =some (p,s')->aK p->cR std T G X C all l s' K->wpOps P all.toArray Q (List.range' i (o::l).length) a w:=by
   intro p s' hst hp hrest
   have hsd:=rG (Q:=Q) hT hG hgl hst hp hs
   simp only [List.length_cons,List.range'_succ,wpOps,h0]
   split
   · rename_i hw
     rw [if_pos hw] at hsd
     exact .inl (Oper.wp_mono (hgo s' hrest) hsd)
   · rename_i hw
     rw [if_neg hw] at hsd
     exact hgo s' hrest _ _ hsd
  simp only [cR] at h
  split at h
  · rename_i hg
    simp only [List.length_cons,List.range'_succ,wpOps,h0]
    rw [if_pos (jy hg _ _)]
    exact .inl (lV hT hG hX hC hgl hgo hg h hs)
  · rename_i j want hg
    split at h
    · rename_i s' hst
      exact hstep _ _ (oZ hst) trivial h
    · rename_i p s' hst
      exact hstep _ _ (oZ hst) h.1 h.2
    · split at h
      · rename_i d hd
        split at h
        · rename_i cc b ht
          obtain ⟨ρ,hs⟩:=hs
          have hw:=qy hs hg hd ht
          simp only [List.length_cons,List.range'_succ,wpOps,h0]
          cases hwb:std.want cc b want
          · rw [hw,hwb,if_neg (by decide)]
            exact hgo _ (h.2 hwb) _ _ ⟨ρ,hs.put (Keep.refl _ _) (.opt false undef (.bool false) (fun e=>by cases e) (fun _=>rfl) (fun k hk=>False.elim hk)) o.dst⟩
          · rw [hw,hwb,if_pos rfl]
            have hone: ∀(_: ∀ x∈o.op.operands.toList,aK (ln std (ev T.gl s.tmps x))),lq std T G X C all { o with guard:=none } { s with tmps:=mf s.tmps o.op.operands.toList s.tmps } (fun s'=>cR std T G X C all l s' K)->
             o.wp P a w (fun a' w'=>wpOps P all.toArray Q (List.range' (i+1) l.length) a' w') Q:=fun hn h1=>
             lV (o:= { o with guard:=none }) (Q:=Q) hT hG hX hC hgl hgo rfl h1 ⟨ρ,oY hgl hs.tmps hs hn⟩
            have h1:=h.1 hwb
            split at h1
            · rename_i hnn
              exact .inl (hone (gR (by rw [hnn];trivial)) h1)
            · rename_i q hnn
              exact .inl (hone (gR (by rw [hnn];exact h1.1)) h1.2)
        · exact h.elim
      · exact h.elim
end
end Go.Vd
