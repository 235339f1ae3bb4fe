/- Regions: in the text's order; in whatever order is drawn. -/
import Derived.Test.YtckmnmcnelfkjaaGreatDoorVdWx
import Derived.Still
set_option linter.unusedVariables false
set_option linter.unusedSimpArgs false
namespace Go.Vd
open Go.RowKit
variable {listed:Array Bool} {all:List Oper} {base i:Nat} {w:World} {s s':St} {a:Act} {o:Oper}
section
variable {P:Program} {c:Ctx} {T:Tys} {G:Pu} {X:Xt}
theorem SimR.wide{U U':Nat->Prop}{s:St}{ρ:Nat->Value}(hU: ∀ k,U k->U' k)(h:SimR c U s a w ρ):SimR c U' s a w ρ:=
 ⟨h.dfr,h.sz,fun t=>(h.tmps t).mono hU (fun _ _=>rfl) (Keep.refl _ _) fun _ _ e=>e,h.stk.imp fun v s hv=>hv.mono hU (fun _ _=>rfl) (Keep.refl _ _) fun _ _ e=>e,
  ⟨fun e he=>(h.mem.blk e he).mono (h.mem.key e he) hU (fun _ _=>rfl) (Keep.refl _ _) (fun _ _ e=>e) (fun _ _=>rfl),fun e he=>hU _ (h.mem.key e he),h.mem.apart,h.mem.frg,h.mem.sorted⟩,
  h.keep,h.sub,h.old,h.glb⟩
theorem Sim.wide{U U':Nat->Prop}{s:St}(hU: ∀ k,U k->U' k)(h:Sim c U s a w):Sim c U' s a w:=let ⟨ρ,h⟩:=h;⟨ρ,h.wide hU⟩
theorem Sim.drew{U:Nat->Prop}{s:St}(h:Sim c U s a w):Sim c U s a { w with drawn:=w.drawn+1 } :=by
 obtain ⟨ρ,h⟩:=h
 have hx:=Ext.drew w
 exact ⟨ρ,h.dfr,h.sz,fun t=>(h.tmps t).ext hx,h.stk.imp fun v s hv=>hv.ext hx,h.mem.ext hx,h.keep.trans (hx.keep fun _=>False) (fun _ _ e=>e.elim),h.sub,h.old,h.glb⟩
theorem Sim.next{U:Nat->Prop}{s:St}(h:Sim c U s a w)(n:Nat):Sim c U { s with next:=n } a w:=by
 obtain ⟨ρ,h⟩:=h
 exact ⟨ρ,h.dfr,h.sz,h.tmps,h.stk,h.mem,h.keep,h.sub,h.old,h.glb⟩
abbrev aA (n:Nat):Nat->Prop:=fun k=>k<n
theorem qF{A:Ar}{p:Option Prop}(h:dz A T G all base i o s=some (p,s')):s'.next=s.next:=by
 unfold dz at h
 have hf: ∀ x,fin o s x=some (p,s')->s'.next=s.next:=fun x hx=>by
  unfold fin at hx
  split at hx
  · simp only [sIE,pIE] at hx
    obtain ⟨_,rfl⟩:=hx
    rfl
  · cases hx
 split at h
 · split at h
   · exact hf _ h
   · cases h
 · exact hf _ h
theorem tj{A:Ar}{X:Xt}{p:Option Prop}(h:j7 A T G X all base i o s=some (p,s')):s'.next=s.next:=by
 unfold j7 at h
 cases hb:(eU X.wl o.op && df o)<;>rw [hb] at h
 · exact qF h
 · simp only [cond_true] at h
   unfold fin at h
   split at h
   · simp only [sIE,pIE] at h
     obtain ⟨_,rfl⟩:=h
     rfl
   · cases h
theorem xA{K:Act->World->Prop}(h:o.wp P a w K fun _ _ _=>False): ∃ a' w',K a' w':=by
 unfold Oper.wp at h
 generalize (execOp a.eval o).run P w=r at h
 cases r with
 |ok n w'=>
  cases n<;>simp only [Oper.upon] at h
  case value v=>exact ⟨_,_,h⟩
  case skip=>exact ⟨_,_,h⟩
  case defer d=>exact ⟨_,_,h⟩
  case enter f args=>
   obtain ⟨e,w'',fr,hR,_⟩:=h []
   cases e with
   |returned v=>exact ⟨_,_,hR⟩
   |panicked c=>exact hR.elim
   |outgrown=>obtain ⟨_,_,hh⟩:=hR;exact hh.elim
  case row rw args=>
   obtain ⟨v,w'',hR,_⟩:=h default []
   exact ⟨_,_,hR⟩
 |halt x w'=>cases x<;>simp only [Oper.upon] at h
def Y (T:Tys)(G:Pu)(X:Xt)(all:List Oper)(base i:Nat)(s s':St):Prop:= ∃ o p,all[i]? =some o∧j7 std T G X all base i o s=some (p,s')∧aK p
def iH (base:Nat)(listed:Array Bool):Nat->Prop:=fun k=>k<base∨ ∃ j,k=base+j∧listed.getD j false=true
theorem fu(h:listed.getD i true=false): ¬ iH base listed (base+i):=by
 rintro (h1| ⟨j,h1,h2⟩)
 · omega
 · obtain rfl:i=j:=by omega
   rw [Array.getD_eq_getD_getElem?] at h h2
   cases hx:listed[i]? with
   |none=>rw [hx] at h;cases h
   |some b=>rw [hx] at h h2;simp at h h2;rw [h] at h2;cases h2
theorem kg(h:listed.getD i true=false): ∀ k,aL (iH base listed) (base+i) k->iH base (listed.setIfInBounds i true) k:=by
 intro k hk
 have hi:i<listed.size:=by
  rcases Nat.lt_or_ge i listed.size with h'|h'
  · exact h'
  · rw [Array.getD_eq_getD_getElem?,Array.getElem?_eq_none h'] at h;cases h
 rcases hk with (h1| ⟨j,h1,h2⟩) |rfl
 · exact .inl h1
 · refine .inr ⟨j,h1, ?_⟩
   rw [Array.getD_eq_getD_getElem?] at h2 ⊢
   by_cases hij:i=j
   · subst hij;simp [hi]
   · rw [Array.getElem?_setIfInBounds_ne hij];exact h2
 · exact .inr ⟨i,rfl,by rw [Array.getD_eq_getD_getElem?];simp [hi]⟩
def Inh (c:Ctx)(base:Nat)(listed:Array Bool)(s:St):Prop:= ∃ a w,Sim c (iH base listed) s a w
theorem Y.wpOp(hT:TysOk P T)(hG:az P T.gl G)(hX:XtOk P T.gl X)(hgl:T.gl=c.gl)(hy:Y T G X all base i s s')(hi:listed.getD i true=false){a:Act}{w:World}
 (hs:Sim c (iH base listed) s a w) {Q:Exit->Act->World->Prop} {K:Act->World->Prop} (hK: ∀ a w,Sim c (iH base (listed.setIfInBounds i true)) s' a w->K a w):Go.wpOp P all.toArray Q i K a w:=by
 obtain ⟨o,p,ho,hst,hp⟩:=hy
 have h0:all.toArray[i]? =some o:=by simpa using ho
 have hsd:=qE (Q:=Q) hT hG hX hgl (fu hi) (fun k hk=> .inl hk) hs hst hp
 unfold Go.wpOp
 rw [h0]
 simp only
 split
 · rename_i hw
   rw [if_pos hw] at hsd
   exact .inl (Oper.wp_mono (fun a w h=>hK a w (h.wide (kg hi))) hsd)
 · rename_i hw
   rw [if_neg hw] at hsd
   exact hK _ _ (hsd.wide (kg hi))
theorem Y.inh(hT:TysOk P T)(hG:az P T.gl G)(hX:XtOk P T.gl X)(hgl:T.gl=c.gl)(hy:Y T G X all base i s s')(hi:listed.getD i true=false)
 (h:Inh c base listed s):Inh c base (listed.setIfInBounds i true) s':=by
 obtain ⟨a,w,hs⟩:=h
 obtain ⟨o,p,ho,hst,hp⟩:=hy
 have hsd:=qE (P:=P) (Q:=fun _ _ _=>False) hT hG hX hgl (fu hi) (fun k hk=> .inl hk) hs hst hp
 split at hsd
 · obtain ⟨a',w',h'⟩:=xA hsd
   exact ⟨a',w',h'.wide (kg hi)⟩
 · exact ⟨_,_,hsd.wide (kg hi)⟩
def mo (T:Tys)(G:Pu)(X:Xt)(all:List Oper)(base:Nat)(K:St->Prop):Nat->Array Bool->St->Prop
 |0,listed,s=>Region.ready .any all.toArray listed= [] ∧K s
 |fuel+1,listed,s=>(Region.ready .any all.toArray listed= [] ->K s)∧ ∀ i∈Region.ready .any all.toArray listed,∃ s',Y T G X all base i s s'∧mo T G X all base K fuel (listed.setIfInBounds i true) s'
theorem jc{i:Nat}(h:i∈Region.ready .any all.toArray listed):listed.getD i true=false:=(mem_ready.1 h).1
theorem oP(hT:TysOk P T)(hG:az P T.gl G)(hX:XtOk P T.gl X)(hgl:T.gl=c.gl){all:List Oper}{base:Nat}{K:St->Prop}{Q:Exit->Act->World->Prop}
 (hQ: ∀ listed s a w,K s->Sim c (iH base listed) s a w->listed.size=all.length->Q .normal a w):
 ∀(fuel:Nat) (listed:Array Bool) (s:St) (a:Act) (w:World),listed.size=all.length->mo T G X all base K fuel listed s->Sim c (iH base listed) s a w->wpAny P .any all.toArray Q fuel listed a w
 |0,listed,s,a,w,hl,h,hs=>⟨h.1,hQ listed s a w h.2 hs hl⟩
 |fuel+1,listed,s,a,w,hl,h,hs=>⟨fun h0=>hQ listed s a w (h.1 h0) hs hl,fun i hi=>by
   obtain ⟨s',hy,hr⟩:=h.2 i hi
   exact hy.wpOp hT hG hX hgl (jc hi) hs fun a' w' hs'=>oP hT hG hX hgl hQ fuel _ s' a' w' (by simpa using hl) hr hs'⟩
theorem xB(hT:TysOk P T)(hG:az P T.gl G)(hX:XtOk P T.gl X)(hgl:T.gl=c.gl){base:Nat}{K:St->Prop}{i:Nat}{oi:Oper}(hi:all[i]? =some oi)
 (comm: ∀(listed:Array Bool) (s s1 s2:St) (j:Nat) (oj:Oper),all[j]? =some oj->j≠i->Inh c base listed s->listed.getD i true=false->listed.getD j true=false->
   oi.apart all.toArray oj=true->(mc T X.wl oi.op oj.op=false∧(dM (ev T.gl s.tmps) all oi.op=true->eX X.wl (hot (ev T.gl s.tmps) oi.op) oi.op oj.op=false))->Y T G X all base i s s1->Y T G X all base j s1 s2-> ∃ s1',Y T G X all base j s s1'∧Y T G X all base i s1' s2):
 (∀(listed:Array Bool) (s s':St) (j:Nat) (oj:Oper),all[j]? =some oj->Inh c base listed s->listed.getD j true=false->oi.apart all.toArray oj=true->Y T G X all base j s s'->dM (ev T.gl s'.tmps) all oi.op=true->dM (ev T.gl s.tmps) all oi.op=true∧hot (ev T.gl s'.tmps) oi.op=hot (ev T.gl s.tmps) oi.op)->
 ∀ {W:Nat->Bool},(∀ j oj,all[j]? =some oj->W j=true-> ∃ e∈oj.after,Region.binds .any e=true∧(e.on=i∨W e.on=true))-> ∀(fuel:Nat) (listed:Array Bool) (s s1:St),
   (∀ j oj,all[j]? =some oj->j≠i->listed.getD j true=false->W j=false->oi.apart all.toArray oj=true∧(mc T X.wl oi.op oj.op=false∧(dM (ev T.gl s.tmps) all oi.op=true->eX X.wl (hot (ev T.gl s.tmps) oi.op) oi.op oj.op=false)))->
   (∀ j,W j=true->listed.getD j true=false)->i∈Region.ready .any all.toArray listed->Inh c base listed s->Y T G X all base i s s1->
   mo T G X all base K fuel (listed.setIfInBounds i true) s1->mo T G X all base K (fuel+1) listed s:=by
 intro hst W hW fuel
 induction fuel with
 |zero=>
  intro listed s s1 _ _ hr _ hy H
  refine ⟨fun h=>(by rw [h] at hr;cases hr),fun j hj=> ?_⟩
  by_cases hji:j=i
  · subst hji;exact ⟨s1,hy,H⟩
  · have:=ready_mono hj hji
    rw [H.1] at this
    cases this
 |succ fuel ih=>
  intro listed s s1 hfree hwun hr hinh hy H
  refine ⟨fun h=>(by rw [h] at hr;cases hr),fun j hj=> ?_⟩
  by_cases hji:j=i
  · subst hji;exact ⟨s1,hy,H⟩
  · obtain ⟨s2,hy2,H2⟩:=H.2 j (ready_mono hj hji)
    obtain ⟨hjun,oj,hoj,hall⟩:=mem_ready.1 hj
    have hoj':all[j]? =some oj:=by simpa using hoj
    have hiun:=jc hr
    have hlist: ∀ m,listed.getD m true=false-> ∀ e∈oj.after,Region.binds .any e=true->e.on≠m:=fun m hm e he hb heq=>by
     have h1:=hall e he hb
     rw [heq,Array.getD_eq_getD_getElem?] at h1
     rw [Array.getD_eq_getD_getElem?] at hm
     cases hx:listed[m]? with
     |none=>rw [hx] at h1;cases h1
     |some b=>rw [hx] at h1 hm;simp at h1 hm;rw [h1] at hm;cases hm
    have hnot:W j=false:=by
     cases hq:W j
     · rfl
     · obtain ⟨e,he,hb,h1|h1⟩:=hW j oj hoj' hq
       · exact absurd h1 (hlist i hiun e he hb)
       · exact absurd rfl (hlist e.on (hwun _ h1) e he hb)
    obtain ⟨hap,hcl⟩:=hfree j oj hoj' hji hjun hnot
    obtain ⟨s1',hy1',hy2'⟩:=comm listed s s1 s2 j oj hoj' hji hinh hiun hjun hap hcl hy hy2
    have hfree': ∀ k ok,all[k]? =some ok->k≠i->(listed.setIfInBounds j true).getD k true=false->W k=false->
     oi.apart all.toArray ok=true∧(mc T X.wl oi.op ok.op=false∧(dM (ev T.gl s1'.tmps) all oi.op=true->eX X.wl (hot (ev T.gl s1'.tmps) oi.op) oi.op ok.op=false)):=fun k ok hk hki hun hno=>by
     have hf:=hfree k ok hk hki (by
      by_cases hjk:j=k
      · subst hjk;exact hjun
      · rw [getD_set_ne true hjk] at hun;exact hun) hno
     exact ⟨hf.1,hf.2.1,fun hh=>by
      obtain ⟨q1,q2⟩:=hst listed s s1' j oj hoj' hinh hjun hap hy1' hh
      rw [q2]
      exact hf.2.2 q1⟩
    refine ⟨s1',hy1',ih (listed.setIfInBounds j true) s1' s2 hfree' (fun k hk=>by
     rw [getD_set_ne true (fun e=>by subst e;rw [hnot] at hk;cases hk)];exact hwun k hk) (ready_mono hr (Ne.symm hji)) (hy1'.inh hT hG hX hgl hjun hinh) hy2' ?_⟩
    rw [Array.setIfInBounds_comm _ _ hji]
    exact H2
end
end Go.Vd
