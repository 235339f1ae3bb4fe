/- A region whose order is drawn: the text's order serves all. -/
import Derived.Test.YtckmnmcnelfkjaaGreatDoorVdComm
set_option linter.unusedVariables false
set_option linter.unusedSimpArgs false
namespace Go.Vd
open Go.RowKit
variable {all:List Oper}
section
variable {P:Program} {c:Ctx} {T:Tys} {G:Pu} {X:Xt}
theorem oW{P:Nat->Bool}{t:Nat} : ∀ {l:List Oper},kN t l=true->j6 P t l=true
 | [],_=>rfl
 |o::l,h=>by
  simp only [kN,j6,bAE] at h ⊢
  refine ⟨?_,oW h.2⟩
  have h1:=h.1
  split at h1
  · rename_i d hd
    cases hb:Nat.beq d t
    · rfl
    · rw [hb] at h1
      simp only [Bool.not_true,Bool.false_or] at h1
      simp [h1]
  · rfl
theorem O8{e:Operand->SV}{op:Op}{o:Oper}(h:stQ e all op o=true):kO e all op o=true:=by
 unfold stQ at h
 unfold kO
 split at h
 · simp only [bAE] at h
   simp only [adr,bAE]
   exact ⟨oW h.1,h.2⟩
 · cases h
 · rfl
theorem Ml{e:Operand->SV}{op:Op}(h:dM e all op=true):Dv e all op=true:=by
 unfold dM at h
 unfold Dv
 simp only [Bool.or_eq_true,bAE,Bool.not_eq_true'] at h ⊢
 rcases h with h| ⟨h1,h2⟩
 · exact .inl h
 · refine .inr ⟨h1, ?_⟩
   rw [List.all_eq_false] at h2 ⊢
   obtain ⟨o,hm,hno⟩:=h2
   exact ⟨o,hm,fun q=>hno (O8 q)⟩
theorem pU{x:Nat} : ∀ {l:List Nat},inW x l=true↔x∈l
 | [] =>by simp [inW]
 |y::l=>by
  simp only [inW,Bool.or_eq_true,List.mem_cons,pU (l:=l)]
  rw [Nat.beq_eq]
def fw (i:Nat):Nat->List Oper->List Nat->List Nat
 |_, [],ws=>ws
 |j,o::l,ws=>bif lm o i ws then fw i (j+1) l (j::ws) else fw i (j+1) l ws
theorem nl(i:Nat): ∀(l:List Oper) (j:Nat) (ws:List Nat) (x:Nat),x∈ws->x∈fw i j l ws
 | [],_,_,_,h=>h
 |o::l,j,ws,x,h=>by
  simp only [fw]
  cases lm o i ws
  · exact nl i l (j+1) ws x h
  · exact nl i l (j+1) (j::ws) x (List.mem_cons_of_mem _ h)
theorem jF(i:Nat): ∀(l:List Oper) (j:Nat) (ws:List Nat) (x:Nat),x∈fw i j l ws->x∈ws∨(j<=x∧ ∃ o,l[x - j]? =some o∧ ∃ e∈o.after,Region.binds .any e=true∧(e.on=i∨e.on∈fw i j l ws))
 | [],_,_,_,h=> .inl h
 |o::l,j,ws,x,h=>by
  simp only [fw] at h ⊢
  cases hw:lm o i ws
  · rw [hw] at h
    simp only [cond_false] at h ⊢
    rcases jF i l (j+1) ws x h with h1| ⟨h1,o',h2,h3⟩
    · exact .inl h1
    · refine .inr ⟨by omega,o', ?_,h3⟩
      rw [show x - j=(x - (j+1))+1 by omega];simpa using h2
  · rw [hw] at h
    simp only [cond_true] at h ⊢
    rcases jF i l (j+1) (j::ws) x h with h1| ⟨h1,o',h2,h3⟩
    · rcases List.mem_cons.1 h1 with rfl|h1
      · refine .inr ⟨Nat.le_refl _,o,by simp, ?_⟩
        obtain ⟨e,he,hb⟩:=List.any_eq_true.1 hw
        simp only [bAE,Bool.or_eq_true,pU] at hb
        refine ⟨e,by simpa using he,hb.2, ?_⟩
        rcases hb.1 with hb|hb
        · exact .inl (nQE hb)
        · exact .inr (nl i l _ _ _ (List.mem_cons_of_mem _ hb))
      · exact .inl h1
    · refine .inr ⟨by omega,o', ?_,h3⟩
      rw [show x - j=(x - (j+1))+1 by omega];simpa using h2
theorem kh{cl:Op->Op->Bool}{o:Oper}{i:Nat} : ∀ {l:List Oper} {j:Nat} {ws:List Nat},jn cl all o i j l ws=true-> ∀ k o',l[k]? =some o'->(j+k)∈fw i j l ws∨(o.apart all.toArray o'=true∧cl o.op o'.op=false)
 | [],_,_,_,k,o',h=>by cases h
 |x::l,j,ws,h,k,o',ho=>by
  simp only [jn] at h
  simp only [fw]
  cases hw:lm x i ws
  · rw [hw] at h
    simp only [cond_false,bAE,Bool.not_eq_true'] at h ⊢
    cases k with
    |zero=>cases ho;exact .inr h.1
    |succ k=>
     have:=kh h.2 k o' (by simpa using ho)
     rwa [show j+1+k=j+(k+1) by omega] at this
  · rw [hw] at h
    simp only [cond_true] at h ⊢
    cases k with
    |zero=>exact .inl (nl i l _ _ _ (by simp))
    |succ k=>
     have:=kh h k o' (by simpa using ho)
     rwa [show j+1+k=j+(k+1) by omega] at this
theorem tC(hT:TysOk P T)(hG:az P T.gl G)(hX:XtOk P T.gl X)(hgl:T.gl=c.gl){base:Nat}{K:St->Prop} : ∀(l:List Oper) (i:Nat) (listed:Array Bool) (s:St),(∀ j,l[j]? =all[i+j]?)->i+l.length=all.length->
 listed.size=all.length->(∀ j,listed.getD j true=false↔i<=j∧j<all.length)->mP T X.wl all i l=true->jp std T G X all base i l s K->Inh c base listed s->mo T G X all base K l.length listed s
 | [],i,listed,s,hl,hi,hsz,hun,hd,h,hinh=>by
   refine ⟨?_,h⟩
   rw [List.eq_nil_iff_forall_not_mem]
   intro j hj
   have:=(hun j).1 (jc hj)
   simp at hi
   omega
 |o::l,i,listed,s,hl,hi,hsz,hun,hd,h,hinh=>by
  have h0:all[i]? =some o:=by simpa using (hl 0).symm
  have hilt:i<all.length:=by simp at hi;omega
  simp only [mP,bAE] at hd
  obtain ⟨⟨hback,hfree⟩,hrest⟩:=hd
  have hready:i∈Region.ready .any all.toArray listed:=by
   refine mem_ready.2 ⟨(hun i).2 ⟨Nat.le_refl _,hilt⟩,o,by simpa using h0,fun e he hb=> ?_⟩
   have hlt:e.on<i:=by
    have:=List.all_eq_true.1 hback e (by simpa using he)
    simpa [hb] using this
   have hnot: ¬ listed.getD e.on true=false:=fun hh=>by have:=(hun e.on).1 hh;omega
   rw [Array.getD_eq_getD_getElem?] at hnot ⊢
   rw [Array.getElem?_eq_getElem (by omega)] at hnot ⊢
   simpa using hnot
  have key: ∀ p s',j7 std T G X all base i o s=some (p,s')->aK p->(dM (ev T.gl s.tmps) all o.op=true->jn (eX X.wl (hot (ev T.gl s.tmps) o.op)) all o i (i+1) l [] =true)->jp std T G X all base (i+1) l s' K->mo T G X all base K (o::l).length listed s:=by
   intro p s' hst hp hhot hr
   have hy:Y T G X all base i s s':=⟨o,p,h0,hst,hp⟩
   refine xB (P:=P) (c:=c) hT hG hX hgl h0 (fun listed s s1 s2 j oj hj hji hinh hiun hjun hap hcl hy1 hy2=>O7 (c:=c) hgl h0 listed s s1 s2 j oj hj hji hinh hiun hjun hap hcl hy1 hy2) (fun listed s s' j oj hj hinh hjun hap hy hh=>⟨II (c:=c) hgl hj hinh hjun hap hy hh,IH hj hap hy⟩) (W:=fun j=>(fw i (i+1) l []).contains j) (fun j oj hoj hw=> ?_) l.length listed s s' (fun j oj hoj hji hjun hno=> ?_) (fun j hw=> ?_) hready hinh hy ?_
   · have hw':j∈fw i (i+1) l [] :=by simpa using hw
     rcases jF i l (i+1) [] j hw' with h1| ⟨h1,o',h2,e,he,hb,h3⟩
     · cases h1
     · have:=hl (j - i)
       rw [show i+(j - i)=j by omega,hoj,show j - i=(j - (i+1))+1 by omega] at this
       simp only [List.getElem?_cons_succ] at this
       rw [h2] at this
       cases this
       exact ⟨e,he,hb,by simpa using h3⟩
   · have hj:=(hun j).1 hjun
     have hq:l[j - (i+1)]? =some oj:=by
      have:=hl (j - i)
      rw [show i+(j - i)=j by omega,hoj,show j - i=(j - (i+1))+1 by omega] at this
      simpa using this
     rcases kh hfree (j - (i+1)) oj hq with hw|hw
     · rw [show i+1+(j - (i+1))=j by omega] at hw
       have hno':(fw i (i+1) l []).contains j=false:=hno
       have hw2:(fw i (i+1) l []).contains j=true:=by simpa using hw
       rw [hw2] at hno'
       cases hno'
     · refine ⟨hw.1,hw.2,fun hh=> ?_⟩
       rcases kh (hhot hh) (j - (i+1)) oj hq with hw3|hw3
       · rw [show i+1+(j - (i+1))=j by omega] at hw3
         have hno':(fw i (i+1) l []).contains j=false:=hno
         have hw2:(fw i (i+1) l []).contains j=true:=by simpa using hw3
         rw [hw2] at hno'
         cases hno'
       · exact hw3.2
   · have hw':j∈fw i (i+1) l [] :=by simpa using hw
     rcases jF i l (i+1) [] j hw' with h1| ⟨h1,o',h2,e,he,hb,h3⟩
     · cases h1
     · refine (hun j).2 ⟨by omega, ?_⟩
       have:=(List.getElem?_eq_some_iff.1 h2).1
       simp at hi
       omega
   · refine tC hT hG hX hgl l (i+1) _ s' (fun j=>by have:=hl (j+1);simpa [Nat.add_assoc,Nat.add_comm 1 j] using this) (by simp at hi;omega) (by simpa using hsz) (fun j=> ?_) hrest hr (hy.inh hT hG hX hgl ((hun i).2 ⟨Nat.le_refl _,hilt⟩) hinh)
     by_cases hij:i=j
     · subst hij
       rw [Array.getD_eq_getD_getElem?]
       simp [hsz,hilt]
     · rw [getD_set_ne true hij,hun j]
       omega
  simp only [jp] at h
  split at h
  · rename_i p s' hst
    have hcond: ∀ q,jR (OX std (Dv (ev T.gl s.tmps) all o.op) fun _=>jn (eX X.wl (hot (ev T.gl s.tmps) o.op)) all o i (i+1) l [] || !dM (ev T.gl s.tmps) all o.op) p=q->aK q->aK p∧(dM (ev T.gl s.tmps) all o.op=true->jn (eX X.wl (hot (ev T.gl s.tmps) o.op)) all o i (i+1) l [] =true):=by
     intro q hq hh
     rw [<-hq,ep] at hh
     refine ⟨hh.2,fun e=> ?_⟩
     have:=hh.1
     rw [Ml e] at this
     have h2:(jn (eX X.wl (hot (ev T.gl s.tmps) o.op)) all o i (i+1) l [] || !dM (ev T.gl s.tmps) all o.op)=true:=this
     rw [e] at h2
     simpa using h2
    split at h
    · rename_i hq
      obtain ⟨c1,c2⟩:=hcond _ hq trivial
      exact key _ _ hst c1 c2 h
    · rename_i q hq
      obtain ⟨c1,c2⟩:=hcond _ hq h.1
      exact key _ _ hst c1 c2 h.2
  · exact h.elim
theorem A1(hT:TysOk P T)(hG:az P T.gl G)(hX:XtOk P T.gl X)(hgl:T.gl=c.gl)(hm:P.follows .mixedOrders=true){id:Nat}{Q:Exit->Act->World->Prop}{K:St->Prop}{s:St}{a:Act}{w:World}(hd:xg T X.wl all=true)
 (hK: ∀ s' a w,K s'->Sim c (aA s'.next) s' a w->Q .normal a w) (h:jp std T G X all s.next 0 all { s with next:=s.next+all.length } (fun s'=>s'.next=s.next+all.length∧K s')) (hs:Sim c (aA s.next) s a w):
 (Code.region id all.toArray true).wp P Q a w:=by
 simp only [xg,bAE] at hd
 have hs0:Sim c (iH s.next (Array.replicate all.length false)) { s with next:=s.next+all.length } a { w with drawn:=w.drawn+1 } :=((hs.next _).wide fun k hk=> .inl hk).drew
 have hlex:=tC (P:=P) (c:=c) hT hG hX hgl (all:=all) (base:=s.next) (K:=fun s'=>s'.next=s.next+all.length∧K s') all 0 (Array.replicate all.length false) { s with next:=s.next+all.length } (by simp) (by simp) (by simp)
  (fun j=>by
    rw [Array.getD_eq_getD_getElem?]
    by_cases hj:j<all.length
    · simp [hj]
    · rw [Array.getElem?_eq_none (by simp;omega)];simp;omega) hd.2 h ⟨a,_,hs0⟩
 refine wp_region_any hm ?_
 have:=oP (P:=P) (c:=c) hT hG hX hgl (Q:=Q) (fun listed s' a w hk hs' hl=>hK s' a w hk.2 (hs'.wide fun k hk'=>by
  rw [hk.1]
  rcases hk' with h1| ⟨j,rfl,h2⟩
  · simp only [aA];omega
  · have:j<listed.size:=by
     rcases Nat.lt_or_ge j listed.size with h'|h'
     · exact h'
     · rw [Array.getD_eq_getD_getElem?,Array.getElem?_eq_none h'] at h2;cases h2
    simp only [aA];omega)) all.length (Array.replicate all.length false) { s with next:=s.next+all.length } a { w with drawn:=w.drawn+1 } (by simp) hlex hs0
 simpa using this
theorem nm{base:Nat}{K:St->Prop}{n:Nat} : ∀(l:List Oper) (i:Nat) (s:St),s.next=n->jp std T G X all base i l s K->jp std T G X all base i l s fun s'=>s'.next=n∧K s'
 | [],i,s,hn,h=>⟨hn,h⟩
 |o::l,i,s,hn,h=>by
  simp only [jp] at h ⊢
  split at h
  · rename_i p s' hst
    split at h
    · rename_i hq
      exact nm l (i+1) s' ((tj hst).trans hn) h
    · rename_i q hq
      exact ⟨h.1,nm l (i+1) s' ((tj hst).trans hn) h.2⟩
  · exact h.elim
end
end Go.Vd
