/- Rows of rows: a row is taken out of its cell, and put back. -/
import Derived.Test.YtckmnmcnelfkjaaGreatDoorVdW
set_option linter.unusedVariables false
set_option linter.unusedSimpArgs false
namespace Go.Vd
open Go.RowKit
variable {key:Nat} {K:Kids} {b:Blk}
section
variable {P:Program} {o:Oper} {a:Act} {w:World} {ρ:Nat->Value} {U:Nat->Prop} {c:Ctx} {s:St}
theorem iD{b c:Blk}(hb: ∀ g,hasB ρ (key,b) g->hasB ρ (key,c) g): ∀ {m:Mem},af m key=some c->m.Pairwise (cf ρ)->(upd m key b).Pairwise (cf ρ)
 | (k,d)::m,hl,h=>by
   rw [List.pairwise_cons] at h
   simp only [af] at hl
   simp only [upd]
   cases hk:Nat.beq k key<;>simp only [hk,cond_true,cond_false] at hl ⊢
   · refine List.pairwise_cons.2 ⟨fun e he=> ?_,iD hb hl h.2⟩
     rcases dl he with rfl|he
     · have:=h.1 _ (ag hl)
       exact ⟨this.1,fun x h1 h2=>this.2 x h1 (hb x h2)⟩
     · exact h.1 e he
   · simp only [sIE] at hl
     subst hl
     obtain rfl:=nQE hk
     refine List.pairwise_cons.2 ⟨fun e he=> ?_,h.2⟩
     have:=h.1 e he
     exact ⟨this.1,fun x h1 h2=>this.2 x (hb x h1) h2⟩
theorem gy{m:Mem}(h:m.Pairwise fun e e'=>e'.1<e.1):(upd m key b).Pairwise fun e e'=>e'.1<e.1:=by
 have e: ∀ m:Mem,m.Pairwise (fun e e'=>e'.1<e.1)↔(m.map (·.1)).Pairwise fun k k'=>k'<k:=fun m=>by rw [List.pairwise_map]
 rw [e,i9]
 exact (e m).1 h
theorem KidsOk.hole{rw N:Nat->Prop}{g0:Option Nat}{xs:List Value}(h:KidsOk w ρ rw N g0 xs K)(hh:K.hl=none)(i:Nat):KidsOk w ρ rw N g0 xs { K with hl:=some i } :=by
 have ho: ∀ j,Kids.own { K with hl:=some i } j->K.own j:=fun j hj=>⟨hj.1,by rw [hh];simp,hj.2.2⟩
 exact ⟨h.key,h.len,h.size,h.zero,fun j hj=>h.name j (ho j hj),fun j hj=>h.row j (ho j hj),fun j v p h1 _ h3 h4 h5=>h.frz j v p h1 (by rw [hh];simp) h3 h4 h5,
  fun j k hne hj hk=>h.apart j k hne (ho j hj) (ho k hk),fun j hj=>h.outer j (ho j hj)⟩
theorem Iz(h:SimR c U s a w ρ){q e i:Nat}(hl:af s.mem q=some (.krow e K))(hn:K.hl=none)(hi:K.own i):
 Left c w ρ U s.mem (upd s.mem q (.krow e { K with hl:=some i })) (av (bU (ρ K.fam) i)):=by
 obtain ⟨xs,ho,h1,hK⟩:=h.mem.blk _ (ag hl)
 simp only at hK ho
 have hoo: ∀ j,Kids.own { K with hl:=some i } j->j≠i:=fun j hj e=>hj.2.1 (by rw [e])
 have hoj: ∀ j,Kids.own { K with hl:=some i } j->K.own j:=fun j hj=>⟨hj.1,by rw [hn];simp,hj.2.2⟩
 have hsub: ∀ g,hasB ρ (q, .krow e { K with hl:=some i }) g->hasB ρ (q, .krow e K) g:=fun g hg=>by
  rcases hg with hg| ⟨j,hj,hg⟩
  · exact .inl hg
  · exact .inr ⟨j,hoj j hj,hg⟩
 refine ⟨fun x hx=> ?_,fun x hx=> ?_,fun x hx g hg=> ?_,fun g hg=>⟨(q, .krow e K),ag hl, .inr ⟨i,hi,hg⟩⟩,iD hsub hl h.mem.apart,gy h.mem.sorted⟩
 · rcases dl hx with rfl|hx
   · exact ⟨xs,ho,h1,hK.hole hn i⟩
   · exact h.mem.blk x hx
 · rcases dl hx with rfl|hx
   · exact h.mem.key (q, .krow e K) (ag hl)
   · exact h.mem.key x hx
 · rcases fj h.mem.apart hl x hx with rfl| ⟨hx,hap⟩
   · refine ⟨⟨(q, .krow e K),ag hl,hsub g hg⟩,fun hb=> ?_⟩
     rcases hg with hg| ⟨j,hj,hg⟩
     · exact hK.outer i hi g hb hg
     · exact hK.apart i j (fun e=>hoo j hj e.symm) hi (hoj j hj) g hb hg
   · exact ⟨⟨x,hx,hg⟩,fun hb=>hap.2 g (.inr ⟨i,hi,hb⟩) hg⟩
theorem Fw{e n n0 c0 g i:Nat}{v u:Value}{xs:List Value}(h:bD w e 1 v n xs)(hv:v= .slice (some ⟨g,0,none⟩) n0 c0)(hi:i<n0)(hu:one u)(hxs: ∀ x∈xs,one x):
 ∃ cur,isC w g cur e 1∧n0=n∧av v=some g∧i+1<=cur.size∧bD (w.setRow g (cur.toList.take i++ [u] ++cur.toList.drop (i+1)).toArray) e 1 v n (xs.set i u)∧ ∀ x∈xs.set i u,one x:=by
 obtain ⟨hxl,hx⟩:=h
 rcases hx with ⟨⟨ad,e0⟩,_⟩ | ⟨g',cap,cur,e0,hc0,hg,hnc,hcm,hcs,htake⟩
 · rw [hv] at e0;injection e0 with _ e1;omega
 · rw [hv] at e0
   injection e0 with e1 e2 e3
   injection e1 with e1
   injection e1 with e1
   subst e1 e2 e3
   have hsz:(cur.toList.take i++ [u] ++cur.toList.drop (i+1)).length=cur.size:=by
    simp only [List.length_append,List.length_take,List.length_drop,Array.length_toList,List.length_singleton]
    omega
   refine ⟨cur,hg,rfl,by rw [hv,aV hc0],by omega,⟨by simpa using hxl, .inr ⟨g,c0,_,hv,hc0,hg.set (by simpa using hsz),hnc,hcm,by simpa using hsz.trans hcs, ?_⟩⟩,fun x hx=> ?_⟩
   · have hset:(cur.toList.take i++ [u] ++cur.toList.drop (i+1))=cur.toList.set i u:=by
      rw [List.set_eq_take_append_cons_drop,if_pos (by simp;omega)]
      simp
     simp only [hset]
     rw [List.take_set,htake]
   · rcases List.mem_or_eq_of_mem_set hx with hx|rfl
     · exact hxs x hx
     · exact hu
theorem ju{q r:Nat}(h:q≠r): ∀ m:Mem,af (del m r) q=af m q
 | [] =>rfl
 | (k,c)::m=>by
   simp only [del,af]
   cases hr:Nat.beq k r<;>simp only [cond_true,cond_false,af]
   · rw [ju h m]
   · obtain rfl:=nQE hr
     cases hq:Nat.beq k q<;>simp only [cond_true,cond_false]
     exact absurd (nQE hq).symm h
theorem iE{ρ:Nat->Value}{b c:Blk} : ∀ {m:Mem},(∀ x∈m,x.1≠key-> ∀ g,hasB ρ (key,b) g-> ¬ hasB ρ x g)->af m key=some c->m.Pairwise (cf ρ)->(upd m key b).Pairwise (cf ρ)
 | (k,d)::m,hb,hl,h=>by
   rw [List.pairwise_cons] at h
   simp only [af] at hl
   simp only [upd]
   cases hk:Nat.beq k key<;>simp only [hk,cond_true,cond_false] at hl ⊢
   · refine List.pairwise_cons.2 ⟨fun e he=> ?_,iE (fun x hx=>hb x (List.mem_cons_of_mem _ hx)) hl h.2⟩
     rcases dl he with rfl|he
     · have:=h.1 _ (ag hl)
       exact ⟨this.1,fun x h1 h2=>hb _ (List.mem_cons_self ..) this.1 x h2 h1⟩
     · exact h.1 e he
   · simp only [sIE] at hl
     subst hl
     obtain rfl:=nQE hk
     refine List.pairwise_cons.2 ⟨fun e he=> ?_,h.2⟩
     have:=h.1 e he
     exact ⟨this.1,fun x h1 h2=>hb e (List.mem_cons_of_mem _ he) (fun e'=>this.1 e'.symm) x h1 h2⟩
def jw (n:Nat)(v:Value)(i:Nat)(u:Value):Array Value:=Array.ofFn fun j:Fin n=>if j.val=i then u else bU v j.val
theorem xw{n:Nat}{v:Value}{i:Nat}{u:Value}{j:Nat}(h:j<n):bU (.agg (jw n v i u)) j=if j=i then u else bU v j:=by
 simp [bU,jw,Array.getD,h]
theorem oL(h:SimR c U s a w ρ)(hk: ¬ U key){t:TypeId}{ty:Ty}(ht:aB P t ty)(hsz:ty.size=1){pv xv:Value}{q r i e n:Nat}{f:Nat->Nat->SV}{K K':Kids}
 (hp:Rel w ρ (ae c.F ρ s.mem) U pv (.eptr q 1 i 0)) (hx:Rel w ρ (ae c.F ρ s.mem) U xv (.own r)) (hlq:af s.mem q=some (.krow e K)) (hlr:af s.mem r=some (.row K.e K.k n f)) (hne:r≠q)
 (e1:K'.e=K.e) (e2:K'.k=K.k) (e3:K'.n=K.n) (e4:K'.ns=std.nset K.ns i n) (e5:K'.f=std.fset K.f i f) (e6:K'.fam=key)
 (hown: ∀ j,K'.own j->j≠i->K.own j)
 (hfrz: ∀ j p,j<K.n->K'.hl≠some j->K'.ow=some p-> ¬ j<p->j≠i∧(K.hl≠some j∧ ∃ p',K.ow=some p'∧ ¬ j<p')):
 ∃ w',(Instr.storeAt t pv xv).run P w= .ok () w'∧Sim c (aL U key) { s with mem:=upd (del s.mem r) q (.krow e K') } a w':=by
 obtain ⟨xs,ho,h1,hK⟩:=h.mem.blk _ (ag hlq)
 obtain ⟨ys,hor,hy1,hyr⟩:=h.mem.blk _ (ag hlr)
 simp only at ho hK hor
 generalize hsp:SV.eptr q 1 i 0=sp at hp
 generalize hsx:SV.own r=sx at hx
 cases hp with
 |eptr _ _ _ _ g n0 c0 hkq hρ hi=>
  cases hsp
  cases hx with
  |own _ hkr ho1=>
   cases hsx
   obtain ⟨cur,hg,rfl,hb,hcs,ho',h1'⟩:=Fw (u:=ρ r) ho hρ hi ho1 h1
   have hix:i<xs.length:=by rw [hK.len];exact hi
   have hcells:(ρ r).cells= #[ρ r] :=by
    unfold one at ho1
    unfold Value.cells
    cases hv:ρ r<;>rw [hv] at ho1<;>first|rfl|cases ho1
   obtain ⟨ii,d,z,hii,hd,hs,_⟩:=ht
   have hst:=eg (P:=P) g i e [ρ r] 0 cur w hg (by simpa using hcs) (fun v hv=>by obtain rfl:=List.mem_singleton.1 hv;exact ho1)
   simp only [Nat.add_zero,List.length_singleton] at hst
   have hrun:(Instr.storeAt t (.pointer (some ⟨g,i*1+0,none⟩)) (ρ r)).run P w= .ok () (w.setRow g (cur.toList.take i++ [ρ r] ++cur.toList.drop (i+1)).toArray):=by
    have hne': ¬(ρ r).cells.size≠ii.size:=by rw [hcells];simp;omega
    rw [show i*1+0=i by omega]
    simp only [Instr.storeAt,Instr.sureAddr,Sem.run_bind,Sem.run_pure,Result.andThen_ok,storeVar,aW hii,if_neg hne']
    rw [hcells]
    exact hst
   refine ⟨_,hrun,aQ ρ key (.agg (jw K.n (ρ K.fam) i (ρ r))), ?_⟩
   generalize hw':w.setRow g (cur.toList.take i++ [ρ r] ++cur.toList.drop (i+1)).toArray=w' at*
   have hother: ∀ k',k'≠g->w'.heap[k']? =w.heap[k']? :=fun k' hk=>by
    rw [<-hw']
    simp only [World.setRow,Array.getElem?_modify]
    rw [if_neg (fun e=>hk e.symm)]
   have hgq:hasB ρ (q, .krow e K) g:= .inl hb
   have hkeep0:Keep (bB ρ s.mem) w w':=⟨by rw [<-hw'];rfl,by rw [<-hw'];rfl,by rw [<-hw'];rfl,by rw [<-hw'];simp,fun b hb' hn=>hother b fun e'=>hn (by subst e';exact ⟨(q, .krow e K),ag hlq,hgq⟩)⟩
   have hkeep:Keep (ae c.F ρ s.mem) w w':=hkeep0.mono fun _ _ h=> .inr h
   have hρ': ∀ k,U k->aQ ρ key (.agg (jw K.n (ρ K.fam) i (ρ r))) k=ρ k:=co hk ρ _
   have hkey:aQ ρ key (.agg (jw K.n (ρ K.fam) i (ρ r))) key= .agg (jw K.n (ρ K.fam) i (ρ r)):=aX _ _ _
   generalize aQ ρ key (.agg (jw K.n (ρ K.fam) i (ρ r)))=ρ' at*
   have hkid: ∀ j,j<K.n->bU (ρ' key) j=if j=i then ρ r else bU (ρ K.fam) j:=fun j hj=>by rw [hkey];exact xw hj
   have hlq1:af (del s.mem r) q=some (.krow e K):=by rw [ju (fun e=>hne e.symm)];exact hlq
   have hap1:=fZ (key:=r) h.mem.apart
   have hrq:=ia h.mem.apart hlr _ (ag hlq1)
   have hrg: ∀ b,av (ρ r)=some b-> ¬ hasB ρ (q, .krow e K) b:=fun b hb'=>hrq.2 b (.inl hb')
   have hnew: ∀ b,hasB ρ' (q, .krow e K') b->hasB ρ (q, .krow e K) b∨av (ρ r)=some b:=fun b hb'=>by
    rcases hb' with hb'| ⟨j,hj,hb'⟩
    · simp only [hρ' q hkq] at hb'
      exact .inl (.inl hb')
    · rw [e6,hkid j (by rw [<-e3];exact hj.1)] at hb'
      split at hb'
      · exact .inr hb'
      · rename_i hji
        exact .inl (.inr ⟨j,hown j hj hji,hb'⟩)
   have hU1: ∀ x∈del s.mem r,U x.1:=fun x hx=>h.mem.key x (cQ hx)
   have hold: ∀ x∈del s.mem r,∀ b,hasB ρ' x b↔hasB ρ x b:=fun x hx b=>h.mem.hasB hρ' (cQ hx) b
   have hsub: ∀ b,bB ρ' (upd (del s.mem r) q (.krow e K')) b->bB ρ s.mem b:=by
    rintro b ⟨x,hx,hb'⟩
    rcases dl hx with rfl|hx
    · rcases hnew b hb' with hb'|hb'
      · exact ⟨_,ag hlq,hb'⟩
      · exact ⟨_,ag hlr, .inl hb'⟩
    · exact ⟨x,cQ hx,(hold x hx b).1 hb'⟩
   have hrw: ∀ b,b<w.heap.size->ae c.F ρ' (upd (del s.mem r) q (.krow e K')) b->ae c.F ρ s.mem b:=fun b _ hb'=>hb'.imp id (hsub b)
   have hrel: ∀ {u:Value} {t:SV},Rel w ρ (ae c.F ρ s.mem) U u t->Rel w' ρ' (ae c.F ρ' (upd (del s.mem r) q (.krow e K'))) (aL U key) u t:=
    fun hu=>hu.mono (fun k hk=> .inl hk) hρ' hkeep hrw
   have hsame: ∀ b,b≠g->w'.heap[b]? =w.heap[b]? :=hother
   have hkidg: ∀ j,K.own j-> ∀ b,av (bU (ρ K.fam) j)=some b->b≠g:=fun j hj b hb' e'=>hK.outer j hj b hb' (by rw [hb,e'])
   have hrne: ∀ b,av (ρ r)=some b->b≠g:=fun b hb' e'=>hrg b hb' (by rw [e'];exact hgq)
   have hKids:KidsOk w' ρ' (ae c.F ρ' (upd (del s.mem r) q (.krow e K'))) (aL U key) (av (ρ' q)) (xs.set i (ρ r)) K':=by
    refine ⟨by rw [e6];exact .inr rfl,by rw [List.length_set,e3];exact hK.len,fun arr ha=> ?_,fun hz=>absurd (by rw [e6];exact hkey) (hz _),fun j hj=> ?_,fun j hj=> ?_,fun j v p hj1 hj2 hj3 hj4 hv=> ?_,fun j l hjl hj hl' b hb1 hb2=> ?_,fun j hj b hb1 hb2=> ?_⟩
    · rw [e6,hkey] at ha
      injection ha with ha
      rw [<-ha,e3]
      simp [jw]
    · have hjn:j<K.n:=by rw [<-e3];exact hj.1
      rw [e6,hkid j hjn,List.getElem?_set]
      by_cases hji:i=j
      · subst hji;simp [hix]
      · rw [if_neg hji,if_neg (fun e=>hji e.symm)]
        exact hK.name j (hown j hj fun e=>hji e.symm)
    · have hjn:j<K.n:=by rw [<-e3];exact hj.1
      rw [e6,hkid j hjn,e1,e2,e4,e5]
      by_cases hji:j=i
      · subst hji
        simp only [std,j8,pS,if_true]
        exact ⟨ys,hor.same fun b hb'=>hsame b (hrne b hb'),hy1,fun x l v hx hl' hv=>(hyr x l v hx hl' hv).mono hkeep hrw⟩
      · simp only [std,j8,pS,if_neg hji]
        obtain ⟨zs,z1,z2,z3⟩:=hK.row j (hown j hj hji)
        exact ⟨zs,z1.same fun b hb'=>hsame b (hkidg j (hown j hj hji) b hb'),z2,fun x l v hx hl' hv=>(z3 x l v hx hl' hv).mono hkeep hrw⟩
    · rw [e3] at hj1
      obtain ⟨f1,f2,p',f3,f4⟩:=hfrz j p hj1 hj2 hj3 hj4
      rw [List.getElem?_set,if_neg (fun e=>f1 e.symm)] at hv
      rw [e2,e4,e5]
      simp only [std,j8,pS,if_neg f1]
      exact (hK.frz j v p' hj1 f2 f3 f4 hv).mono hkeep hrw
    · have hjn:j<K.n:=by rw [<-e3];exact hj.1
      have hln:l<K.n:=by rw [<-e3];exact hl'.1
      rw [e6,hkid j hjn] at hb1
      rw [e6,hkid l hln] at hb2
      by_cases hji:j=i
      · rw [if_pos hji] at hb1
        have hli:l≠i:=fun e=>hjl (hji.trans e.symm)
        rw [if_neg hli] at hb2
        exact hrg b hb1 (.inr ⟨l,hown l hl' hli,hb2⟩)
      · rw [if_neg hji] at hb1
        by_cases hli:l=i
        · rw [if_pos hli] at hb2
          exact hrg b hb2 (.inr ⟨j,hown j hj hji,hb1⟩)
        · rw [if_neg hli] at hb2
          exact hK.apart j l hjl (hown j hj hji) (hown l hl' hli) b hb1 hb2
    · have hjn:j<K.n:=by rw [<-e3];exact hj.1
      rw [hρ' q hkq] at hb2
      rw [e6,hkid j hjn] at hb1
      by_cases hji:j=i
      · rw [if_pos hji] at hb1
        exact hrg b hb1 (.inl hb2)
      · rw [if_neg hji] at hb1
        exact hK.outer j (hown j hj hji) b hb1 hb2
   refine ⟨h.dfr,h.sz,fun t=>hrel (h.tmps t),h.stk.imp fun v s hv=>hrel hv,⟨fun x hx=> ?_,fun x hx=> ?_, ?_,fun b hb'=>Nat.lt_of_lt_of_le (h.mem.frg b hb') hkeep.size,gy (gx h.mem.sorted)⟩, ?_,fun b hb'=>h.sub b (hsub b hb'),h.old,h.glb⟩
   · rcases fj hap1 hlq1 x hx with rfl| ⟨hx,hap⟩
     · exact ⟨xs.set i (ρ r),by rw [hρ' q hkq,e3];exact ho',h1',hKids⟩
     · exact (h.mem.blk x (cQ hx)).mono (hU1 x hx) (fun k hk=> .inl hk) hρ' hkeep hrw fun b hb'=>hsame b fun e'=>hap.2 g hgq (by rw [<-e'];exact hb')
   · rcases dl hx with rfl|hx
     · exact .inl hkq
     · exact .inl (hU1 x hx)
   · refine iE (c:= .krow e K) (fun x hx hxq b hb1 hb2=> ?_) hlq1 (hap1.imp_of_mem fun {x y} hx hy hap=>⟨hap.1,fun b h1 h2=>hap.2 b ((hold x hx b).1 h1) ((hold y hy b).1 h2)⟩)
     have hb2:=(hold x hx b).1 hb2
     rcases hnew b hb1 with hb1|hb1
     · have: ∀ {m:Mem},m.Pairwise (cf ρ)->af m q=some (.krow e K)->x∈m-> ¬ hasB ρ x b:=by
        intro m
        induction m with
        |nil=>intro _ h _;cases h
        |cons y m ih=>
         intro hp hl hx
         rw [List.pairwise_cons] at hp
         simp only [af] at hl
         cases hyq:Nat.beq y.1 q<;>simp only [hyq,cond_true,cond_false] at hl
         · rcases List.mem_cons.1 hx with rfl|hx
           · exact fun hb=>(hp.1 _ (ag hl)).2 b hb hb1
           · exact ih hp.2 hl hx
         · have hy0:y=(q, .krow e K):=by
            obtain ⟨y1,y2⟩:=y
            simp only [sIE] at hl
            subst hl
            have e0:y1=q:=nQE hyq
            rw [e0]
           rcases List.mem_cons.1 hx with rfl|hx
           · exact absurd (by rw [hy0]) hxq
           · exact (hp.1 x hx).2 b (by rw [hy0];exact hb1)
       exact this hap1 hlq1 hx hb2
     · exact (ia h.mem.apart hlr x hx).2 b (.inl hb1) hb2
   · refine h.keep.trans hkeep0 fun b hb' hr=> ?_
     rcases h.sub b hr with h'|h'
     · exact h'
     · omega
  |_=>cases hsx
 |_=>cases hsp
theorem xx{b b':Blk} : ∀ {m:Mem},(∀ e∈m,e.1≠key)->upd (ins m key b) key b'=ins m key b'
 | [],_=>by simp [ins,upd]
 | (k,c)::m,h=>by
   have hk:Nat.beq k key=false:=by
    cases hb:Nat.beq k key
    · rfl
    · exact absurd (nQE hb) (h (k,c) (List.mem_cons_self ..))
   simp only [ins]
   cases Nat.ble k key<;>simp only [cond_true,cond_false,upd,hk]
   · rw [xx fun e he=>h e (List.mem_cons_of_mem _ he)]
   · simp [Nat.beq_refl]
theorem vM : ∀ {m:Mem},(∀ e∈m,e.1≠key)->af (ins m key b) key=some b
 | [],_=>by simp [ins,af]
 | (k,c)::m,h=>by
   have hk:Nat.beq k key=false:=by
    cases hb:Nat.beq k key
    · rfl
    · exact absurd (nQE hb) (h (k,c) (List.mem_cons_self ..))
   simp only [ins]
   cases Nat.ble k key<;>simp only [cond_true,cond_false,af,hk]
   · exact vM fun e he=>h e (List.mem_cons_of_mem _ he)
   · simp [Nat.beq_refl]
theorem Mg(h:SimR c U s a w ρ)(hk: ¬ U key){t:TypeId}{ty:Ty}(ht:aB P t ty)(hsz:ty.size=1){pv xv:Value}{q r i e n:Nat}{f:Nat->Nat->SV}{K:Kids}
 (hp:Rel w ρ (ae c.F ρ s.mem) U pv (.eptr q 1 i 0)) (hx:Rel w ρ (ae c.F ρ s.mem) U xv (.own r)) (hlq:af s.mem q=some (.krow e K)) (hlr:af s.mem r=some (.row K.e K.k n f)) (hne:r≠q)
 {p:Option Prop} {x:SV} {m:Mem} (hkp:Dt std e K q r i n f key s.mem=some (p,x,m)) (hpp:aK p):
 ∃ w',(Instr.storeAt t pv xv).run P w= .ok () w'∧(x= .un∧Sim c (aL U key) { s with mem:=m } a w'):=by
 unfold Dt at hkp
 split at hkp
 · rename_i h1 h2
   simp only [sIE,pIE] at hkp
   obtain ⟨rfl,rfl,rfl⟩:=hkp
   obtain ⟨w',q1,q2⟩:=oL (P:=P) (K':= { K with ns:=std.nset K.ns i n,f:=std.fset K.f i f,fam:=key }) h hk ht hsz hp hx hlq hlr hne rfl rfl rfl rfl rfl rfl (fun j hj _=>hj) fun j p _ _ hp=>by simp only [h2] at hp;cases hp
   exact ⟨w',q1,rfl,q2⟩
 · rename_i g h1 h2
   simp only [sIE,pIE] at hkp
   obtain ⟨rfl,rfl,rfl⟩:=hkp
   obtain rfl:i=g:=hpp
   obtain ⟨w',q1,q2⟩:=oL (P:=P) (K':= { K with ns:=std.nset K.ns i n,f:=std.fset K.f i f,fam:=key,hl:=none }) h hk ht hsz hp hx hlq hlr hne rfl rfl rfl rfl rfl rfl
    (fun j hj hji=>⟨hj.1,by rw [h1];exact fun e=>hji (Option.some.inj e).symm,hj.2.2⟩) fun j p _ _ hp=>by simp only [h2] at hp;cases hp
   exact ⟨w',q1,rfl,q2⟩
 · rename_i p' h1 h2
   simp only [sIE,pIE] at hkp
   obtain ⟨rfl,rfl,rfl⟩:=hkp
   obtain rfl:i=p':=hpp
   obtain ⟨w',q1,q2⟩:=oL (P:=P) (K':= { K with ns:=std.nset K.ns i n,f:=std.fset K.f i f,fam:=key,ow:=some (std.nadd i 1) }) h hk ht hsz hp hx hlq hlr hne rfl rfl rfl rfl rfl rfl
    (fun j hj hji=>⟨hj.1,hj.2.1,fun p hp=>by
      have h3:=hj.2.2 (i+1) rfl
      rw [h2] at hp
      cases hp
      omega⟩) fun j p h3 h4 h5 h6=>by
      simp only [sIE] at h5
      have h7:i+1=p:=h5
      exact ⟨by omega,h4,i,h2,by omega⟩
   exact ⟨w',q1,rfl,q2⟩
 · cases hkp
theorem Fx(h:SimR c U s a w ρ){q e i:Nat}{v:Value}(hl:af s.mem q=some (.krow e K))(hh:K.hl=none)(ho:K.ow=none)(hv:Rel w ρ (ae c.F ρ s.mem) U v (.kid q K.fam i)):
 v=bU (ρ K.fam) i∧(K.own i∧ ∃ xs,bD w K.e K.k (bU (ρ K.fam) i) (K.ns i) xs∧(∀ u∈xs,one u)∧ ∀ x j u,x<K.ns i->j<K.k->xs[x*K.k+j]? =some u->RelC w (ae c.F ρ s.mem) u (K.f i x j)):=by
 have hlim:=uH h.mem hl
 obtain ⟨xs,_,h1,hK⟩:=h.mem.blk _ (ag hl)
 generalize hs:SV.kid q K.fam i=t at hv
 cases hv with
 |kid _ _ _ hk hf ho1 hi=>
  cases hs
  have hown:K.own i:=⟨hi _ hlim,by rw [hh];simp,fun p h=>by rw [ho] at h;cases h⟩
  exact ⟨rfl,hown,hK.row i hown⟩
 |_=>cases hs
theorem vN :(∀ {s s':SV} {b:Blk},bC key s=some (s',b)-> ∃ e k n f,b= .row e k n f)∧(∀ {l l':List SV} {b:Blk},cg key l=some (l',b)-> ∃ e k n f,b= .row e k n f)∧
 (∀ {s s':SV} {b:Blk},bE key s=some (s',b)-> ∃ e k n f,b= .row e k n f)∧ ∀ {l l':List SV} {b:Blk},cu key l=some (l',b)-> ∃ e k n f,b= .row e k n f:=by
 have c1: ∀ {s s':SV} {b:Blk},bC key s=some (s',b)-> ∃ e k n f,b= .row e k n f:=fun {s s' b} h=>by
  cases s<;>simp only [bC,sIE,pIE,reduceCtorEq] at h
  exact ⟨_,_,_,_,h.2.symm⟩
 have cL: ∀ {l l':List SV} {b:Blk},cg key l=some (l',b)-> ∃ e k n f,b= .row e k n f:=fun {l} =>by
  induction l with
  |nil=>intro l' b h;cases h
  |cons s l ih=>
   intro l' b h
   simp only [cg] at h
   split at h
   · rename_i s' b' h'
     simp only [sIE,pIE] at h
     rw [<-h.2];exact c1 h'
   · split at h
     · rename_i l'' b' h'
       simp only [sIE,pIE] at h
       rw [<-h.2];exact ih h'
     · cases h
 have c2: ∀ {s s':SV} {b:Blk},bE key s=some (s',b)-> ∃ e k n f,b= .row e k n f:=fun {s s' b} h=>by
  cases s<;>simp only [bE,sIE,pIE,reduceCtorEq] at h
  · exact ⟨_,_,_,_,h.2.symm⟩
  · split at h
    · rename_i l' b' h'
      simp only [sIE,pIE] at h
      rw [<-h.2];exact cL h'
    · cases h
 refine ⟨c1,cL,c2,fun {l} => ?_⟩
 induction l with
 |nil=>intro l' b h;cases h
 |cons s l ih=>
  intro l' b h
  simp only [cu] at h
  split at h
  · rename_i s' b' h'
    simp only [sIE,pIE] at h
    rw [<-h.2];exact c2 h'
  · split at h
    · rename_i l'' b' h'
      simp only [sIE,pIE] at h
      rw [<-h.2];exact ih h'
    · cases h
theorem Fy{r r':SV}(h:cV key r=(r',some b))(ρ:Nat->Value)(g:Nat): ¬ fX ρ b g:=by
 have: ∃ e k n f,b= .row e k n f:=by
  unfold cV at h
  split at h
  · split at h
    · rename_i l' b' h'
      simp only [pIE,sIE] at h
      rw [<-h.2];exact vN.2.2.2 h'
    · simp at h
  · split at h
    · rename_i s' b' h'
      simp only [pIE,sIE] at h
      rw [<-h.2];exact vN.2.2.1 h'
    · simp at h
 obtain ⟨e,k,n,f,rfl⟩:=this
 exact fun h=>h
theorem Fz{e1 k1 el n key:Nat}{tm:List SV}{m:Mem}(hm: ∀ x∈m,x.1≠key)(h:SimR c U { s with tmps:=tm,mem:=ins m key (.row el 1 n fun _ j=>ap [.nils] j) } a w ρ):
 SimR c U { s with tmps:=tm,mem:=ins m key (.krow el ⟨e1,k1,n,fun _=>0,fun _ _ _=> .any,none,key,none⟩) } a w ρ:=by
 have hl:=vM (b:= .row el 1 n fun _ j=>ap [.nils] j) hm
 obtain ⟨xs,ho,h1,hr⟩:=h.mem.blk _ (ag hl)
 simp only at ho hr
 have hna: ∀ arr,ρ key≠ .agg arr:=fun arr e=>by
  rcases ho.2 with ⟨⟨_,e0⟩,_⟩ | ⟨_,_,_,e0,_⟩<;>rw [e0] at e<;>cases e
 have hkv: ∀ i,bU (ρ key) i= .slice none 0 0:=fun i=>by
  unfold bU
  split
  · rename_i arr he;exact (hna arr he).elim
  · rfl
 have hkin:Kin ρ (.krow el ⟨e1,k1,n,fun _=>0,fun _ _ _=> .any,none,key,none⟩) (.row el 1 n fun _ j=>ap [.nils] j):=fun g=>by
  constructor
  · rintro ⟨i,_,hb⟩
    simp only [hkv] at hb
    cases hb
  · exact fun h=>h.elim
 obtain ⟨m1,m2,m3,m4⟩:=h.mem.turn (b:= .krow el ⟨e1,k1,n,fun _=>0,fun _ _ _=> .any,none,key,none⟩) hl (w':=w) ⟨rfl,rfl,rfl,Nat.le_refl _,fun _ _ _=>rfl⟩ ⟨xs,ho,h1,⟨h.mem.key _ (ag hl),by rw [ho.1];simp,fun arr ha=>(hna arr ha).elim,fun _ _ _ _=>rfl,fun i hi=>(by
  have hin:i<xs.length:=by rw [ho.1];simpa using hi.1
  have hx:=hr i 0 xs[i] hi.1 (by omega) (by simp [hin])
  simp only [hkv]
  rw [gEE hin]
  simp only [ap] at hx
  generalize xs[i] =y at hx
  cases hx
  rfl),fun i hi=>⟨[],by simp only [hkv];exact ⟨by simp, .inl ⟨⟨_,rfl⟩,rfl⟩⟩,(fun v hv=>by cases hv),fun x j v hx=>absurd hx (by simp)⟩,fun i v p _ _ hp=>(by simp at hp),fun i j _ _ _ g hb=>(by rw [hkv] at hb;cases hb),fun i _ g hb=>(by rw [hkv] at hb;cases hb)⟩⟩ hkin
 have:=h.written m1 m2 m3 m4
 simp only [xx hm] at this
 exact this
end
end Go.Vd
namespace Go.Vd
open Go.RowKit
variable {t:TypeId} {K:Kids} {ty:Ty} {key:Nat}
section
variable {P:Program} {o:Oper} {a:Act} {w:World} {ρ:Nat->Value} {U:Nat->Prop} {c:Ctx} {s:St}
theorem ke(h:SimR c U s a w ρ){q i:Nat}{v:Value}(hl:af s.mem q=some (.kids K))(hh:K.hl=none)(hv:Rel w ρ (ae c.F ρ s.mem) U v (.fkid q K.fam K.n i)):
 v=bU (ρ K.fam) i∧(K.own i∧ ∃ xs,bD w K.e K.k (bU (ρ K.fam) i) (K.ns i) xs∧(∀ u∈xs,one u)∧ ∀ x j u,x<K.ns i->j<K.k->xs[x*K.k+j]? =some u->RelC w (ae c.F ρ s.mem) u (K.f i x j)):=by
 obtain ⟨_,ho,xs,h1,hK⟩:=h.mem.blk _ (ag hl)
 generalize hs:SV.fkid q K.fam K.n i=t at hv
 cases hv with
 |fkid _ _ _ _ hk hf hi ho1=>
  cases hs
  have hown:K.own i:=⟨hi,by rw [hh];simp,fun p h=>by rw [ho] at h;cases h⟩
  exact ⟨rfl,hown,hK.row i hown⟩
 |_=>cases hs
theorem oM(h:SimR c U s a w ρ){q i:Nat}(hl:af s.mem q=some (.kids K))(hn:K.hl=none)(hi:K.own i):
 Left c w ρ U s.mem (upd s.mem q (.kids { K with hl:=some i })) (av (bU (ρ K.fam) i)):=by
 obtain ⟨h0,how,xs,h1,hK⟩:=h.mem.blk _ (ag hl)
 simp only at hK h0
 have hoo: ∀ j,Kids.own { K with hl:=some i } j->j≠i:=fun j hj e=>hj.2.1 (by rw [e])
 have hoj: ∀ j,Kids.own { K with hl:=some i } j->K.own j:=fun j hj=>⟨hj.1,by rw [hn];simp,hj.2.2⟩
 have hsub: ∀ g,hasB ρ (q, .kids { K with hl:=some i }) g->hasB ρ (q, .kids K) g:=fun g hg=>by
  rcases hg with hg| ⟨j,hj,hg⟩
  · exact .inl hg
  · exact .inr ⟨j,hoj j hj,hg⟩
 refine ⟨fun x hx=> ?_,fun x hx=> ?_,fun x hx g hg=> ?_,fun g hg=>⟨(q, .kids K),ag hl, .inr ⟨i,hi,hg⟩⟩,iD hsub hl h.mem.apart,gy h.mem.sorted⟩
 · rcases dl hx with rfl|hx
   · exact ⟨h0,how,xs,h1,hK.hole hn i⟩
   · exact h.mem.blk x hx
 · rcases dl hx with rfl|hx
   · exact h.mem.key (q, .kids K) (ag hl)
   · exact h.mem.key x hx
 · rcases fj h.mem.apart hl x hx with rfl| ⟨hx,hap⟩
   · refine ⟨⟨(q, .kids K),ag hl,hsub g hg⟩,fun hb=> ?_⟩
     rcases hg with hg| ⟨j,hj,hg⟩
     · rw [h0] at hg;cases hg
     · exact hK.apart i j (fun e=>hoo j hj e.symm) hi (hoj j hj) g hb hg
   · exact ⟨⟨x,hx,hg⟩,fun hb=>hap.2 g (.inr ⟨i,hi,hb⟩) hg⟩
theorem B4{ρ:Nat->Value}{q:Nat}{b0:Blk}{x:Nat×Blk}{b:Nat} : ∀ {m:Mem},m.Pairwise (cf ρ)->af m q=some b0->x∈m->x.1≠q->hasB ρ (q,b0) b-> ¬ hasB ρ x b
 | [],_,h,_,_,_=>by cases h
 |y::m,hp,hl,hx,hxq,hb1=>by
  rw [List.pairwise_cons] at hp
  simp only [af] at hl
  cases hyq:Nat.beq y.1 q<;>simp only [hyq,cond_true,cond_false] at hl
  · rcases List.mem_cons.1 hx with rfl|hx
    · exact fun hb=>(hp.1 _ (ag hl)).2 b hb hb1
    · exact B4 hp.2 hl hx hxq hb1
  · have hy0:y=(q,b0):=by
     obtain ⟨y1,y2⟩:=y
     simp only [sIE] at hl
     subst hl
     have e0:y1=q:=nQE hyq
     rw [e0]
    rcases List.mem_cons.1 hx with rfl|hx
    · exact absurd (by rw [hy0]) hxq
    · exact (hp.1 x hx).2 b (by rw [hy0];exact hb1)
def iG (n:Nat)(v:Value)(i:Nat)(u:Value):Value:= .agg (jw n v i u)
theorem ja{n:Nat}{v:Value}{i:Nat}{u:Value}{j:Nat}(h:j<n):bU (iG n v i u) j=if j=i then u else bU v j:=xw h
theorem vO(h:SimR c U s a w ρ)(hk: ¬ U key){q i:Nat}{K K':Kids}{u:Value}{m0:Mem}(hlq:af m0 q=some (.kids K))(hm0: ∀ x∈m0,x∈s.mem)(hap0:m0.Pairwise (cf ρ))(hs0:m0.Pairwise fun e e'=>e'.1<e.1)
 (e1:K'.e=K.e) (e2:K'.k=K.k) (e6:K'.fam=key) (e7:K'.hl=none) (e8:K'.ow=none) (ens: ∀ j,j≠i->K'.ns j=K.ns j) (ef: ∀ j,j≠i->K'.f j=K.f j)
 (hi:i<K'.n) (hown: ∀ j,j<K'.n->j≠i->K.own j) (hu:one u)
 (hrow: ∃ ys,bD w K.e K.k u (K'.ns i) ys∧(∀ v∈ys,one v)∧ ∀ x j v,x<K'.ns i->j<K.k->ys[x*K.k+j]? =some v->RelC w (ae c.F ρ s.mem) v (K'.f i x j))
 (hub: ∀ b,av u=some b->bB ρ s.mem b∧ ∀ x∈m0,¬ hasB ρ x b):
 SimR c (aL U key) { s with mem:=upd m0 q (.kids K') } a w (aQ ρ key (iG K'.n (ρ K.fam) i u)):=by
 have hρ': ∀ k,U k->aQ ρ key (iG K'.n (ρ K.fam) i u) k=ρ k:=co hk ρ _
 have hkey:aQ ρ key (iG K'.n (ρ K.fam) i u) key=iG K'.n (ρ K.fam) i u:=aX _ _ _
 generalize aQ ρ key (iG K'.n (ρ K.fam) i u)=ρ' at*
 obtain ⟨h0,how,xs,h1,hK⟩:=h.mem.blk _ (hm0 _ (ag hlq))
 simp only at hK h0
 have hkq:U q:=h.mem.key _ (hm0 _ (ag hlq))
 have hkid: ∀ j,j<K'.n->bU (ρ' key) j=if j=i then u else bU (ρ K.fam) j:=fun j hj=>by rw [hkey];exact ja hj
 have hU1: ∀ x∈m0,U x.1:=fun x hx=>h.mem.key x (hm0 x hx)
 have hold: ∀ x∈m0,∀ b,hasB ρ' x b↔hasB ρ x b:=fun x hx b=>h.mem.hasB hρ' (hm0 x hx) b
 have hnew: ∀ b,hasB ρ' (q, .kids K') b->hasB ρ (q, .kids K) b∨av u=some b:=fun b hb'=>by
  rcases hb' with hb'| ⟨j,hj,hb'⟩
  · simp only [hρ' q hkq] at hb'
    exact .inl (.inl hb')
  · rw [e6,hkid j hj.1] at hb'
    split at hb'
    · exact .inr hb'
    · rename_i hji
      exact .inl (.inr ⟨j,hown j hj.1 hji,hb'⟩)
 have hsub: ∀ b,bB ρ' (upd m0 q (.kids K')) b->bB ρ s.mem b:=by
  rintro b ⟨x,hx,hb'⟩
  rcases dl hx with rfl|hx
  · rcases hnew b hb' with hb'|hb'
    · exact ⟨_,hm0 _ (ag hlq),hb'⟩
    · exact (hub b hb').1
  · exact ⟨x,hm0 x hx,(hold x hx b).1 hb'⟩
 have hrw: ∀ b,b<w.heap.size->ae c.F ρ' (upd m0 q (.kids K')) b->ae c.F ρ s.mem b:=fun b _ hb'=>hb'.imp id (hsub b)
 have hrel: ∀ {u:Value} {t:SV},Rel w ρ (ae c.F ρ s.mem) U u t->Rel w ρ' (ae c.F ρ' (upd m0 q (.kids K'))) (aL U key) u t:=
  fun hu=>hu.mono (fun k hk=> .inl hk) hρ' (Keep.refl _ _) hrw
 have hxs: ∀ j,j<K'.n->(List.ofFn fun j:Fin K'.n=>bU (ρ' key) j.val)[j]? =some (bU (ρ' key) j):=fun j hj=>by
  rw [List.getElem?_ofFn,dif_pos hj]
 have hKids:KidsOk w ρ' (ae c.F ρ' (upd m0 q (.kids K'))) (aL U key) none (List.ofFn fun j:Fin K'.n=>bU (ρ' key) j.val) K':=by
  refine ⟨by rw [e6];exact .inr rfl,by simp,fun arr ha=> ?_,fun hz=>absurd (by rw [e6];exact hkey) (hz _),fun j hj=>by rw [e6];exact hxs j hj.1,fun j hj=> ?_,fun j v p _ _ hp=>(by rw [e8] at hp;cases hp),fun j l hjl hj hl' b hb1 hb2=> ?_,fun j hj b hb1 hb2=>(by cases hb2)⟩
  · rw [e6,hkey] at ha
    injection ha with ha
    rw [<-ha]
    simp [jw]
  · rw [e6,hkid j hj.1,e1,e2]
    by_cases hji:j=i
    · subst hji
      rw [if_pos rfl]
      obtain ⟨ys,y1,y2,y3⟩:=hrow
      exact ⟨ys,y1,y2,fun x l v hx hl' hv=>(y3 x l v hx hl' hv).mono (Keep.refl _ _) hrw⟩
    · rw [if_neg hji,ens j hji,ef j hji]
      obtain ⟨zs,z1,z2,z3⟩:=hK.row j (hown j hj.1 hji)
      exact ⟨zs,z1,z2,fun x l v hx hl' hv=>(z3 x l v hx hl' hv).mono (Keep.refl _ _) hrw⟩
  · rw [e6,hkid j hj.1] at hb1
    rw [e6,hkid l hl'.1] at hb2
    by_cases hji:j=i
    · rw [if_pos hji] at hb1
      have hli:l≠i:=fun e=>hjl (hji.trans e.symm)
      rw [if_neg hli] at hb2
      exact (hub b hb1).2 _ (ag hlq) (.inr ⟨l,hown l hl'.1 hli,hb2⟩)
    · rw [if_neg hji] at hb1
      by_cases hli:l=i
      · rw [if_pos hli] at hb2
        exact (hub b hb2).2 _ (ag hlq) (.inr ⟨j,hown j hj.1 hji,hb1⟩)
      · rw [if_neg hli] at hb2
        exact hK.apart j l hjl (hown j hj.1 hji) (hown l hl'.1 hli) b hb1 hb2
 have h1': ∀ v∈(List.ofFn fun j:Fin K'.n=>bU (ρ' key) j.val),one v:=fun v hv=>by
  obtain ⟨j,hj⟩:=List.mem_iff_getElem?.1 hv
  have hjn:j<K'.n:=by have:=(List.getElem?_eq_some_iff.1 hj).1;simpa using this
  rw [hxs j hjn,hkid j hjn] at hj
  cases hj
  by_cases hji:j=i
  · rw [if_pos hji];exact hu
  · rw [if_neg hji]
    exact h1 _ (List.mem_of_getElem? (hK.name j (hown j hjn hji)))
 refine ⟨h.dfr,h.sz,fun t=>hrel (h.tmps t),h.stk.imp fun v s hv=>hrel hv,⟨fun x hx=> ?_,fun x hx=> ?_, ?_,h.mem.frg,gy hs0⟩,h.keep,fun b hb'=>h.sub b (hsub b hb'),h.old,h.glb⟩
 · rcases fj hap0 hlq x hx with rfl| ⟨hx,hap⟩
   · exact ⟨by rw [hρ' q hkq];exact h0,e8,_,h1',hKids⟩
   · exact (h.mem.blk x (hm0 x hx)).mono (hU1 x hx) (fun k hk=> .inl hk) hρ' (Keep.refl _ _) hrw fun b _=>rfl
 · rcases dl hx with rfl|hx
   · exact .inl hkq
   · exact .inl (hU1 x hx)
 · refine iE (c:= .kids K) (fun x hx hxq b hb1 hb2=> ?_) hlq (hap0.imp_of_mem fun {x y} hx hy hap=>⟨hap.1,fun b h1 h2=>hap.2 b ((hold x hx b).1 h1) ((hold y hy b).1 h2)⟩)
   have hb2:=(hold x hx b).1 hb2
   rcases hnew b hb1 with hb1|hb1
   · exact B4 hap0 hlq hx hxq hb1 hb2
   · exact (hub b hb1).2 x hx hb2
theorem DJ(h:SimR c U s a w ρ)(ht:aB P t ty)(hsz:ty.size=1){pv xv:Value}{b base n i u:Nat}{cs cs':List SV}
 (hp:Rel w ρ (ae c.F ρ s.mem) U pv (.iptr b base n i)) (hl:af s.mem b=some (.box u cs)) (hx1:one xv) (hlen:(aj cs').length=(aj cs).length) (hib:base+n<=bq cs) (hmr:bR U cs')
 (hx: ∀ t,(aj cs')[base+i]? =some t->Rel w ρ (ae c.F ρ s.mem) U xv t)
 (ho: ∀ j v t t',j≠base+i->(aj cs)[j]? =some t->(aj cs')[j]? =some t'->Rel w ρ (ae c.F ρ s.mem) U v t->Rel w ρ (ae c.F ρ s.mem) U v t'):
 ∃ w',(Instr.storeAt t pv xv).run P w= .ok () w'∧SimR c U { s with mem:=upd s.mem b (.box u cs') } a w' ρ:=by
 obtain ⟨g,arr,e,hg,hsz',hone,hrel,_⟩:=h.mem.blk _ (ag hl)
 simp only at e hg hsz' hone hrel
 have hlw:=cO cs
 cases hp with
 |iptr _ _ _ _ g' hk hρ hi=>
  rw [hρ] at e
  obtain rfl:g'=g:=by simpa using e
  obtain ⟨ii,d,z,hii,hd,hs,_⟩:=ht
  have hcells:xv.cells= #[xv] :=by
   unfold one at hx1
   unfold Value.cells
   cases xv<;>first|rfl|cases hx1
  have hst:=run_storeCells_at (P:=P) g' (base+i) u [xv] 0 arr w hg (by simp;omega) (fun v hv=>by obtain rfl:=List.mem_singleton.1 hv;exact hx1)
  simp only [Nat.add_zero] at hst
  have hrun:(Instr.storeAt t (.pointer (some ⟨g',base+i,none⟩)) xv).run P w= .ok () (w.setRow g' (bt arr.toList (base+i) [xv]).toArray):=by
   have hne: ¬ xv.cells.size≠ii.size:=by rw [hcells];simp;omega
   simp only [Instr.storeAt,Instr.sureAddr,Sem.run_bind,Sem.run_pure,Result.andThen_ok,storeVar,aW hii,if_neg hne]
   rw [hcells]
   rw [show (#[xv] :Array Value).toList= [xv] from rfl,hst]
   rfl
  refine ⟨_,hrun, ?_⟩
  have hheap:=setRow_heap w g' arr (bt arr.toList (base+i) [xv]).toArray u (0,0) hg
  have hother: ∀ k,k≠g'->(w.setRow g' (bt arr.toList (base+i) [xv]).toArray).heap[k]? =w.heap[k]? :=fun k hk=>by
   simp only [World.setRow,Array.getElem?_modify]
   rw [if_neg (fun e=>hk e.symm)]
  have hkeep:Keep (ae c.F ρ s.mem) w (w.setRow g' (bt arr.toList (base+i) [xv]).toArray):=
   ⟨rfl,rfl,rfl,by simp,fun b' hb hn=>hother b' (fun e=>hn (by subst e;exact .inr ⟨_,ag hl, .inl (by simp only [hρ];rfl)⟩))⟩
  have hlist:bt arr.toList (base+i) [xv] =arr.toList.set (base+i) xv:=by
   unfold bt
   rw [List.set_eq_take_append_cons_drop,if_pos (by simp;omega)]
   simp
  obtain ⟨m1,m2,m3,m4⟩:=h.mem.write (w':=w.setRow g' (bt arr.toList (base+i) [xv]).toArray) (b:= .box u cs') hl (g:=g') (by rw [hρ];rfl) rfl rfl rfl (by simp) hother
   ⟨g',(bt arr.toList (base+i) [xv]).toArray,hρ,hheap,by rw [hlist];simp;omega,by
     rw [hlist]
     intro v hv
     simp only at hv
     rcases List.mem_or_eq_of_mem_set hv with hv|rfl
     · exact hone v hv
     · exact hx1,fun j v t' hv ht=>by
     rw [hlist] at hv
     simp only [List.getElem?_toArray,List.getElem?_set,Array.length_toList,Array.getElem?_toList] at hv
     split at hv
     · rename_i hji
       subst hji
       split at hv
       · cases hv
         exact (hx t' ht).mono (fun _ h=>h) (fun _ _=>rfl) hkeep fun _ _ h=>h
       · cases hv
     · rename_i hji
       have hjl:j<(aj cs).length:=by rw [<-hsz'];exact (Array.getElem?_eq_some_iff.1 hv).1
       exact (ho j v _ t' (fun e=>hji e.symm) (gEE hjl) ht (hrel j v _ hv (gEE hjl))).mono (fun _ h=>h) (fun _ _=>rfl) hkeep fun _ _ h=>h,hmr⟩
  have hrw:ae c.F ρ (upd s.mem b (.box u cs'))=ae c.F ρ s.mem:=funext fun b'=>propext (m3 b')
  refine ⟨h.dfr,h.sz,fun t=> ?_, ?_,m1,h.keep.trans m2 fun b' hb hr=> ?_,fun b' hb=>h.sub b' ((m4 b').1 hb),h.old,h.glb⟩
  · simp only [hrw]
    exact (h.tmps t).mono (fun _ h=>h) (fun _ _=>rfl) (m2.mono fun _ _ h=> .inr h) fun _ _ h=>h
  · simp only [hrw]
    exact h.stk.imp fun v s hv=>hv.mono (fun _ h=>h) (fun _ _=>rfl) (m2.mono fun _ _ h=> .inr h) fun _ _ h=>h
  · rcases h.sub b' hr with h'|h'
    · exact h'
    · omega
theorem cB{q k:Nat}{b:Blk}(hk:k≠q): ∀(m:Mem),af (upd m q b) k=af m k
 | [] =>rfl
 | (j,c)::m=>by
   simp only [upd]
   cases hb:Nat.beq j q<;>simp only [cond_true,cond_false,af]
   · rw [cB hk m]
   · obtain rfl:=nQE hb
     cases hb2:Nat.beq j k
     · rfl
     · exact absurd (nQE hb2).symm hk
theorem ry{m:Mem}{b q:Nat}{x y:Blk}(h1:af m b=some x)(h2:af m q=some y)(h:x≠y):b≠q:=fun e=>by
 subst e
 rw [h1] at h2
 exact h (Option.some.inj h2)
theorem run_store(h:SimR c U s a w ρ)(ht:aB P t ty)(hsz:ty.size=1){pv xv:Value}{b base n i u0 q key:Nat}{cs:List SV}{sr sr':SV}{fam n':Nat}(hNq:U q)(hNk:U key)
 (hp:Rel w ρ (ae c.F ρ s.mem) U pv (.iptr b base n i)) (hlb:af s.mem b=some (.box u0 cs)) (hrun:jo cs base n=some sr) (hw:aH sr'=true∧wid sr'=n) (hrr:bR U [sr'])
 (hx1:one xv) (hat:atR sr' i= .fkid q key n' i) (hin:i<n') (hnm:bU (ρ key) i=xv)
 (hats: ∀ j,j<n->j≠i->atR sr j=atR sr' j∨((∃ nn,atR sr j= .fkid q fam nn j)∧(atR sr' j= .fkid q key n' j∧(j<n'∧bU (ρ key) j=bU (ρ fam) j)))):
 ∃ w',(Instr.storeAt t pv xv).run P w= .ok () w'∧SimR c U { s with mem:=upd s.mem b (.box u0 (d8 cs base [sr'])) } a w' ρ:=by
 obtain ⟨q1,q2,q3,q4⟩:=i3 hrun
 have hone:aj [sr'] =ip sr':=by simp [aj]
 have hlw:bq [sr'] =n:=by simp [bq,hw.2]
 have hle:base+bq [sr'] <=bq cs:=by omega
 have hget: ∀ j,j<n->(aj (d8 cs base [sr']))[base+j]? =some (atR sr' j):=fun j hj=>by
  rw [rf hle,if_pos ⟨by omega,by omega⟩,hone,show base+j - base=j by omega,iZ (by rw [hw.2];exact hj)]
 have hi:i<n:=by
  cases hp with
  |iptr _ _ _ _ g hk hρ hi=>exact hi
 have hmb:bR U cs:=by
  obtain ⟨_,_,_,_,_,_,_,hmb⟩:=h.mem.blk _ (ag hlb)
  exact hmb
 refine DJ (P:=P) h ht hsz hp hlb hx1 (qp hle) (by omega) (hmb.put hrr _) (fun t ht=> ?_) fun j v t t' hj h1 h2 hr=> ?_
 · rw [hget i hi] at ht
   cases ht
   rw [hat]
   have:=Rel.fkid (w:=w) (ρ:=ρ) (rw:=ae c.F ρ s.mem) (N:=U) q key n' i hNq hNk hin (by rw [hnm];exact hx1)
   rwa [hnm] at this
 · by_cases hjr:base<=j∧j<base+n
   · obtain ⟨j',rfl⟩: ∃ j',j=base+j':=⟨j - base,by omega⟩
     have hj':j'<n:=by omega
     rw [q4 j' hj'] at h1
     rw [hget j' hj'] at h2
     cases h1
     cases h2
     rcases hats j' hj' (fun e=>hj (by rw [e])) with e| ⟨⟨nn,e1⟩,e2,e3,e4⟩
     · rw [<-e];exact hr
     · rw [e1] at hr
       rw [e2]
       generalize hss:SV.fkid q fam nn j'=ss at hr
       cases hr with
       |fkid _ _ _ _ hk hf hi' ho1=>
        cases hss
        rw [<-e4] at ho1 ⊢
        exact .fkid _ _ _ _ hNq hNk e3 ho1
       |_=>cases hss
   · rw [rf hle,if_neg (by omega),h1] at h2
     cases h2
     exact hr
theorem Mh(h:SimR c U s a w ρ)(hk: ¬ U key)(ht:aB P t ty)(hsz:ty.size=1){pv xv:Value}{b base n i r n' u0:Nat}{f:Nat->Nat->SV}{cs:List SV}{sr:SV}{K:Kids}
 (hp:Rel w ρ (ae c.F ρ s.mem) U pv (.iptr b base n i)) (hx:Rel w ρ (ae c.F ρ s.mem) U xv (.own r)) (hlb:af s.mem b=some (.box u0 cs)) (hrun:jo cs base n=some sr)
 (hlr:af s.mem r=some (.row K.e K.k n' f)) (hlq:af s.mem (cM sr)=some (.kids K)) {p:Option Prop} {x:SV} {m:Mem} (hbp:Du std K u0 cs sr b base n i r n' f key s.mem=some (p,x,m)) (hpp:aK p):
 ∃ w',(Instr.storeAt t pv xv).run P w= .ok () w'∧(x= .un∧Sim c (aL U key) { s with mem:=m } a w'):=by
 obtain ⟨hq0,how,xs,hxs1,hK⟩:=h.mem.blk _ (ag hlq)
 obtain ⟨ys,hor,hy1,hyr⟩:=h.mem.blk _ (ag hlr)
 simp only at hK hor hyr hq0
 have hUq:U (cM sr):=h.mem.key _ (ag hlq)
 have hUf:U K.fam:=hK.key
 have hxv:xv=ρ r∧one (ρ r):=by
  generalize hsx:SV.own r=sx at hx
  cases hx with
  |own _ hkr ho1=>cases hsx;exact ⟨rfl,ho1⟩
  |_=>cases hsx
 obtain ⟨rfl,ho1⟩:=hxv
 have hbq:b≠cM sr:=ry hlb hlq (by simp)
 have hbr:b≠r:=ry hlb hlr (by simp)
 have hi:i<n:=by
  cases hp with
  |iptr _ _ _ _ g hk hρ hi=>exact hi
 obtain ⟨q1,q2,q3,q4⟩:=i3 hrun
 have main: ∀ {K':Kids} {sr':SV} (hrq:r≠cM sr) (e1:K'.e=K.e) (e2:K'.k=K.k) (e4:K'.ns=std.nset K.ns i n') (e5:K'.f=std.fset K.f i f) (e6:K'.fam=key) (e7:K'.hl=none) (e8:K'.ow=none)
  (hin:i<K'.n) (hown: ∀ j,j<K'.n->j≠i->K.own j) (hw:aH sr'=true∧wid sr'=n) (hmn: ∀ k,cA k sr'->k=cM sr∨k=key) (hat:atR sr' i= .fkid (cM sr) key K'.n i)
  (hats: ∀ j,j<n->j≠i->atR sr j=atR sr' j∨((∃ nn,atR sr j= .fkid (cM sr) K.fam nn j)∧(atR sr' j= .fkid (cM sr) key K'.n j∧j<K'.n))),
  ∃ w',(Instr.storeAt t pv (ρ r)).run P w= .ok () w'∧Sim c (aL U key) { s with mem:=upd (upd (del s.mem r) (cM sr) (.kids K')) b (.box u0 (d8 cs base [sr'])) } a w':=by
  intro K' sr' hrq e1 e2 e4 e5 e6 e7 e8 hin hown hw hmn hat hats
  have hlq1:af (del s.mem r) (cM sr)=some (.kids K):=by rw [ju (fun e=>hrq e.symm)];exact hlq
  have hA:=vO (K':=K') (i:=i) (u:=ρ r) (m0:=del s.mem r) h hk hlq1 (fun x hx=>cQ hx) (fZ h.mem.apart) (gx h.mem.sorted) e1 e2 e6 e7 e8
   (fun j hj=>by rw [e4];simp only [std,j8,if_neg hj]) (fun j hj=>by rw [e5];simp only [std,pS,if_neg hj]) hin hown ho1
   (by rw [e4,e5];simp only [std,j8,pS,if_true];exact ⟨ys,hor,hy1,hyr⟩)
   (fun g hg=>⟨⟨_,ag hlr, .inl hg⟩,fun x hx hb=>(ia h.mem.apart hlr x hx).2 g (.inl hg) hb⟩)
  have hρ': ∀ k,U k->aQ ρ key (iG K'.n (ρ K.fam) i (ρ r)) k=ρ k:=co hk ρ _
  have hkey:aQ ρ key (iG K'.n (ρ K.fam) i (ρ r)) key=iG K'.n (ρ K.fam) i (ρ r):=aX _ _ _
  generalize aQ ρ key (iG K'.n (ρ K.fam) i (ρ r))=ρ' at*
  have hp':Rel w ρ' (ae c.F ρ' (upd (del s.mem r) (cM sr) (.kids K'))) (aL U key) pv (.iptr b base n i):=by
   cases hp with
   |iptr _ _ _ _ g hkk hρ hi=>exact .iptr _ _ _ _ g (.inl hkk) ((hρ' b hkk).trans hρ) hi
  have hlb':af (upd (del s.mem r) (cM sr) (.kids K')) b=some (.box u0 cs):=by rw [cB hbq,ju hbr];exact hlb
  obtain ⟨w',r1,r2⟩:=run_store (P:=P) (q:=cM sr) (key:=key) (fam:=K.fam) (n':=K'.n) hA ht hsz (.inl hUq) (.inr rfl) hp' hlb' hrun hw (fun t ht _ k hk=>by obtain rfl:=List.mem_singleton.1 ht;rcases hmn k hk with rfl|rfl;exact .inl hUq;exact .inr rfl) ho1 hat hin (by rw [hkey,ja hin,if_pos rfl]) (fun j hj hji=>by
   rcases hats j hj hji with e| ⟨e1,e2,e3⟩
   · exact .inl e
   · exact .inr ⟨e1,e2,e3,by rw [hkey,ja e3,if_neg hji,hρ' _ hUf]⟩)
  exact ⟨w',r1,ρ',r2⟩
 unfold Du at hbp
 split at hbp
 · rename_i q j nn h1 h2
   cases hb:(Nat.beq K.fam j &&(Nat.beq K.n n && !Nat.beq r q))<;>simp only [hb,cond_true,cond_false,reduceCtorEq,sIE,pIE] at hbp
   obtain ⟨rfl,rfl,rfl⟩:=hbp
   simp only [bAE,Bool.not_eq_true'] at hb
   obtain ⟨b1,b2,b3⟩:=hb
   obtain rfl:=nQE b1
   have hn:K.n=n:=nQE b2
   have hrq:r≠q:=fun e=>by subst e;rw [Nat.beq_refl] at b3;cases b3
   have hnn:nn=n:=q2
   subst hnn
   obtain ⟨w',r1,r2⟩:=main (K':= { K with ns:=std.nset K.ns i n',f:=std.fset K.f i f,fam:=key }) (sr':= .krun q key nn) hrq rfl rfl rfl rfl rfl h1 h2 (by simp only [hn];exact hi) (fun j hj _=>⟨hj,by rw [h1];simp,fun p hp=>by rw [h2] at hp;cases hp⟩) ⟨rfl,rfl⟩ (fun k hk=>hk.imp Eq.symm Eq.symm) (by simp [atR,cM,hn])
    (fun j hj hji=> .inr ⟨⟨nn,rfl⟩,by simp [atR,cM,hn],by simp only [hn];exact hj⟩)
   exact ⟨w',r1,rfl,r2⟩
 · rename_i q j nn g h1 h2
   cases hb:(Nat.beq K.fam j &&(Nat.beq K.n n && !Nat.beq r q))<;>simp only [hb,cond_true,cond_false,reduceCtorEq,sIE,pIE] at hbp
   obtain ⟨rfl,rfl,rfl⟩:=hbp
   simp only [bAE,Bool.not_eq_true'] at hb
   obtain ⟨b1,b2,b3⟩:=hb
   obtain rfl:=nQE b1
   have hn:K.n=n:=nQE b2
   have hrq:r≠q:=fun e=>by subst e;rw [Nat.beq_refl] at b3;cases b3
   have hnn:nn=n:=q2
   subst hnn
   obtain rfl:i=g:=hpp
   obtain ⟨w',r1,r2⟩:=main (K':= { K with ns:=std.nset K.ns i n',f:=std.fset K.f i f,fam:=key,hl:=none }) (sr':= .krun q key nn) hrq rfl rfl rfl rfl rfl rfl h2 (by simp only [hn];exact hi) (fun j hj hji=>⟨hj,by rw [h1];exact fun e=>hji (Option.some.inj e).symm,fun p hp=>by rw [h2] at hp;cases hp⟩) ⟨rfl,rfl⟩ (fun k hk=>hk.imp Eq.symm Eq.symm) (by simp [atR,cM,hn])
    (fun j hj hji=> .inr ⟨⟨nn,rfl⟩,by simp [atR,cM,hn],by simp only [hn];exact hj⟩)
   exact ⟨w',r1,rfl,r2⟩
 · rename_i q j p' nn g h1 h2
   cases hb:(Nat.beq K.fam j && !Nat.beq r q)<;>simp only [hb,cond_true,cond_false,reduceCtorEq,sIE,pIE] at hbp
   obtain ⟨rfl,rfl,rfl⟩:=hbp
   simp only [bAE,Bool.not_eq_true'] at hb
   obtain ⟨b1,b3⟩:=hb
   obtain rfl:=nQE b1
   have hrq:r≠q:=fun e=>by subst e;rw [Nat.beq_refl] at b3;cases b3
   have hnn:nn=n:=q2
   subst hnn
   obtain ⟨hip,hKp⟩:=hpp
   obtain rfl:i=p':=hip
   have hKp:K.n=i:=hKp
   have hbt: ∀ {x y:Nat},x<y->Nat.blt x y=true:=fun {x y} hxy=>Nat.ble_eq_true_of_le hxy
   have hbf: ∀ {x y:Nat},¬ x<y->Nat.blt x y=false:=fun {x y} hxy=>by
    cases hb:Nat.blt x y
    · rfl
    · exact absurd (Nat.le_of_ble_eq_true hb) hxy
   have hna: ∀ x,std.nadd x 1=x+1:=fun x=>rfl
   obtain ⟨w',r1,r2⟩:=main (K':= { K with n:=std.nadd i 1,ns:=std.nset K.ns i n',f:=std.fset K.f i f,fam:=key }) (sr':= .mrun q key (std.nadd i 1) nn g) hrq rfl rfl rfl rfl rfl h1 h2 (by simp only [hna];omega) (fun j hj hji=>⟨by simp only [hna] at hj;omega,by rw [h1];simp,fun p hp=>by rw [h2] at hp;cases hp⟩) ⟨rfl,rfl⟩ (fun k hk=>hk.imp Eq.symm Eq.symm)
    (by simp only [atR,cM,hna,hbt (show i<i+1 by omega),cond_true])
    (fun j hj hji=>by
      simp only [atR,cM,hna]
      by_cases hjp:j<i
      · rw [hbt hjp,hbt (show j<i+1 by omega)]
        exact .inr ⟨⟨i,rfl⟩,rfl,by omega⟩
      · rw [hbf hjp,hbf (show ¬ j<i+1 by omega)]
        exact .inl rfl)
   exact ⟨w',r1,rfl,r2⟩
 · cases hbp
theorem xy{q j n:Nat} : ∀(l:List SV) (t:Nat),ap (ol K q j n l) t=Dy K q j n (ap l t)
 | [],t=>rfl
 |_::_,0=>rfl
 |_::l,t+1=>by simpa [ol,ap] using xy l t
theorem qA{q j n:Nat} : ∀ l:List SV,(ol K q j n l).length=l.length
 | [] =>rfl
 |_::l=>by simp [ol,qA l]
theorem DK{q j n q' j' n' i':Nat}(h:mU q j n (.fkid q' j' n' i')=true):q'=q∧(j'=j∧n'=n):=by
 simp only [mU,bAE] at h
 exact ⟨nQE h.1,nQE h.2.1,nQE h.2.2⟩
theorem vP{q j n i:Nat} : ∀ {l:List SV},aK (oh std q j n i l)-> ∀ t i',ap l t= .fkid q j n i'->i'=i
 | [],_,t,i',h=>by cases t<;>cases h
 |s::l,hc,t,i',h=>by
  have hl:aK (oh std q j n i l)∧(∀ i',s= .fkid q j n i'->i'=i):=by
   unfold oh at hc
   split at hc
   · rename_i hnil;cases hnil
   · rename_i a b d e f g
     cases g
     cases hk:mU q j n (.fkid a b d e)<;>rw [hk] at hc<;>simp only [cond_true,cond_false] at hc
     · refine ⟨hc,fun i' e=> ?_⟩
       cases e
       simp [mU,Nat.beq_refl] at hk
     · rw [ep] at hc
       refine ⟨hc.2,fun i' e=> ?_⟩
       cases e
       exact hc.1
   · rename_i hne g
     cases g
     exact ⟨hc,fun i' e=>(hne _ _ _ _ e).elim⟩
  cases t with
  |zero=>exact hl.2 i' h
  |succ t=>exact vP hl.1 t i' h
theorem Mi(h:SimR c U s a w ρ)(hk: ¬ U key)(ht:aB P t ty)(hsz:ty.size=1){pv:Value}{b base i q u0 nn:Nat}{cs:List SV}{K:Kids}
 (hp:Rel w ρ (ae c.F ρ s.mem) U pv (.iptr b base K.n i)) (hlb:af s.mem b=some (.box u0 cs)) (hrun:jo cs base K.n=some (.krun q K.fam nn)) (hlq:af s.mem q=some (.kids K)) (hh:K.hl=none) (ho:K.ow=none)
 (hc:aK (oh std q K.fam K.n i s.tmps)):
 ∃ w',(Instr.storeAt t pv (.slice none 0 0)).run P w= .ok () w'∧Sim c (aL U key) { s with tmps:=ol K q K.fam K.n s.tmps,mem:=upd (upd s.mem q (.kids { K with ns:=std.nset K.ns i 0,fam:=key })) b (.box u0 (d8 cs base [.krun q key K.n])) } a w':=by
 obtain ⟨hq0,_,xs,hxs1,hK⟩:=h.mem.blk _ (ag hlq)
 simp only at hK hq0
 have hUq:U q:=h.mem.key _ (ag hlq)
 have hUf:U K.fam:=hK.key
 have hbq:b≠q:=ry hlb hlq (by simp)
 have hi:i<K.n:=by
  cases hp with
  |iptr _ _ _ _ g hk hρ hi=>exact hi
 have hnn:nn=K.n:=(i3 hrun).2.1
 subst hnn
 have hownall: ∀ j,j<K.n->K.own j:=fun j hj=>⟨hj,by rw [hh];simp,fun p hp=>by rw [ho] at hp;cases hp⟩
 have hA:=vO (K':= { K with ns:=std.nset K.ns i 0,fam:=key }) (i:=i) (u:= .slice none 0 0) (m0:=s.mem) h hk hlq (fun x hx=>hx) h.mem.apart h.mem.sorted rfl rfl rfl hh ho
  (fun j hj=>by simp only [std,j8,if_neg hj]) (fun j hj=>rfl) hi (fun j hj _=>hownall j hj) rfl
  ⟨[],by simp only [std,j8,if_true];exact ⟨by simp, .inl ⟨⟨_,rfl⟩,rfl⟩⟩,(fun v hv=>by cases hv),fun x l v hx=>by simp only [std,j8,if_true] at hx;omega⟩
  (fun g hg=>by cases hg)
 have hρ': ∀ k,U k->aQ ρ key (iG K.n (ρ K.fam) i (.slice none 0 0)) k=ρ k:=co hk ρ _
 have hkey:aQ ρ key (iG K.n (ρ K.fam) i (.slice none 0 0)) key=iG K.n (ρ K.fam) i (.slice none 0 0):=aX _ _ _
 simp only at hA
 generalize aQ ρ key (iG K.n (ρ K.fam) i (.slice none 0 0))=ρ' at*
 have hfree: ∀ g,av (bU (ρ K.fam) i)=some g-> ¬ ae c.F ρ' (upd s.mem q (.kids { K with ns:=std.nset K.ns i 0,fam:=key })) g:=by
  rintro g hg (hf| ⟨x,hx,hb⟩)
  · obtain ⟨h1,h2⟩:=h.old g hf
    rcases h.sub g ⟨_,ag hlq, .inr ⟨i,hownall i hi,hg⟩⟩ with h'|h'
    · exact h2 h'
    · omega
  · rcases fj h.mem.apart hlq x hx with rfl| ⟨hx,hap⟩
    · rcases hb with hb| ⟨l,hl,hb⟩
      · simp only [hρ' q hUq,hq0] at hb;cases hb
      · simp only [hkey] at hb
        rw [ja hl.1] at hb
        split at hb
        · cases hb
        · rename_i hli
          exact hK.apart i l (fun e=>hli e.symm) (hownall i hi) (hownall l hl.1) g hg hb
    · exact hap.2 g (.inr ⟨i,hownall i hi,hg⟩) ((h.mem.hasB hρ' hx g).1 hb)
 have hrwle: ∀ g,g<w.heap.size->ae c.F ρ' (upd s.mem q (.kids { K with ns:=std.nset K.ns i 0,fam:=key })) g->ae c.F ρ s.mem g:=by
  rintro g _ (hf| ⟨x,hx,hb⟩)
  · exact .inl hf
  · rcases dl hx with rfl|hx
    · rcases hb with hb| ⟨l,hl,hb⟩
      · simp only [hρ' q hUq,hq0] at hb;cases hb
      · simp only [hkey] at hb
        rw [ja hl.1] at hb
        split at hb
        · cases hb
        · exact .inr ⟨_,ag hlq, .inr ⟨l,hownall l hl.1,hb⟩⟩
    · exact .inr ⟨x,hx,(h.mem.hasB hρ' hx g).1 hb⟩
 have hB:SimR c (aL U key) { s with tmps:=ol K q K.fam K.n s.tmps,mem:=upd s.mem q (.kids { K with ns:=std.nset K.ns i 0,fam:=key }) } a w ρ':=by
  refine ⟨hA.dfr,by simp only [qA];exact hA.sz,fun t=> ?_,hA.stk,hA.mem,hA.keep,hA.sub,hA.old,hA.glb⟩
  simp only [xy]
  have hold:=h.tmps t
  have hnew:=hA.tmps t
  simp only at hnew
  cases ht:ap s.tmps t<;>rw [ht] at hold hnew<;>simp only [Dy]<;>first|exact hnew|skip
  rename_i q' j' n' i'
  cases hki:mU q K.fam K.n (.fkid q' j' n' i')<;>simp only [cond_true,cond_false]
  · exact hnew
  · obtain ⟨rfl,rfl,rfl⟩:=DK hki
    obtain rfl:=vP hc t i' ht
    obtain ⟨hv,hown,ys,y1,y2,y3⟩:=ke h hlq hh hold
    rw [hv]
    exact (jC y1 y2 (fun x l v hx hl' hv=>(y3 x l v hx hl' hv).mono (Keep.refl _ _) hrwle) hfree).rel
 have hp':Rel w ρ' (ae c.F ρ' (upd s.mem q (.kids { K with ns:=std.nset K.ns i 0,fam:=key }))) (aL U key) pv (.iptr b base K.n i):=by
  cases hp with
  |iptr _ _ _ _ g hkk hρ hi=>exact .iptr _ _ _ _ g (.inl hkk) ((hρ' b hkk).trans hρ) hi
 have hlb':af (upd s.mem q (.kids { K with ns:=std.nset K.ns i 0,fam:=key })) b=some (.box u0 cs):=by rw [cB hbq];exact hlb
 obtain ⟨w',r1,r2⟩:=run_store (P:=P) (q:=q) (key:=key) (fam:=K.fam) (n':=K.n) (sr':= .krun q key K.n) (xv:= .slice none 0 0) hB ht hsz (.inl hUq) (.inr rfl) hp' hlb' hrun ⟨rfl,rfl⟩
  (fun t ht _ k hk=>by obtain rfl:=List.mem_singleton.1 ht;rcases hk with rfl|rfl;exact .inl hUq;exact .inr rfl) rfl rfl hi (by rw [hkey,ja hi,if_pos rfl])
  (fun j hj hji=> .inr ⟨⟨K.n,rfl⟩,rfl,hj,by rw [hkey,ja hj,if_neg hji,hρ' _ hUf]⟩)
 exact ⟨w',r1,ρ',r2⟩
end
end Go.Vd
