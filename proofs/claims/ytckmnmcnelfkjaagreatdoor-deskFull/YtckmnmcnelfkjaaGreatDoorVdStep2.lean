/- One operation of a region, whatever it is. -/
import Derived.Test.YtckmnmcnelfkjaaGreatDoorVdKids
set_option linter.unusedVariables false
set_option linter.unusedSimpArgs false
namespace Go.Vd
open Go.RowKit
variable {key:Nat} {b k:Nat} {t:TypeId} {T:Tys} {ty:Ty}
section
variable {P:Program} {o:Oper} {a:Act} {w:World} {ρ:Nat->Value} {U:Nat->Prop} {c:Ctx} {s:St}
theorem FA(ht:aB P t ty)(w:World): ∃ z:Value,z.cells.size=ty.size∧eV z.cells.toList=aj ty.zero∧(∀ v∈z.cells.toList,one v)∧
 (Instr.alloc t true (.tuple #[])).run P w= .ok (.pointer (some ⟨w.heap.size,0,none⟩)) (w.alloc (.cells z.cells t)):=by
 obtain ⟨i,d,z,hi,hd,hs,hpos,hagg,h1,hz,hzero,hzone,hzsize,hT⟩:=ht
 refine ⟨z,by omega,hzero,hzone, ?_⟩
 simp only [Instr.alloc,Sem.run_bind,gP hi hz,Result.andThen_ok,s9,Sem.run_pure]
theorem IA(h:SimR c U s a w ρ)(ht:aB P t ty){p x:Operand}{k off u:Nat}{l cs:List SV}(hp:ev c.gl s.tmps p= .ptr k off)(hx:cellsOf (ev c.gl s.tmps x)=some l)
 (hl:af s.mem k=some (.box u cs)) (hlen:bq l=ty.size) (hoff:off+ty.size<=bq cs):
 ∃ w',(Instr.storeAt t (a.eval p) (a.eval x)).run P w= .ok () w'∧SimR c U { s with mem:=upd s.mem k (.box u (d8 cs off l)) } a w' ρ:=by
 have hlw:=cO l
 have hcw:=cO cs
 have hpr:=h.ev p
 rw [hp] at hpr
 obtain ⟨c1,c2,c3,c4⟩:=(h.ev x).cells hx
 obtain ⟨g,arr,e,hg,hsz,hone,hrel,hruns⟩:=h.mem.blk _ (ag hl)
 simp only at e hg hsz hone hrel
 generalize a.eval p=pv at hpr
 cases hpr with
 |ptr _ _ g' hk hρ=>
  rw [hρ] at e
  obtain rfl:g'=g:=by simpa using e
  obtain ⟨i,d,z,hi,hd,hs,_⟩:=ht
  have hvl:(a.eval x).cells.toList.length=ty.size:=by rw [Array.length_toList];omega
  have hst:=run_storeCells_at (P:=P) g' off u (a.eval x).cells.toList 0 arr w hg (by omega) c2
  simp only [Nat.add_zero] at hst
  have hrun:(Instr.storeAt t (.pointer (some ⟨g',off,none⟩)) (a.eval x)).run P w= .ok () (w.setRow g' (bt arr.toList off (a.eval x).cells.toList).toArray):=by
   have hne: ¬(a.eval x).cells.size≠i.size:=by
    simp only [Array.length_toList] at hvl
    omega
   simp only [Instr.storeAt,Instr.sureAddr,Sem.run_bind,Sem.run_pure,Result.andThen_ok,storeVar,aW hi,if_neg hne,hst]
   rfl
  refine ⟨_,hrun, ?_⟩
  have hheap:=setRow_heap w g' arr (bt arr.toList off (a.eval x).cells.toList).toArray u (0,0) hg
  have hother: ∀ k,k≠g'->(w.setRow g' (bt arr.toList off (a.eval x).cells.toList).toArray).heap[k]? =w.heap[k]? :=fun k hk=>by
   simp only [World.setRow,Array.getElem?_modify]
   rw [if_neg (fun e=>hk e.symm)]
  have hset:=xn (w:=w) (ρ:=ρ) (rw:=ae c.F ρ s.mem) (N:=U) (off:=off) (cs:=arr.toList) (c:=cs) (l:=(a.eval x).cells.toList) (s:=l) (by omega) (by simpa using hsz) (by omega) hone c2 (by simpa using hrel) (by simpa using c3)
  have hkeep:Keep (ae c.F ρ s.mem) w (w.setRow g' (bt arr.toList off (a.eval x).cells.toList).toArray):=
   ⟨rfl,rfl,rfl,by simp,fun b hb hn=>hother b (fun e=>hn (by subst e;exact .inr ⟨_,ag hl, .inl (by simp only [hρ];rfl)⟩))⟩
  obtain ⟨m1,m2,m3,m4⟩:=h.mem.write (w':=w.setRow g' (bt arr.toList off (a.eval x).cells.toList).toArray) (b:= .box u (d8 cs off l)) hl (g:=g') (by rw [hρ];rfl) rfl rfl rfl (by simp) hother
   ⟨g',(bt arr.toList off (a.eval x).cells.toList).toArray,hρ,hheap,by simpa using hset.1,by simpa using hset.2.1,fun i v t hv ht=>(hset.2.2 i v t (by simpa using hv) ht).mono (fun _ h=>h) (fun _ _=>rfl) hkeep fun _ _ h=>h,hruns.put c4 _⟩
  have hrw:ae c.F ρ (upd s.mem k (.box u (d8 cs off l)))=ae c.F ρ s.mem:=funext fun b=>propext (m3 b)
  refine ⟨h.dfr,h.sz,fun t=> ?_, ?_,m1,h.keep.trans m2 fun b hb hr=> ?_,fun b hb=>h.sub b ((m4 b).1 hb),h.old,h.glb⟩
  · simp only [hrw]
    exact (h.tmps t).mono (fun _ h=>h) (fun _ _=>rfl) (m2.mono fun _ _ h=> .inr h) fun _ _ h=>h
  · simp only [hrw]
    exact h.stk.imp fun v s hv=>hv.mono (fun _ h=>h) (fun _ _=>rfl) (m2.mono fun _ _ h=> .inr h) fun _ _ h=>h
  · rcases h.sub b hr with h'|h'
    · exact h'
    · omega
theorem ft{K:Act->World->Prop}{Q:Exit->Act->World->Prop}{w':World}(h:(execOp a.eval o).run P w= .ok .skip w')(hk:K (a.put o.dst undef) w'):o.wp P a w K Q:=by
 unfold Oper.wp
 rw [h]
 exact hk
theorem dn{a b:Nat}(h:Nat.blt a b=true):a<b:=by
 have:=Nat.le_of_ble_eq_true h
 omega
theorem tf{s:SV}(h:wX b s=true)(hk:cA k s):k<b:=by
 cases s<;>simp only [cA,wX,bAE] at h hk
 · subst hk;exact dn h
 · subst hk;exact dn h
 · subst hk;exact dn h
 · subst hk;exact dn h
 · rcases hk with rfl|rfl
   · exact dn h.1
   · exact dn h.2
 · rcases hk with rfl|rfl
   · exact dn h.1
   · exact dn h.2
 · rcases hk with rfl|rfl
   · exact dn h.1
   · exact dn h.2
 · subst hk;exact dn h
 · rcases hk with rfl|rfl
   · exact dn h.1
   · exact dn h.2
theorem tg{s:SV}(h:wY b s=true)(hk:eo k s):k<b:=by
 cases s with
 |clo f l=>
  obtain ⟨t,ht,hk⟩:=hk
  exact tf (List.all_eq_true.1 h t ht) hk
 |_=>simp only [wY,eo] at h hk;exact tf h hk
theorem th{s:SV}(h:wZ b s=true)(hk:eO k s):k<b:=by
 cases s with
 |agg l=>
  obtain ⟨t,ht,hk⟩:=hk
  exact tg (List.all_eq_true.1 h t ht) hk
 |_=>simp only [wZ,eO] at h hk;exact tg h hk
theorem DL{s:SV}(h:Ds b s=true)(hk:gr k s):k<b:=by
 cases s with
 |tup l=>
  obtain ⟨t,ht,hk⟩:=hk
  exact th (List.all_eq_true.1 h t ht) hk
 |_=>simp only [Ds,gr] at h hk;exact th h hk
theorem IB{w:World}{ρ:Nat->Value}{rw N:Nat->Prop}{a:Act}{e:Operand->SV}{op:Op}(h: ∀ x,Rel w ρ rw N (a.eval x) (e x))(hn:aK (mS std e op)): ∀ x∈op.operands.toList,Rel w ρ rw N (a.eval x) (lG e op x):=by
 intro x hx
 unfold mS at hn
 unfold lG
 split at hn
 · rename_i t y z
   cases x with
   |tmp t'=>
    simp only
    cases hb:Nat.beq t' t<;>simp only [cond_true,cond_false]
    · exact h _
    · obtain rfl:=nQE hb
      exact rt (h _) hn
   |_=>exact h _
 · exact rt (h x) (gR hn x hx)
theorem FB{m:Mem}{t u:Nat}{y:SV}{n k:Nat}{g:Nat->Nat->SV}(h:lp std T m t u y= .slc n k g):t=u∧(aZ std m y= .slc n k g∧cF m y=true):=by
 unfold lp at h
 cases htu:Nat.beq t u<;>simp only [htu,cond_true,cond_false] at h
 · split at h
   · split at h
     · split at h<;>cases h
     · cases h
   · cases h
 · refine ⟨nQE htu, ?_⟩
   split at h
   · rename_i e1 e
     cases h
     exact ⟨e,e1⟩
   · cases h
theorem FC{m:Mem}{t u:Nat}{y:SV}{k:IntKind}{z:Int}(h:lp std T m t u y= .int k z):y= .int k z∧ ∃ tu kn,T u=some tu∧tu.tag= .int kn:=by
 unfold lp at h
 cases htu:Nat.beq t u<;>simp only [htu,cond_true,cond_false] at h
 · split at h
   · split at h
     · rename_i tu htu
       split at h
       · rename_i kn htag
         cases h
         exact ⟨rfl,tu,kn,htu,htag⟩
       · cases h
     · cases h
   · cases h
 · split at h<;>cases h
set_option maxHeartbeats 1000000 in
def mn (A:Ar)(T:Tys)(G:Pu)(all:List Oper)(base i:Nat)(o:Oper)(s:St):Option (Option Prop×St):=
 match o.guard with
 |some (j,want)=>match j5 all j with
  |some d=>fin o s (cW A T G o.op (ap s.tmps d) want (ev T.gl s.tmps) s.mem base)
  |none=>none
 |none=>fin o s (bA A T G o.op (ev T.gl s.tmps) s.mem (base+i))
theorem kf(x:Option (Option Prop×SV×Mem)):oe false key x=x:=by
 cases x with
 |none=>rfl
 |some y=>obtain ⟨p,r,m⟩:=y;rfl
theorem nh{b:Bool}{x:Option (Option Prop×SV×Mem)}{p:Option Prop}{r:SV}{m1:Mem}(h:oe b key x=some (p,r,m1)):
 ∃ r0 m0,x=some (p,r0,m0)∧((r=r0∧m1=m0)∨(∃ e k n f,b=true∧r0= .own key∧af m0 key=some (.row e k n f)∧r= .slc n k f∧m1=del m0 key)):=by
 cases x with
 |none=>cases h
 |some y=>
  obtain ⟨p0,r0,m0⟩:=y
  cases b
  · rw [kf] at h
    cases h
    exact ⟨_,_,rfl, .inl ⟨rfl,rfl⟩⟩
  · simp only [oe,cond_true] at h
    split at h
    · rename_i q
      cases hq:Nat.beq q key<;>simp only [hq,cond_true,cond_false] at h
      · cases h;exact ⟨_,_,rfl, .inl ⟨rfl,rfl⟩⟩
      · obtain rfl:=nQE hq
        split at h
        · rename_i e k n f hl
          cases h
          exact ⟨_,_,rfl, .inr ⟨e,k,n,f,rfl,rfl,hl,rfl,rfl⟩⟩
        · cases h;exact ⟨_,_,rfl, .inl ⟨rfl,rfl⟩⟩
    · cases h;exact ⟨_,_,rfl, .inl ⟨rfl,rfl⟩⟩
theorem qB(h:SimR c U s a w ρ)(hk: ¬ U key){src dst e:TypeId}(hs:P.underlying src=some .string)(hd:P.underlying dst=some (.slice e))(he:P.underlying e=some (.int .u8))(l:List UInt8)(hl:l.length<4611686018427387904)(d:Option Nat):
 ∃ z w',(convert src dst (.string ⟨l.toArray⟩)).run P w= .ok z w'∧Sim c (aL U key) { s with tmps:=Vd.put s.tmps d (.own key),mem:=ins s.mem key (.row e 1 l.length (std.bytesOf l)) } (a.put d z) w':=by
 have hrun:=run_bytes_of_string (P:=P) w src dst e ⟨l.toArray⟩ hs hd he
 have hsz:(ByteArray.mk l.toArray).size=l.length:=by simp [ByteArray.size]
 rw [hsz] at hrun
 obtain ⟨cap,hcap⟩: ∃ cap,cap=grownCap w l.length 0 e:=⟨_,rfl⟩
 have hge:l.length<=cap:=by rw [hcap];unfold grownCap;simp only [Question.cut];omega
 have hcm:cap<=maxLen:=by rw [hcap];exact grownCap_le_maxLen w _ _ e (by simp only [maxLen];omega)
 rw [<-hcap] at hrun
 obtain ⟨row,hrow⟩: ∃ row,row=bytesRow ⟨l.toArray⟩ cap:=⟨_,rfl⟩
 have hrs:row.size=cap:=by
  rw [hrow]
  simp only [bytesRow,Array.size_append,Array.size_map,Array.size_replicate,List.size_toArray,hsz]
  omega
 have hrl:row.toList.length=cap:=by simpa using hrs
 have hat: ∀ i (hi:i<l.length),row[i]? =some (.int .u8 ((l[i]?.getD 0).toNat:Int)):=fun i hi=>by
  rw [hrow,bytesRow_at _ _ _ (by simpa using hi)]
  simp [hi]
 rw [<-hrow] at hrun
 refine ⟨_,_,hrun, ?_⟩
 have hnew: ∀ g,av (.slice (some ⟨w.heap.size,0,none⟩) l.length cap)=some g->w.heap.size<=g:=fun g hg=>by
  rcases Nat.eq_zero_or_pos cap with h0|h0
  · rw [h0,fq] at hg;cases hg
  · rw [aV h0] at hg
    simp only [sIE] at hg
    omega
 have hext:Ext w (w.drew.alloc (.cells row e (row.size,row.size+1))):=(Ext.drew w).trans (Ext.alloc _ _)
 have hheap:(w.drew.alloc (.cells row e (row.size,row.size+1))).heap[w.heap.size]? =some (.cells row e (row.size,row.size+1)):=heap_alloc_new w.drew _
 have hcell: ∀ j u,(row.toList.take l.length)[j]? =some u->j<l.length∧u= .int .u8 ((l[j]?.getD 0).toNat:Int):=fun j u hj=>by
  rw [List.getElem?_take] at hj
  split at hj
  · rename_i hlt
    rw [Array.getElem?_toList,hat j hlt] at hj
    cases hj
    exact ⟨hlt,rfl⟩
  · cases hj
 refine ⟨_,h.add hk hext (x:= .slice (some ⟨w.heap.size,0,none⟩) l.length cap) (b:= .row e 1 l.length (std.bytesOf l)) hnew ⟨row.toList.take l.length,⟨by rw [List.length_take,hrl];omega, ?_⟩,fun u hu=> ?_,fun i j u hi hj hu=> ?_⟩ ?_ d⟩
 · rw [aX]
   rcases Nat.eq_zero_or_pos cap with h0|h0
   · exact .inl ⟨⟨_,by rw [h0,show l.length=0 by omega]⟩,by omega⟩
   · exact .inr ⟨w.heap.size,cap,row,rfl,h0,⟨_,hheap, .inr ⟨rfl,rfl⟩⟩,hge,hcm,by omega,by rw [Nat.mul_one]⟩
 · obtain ⟨j,hj⟩:=List.mem_iff_getElem?.1 hu
   rw [(hcell j u hj).2]
   rfl
 · have:=(hcell _ u hu).2
   rw [this,show i*1+j=i by omega]
   exact .int _ _
 · have:=Rel.own (w:=w.drew.alloc (.cells row e (row.size,row.size+1))) (ρ:=aQ ρ key (.slice (some ⟨w.heap.size,0,none⟩) l.length cap)) (rw:=ae c.F (aQ ρ key (.slice (some ⟨w.heap.size,0,none⟩) l.length cap)) (ins s.mem key (.row e 1 l.length (std.bytesOf l))))
    (N:=aL U key) key (.inr rfl) (by rw [aX];rfl)
   rwa [aX] at this
theorem qC(h:SimR c U s a w ρ)(hk: ¬ U key)(ht:aB P t ty){e k b:Nat}{isb:Bool}(htag:ty.tag= .slice e k b isb){ev:Operand->SV}{parts:Array (Nat×Operand)}{ls:List (List SV)}
 (hch0:fD ev k 0 parts.toList=some ls) (hx: ∀ x∈parts.toList,Rel w ρ (ae c.F ρ s.mem) U (a.eval x.2) (ev x.2)) (hsmall:ls.length*k<=16777216) (hpos:0<ls.length) (d:Option Nat):
 ∃ z w',(Instr.buildSlice t ls.length (parts.map fun (i,x)=>(i,a.eval x))).run P w= .ok z w'∧Sim c (aL U key) { s with tmps:=Vd.put s.tmps d (.own key),mem:=ins s.mem key (.row e k ls.length (std.lst ls)) } (a.put d z) w':=by
 obtain ⟨_,dd,_,_,hd,_,_,_,_,_,_,_,_,hT⟩:=ht
 rw [htag] at hT
 obtain ⟨rfl,hk0,_,i,z,hi,his,_,hz,hzs⟩:=hT
 obtain ⟨hl,hch⟩:=lN _ _ _ hch0
 have e1:(parts.map fun (x:Nat×Operand)=>(x.1,a.eval x.2)).toList=parts.toList.map fun x=>(x.1,a.eval x.2):=by simp
 have hne:ls.length*k≠0:=by
  have:0<ls.length*k:=Nat.mul_pos hpos hk0
  omega
 obtain ⟨cs,r1,r2,_,r4⟩:=mZ hk0 (parts.toList.map fun x=>(x.1,a.eval x.2)) 0 ((Array.range (ls.length*k)).map (z.cells[· % z.cells.size]!)) (fun j hj=>by
  obtain ⟨x,l,q1,q2,q3,q4,q5⟩:=hch j (by simpa using hj)
  refine ⟨a.eval x,by rw [List.getElem?_map,q1];rfl, ?_⟩
  rw [((hx _ (List.mem_of_getElem? q1)).cells q3).1,cX q5,q4]) (by simp [hl])
 have hcs:cs.size=ls.length*k:=by rw [r2];simp
 have hcell: ∀ p q,p<ls.length->q<k-> ∃ v,cs[p*k+q]? =some v∧one v∧RelC w (ae c.F ρ s.mem) v (std.lst ls p q):=fun p q hp hq=>by
  obtain ⟨x,l,q1,q2,q3,q4,q5⟩:=hch p (by omega)
  obtain ⟨c1,c2,c3,_⟩:=(hx _ (List.mem_of_getElem? q1)).cells q3
  simp only at c1 c2 c3
  rw [cX q5] at c1 c3
  have hc:=r4 p q (a.eval x) (by simpa using (show p<parts.size by simpa using (show p<parts.toList.length by omega))) hq (by rw [List.getElem?_map,q1];simp)
  rw [Nat.zero_add] at hc
  have hlt:q<(a.eval x).cells.size:=by omega
  rw [Array.getElem?_eq_getElem hlt] at hc
  refine ⟨_,hc,c2 _ (by simp), ?_⟩
  simp only [std,bf,q2,Option.getD_some,bW]
  rw [gEE (by omega)]
  exact (c3 q _ _ (Array.getElem?_eq_getElem hlt) (gEE (by omega))).closed (dY q5 _ (by simp))
 refine ⟨.slice (some ⟨w.heap.size,0,none⟩) ls.length ls.length,w.alloc (.cells cs e), ?_, ?_⟩
 · have hns: ¬ 16777216<ls.length*k:=by omega
   simp [Instr.buildSlice,run_underlying hd,aW hi,his,hns,hne,gP hi hz,e1,r1,newRow]
 · refine mm h hk (b0:=none) (.inl ⟨rfl,rfl⟩) (xs:=cs.toList) (fun u hu=> ?_) (fun rw' hrw' i' j u hi' hj hu=> ?_) ⟨by rw [Array.length_toList,hcs], .inr ⟨w.heap.size,ls.length,cs,rfl,hpos, .of (heap_alloc_new w _),Nat.le_refl _,by simp only [maxLen];have:=Nat.le_mul_of_pos_right ls.length hk0;omega,hcs, ?_⟩⟩ (World.grownBy_alloc w _ none) (fun b hb=> ?_) d
   · obtain ⟨j,hj⟩:=List.mem_iff_getElem?.1 hu
     have hlt:j<ls.length*k:=by
      have:=(List.getElem?_eq_some_iff.1 hj).1
      rwa [Array.length_toList,hcs] at this
     obtain ⟨v,q1,q2,_⟩:=hcell (j / k) (j % k) ((Nat.div_lt_iff_lt_mul hk0).2 hlt) (Nat.mod_lt _ hk0)
     rw [Nat.div_add_mod' j k,<-Array.getElem?_toList,hj] at q1
     cases q1
     exact q2
   · obtain ⟨v,q1,_,q3⟩:=hcell i' j hi' hj
     rw [<-Array.getElem?_toList,hu] at q1
     cases q1
     exact q3.mono ((Ext.alloc w (.cells cs e)).keep _) hrw'
   · rw [<-hcs,<-Array.length_toList,List.take_length]
   · rw [aV hpos] at hb
     simp only [sIE] at hb
     exact .inr (by omega)
theorem nY{G:Pu}(hT:TysOk P T)(hG:az P T.gl G)(hgl:T.gl=c.gl){all:List Oper}{base i:Nat}(hU: ¬ U (base+i))(hUb: ∀ k,k<base->U k)(h:Sim c U s a w){p:Option Prop}{s':St}
 (hs:mn std T G all base i o s=some (p,s')) (hp:aK p) {Q:Exit->Act->World->Prop} :
 if Region.wanted o (yielded all.toArray a.tmps)=true then o.wp P a w (fun a' w'=>Sim c (aL U (base+i)) s' a' w') Q else Sim c (aL U (base+i)) s' (a.put o.dst undef) w:=by
 obtain ⟨ρ,h⟩:=h
 unfold mn at hs
 rw [hgl] at hs
 split at hs
 · rename_i j want hg
   split at hs
   · rename_i d hd
     unfold cW at hs
     split at hs
     · rename_i cc b pp r ht hpure
       rw [qy h hg hd ht]
       split at hs
       · cases hs
       · cases hs
       · rename_i rr hcl hkb
         simp only [fin,sIE,pIE] at hs
         obtain ⟨rfl,rfl⟩:=hs
         have hms: ∀ k,gr k r->U k:=fun k hk=>hUb k (DL hkb hk)
         cases hw:std.want cc b want
         · simp only [Bool.false_eq_true,if_false]
           exact ⟨ρ,(h.put (Keep.refl _ _) (.opt _ _ _ (fun e=>by simp at e) (fun _=>rfl) hms) o.dst).more⟩
         · simp only [if_true]
           have hp2:aK (jR (mS std (ev c.gl s.tmps) o.op) pp):=DI (f:=std.imp (std.want cc b want)) (fun q hq=>hq hw) hp
           rw [ep] at hp2
           refine fb hT hG ⟨_,hU⟩ h.mem (hgl▸h.gl) (e:=lG (ev c.gl s.tmps) o.op) (IB (fun x=>h.ev x) hp2.1) hpure hp2.2 fun v w' hext hv _=> ?_
           have h0:=hv (base+i) hU
           rw [Fv r 0 (base+i) (by rw [hcl])] at h0
           exact ⟨ρ,(h.put hext (.opt _ _ _ (fun _=>h0) (fun e=>by simp at e) hms) o.dst).more⟩
     · cases hs
   · cases hs
 · rename_i hg
   have hwant:Region.wanted o (yielded all.toArray a.tmps)=true:=by simp [Region.wanted,hg]
   rw [if_pos hwant]
   unfold bA at hs
   split at hs
   · rename_i t ho
     split at hs
     · rename_i ty hty
       cases hzz:zOk ty.zero<;>simp only [hzz,cond_true,cond_false,fin,reduceCtorEq,sIE,pIE] at hs
       obtain ⟨rfl,rfl⟩:=hs
       obtain ⟨z,z1,z2,z3,z4⟩:=FA (hT _ _ hty) w
       refine aU (v:= .pointer (some ⟨w.heap.size,0,none⟩)) (w':=w.alloc (.cells z.cells t)) (by simp only [execOp,ho,Sem.run_bind,z4];rfl) ?_
       exact Fu (by rw [<-z2,e9];simp) z3 h hU (.zero hzz) (fun i v s hv hs=>eM z.cells.toList i v s (by simpa using hv) (by rw [z2];exact hs)) o.dst
     · cases hs
   · rename_i t x ho
     split at hs
     · rename_i cs hcs
       simp only [fin,sIE,pIE] at hs
       obtain ⟨rfl,rfl⟩:=hs
       obtain ⟨c1,c2,c3,c4⟩:=(h.ev x).cells hcs
       refine aU (v:= .pointer (some ⟨w.heap.size,0,none⟩)) (w':=w.alloc (.cells (a.eval x).cells t)) (by simp only [execOp,ho,Instr.box,Sem.run_bind,s9];rfl) ?_
       exact Fu c1 c2 h hU c4 c3 o.dst
     · cases hs
   · rename_i t x y ho
     split at hs
     · rename_i k off l ty hx hy hty
       split at hs
       · rename_i u cs hl
         cases hb:(Nat.beq (bq l) ty.size && Nat.ble (off+ty.size) (bq cs))<;>simp only [hb,cond_true,cond_false,fin,reduceCtorEq,sIE,pIE] at hs
         obtain ⟨rfl,rfl⟩:=hs
         simp only [bAE] at hb
         obtain ⟨w',hrun,hsim⟩:=IA (P:=P) h (hT _ _ hty) hx hy hl (nQE hb.1) (Nat.le_of_ble_eq_true hb.2)
         refine ft (w':=w') (by simp only [execOp,ho,Sem.run_bind,hrun];rfl) ?_
         exact ⟨ρ,(hsim.put (Keep.refl _ _) .un o.dst).more⟩
       · cases hs
     · rename_i b base' n ix l ty hx hy hty
       split at hs
       · rename_i r u cs hye hlb
         split at hs
         · rename_i sr e' k' n' f hrun hlr
           split at hs
           · rename_i K0 hlq
             cases hb:((Nat.beq e' K0.e && Nat.beq k' K0.k)&& Nat.beq ty.size 1)<;>simp only [hb,cond_true,cond_false] at hs
             · cases hs
             simp only [bAE] at hb
             rw [nQE hb.1.1,nQE hb.1.2] at hlr
             have hpv:=h.ev x
             rw [hx] at hpv
             have hyv:=h.ev y
             rw [hye] at hyv
             cases hkp:Du std K0 u cs sr b base' n ix r n' f (base+i) s.mem with
             |none=>rw [hkp] at hs;cases hs
             |some z=>
              obtain ⟨p',x',m'⟩:=z
              rw [hkp] at hs
              simp only [fin,sIE,pIE] at hs
              obtain ⟨rfl,rfl⟩:=hs
              obtain ⟨w',hrun',hsim⟩:=Mh (P:=P) h hU (hT _ _ hty) (nQE hb.2) hpv hyv hlb hrun hlr hlq hkp hp
              refine ft (w':=w') (by simp only [execOp,ho,Sem.run_bind,hrun'];rfl) ?_
              obtain ⟨rfl,ρ',hsim⟩:=hsim
              exact ⟨ρ',hsim.put (Keep.refl _ _) .un o.dst⟩
           · cases hs
         · cases hs
       · cases hs
     · rename_i q k ix off l ty hx hy hty
       split at hs
       · rename_i el k' n f hlk
         cases hb:(Nat.beq k k' &&(Nat.beq (len l) ty.size &&(Nat.ble (off+ty.size) k && bM l)))<;>simp only [hb,cond_true,cond_false,fin,reduceCtorEq,sIE,pIE] at hs
         obtain ⟨rfl,rfl⟩:=hs
         simp only [bAE] at hb
         obtain ⟨b1,b2,b3,b4⟩:=hb
         obtain rfl:=nQE b1
         have hpv:=h.ev x
         rw [hx] at hpv
         obtain ⟨w',hrun,hsim⟩:=qz (P:=P) h (hT _ _ hty) hpv (h.ev y) hy b4 hlk (by rw [<-dW];exact nQE b2) (Nat.le_of_ble_eq_true b3)
         refine ft (w':=w') (by simp only [execOp,ho,Sem.run_bind,hrun];rfl) ?_
         exact ⟨ρ,(hsim.put (Keep.refl _ _) .un o.dst).more⟩
       · rename_i e0 K0 hlk
         split at hs
         · rename_i r hye
           split at hs
           · rename_i e' k' n f hlr
             cases hb:((Nat.beq e' K0.e && Nat.beq k' K0.k)&&(Nat.beq k 1 &&(Nat.beq off 0 &&(Nat.beq ty.size 1 && !Nat.beq r q))))<;>simp only [hb,cond_true,cond_false] at hs
             · cases hs
             simp only [bAE,Bool.not_eq_true'] at hb
             obtain ⟨⟨b1,b2⟩,b3,b4,b5,b6⟩:=hb
             obtain rfl:k=1:=nQE b3
             obtain rfl:off=0:=nQE b4
             have hne:r≠q:=fun e=>by subst e;rw [Nat.beq_refl] at b6;cases b6
             rw [nQE b1,nQE b2] at hlr
             have hpv:=h.ev x
             rw [hx] at hpv
             have hyv:=h.ev y
             rw [hye] at hyv
             cases hkp:Dt std e0 K0 q r ix n f (base+i) s.mem with
             |none=>rw [hkp] at hs;cases hs
             |some z=>
              obtain ⟨p',x',m'⟩:=z
              rw [hkp] at hs
              simp only [fin,sIE,pIE] at hs
              obtain ⟨rfl,rfl⟩:=hs
              obtain ⟨w',hrun,hsim⟩:=Mg (P:=P) h hU (hT _ _ hty) (nQE b5) hpv hyv hlk hlr hne hkp hp
              refine ft (w':=w') (by simp only [execOp,ho,Sem.run_bind,hrun];rfl) ?_
              obtain ⟨rfl,ρ',hsim⟩:=hsim
              exact ⟨ρ',hsim.put (Keep.refl _ _) .un o.dst⟩
           · cases hs
         · cases hs
       · cases hs
     · cases hs
   · rename_i args ts ho
     split at hs
     · rename_i x y t u hargs hts
       split at hs
       · rename_i ty kq z hty hsrc
         split at hs
         · rename_i e k by_ isb htag
           split at hs
           · rename_i te hx hte
             obtain ⟨hy,tt,kn,htn,htnt⟩:=FC hsrc
             cases hb:(bM te.zero && Nat.beq (len te.zero) k)<;>simp only [hb,cond_true,cond_false,fin,reduceCtorEq,sIE,pIE] at hs
             obtain ⟨rfl,rfl⟩:=hs
             simp only [bAE] at hb
             have ea:args= #[x,y] :=by rw [<-Array.toArray_toList (xs:=args),hargs]
             have et:ts= #[t,u] :=by rw [<-Array.toArray_toList (xs:=ts),hts]
             have hex:execOp a.eval o=(do pure (.value (<-Builtin.append_ #[t,u] o.type #[a.eval x,a.eval y]))):=by simp [execOp,ho,resolve,invoke,builtin,ea,et]
             have hxv:a.eval x= .slice none 0 0:=by
              have:=h.ev x
              rw [hx] at this
              generalize a.eval x=xv at this
              cases this
              rfl
             have hyv:a.eval y= .int kq z:=by
              have:=h.ev y
              rw [hy] at this
              exact this.eq_int
             obtain ⟨v,w',hrun,hsim⟩:=uI h hU (hT _ _ hty) htag (hT _ _ htn) htnt (hT _ _ hte) hb.1 (by rw [<-dW];exact nQE hb.2) (kq:=kq) (ty':=o.type) hp o.dst
             exact aU (v:=v) (w':=w') (by rw [hex,hxv,hyv,Sem.run_bind,hrun];rfl) hsim
           · cases hs
         · cases hs
       · rename_i ty m kk g hty hsrc
         split at hs
         · rename_i e k by_ isb htag
           cases hkk:Nat.beq k kk<;>simp only [hkk,cond_true,cond_false] at hs
           · cases hs
           obtain rfl:k=kk:=nQE hkk
           obtain ⟨rfl,hsrc2,hpl⟩:=FB hsrc
           have ea:args= #[x,y] :=by rw [<-Array.toArray_toList (xs:=args),hargs]
           have et:ts= #[t,t] :=by rw [<-Array.toArray_toList (xs:=ts),hts]
           have hex:execOp a.eval o=(do pure (.value (<-Builtin.append_ #[t,t] o.type #[a.eval x,a.eval y]))):=by simp [execOp,ho,resolve,invoke,builtin,ea,et]
           obtain ⟨_,d,_,_,hd,_,_,_,_,_,_,_,_,hTT⟩:=hT _ _ hty
           rw [htag] at hTT
           obtain ⟨rfl,hk0,_,ii,z,hi,his,hib,hz,hzs⟩:=hTT
           obtain ⟨ad,cp,news,hy,hnl,hn1,hnr,hnrel⟩:=ru h (h.ev y) hsrc2 hpl
           rw [hy] at hex
           split at hs
           · rename_i hx
             simp only [fin,sIE,pIE] at hs
             obtain ⟨rfl,rfl⟩:=hs
             have hxv:a.eval x= .slice none 0 0:=by
              have:=h.ev x
              rw [hx] at this
              generalize a.eval x=xv at this
              cases this
              rfl
             obtain ⟨v',w',r1,r2,r3,r5⟩:=dm (P:=P) (w:=w) (ty:=o.type) hd hi hz his hib hzs hk0 (v:= .slice none 0 0) (n:=0) (xs:= []) ⟨by simp, .inl ⟨⟨_,rfl⟩,rfl⟩⟩ hnl hnr hn1 hp.1 hp.2
             refine aU (v:=v') (w':=w') (by rw [hex,hxv,Sem.run_bind,r1];rfl) ?_
             have:=oJ (n:=0) (f:=fun _ _=> .any) (g:=g) (m:=m) (k:=k) (xs:= []) h hU (v:= .slice none 0 0) (.inl ⟨rfl,rfl⟩) ⟨(fun u hu=>by cases hu),(fun i j u hi=>absurd hi (by omega))⟩ (by simp) ⟨hn1,hnrel⟩ r2 r3 r5 o.dst
             have e1:std.cat 0 (fun _ _=>SV.any) g=g:=by funext i j;simp [std,bd,bf,bw,a8,aO,aI,ba,aM,aE]
             rw [e1,Nat.zero_add] at this
             exact this
           · rename_i hx
             simp only [fin,sIE,pIE] at hs
             obtain ⟨rfl,rfl⟩:=hs
             have hxv: ∃ ad0,a.eval x= .slice ad0 0 0:=by
              have:=h.ev x
              rw [hx] at this
              generalize a.eval x=xv at this
              cases this
              exact ⟨_,rfl⟩
             obtain ⟨ad0,hxv⟩:=hxv
             obtain ⟨v',w',r1,r2,r3,r5⟩:=dm (P:=P) (w:=w) (ty:=o.type) hd hi hz his hib hzs hk0 (v:= .slice ad0 0 0) (n:=0) (xs:= []) ⟨by simp, .inl ⟨⟨_,rfl⟩,rfl⟩⟩ hnl hnr hn1 hp.1 hp.2
             refine aU (v:=v') (w':=w') (by rw [hex,hxv,Sem.run_bind,r1];rfl) ?_
             have:=oJ (n:=0) (f:=fun _ _=> .any) (g:=g) (m:=m) (k:=k) (xs:= []) h hU (v:= .slice ad0 0 0) (.inl ⟨rfl,fq _ _⟩) ⟨(fun u hu=>by cases hu),(fun i j u hi=>absurd hi (by omega))⟩ (by simp) ⟨hn1,hnrel⟩ r2 r3 r5 o.dst
             have e1:std.cat 0 (fun _ _=>SV.any) g=g:=by funext i j;simp [std,bd,bf,bw,a8,aO,aI,ba,aM,aE]
             rw [e1,Nat.zero_add] at this
             exact this
           · rename_i q hx
             split at hs
             · rename_i e' k' n f hl
               cases hb:(Nat.beq e e' && Nat.beq k k')<;>simp only [hb,cond_true,cond_false,fin,reduceCtorEq,sIE,pIE] at hs
               obtain ⟨rfl,rfl⟩:=hs
               simp only [bAE] at hb
               obtain rfl:e=e':=nQE hb.1
               obtain rfl:k=k':=nQE hb.2
               have hxv:a.eval x=ρ q:=by
                have:=h.ev x
                rw [hx] at this
                generalize a.eval x=xv at this
                cases this
                rfl
               have hbo:dv w ρ (ae c.F ρ s.mem) U q (.row e k n f):=h.mem.blk _ (ag hl)
               obtain ⟨xs,hown,hx1,hxr⟩:=hbo
               obtain ⟨v',w',r1,r2,r3,r5⟩:=dm (P:=P) (w:=w) (ty:=o.type) hd hi hz his hib hzs hk0 hown hnl hnr hn1 hp.1 hp.2
               refine aU (v:=v') (w':=w') (by rw [hex,hxv,Sem.run_bind,r1];rfl) ?_
               exact oJ h hU (.inr ⟨q,rfl,rfl,hl⟩) ⟨hx1,hxr⟩ hown.1 ⟨hn1,hnrel⟩ r2 r3 r5 o.dst
             · cases hs
           · rename_i q k2 oo b hx
             split at hs
             · rename_i e' k' n f hl
               cases hb:((Nat.beq e e' && Nat.beq k k')&&(Nat.beq k k2 && Nat.beq oo 0))<;>simp only [hb,cond_true,cond_false,fin,reduceCtorEq,sIE,pIE] at hs
               obtain ⟨rfl,rfl⟩:=hs
               simp only [bAE] at hb
               obtain rfl:e=e':=nQE hb.1.1
               obtain rfl:k=k':=nQE hb.1.2
               obtain rfl:k=k2:=nQE hb.2.1
               obtain rfl:oo=0:=nQE hb.2.2
               have hxr:=h.ev x
               rw [hx] at hxr
               obtain ⟨v,w',hrun,hsim,hrel⟩:=wK (ty':=o.type) h (hT _ _ hty) htag hxr hl hp (h.ev y) hsrc2 hpl
               refine aU (v:=v) (w':=w') (by rw [hex,<-hy,Sem.run_bind,hrun];rfl) ?_
               exact ⟨ρ,(hsim.put (Keep.refl _ _) hrel o.dst).more⟩
             · cases hs
           · rename_i q jf ix hx
             split at hs
             · rename_i e0 K0 hl
               split at hs
               · rename_i q1 q2 q3
                 simp only [fin,sIE,pIE] at hs
                 obtain ⟨rfl,rfl⟩:=hs
                 simp only [bAE] at q3
                 obtain ⟨⟨b1,b2⟩,b3⟩:=q3
                 have hxr:=h.ev x
                 rw [hx,<-nQE b3] at hxr
                 obtain ⟨hxv,hkz⟩:=Fx h hl q1 q2 hxr
                 obtain ⟨hown,xs,hrow,hx1,hxr'⟩:=hkz
                 rw [<-nQE b1,<-nQE b2] at hrow
                 rw [<-nQE b2] at hxr'
                 obtain ⟨v',w',r1,r2,r3,r5⟩:=dm (P:=P) (w:=w) (ty:=o.type) hd hi hz his hib hzs hk0 hrow hnl hnr hn1 hp.1 hp.2
                 refine aU (v:=v') (w':=w') (by rw [hex,hxv,Sem.run_bind,r1];rfl) ?_
                 exact nf h hU (Iz h hl q1 hown) ⟨hx1,hxr'⟩ hrow.1 ⟨hn1,hnrel⟩ r2 r3 r5 o.dst
               · cases hs
             · cases hs
           · rename_i q jf cn ix hx
             split at hs
             · rename_i K0 hl
               split at hs
               · rename_i q1 q2 q3
                 simp only [fin,sIE,pIE] at hs
                 obtain ⟨rfl,rfl⟩:=hs
                 simp only [bAE] at q3
                 obtain ⟨⟨b1,b2⟩,b3,b4⟩:=q3
                 have hxr:=h.ev x
                 rw [hx,<-nQE b3,<-nQE b4] at hxr
                 obtain ⟨hxv,hkz⟩:=ke h hl q1 hxr
                 obtain ⟨hown,xs,hrow,hx1,hxr'⟩:=hkz
                 rw [<-nQE b1,<-nQE b2] at hrow
                 rw [<-nQE b2] at hxr'
                 obtain ⟨v',w',r1,r2,r3,r5⟩:=dm (P:=P) (w:=w) (ty:=o.type) hd hi hz his hib hzs hk0 hrow hnl hnr hn1 hp.1 hp.2
                 refine aU (v:=v') (w':=w') (by rw [hex,hxv,Sem.run_bind,r1];rfl) ?_
                 exact nf h hU (oM h hl q1 hown) ⟨hx1,hxr'⟩ hrow.1 ⟨hn1,hnrel⟩ r2 r3 r5 o.dst
               · cases hs
             · cases hs
           · cases hs
         · cases hs
       · cases hs
     · cases hs
   · rename_i t x y ho
     split at hs
     · rename_i k1' l k2 cp ty hx hy hty
       split at hs
       · rename_i el k by_ isb htag
         split at hs
         · rename_i te hte
           split at hs
           · rename_i e1 k1 hkr hz0
             cases hb:Nat.beq k 1<;>simp only [hb,cond_true,cond_false,fin,reduceCtorEq,sIE,pIE] at hs
             obtain ⟨rfl,rfl⟩:=hs
             obtain rfl:k=1:=nQE hb
             have hxv:=h.ev x
             have hyv:=h.ev y
             rw [hx] at hxv
             rw [hy] at hyv
             obtain ⟨v,w',hrun,ρ',hsim⟩:=oK h hU (hT _ _ hty) htag (hT _ _ hte) (by rw [hz0];rfl) (by rw [hz0];rfl) (kl:=k1') (kc:=k2) hp o.dst
             rw [hz0] at hsim
             exact aU (v:=v) (w':=w') (by simp only [execOp,ho,hxv.eq_int,hyv.eq_int,Sem.run_bind,hrun];rfl) ⟨ρ',Fz (s:=s) (fun x hx e=>hU (by have:=h.mem.key x hx;rwa [e] at this)) hsim⟩
           cases hb:(bM te.zero && Nat.beq (len te.zero) k)<;>simp only [hb,cond_true,cond_false,fin,reduceCtorEq,sIE,pIE] at hs
           obtain ⟨rfl,rfl⟩:=hs
           simp only [bAE] at hb
           have hxv:=h.ev x
           have hyv:=h.ev y
           rw [hx] at hxv
           rw [hy] at hyv
           obtain ⟨v,w',hrun,hsim⟩:=oK h hU (hT _ _ hty) htag (hT _ _ hte) hb.1 (by rw [<-dW];exact nQE hb.2) (kl:=k1') (kc:=k2) hp o.dst
           exact aU (v:=v) (w':=w') (by simp only [execOp,ho,hxv.eq_int,hyv.eq_int,Sem.run_bind,hrun];rfl) hsim
         · cases hs
       · cases hs
     · cases hs
   · rename_i t parts ho
     split at hs
     · rename_i ty hty hparts
       split at hs
       · rename_i e k by_ isb htag
         simp only [fin,sIE,pIE] at hs
         obtain ⟨rfl,rfl⟩:=hs
         obtain ⟨_,d,_,_,hd,_,_,_,_,_,_,_,_,hTT⟩:=hT _ _ hty
         rw [htag] at hTT
         obtain ⟨rfl,hk0,_,ii,z,hi,his,hib,hz,hzs⟩:=hTT
         obtain rfl:parts= #[] :=by rw [<-Array.toArray_toList (xs:=parts),hparts]
         have hrun:(Instr.buildSlice t 0 #[]).run P w= .ok (.slice (some ⟨w.heap.size,0,none⟩) 0 0) (w.alloc (.cells #[] e)):=by
          have e0:(Array.range 0).map (fun _=>(default:Value))= #[] :=by simp [Array.range_zero']
          simp [Instr.buildSlice,run_underlying hd,aW hi,Instr.fill,newRow,e0]
         have hown:bD (w.alloc (.cells #[] e)) e k (.slice (some ⟨w.heap.size,0,none⟩) 0 0) 0 [] :=
          ⟨by simp, .inl ⟨⟨_,rfl⟩,rfl⟩⟩
         have hnew: ∀ g,av (.slice (some ⟨w.heap.size,0,none⟩) 0 0)=some g->w.heap.size<=g:=fun g hg=>by
          rw [fq] at hg;cases hg
         refine aU (v:= .slice (some ⟨w.heap.size,0,none⟩) 0 0) (w':=w.alloc (.cells #[] e)) (by
          have e0:(#[] :Array (Nat×Operand)).map (fun (x:Nat×Operand)=>(x.1,a.eval x.2))= #[] :=by simp
          simp only [execOp,ho,Sem.run_bind]
          rw [e0,hrun]
          rfl) ?_
         refine ⟨_,h.add hU (Ext.alloc w (.cells #[] e)) (b:= .row e k 0 fun _ _=> .any) hnew ⟨[],by rw [aX];exact hown,(fun u hu=>by cases hu),(fun i j u hi=>absurd hi (by omega))⟩ ?_ o.dst⟩
         have:=Rel.own (w:=w.alloc (.cells #[] e)) (ρ:=aQ ρ (base+i) (.slice (some ⟨w.heap.size,0,none⟩) 0 0)) (rw:=ae c.F (aQ ρ (base+i) (.slice (some ⟨w.heap.size,0,none⟩) 0 0)) (ins s.mem (base+i) (.row e k 0 fun _ _=> .any)))
          (N:=aL U (base+i)) (base+i) (.inr rfl) (by rw [aX];rfl)
         rwa [aX] at this
       · cases hs
     · cases hs
   · rename_i t n parts ho
     split at hs
     · rename_i el k ls hbs
       simp only [fin,sIE,pIE] at hs
       obtain ⟨rfl,rfl⟩:=hs
       unfold uo at hbs
       split at hbs
       · rename_i ty _ hty
         split at hbs
         · rename_i el' k' by_ isb htag
           split at hbs
           · rename_i ls' hch
             cases hb:(Nat.beq (n+1) ls'.length &&(Nat.ble 1 (n+1)&& Nat.ble ((n+1)*k') 16777216))<;>simp only [hb,cond_true,cond_false,reduceCtorEq,sIE,pIE] at hbs
             obtain ⟨rfl,rfl,rfl⟩:=hbs
             simp only [bAE] at hb
             have hn:n+1=ls'.length:=nQE hb.1
             replace ho:o.op= .buildSlice t (n+1) parts:=ho
             rw [hn] at ho hb ⊢
             obtain ⟨z,w',hrun,hsim⟩:=qC h hU (hT _ _ hty) htag hch (fun x _=>h.ev x.2) (Nat.le_of_ble_eq_true hb.2.2) (Nat.le_of_ble_eq_true hb.2.1) o.dst
             refine aU (v:=z) (w':=w') (by
              have hex:execOp a.eval o=(do pure (.value (<-Instr.buildSlice t ls'.length (parts.map fun (i,x)=>(i,a.eval x))))):=by simp [execOp,ho]
              rw [hex,Sem.run_bind,hrun];rfl) ?_
             exact hsim
           · cases hbs
         · cases hbs
       · cases hbs
     · split at hs
       · rename_i pp r hpure
         simp only [fin,sIE,pIE] at hs
         obtain ⟨rfl,rfl⟩:=hs
         have hnc:gu o.op=true:=by rw [ho];rfl
         rw [<-ho] at hpure
         refine fb hT hG ⟨_,hU⟩ h.mem (hgl▸h.gl) (fun x _=>h.ev x) hpure hp fun v w' hext hv hvv=> ?_
         exact ⟨ρ,(h.put hext (hvv hnc) o.dst).more⟩
       · cases hs
   · rename_i f args ts ho
     rw [<-ho] at hs
     split at hs
     · rename_i pp r hpure
       split at hs
       · rename_i r' b hcl
         simp only [fin,sIE,pIE] at hs
         obtain ⟨rfl,rfl⟩:=hs
         refine fb hT hG ⟨_,hU⟩ h.mem (hgl▸h.gl) (fun x _=>h.ev x) hpure hp fun v w' hext hv _=> ?_
         have h0:=hv (base+i) hU
         rw [hcl] at h0
         obtain ⟨x,q1,q2,q3⟩:=h0
         have hkb:=Fy hcl (aQ ρ (base+i) x)
         refine ⟨_,h.add hU hext q1 q3 ?_ o.dst hkb⟩
         have hrw:ae c.F (aQ ρ (base+i) x) (ins s.mem (base+i) b)=fun g=>ae c.F ρ s.mem g∨av x=some g:=funext fun g=>propext (m9 h.mem hU x hkb g)
         rw [hrw]
         exact q2
       · rename_i r' hcl
         simp only [fin,sIE,pIE] at hs
         obtain ⟨rfl,rfl⟩:=hs
         refine fb hT hG ⟨_,hU⟩ h.mem (hgl▸h.gl) (fun x _=>h.ev x) hpure hp fun v w' hext hv _=> ?_
         have h0:=hv (base+i) hU
         rw [hcl] at h0
         exact ⟨ρ,(h.put hext h0 o.dst).more⟩
     · cases hs
   · rename_i src dst x ho
     split at hs
     · rename_i el l hcv
       simp only [fin,sIE,pIE] at hs
       obtain ⟨rfl,rfl⟩:=hs
       unfold Il at hcv
       split at hcv
       · rename_i ts td l' _ hts htd hx
         split at hcv
         · rename_i el' k' b' tag1 tag2
           simp only [sIE,pIE] at hcv
           obtain ⟨rfl,rfl⟩:=hcv
           obtain ⟨_,ds,_,_,hus,_,_,_,_,_,_,_,_,hTs⟩:=hT _ _ hts
           obtain ⟨_,dd,_,_,hud,_,_,_,_,_,_,_,_,hTd⟩:=hT _ _ htd
           rw [tag1] at hTs
           rw [tag2] at hTd
           obtain rfl:=hTs
           obtain ⟨rfl,_,hu8,_⟩:=hTd
           have hxv:=h.ev x
           rw [hx] at hxv
           have hp':(0:Int)<=((l'.length:Nat):Int)∧((l'.length:Nat):Int)<((4611686018427387904:Nat):Int):=hp
           obtain ⟨z,w',hrun,hsim⟩:=qB h hU hus hud (hu8 rfl) l' (by omega) o.dst
           have hex:execOp a.eval o=(do pure (.value (<-convert src dst (a.eval x)))):=by simp [execOp,ho]
           exact aU (v:=z) (w':=w') (by rw [hex,hxv.eq_str,Sem.run_bind,hrun];rfl) hsim
         · cases hcv
       · cases hcv
     · split at hs
       · rename_i pp r hpure
         simp only [fin,sIE,pIE] at hs
         obtain ⟨rfl,rfl⟩:=hs
         have hnc:gu o.op=true:=by rw [ho];rfl
         rw [<-ho] at hpure
         refine fb hT hG ⟨_,hU⟩ h.mem (hgl▸h.gl) (fun x _=>h.ev x) hpure hp fun v w' hext hv hvv=> ?_
         exact ⟨ρ,(h.put hext (hvv hnc) o.dst).more⟩
       · cases hs
   · rename_i n1 n2 n3 n4 n45 n5 n6 n7
     split at hs
     · rename_i pp r hpure
       simp only [fin,sIE,pIE] at hs
       obtain ⟨rfl,rfl⟩:=hs
       have hnc:gu o.op=true:=by
        unfold gu
        split
        · rename_i f args ts ho
          exact absurd ho (n6 f args ts)
        · rfl
       refine fb hT hG ⟨_,hU⟩ h.mem (hgl▸h.gl) (fun x _=>h.ev x) hpure hp fun v w' hext hv hvv=> ?_
       exact ⟨ρ,(h.put hext (hvv hnc) o.dst).more⟩
     · cases hs
theorem qD: ∀(l:List SV) (t:Nat) (x:SV) (t':Nat),ap (dL l t x) t'=if t'=t∧t<l.length then x else ap l t'
 | [],t,x,t'=>by simp [dL,ap]
 |y::l,0,x,0=>by simp [dL,ap]
 |y::l,0,x,t'+1=>by simp [dL,ap]
 |y::l,t+1,x,0=>by simp [dL,ap]
 |y::l,t+1,x,t'+1=>by simp [dL,ap,qD l t x t']
theorem vQ: ∀(l:List SV) (t:Nat) (x:SV),(dL l t x).length=l.length
 | [],_,_=>rfl
 |_::_,0,_=>rfl
 |_::l,t+1,x=>by simp [dL,vQ l t x]
theorem B5{tm:List SV}{m1:Mem}{d:Option Nat}{e k n:Nat}{f:Nat->Nat->SV}(hl:af m1 key=some (.row e k n f))(h:Sim c U { s with tmps:=Vd.put tm d (.own key),mem:=m1 } a w):
 Sim c U { s with tmps:=Vd.put tm d (.slc n k f),mem:=del m1 key } a w:=by
 obtain ⟨ρ,h⟩:=h
 have hsub: ∀ b,ae c.F ρ (del m1 key) b->ae c.F ρ m1 b:=fun b hb=>hb.imp id fun ⟨x,hx,hb⟩=>⟨x,cQ hx,hb⟩
 have hfree: ∀ b,av (ρ key)=some b-> ¬ ae c.F ρ (del m1 key) b:=by
  intro b hb hr
  rcases hr with hr| ⟨x,hx,hr⟩
  · have h2:=h.old b hr
    rcases h.sub b ⟨_,ag hl, .inl hb⟩ with h1|h1
    · exact h2.2 h1
    · exact absurd h1 (by omega)
  · exact (ia h.mem.apart hl x hx).2 b (.inl hb) hr
 have hone: ∀ {v:Value} {t:SV},Rel w ρ (ae c.F ρ m1) U v t->Rel w ρ (ae c.F ρ (del m1 key)) U v t:=fun hv=>hv.mono (fun _ h=>h) (fun _ _=>rfl) (Keep.refl _ _) fun b _ hb=>hsub b hb
 refine ⟨ρ,h.dfr, ?_,fun t=> ?_,h.stk.imp fun v s hv=>hone hv,⟨fun x hx=> ?_,fun x hx=>h.mem.key x (cQ hx),fZ h.mem.apart,h.mem.frg,gx h.mem.sorted⟩,h.keep,fun b hb=>h.sub b (let ⟨x,hx,hb⟩:=hb;⟨x,cQ hx,hb⟩),h.old,h.glb⟩
 · have:=h.sz
   cases d with
   |none=>exact this
   |some d=>simp only [Vd.put,vQ] at this ⊢;exact this
 · have ht:=h.tmps t
   cases d with
   |none=>exact hone ht
   |some d=>
    simp only [Vd.put,qD] at ht ⊢
    split at ht
    · rename_i hc
      rw [if_pos hc]
      have:=i7 h.mem (rw':=ae c.F ρ (del m1 key)) (fun b _ hb=>hsub b hb) hfree (eN h.mem ht hl) hl
      have e1:std.shift f 0=f:=by funext i j;simp [std,aI]
      rw [e1] at this
      exact this
    · rename_i hc
      rw [if_neg hc]
      exact hone ht
 · exact (h.mem.blk x (cQ hx)).mono (h.mem.key x (cQ hx)) (fun _ h=>h) (fun _ _=>rfl) (Keep.refl _ _) (fun b _ hb=>hsub b hb) fun _ _=>rfl
theorem oO{G:Pu}(hT:TysOk P T)(hG:az P T.gl G)(hgl:T.gl=c.gl){all:List Oper}{base i:Nat}(hU: ¬ U (base+i))(hUb: ∀ k,k<base->U k)(h:Sim c U s a w){p:Option Prop}{s':St}
 (hs:dz std T G all base i o s=some (p,s')) (hp:aK p) {Q:Exit->Act->World->Prop} :
 if Region.wanted o (yielded all.toArray a.tmps)=true then o.wp P a w (fun a' w'=>Sim c (aL U (base+i)) s' a' w') Q else Sim c (aL U (base+i)) s' (a.put o.dst undef) w:=by
 cases hg:o.guard with
 |some x=>
  refine nY hT hG hgl hU hUb h ?_ hp
  unfold dz at hs
  unfold mn
  rw [hg] at hs ⊢
  exact hs
 |none=>
  unfold dz at hs
  rw [hg] at hs
  simp only at hs
  cases hx:oe (uq all o) (base+i) (bA std T G o.op (ev T.gl s.tmps) s.mem (base+i)) with
  |none=>rw [hx] at hs;cases hs
  |some y=>
   obtain ⟨p1,r,m1⟩:=y
   rw [hx] at hs
   simp only [fin,sIE,pIE] at hs
   obtain ⟨rfl,rfl⟩:=hs
   obtain ⟨r0,m0,hc,hd⟩:=nh hx
   have h0:mn std T G all base i o s=some (p1, { s with tmps:=Vd.put s.tmps o.dst r0,mem:=m0 }):=by
    unfold mn
    rw [hg]
    simp only [hc,fin]
   have hsd:=nY (Q:=Q) hT hG hgl hU hUb h h0 hp
   rcases hd with ⟨rfl,rfl⟩ | ⟨e,k,n,f,_,rfl,hl,rfl,rfl⟩
   · exact hsd
   · split at hsd
     · rename_i hw
       rw [if_pos hw]
       exact Oper.wp_mono (fun a' w' h'=>B5 hl h') hsd
     · rename_i hw
       rw [if_neg hw]
       exact B5 hl hsd
end
end Go.Vd
