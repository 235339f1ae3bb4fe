/- What an operation writes into a row of the call's own; new rows of zero values. -/
import Derived.Test.YtckmnmcnelfkjaaGreatDoorVdStep
import Derived.Laws.MakeOwn
import Derived.Laws.OwnMore
import Derived.Lib.AppendZeros
set_option linter.unusedVariables false
set_option linter.unusedSimpArgs false
namespace Go.Vd
open Go.RowKit
variable {isb:Bool}
section
variable {P:Program} {o:Oper} {a:Act} {w:World} {ρ:Nat->Value} {U:Nat->Prop} {c:Ctx} {s:St}
theorem rx{m:Mem}{F:Nat->Prop}(hm:MemOk F w ρ m U){q e k n:Nat}{f:Nat->Nat->SV}(hl:af m q=some (.row e k n f)){g n0 c0:Nat}(hρ:ρ q= .slice (some ⟨g,0,none⟩) n0 c0)(h0:0<n0)
 {o:Nat} {cs:List Value} (ho:o+cs.length<=n*k) (h1: ∀ v∈cs,one v) {f':Nat->Nat->SV}
 (hf: ∀ i j u,i<n->j<k->RelC w (ae F ρ m) u (f i j)-> ¬(o<=i*k+j∧i*k+j<o+cs.length)->RelC w (ae F ρ m) u (f' i j))
 (hf': ∀ i j u,i<n->j<k->o<=i*k+j->cs[i*k+j - o]? =some u->RelC w (ae F ρ m) u (f' i j)):
 ∃ cur,isC w g cur e k∧o+cs.length<=cur.size∧n0=n∧
   MemOk F (w.setRow g (cur.toList.take o++cs++cur.toList.drop (o+cs.length)).toArray) ρ (upd m q (.row e k n f')) U∧
   Keep (bB ρ m) w (w.setRow g (cur.toList.take o++cs++cur.toList.drop (o+cs.length)).toArray)∧
   (∀ b,ae F ρ (upd m q (.row e k n f')) b↔ae F ρ m b)∧ ∀ b,bB ρ (upd m q (.row e k n f')) b↔bB ρ m b:=by
 obtain ⟨xs,⟨hxl,hx⟩,hone,hr⟩:=hm.blk _ (ag hl)
 simp only at hx hr
 rcases hx with ⟨⟨ad,e0⟩,_⟩ | ⟨g',cap,cur,e0,hc0,hg,hnc,hcm,hcs,htake⟩
 · rw [hρ] at e0;injection e0 with _ e1;omega
 · rw [hρ] at e0
   injection e0 with e1 e2 e3
   injection e1 with e1
   injection e1 with e1
   subst e1 e2 e3
   have hnk:n0*k<=cur.size:=by rw [hcs];exact Nat.mul_le_mul_right _ hnc
   refine ⟨cur,hg,by omega,rfl, ?_⟩
   have hsz:(cur.toList.take o++cs++cur.toList.drop (o+cs.length)).length=cur.size:=by
    simp only [List.length_append,List.length_take,List.length_drop,Array.length_toList]
    omega
   have hheap:isC (w.setRow g (cur.toList.take o++cs++cur.toList.drop (o+cs.length)).toArray) g (cur.toList.take o++cs++cur.toList.drop (o+cs.length)).toArray e k:=hg.set (by simpa using hsz)
   have hother: ∀ k',k'≠g->(w.setRow g (cur.toList.take o++cs++cur.toList.drop (o+cs.length)).toArray).heap[k']? =w.heap[k']? :=fun k' hk=>by
    simp only [World.setRow,Array.getElem?_modify]
    rw [if_neg (fun e=>hk e.symm)]
   have hget: ∀ j,j<n0*k->((cur.toList.take o++cs++cur.toList.drop (o+cs.length)).take (n0*k))[j]? =if o<=j∧j<o+cs.length then cs[j - o]? else xs[j]? :=fun j hj=>by
    rw [List.getElem?_take,if_pos hj]
    have hol:(cur.toList.take o).length=o:=by simp;omega
    by_cases hlt:j<o
    · rw [List.getElem?_append,if_pos (by simp;omega),List.getElem?_append,if_pos (by omega),if_neg (by omega),List.getElem?_take,if_pos hlt,<-htake,List.getElem?_take,if_pos hj]
    · by_cases hlt2:j<o+cs.length
      · rw [List.getElem?_append,if_pos (by simp;omega),List.getElem?_append,if_neg (by omega),hol,if_pos (by omega)]
      · rw [List.getElem?_append,if_neg (by simp;omega),if_neg (by omega),List.getElem?_drop,<-htake,List.getElem?_take,if_pos hj]
        congr 1
        simp
        omega
   have hb:av (ρ q)=some g:=by rw [hρ,aV hc0]
   have hkeep:Keep (ae F ρ m) w (w.setRow g (cur.toList.take o++cs++cur.toList.drop (o+cs.length)).toArray):=
    ⟨rfl,rfl,rfl,by simp,fun b hb' hn=>hother b (fun e=>hn (by subst e;exact .inr ⟨_,ag hl, .inl hb⟩))⟩
   refine hm.write (w':=w.setRow g (cur.toList.take o++cs++cur.toList.drop (o+cs.length)).toArray) (b:= .row e k n0 f') hl hb rfl rfl rfl (by simp) hother ?_
   refine ⟨(cur.toList.take o++cs++cur.toList.drop (o+cs.length)).take (n0*k),⟨by rw [List.length_take,hsz];omega, .inr ⟨g,c0,_,hρ,hc0,hheap,hnc,hcm,by simpa using hsz.trans hcs,by simp⟩⟩,fun v hv=> ?_,fun i j v hi hj hv=> ?_⟩
   · obtain ⟨j,hj⟩:=List.mem_iff_getElem?.1 hv
     have hlt:j<n0*k:=by
      have:=(List.getElem?_eq_some_iff.1 hj).1
      rw [List.length_take] at this
      omega
     rw [hget j hlt] at hj
     split at hj
     · exact h1 v (List.mem_of_getElem? hj)
     · exact hone v (List.mem_of_getElem? hj)
   · have hlt:i*k+j<n0*k:=by
      have:(i+1)*k<=n0*k:=Nat.mul_le_mul_right k hi
      rw [Nat.add_mul] at this
      omega
     rw [hget _ hlt] at hv
     have hmono: ∀ {u t},RelC w (ae F ρ m) u t->RelC (w.setRow g (cur.toList.take o++cs++cur.toList.drop (o+cs.length)).toArray) (ae F ρ m) u t:=fun h=>h.mono hkeep fun _ _ h=>h
     split at hv
     · rename_i hin
       exact hmono (hf' i j v hi hj hin.1 hv)
     · rename_i hin
       exact hmono (hf i j v hi hj (hr i j v hi hj hv) hin)
theorem SimR.written{m':Mem}{w':World}(h:SimR c U s a w ρ)(hm:MemOk c.F w' ρ m' U)(hk:Keep (bB ρ s.mem) w w')(hrw: ∀ b,ae c.F ρ m' b↔ae c.F ρ s.mem b)(how: ∀ b,bB ρ m' b↔bB ρ s.mem b):
 SimR c U { s with mem:=m' } a w' ρ:=by
 have hrw':ae c.F ρ m'=ae c.F ρ s.mem:=funext fun b=>propext (hrw b)
 have hrel: ∀ {v t},Rel w ρ (ae c.F ρ s.mem) U v t->Rel w' ρ (ae c.F ρ m') U v t:=fun hv=>by
  rw [hrw']
  exact hv.mono (fun _ h=>h) (fun _ _=>rfl) (hk.mono fun _ _ h=> .inr h) fun _ _ h=>h
 refine ⟨h.dfr,h.sz,fun t=>hrel (h.tmps t),h.stk.imp fun v s hv=>hrel hv,hm,h.keep.trans hk fun b hb hr=> ?_,fun b hb=>h.sub b ((how b).1 hb),h.old,h.glb⟩
 rcases h.sub b hr with h'|h'
 · exact h'
 · omega
theorem oK(h:SimR c U s a w ρ){key:Nat}(hk: ¬ U key){t el:TypeId}{ty te:Ty}(ht:aB P t ty){k by_:Nat}(htag:ty.tag= .slice el k by_ isb)(hte:aB P el te)(hz:bM te.zero=true)(hzl:te.zero.length=k)
 {kl kc:IntKind} {l cp:Int} (hm:0<=l∧l<=cp∧cp<=9223372036854775807∧cp.toNat*by_<=140737488355328) (d:Option Nat):
 ∃ v w',(Instr.makeSlice t (.int kl l) (.int kc cp)).run P w= .ok v w'∧
   Sim c (aL U key) { s with tmps:=Vd.put s.tmps d (.own key),mem:=ins s.mem key (.row el k l.toNat fun _ j=>ap te.zero j) } (a.put d v) w':=by
 obtain ⟨_,dd,_,_,hd,_,_,_,_,_,_,_,_,hTT⟩:=ht
 rw [htag] at hTT
 obtain ⟨rfl,hk0,_,i,z,hi,his,hib,hz0,hzs⟩:=hTT
 obtain ⟨i',d',z',hi',_,hs',hpos,_,_,hz',hzero,hzone,hzsize,_⟩:=hte
 rw [hi] at hi'
 cases hi'
 rw [hz0] at hz'
 cases hz'
 obtain ⟨m1,m2,m3,m4⟩:=hm
 have hb':(i.bytes:Int)*cp<=281474976710656:=by
  have h1:((cp.toNat*by_:Nat):Int)<=140737488355328:=by omega
  rw [Int.natCast_mul,Int.toNat_of_nonneg (by omega),<-hib,Int.mul_comm] at h1
  omega
 have hr:=run_make (P:=P) w t el i z hd hi hz0 kl kc l cp m1 m2 hb' m3
 refine ⟨_,_,hr, ?_⟩
 have hsz:(madeCells z.cells (cp.toNat*i.size)).size=cp.toNat*k:=by rw [size_madeCells,his]
 have hle:l.toNat<=cp.toNat:=by omega
 have hlk:l.toNat*k<=cp.toNat*k:=Nat.mul_le_mul_right k hle
 have hcell: ∀ j,j<cp.toNat*k->(madeCells z.cells (cp.toNat*i.size))[j]? =z.cells[j % k]? :=fun j hj=>by
  have hne:cp.toNat*i.size≠0:=by rw [his];omega
  have hlt:j<cp.toNat*i.size:=by rw [his];exact hj
  have hmod:j % k<z.cells.size:=by rw [hzs];exact Nat.mod_lt _ hk0
  simp only [madeCells,hne,if_false]
  rw [Array.getElem?_map,Array.getElem?_range]
  simp [hlt,hzs,getElem!_def,Array.getElem?_eq_getElem hmod]
 have hone: ∀ j u,j<cp.toNat*k->(madeCells z.cells (cp.toNat*i.size))[j]? =some u->one u∧z.cells[j % k]? =some u:=fun j u hj hu=>by
  rw [hcell j hj] at hu
  exact ⟨hzone u (by rw [<-Array.getElem?_toList] at hu;exact List.mem_of_getElem? hu),hu⟩
 refine mm h hk (b0:=none) (.inl ⟨rfl,rfl⟩) (xs:=(madeCells z.cells (cp.toNat*i.size)).toList.take (l.toNat*k)) (fun u hu=> ?_) (fun rw' hrw' i' j u hi' hj hu=> ?_) ?_ ?_ (fun b hb=> ?_) d
 · obtain ⟨j,hj⟩:=List.mem_iff_getElem?.1 hu
   rw [List.getElem?_take] at hj
   split at hj
   · rename_i hlt
     exact (hone j u (by omega) (by rw [<-Array.getElem?_toList];exact hj)).1
   · cases hj
 · have hlt:i'*k+j<l.toNat*k:=by
    have:(i'+1)*k<=l.toNat*k:=Nat.mul_le_mul_right k hi'
    rw [Nat.add_mul] at this
    omega
   rw [List.getElem?_take,if_pos hlt] at hu
   have hzu:=(hone (i'*k+j) u (by omega) (by rw [<-Array.getElem?_toList];exact hu)).2
   have e2:(i'*k+j) % k=j:=by rw [Nat.mul_comm,Nat.mul_add_mod,Nat.mod_eq_of_lt hj]
   rw [e2] at hzu
   have hjl:j<te.zero.length:=by omega
   rw [bW,gEE hjl]
   have:=eM (w:=w.alloc (.cells (madeCells z.cells (cp.toNat*i.size)) el)) (ρ:=ρ) (rw:=rw') (N:=U) z.cells.toList j u _ (by rw [Array.getElem?_toList];exact hzu) (by rw [hzero,cX hz];exact gEE hjl)
   exact this.closed (dY hz _ (List.getElem_mem _))
 · rcases Nat.eq_zero_or_pos cp.toNat with hc0|hc0
   · rw [hc0]
     have:l.toNat=0:=by omega
     rw [this]
     exact ⟨by simp, .inl ⟨⟨_,rfl⟩,rfl⟩⟩
   · refine ⟨by rw [List.length_take,Array.length_toList,hsz];omega, .inr ⟨_,_,_,rfl,hc0, .of (heap_alloc_new _ _),hle,by simp only [maxLen];omega,hsz,rfl⟩⟩
 · exact World.grownBy_alloc w _ none
 · rcases Nat.eq_zero_or_pos cp.toNat with hc0|hc0
   · rw [hc0,fq] at hb;cases hb
   · rw [aV hc0] at hb
     simp only [sIE] at hb
     exact .inr (by omega)
theorem xu{k n:Nat}(hk0:0<k){i j:Nat}(hi:i<n)(hj:j<k):i*k+j<n*k∧(i*k+j) % k=j:=by
 refine ⟨?_,by rw [Nat.mul_comm,Nat.mul_add_mod,Nat.mod_eq_of_lt hj]⟩
 have:(i+1)*k<=n*k:=Nat.mul_le_mul_right k hi
 rw [Nat.add_mul] at this
 omega
theorem jW{z:Array Value}{n j:Nat}(hk:0<z.size)(hj:j<n*z.size):(Builtin.zeroCells z n)[j]? =z[j % z.size]? :=by
 have hmod:j % z.size<z.size:=Nat.mod_lt _ hk
 simp only [Builtin.zeroCells]
 rw [Array.getElem?_map,Array.getElem?_range]
 simp [hj,getElem!_def,Array.getElem?_eq_getElem hmod]
theorem uI(h:SimR c U s a w ρ){key:Nat}(hk: ¬ U key){t tn el:TypeId}{ty te tt:Ty}{kn:IntKind}(ht:aB P t ty){k by_:Nat}(htag:ty.tag= .slice el k by_ isb)(htn:aB P tn tt)(htnt:tt.tag= .int kn)(hte:aB P el te)(hz:bM te.zero=true)(hzl:te.zero.length=k)
 {kq:IntKind} {z:Int} (hm:0<z∧z<=4611686018427387904∧z.toNat*by_<=140737488355328) {ty':TypeId} (d:Option Nat):
 ∃ v w',(Builtin.append_ #[t,tn] ty' #[.slice none 0 0, .int kq z]).run P w= .ok v w'∧
   Sim c (aL U key) { s with tmps:=Vd.put s.tmps d (.own key),mem:=ins s.mem key (.row el k z.toNat fun _ j=>ap te.zero j) } (a.put d v) w':=by
 obtain ⟨_,dd,_,_,hd,_,_,_,_,_,_,_,_,hTT⟩:=ht
 rw [htag] at hTT
 obtain ⟨rfl,hk0,_,i,zv,hi,his,hib,hz0,hzs⟩:=hTT
 obtain ⟨_,d2,_,_,hd2,_,_,_,_,_,_,_,_,hT2⟩:=htn
 rw [htnt] at hT2
 obtain rfl:=hT2
 obtain ⟨i',d',z',hi',_,hs',hpos,_,_,hz',hzero,hzone,hzsize,_⟩:=hte
 rw [hi] at hi'
 cases hi'
 rw [hz0] at hz'
 cases hz'
 obtain ⟨m1,m2,m3⟩:=hm
 obtain ⟨n,rfl⟩: ∃ n:Nat,z=n:=⟨z.toNat,by omega⟩
 simp only [Int.toNat_natCast] at m3 ⊢
 have hr:=Lib.run_append_nil_zeros (P:=P) w t tn ty' el i zv kq kn hd hd2 hi hz0 n (by omega) (by omega) (by omega) (by rw [hib];omega)
 refine ⟨_,_,hr, ?_⟩
 have hge:n<=grownCap w n 0 el:=grownCap_ge w _ _ _
 have hcm:grownCap w n 0 el<=maxLen:=grownCap_le_maxLen w n 0 el (by simp only [maxLen];omega)
 generalize grownCap w n 0 el=G at hge hcm ⊢
 have hks:0<zv.cells.size:=by omega
 have hsz:(Builtin.zeroCells zv.cells n).size=n*k:=by rw [size_zeroCells,hzs]
 have hall:(Builtin.zeroCells zv.cells n++Builtin.zeroCells zv.cells (G - n)).toList.take (n*k)=(Builtin.zeroCells zv.cells n).toList:=by
  rw [Array.toList_append,<-hsz,<-Array.length_toList]
  exact List.take_left
 refine mm h hk (b0:=none) (.inl ⟨rfl,rfl⟩) (xs:=(Builtin.zeroCells zv.cells n).toList) (fun u hu=> ?_) (fun rw' hrw' i' j u hi' hj hu=> ?_) ⟨by rw [Array.length_toList,hsz], .inr ⟨w.heap.size,G,_,rfl,by omega, .of (heap_alloc_new w.drew _),hge,hcm,by
  rw [Array.size_append,hsz,size_zeroCells,hzs,<-Nat.add_mul];congr 1;omega,hall⟩⟩ ⟨rfl,rfl,rfl,by simp,fun k hk _=>heap_alloc_old w.drew _ k hk⟩ (fun b hb=> ?_) d
 · obtain ⟨j,hj⟩:=List.mem_iff_getElem?.1 hu
   have hlt:j<n*zv.cells.size:=by
    have:=(List.getElem?_eq_some_iff.1 hj).1
    rw [Array.length_toList,hsz] at this
    rw [hzs];exact this
   rw [Array.getElem?_toList,jW hks hlt] at hj
   exact hzone u (by rw [<-Array.getElem?_toList] at hj;exact List.mem_of_getElem? hj)
 · obtain ⟨q1,q2⟩:=xu hk0 hi' hj
   rw [Array.getElem?_toList,jW hks (by rw [hzs];exact q1),hzs,q2] at hu
   have hjl:j<te.zero.length:=by omega
   rw [bW,gEE hjl]
   have:=eM (w:=w.drew.alloc (.cells (Builtin.zeroCells zv.cells n++Builtin.zeroCells zv.cells (G - n)) el)) (ρ:=ρ) (rw:=rw') (N:=U) zv.cells.toList j u _ (by rw [Array.getElem?_toList];exact hu) (by rw [hzero,cX hz];exact gEE hjl)
   exact this.closed (dY hz _ (List.getElem_mem _))
 · rw [aV (by omega)] at hb
   simp only [sIE] at hb
   exact .inr (by omega)
theorem B3{lo m k n:Nat}{F:Nat->Prop}{f g:Nat->Nat->SV}{q e:Nat}(hm:MemOk F w ρ s.mem U)(hl:af s.mem q=some (.row e k n f)){gg n0 c0:Nat}(hρ:ρ q= .slice (some ⟨gg,0,none⟩) n0 c0)(h0:0<n0)(hle:lo+m<=n)
 {cs:List Value} (hcl:cs.length=m*k) (h1: ∀ v∈cs,one v) (hrel: ∀ i j u,i<m->j<k->cs[i*k+j]? =some u->RelC w (ae F ρ s.mem) u (g i j)):
 ∃ cur,isC w gg cur e k∧lo*k+cs.length<=cur.size∧n0=n∧
   MemOk F (w.setRow gg (cur.toList.take (lo*k)++cs++cur.toList.drop (lo*k+cs.length)).toArray) ρ (upd s.mem q (.row e k n (std.rcopy f lo m g))) U∧
   Keep (bB ρ s.mem) w (w.setRow gg (cur.toList.take (lo*k)++cs++cur.toList.drop (lo*k+cs.length)).toArray)∧
   (∀ b,ae F ρ (upd s.mem q (.row e k n (std.rcopy f lo m g))) b↔ae F ρ s.mem b)∧ ∀ b,bB ρ (upd s.mem q (.row e k n (std.rcopy f lo m g))) b↔bB ρ s.mem b:=by
 have hnk:lo*k+m*k<=n*k:=by rw [<-Nat.add_mul];exact Nat.mul_le_mul_right k hle
 refine rx (w:=w) hm hl hρ h0 (o:=lo*k) (cs:=cs) (by omega) h1 (f':=std.rcopy f lo m g) (fun i' j uu hi' hj hu hnn=> ?_) (fun i' j uu hi' hj hge hu=> ?_)
 · have: ¬(lo<=i'∧i'<lo+m):=fun ⟨q1,q2⟩=>hnn (by
    have a1:lo*k<=i'*k:=Nat.mul_le_mul_right k q1
    have a2:(i'+1)*k<=(lo+m)*k:=Nat.mul_le_mul_right k q2
    rw [Nat.add_mul,Nat.add_mul] at a2
    omega)
   show RelC w _ uu (if lo<=i'∧i'<lo+m then g (i' - lo) j else f i' j)
   rw [if_neg this]
   exact hu
 · have hlt:=(List.getElem?_eq_some_iff.1 hu).1
   have q1:lo<=i':=by
    rcases Nat.lt_or_ge i' lo with hq|hq
    · have:(i'+1)*k<=lo*k:=Nat.mul_le_mul_right k hq
      rw [Nat.add_mul] at this
      omega
    · exact hq
   have q2:i'<lo+m:=by
    rcases Nat.lt_or_ge i' (lo+m) with hq|hq
    · exact hq
    · have:(lo+m)*k<=i'*k:=Nat.mul_le_mul_right k hq
      rw [Nat.add_mul] at this
      omega
   show RelC w _ uu (if lo<=i'∧i'<lo+m then g (i' - lo) j else f i' j)
   rw [if_pos ⟨q1,q2⟩]
   refine hrel (i' - lo) j uu (by omega) hj ?_
   rw [<-hu,Nat.sub_mul]
   congr 1
   have:lo*k<=i'*k:=Nat.mul_le_mul_right k q1
   omega
theorem ng{k:Nat}{b:Blk} : ∀ {m:Mem},af m k=some b->upd m k b=m
 | [],h=>by cases h
 | (k',c)::m,h=>by
   simp only [af] at h
   simp only [upd]
   cases hb:Nat.beq k' k<;>simp only [hb,cond_true,cond_false] at h ⊢
   · rw [ng h]
   · cases h;rfl
theorem tc(f g:Nat->Nat->SV)(lo:Nat):std.rcopy f lo 0 g=f:=by
 funext i j
 show (if lo<=i∧i<lo+0 then g (i - lo) j else f i j)=f i j
 rw [if_neg (by omega)]
theorem wK(h:SimR c U s a w ρ){t ty':TypeId}{ty:Ty}(ht:aB P t ty){el k by_:Nat}(htag:ty.tag= .slice el k by_ isb){xv yv:Value}{y:SV}{q b n m:Nat}{f g:Nat->Nat->SV}
 (hx:Rel w ρ (ae c.F ρ s.mem) U xv (.part q k 0 b)) (hl:af s.mem q=some (.row el k n f)) (hroom:0<n∧b+m<=n) (hy:Rel w ρ (ae c.F ρ s.mem) U yv y) (hd:aZ std s.mem y= .slc m k g) (hpl:cF s.mem y=true):
 ∃ v w',(Builtin.append_ #[t,t] ty' #[xv,yv]).run P w= .ok v w'∧SimR c U { s with mem:=upd s.mem q (.row el k n (std.rcopy f b m g)) } a w' ρ∧Rel w' ρ (ae c.F ρ (upd s.mem q (.row el k n (std.rcopy f b m g)))) U v (.part q k 0 (b+m)):=by
 obtain ⟨_,dd,_,_,hdd,_,_,_,_,_,_,_,_,hTT⟩:=ht
 rw [htag] at hTT
 obtain ⟨rfl,hk0,_,i,z,hi,his,hib,hz0,hzs⟩:=hTT
 obtain ⟨ad,cp,xs,rfl,hxl,h1,hr,hrel⟩:=ru h hy hd hpl
 cases hx with
 |part _ _ _ _ da dc hk hn hh=>
  obtain ⟨a0,n0,c0,hρ,hle,hcc,hg⟩:=hh
  obtain ⟨hnc,rfl⟩:=m8 h.mem hl _ _ _ hρ
  simp only [Nat.zero_add] at hle hcc
  subst hcc
  obtain ⟨gg,rfl,rfl⟩:=hg (by omega)
  simp only [Nat.zero_mul] at*
  have hpart: ∀ {w':World} {rw':Nat->Prop},Rel w' ρ rw' U (.slice (some ⟨gg,0,none⟩) (b+m) dc) (.part q k 0 (b+m)):=fun {w' rw'} =>
   .part _ _ _ _ _ _ hk (by omega) ⟨_,n,dc,hρ,by omega,by omega,fun _=>⟨gg,rfl,by simp⟩⟩
  rcases Nat.eq_zero_or_pos m with hm0|hm0
  · subst hm0
    refine ⟨_,w, ?_, ?_,hpart⟩
    · obtain rfl:xs= [] :=List.eq_nil_of_length_eq_zero (by simpa using hxl)
      have hfc:(Builtin.firstCells i.size 0 (.slice ad 0 cp)).run P w= .ok #[] w:=by
       cases ad<;>simp [Builtin.firstCells,loadCells,loadCellsFrom]
      simp [Builtin.append_,run_underlying hdd,aW hi,Builtin.lenOf,hfc,hn,storeCells]
    · rw [tc,ng hl]
      exact h
  · have hpos:0<m*k:=Nat.mul_pos hm0 hk0
    obtain ⟨p,rfl,hp⟩:=hr hpos
    obtain ⟨cur,hgc,hsz,_,m1,m2,m3,m4⟩:=B3 (w:=w) (g:=g) h.mem hl hρ (by omega) hroom.2 hxl h1 hrel
    have hrun:=ml (P:=P) w t ty' el i hdd hi gg b dc cur hgc p m cp xs (by rw [his];exact hxl) hp h1 (by omega) (by rw [his];exact hsz)
    rw [his] at hrun
    exact ⟨_,_,hrun,h.written m1 m2 m3 m4,hpart⟩
theorem Iy(h:SimR c U s a w ρ){t ty':TypeId}{ty te:Ty}(ht:aB P t ty){el k by_:Nat}(htag:ty.tag= .slice el k by_ isb)(hte:aB P el te)(hz:bM te.zero=true)(hzl:te.zero.length=k){xv:Value}{q lo n n0:Nat}{f:Nat->Nat->SV}
 (hx:Rel w ρ (ae c.F ρ s.mem) U xv (.part q k lo n)) (hl:af s.mem q=some (.row el k n0 f)):
 ∃ w',(Builtin.clear_ #[t] ty' #[xv]).run P w= .ok (.tuple #[]) w'∧SimR c U { s with mem:=upd s.mem q (.row el k n0 (std.rcopy f lo n fun _ j=>ap te.zero j)) } a w' ρ:=by
 obtain ⟨_,dd,_,_,hdd,_,_,_,_,_,_,_,_,hTT⟩:=ht
 rw [htag] at hTT
 obtain ⟨rfl,hk0,_,i,z,hi,his,hib,hz0,hzs⟩:=hTT
 obtain ⟨i',d',z',hi',_,hs',hpos,_,_,hz',hzero,hzone,hzsize,_⟩:=hte
 rw [hi] at hi'
 cases hi'
 rw [hz0] at hz'
 cases hz'
 cases hx with
 |part _ _ _ _ da dc hk hn hh=>
  rcases Nat.eq_zero_or_pos n with hn0|hn0
  · subst hn0
    refine ⟨w, ?_, ?_⟩
    · cases da<;>simp [Builtin.clear_,run_underlying hdd]
    · rw [tc,ng hl];exact h
  · obtain ⟨gg,n1,c1,hρ,hle,rfl⟩:=gV hn hh hn0
    obtain ⟨_,rfl⟩:=m8 h.mem hl _ _ _ hρ
    have hks:0<z.cells.size:=by omega
    have hsz0:(Builtin.zeroCells z.cells n).size=n*k:=by rw [size_zeroCells,hzs]
    have hget: ∀ j,j<n*k->(Builtin.zeroCells z.cells n).toList[j]? =z.cells[j % k]? :=fun j hj=>by
     rw [Array.getElem?_toList,jW hks (by rw [hzs];exact hj),hzs]
    obtain ⟨cur,hgc,hsz,_,m1,m2,m3,m4⟩:=B3 (w:=w) (lo:=lo) (m:=n) (g:=fun _ j=>ap te.zero j) (cs:=(Builtin.zeroCells z.cells n).toList) h.mem hl hρ (by omega) hle (by rw [Array.length_toList,hsz0]) (fun v hv=>by
     obtain ⟨j,hj⟩:=List.mem_iff_getElem?.1 hv
     have hlt:j<n*k:=by
      have:=(List.getElem?_eq_some_iff.1 hj).1
      rwa [Array.length_toList,hsz0] at this
     rw [hget j hlt] at hj
     exact hzone v (by rw [<-Array.getElem?_toList] at hj;exact List.mem_of_getElem? hj)) (fun i' j u hi' hj hu=>by
     obtain ⟨q1,q2⟩:=xu hk0 hi' hj
     rw [hget _ q1,q2] at hu
     have hjl:j<te.zero.length:=by omega
     rw [bW,gEE hjl]
     have:=eM (w:=w) (ρ:=ρ) (rw:=ae c.F ρ s.mem) (N:=U) z.cells.toList j u _ (by rw [Array.getElem?_toList];exact hu) (by rw [hzero,cX hz];exact gEE hjl)
     exact this.closed (dY hz _ (List.getElem_mem _)))
    refine ⟨_, ?_,h.written m1 m2 m3 m4⟩
    have hst:=eg (P:=P) gg (lo*k) el (Builtin.zeroCells z.cells n).toList 0 cur w hgc (by simpa using hsz) (fun v hv=>by
     obtain ⟨j,hj⟩:=List.mem_iff_getElem?.1 hv
     have hlt:j<n*k:=by
      have:=(List.getElem?_eq_some_iff.1 hj).1
      rwa [Array.length_toList,hsz0] at this
     rw [hget j hlt] at hj
     exact hzone v (by rw [<-Array.getElem?_toList] at hj;exact List.mem_of_getElem? hj))
    simp only [Nat.add_zero] at hst
    obtain ⟨m,rfl⟩: ∃ m,n=m+1:=⟨n - 1,by omega⟩
    simp [Builtin.clear_,run_underlying hdd,zeroValue,typeInfo,hi,hz0,hst]
theorem qz(h:SimR c U s a w ρ){t:TypeId}{ty:Ty}(ht:aB P t ty){pv xv:Value}{q k i off e n:Nat}{f:Nat->Nat->SV}{l:List SV}{x0:SV}(hp:Rel w ρ (ae c.F ρ s.mem) U pv (.eptr q k i off))
 (hx:Rel w ρ (ae c.F ρ s.mem) U xv x0) (hc:cellsOf x0=some l) (hcl:bM l=true) (hl:af s.mem q=some (.row e k n f)) (hlen:l.length=ty.size) (hoff:off+ty.size<=k):
 ∃ w',(Instr.storeAt t pv xv).run P w= .ok () w'∧SimR c U { s with mem:=upd s.mem q (.row e k n (std.rset f i off l)) } a w' ρ:=by
 obtain ⟨c1,c2,c3,_⟩:=hx.cells hc
 rw [cX hcl] at c1 c3
 cases hp with
 |eptr _ _ _ _ g n0 c0 hk hρ hi=>
  have hrc:=jB h.mem hl hρ (by omega)
  obtain ⟨rfl,_⟩:=hrc
  have hpos:0<ty.size:=by obtain ⟨_,_,_,_,_,_,h0,_⟩:=ht;exact h0
  have hile:(i+1)*k<=n0*k:=Nat.mul_le_mul_right k hi
  rw [Nat.add_mul] at hile
  have hcl':xv.cells.toList.length=ty.size:=by simp;omega
  obtain ⟨cur,hg,hsz,_,m1,m2,m3,m4⟩:=rx (w:=w) h.mem hl hρ (by omega) (o:=i*k+off) (cs:=xv.cells.toList) (by omega) c2 (f':=std.rset f i off l)
   (fun i' j u hi' hj hu hn=>by
     have: ¬(i'=i∧off<=j∧j<off+l.length):=fun ⟨h1,h2,h3⟩=>hn (by subst h1;omega)
     simp only [std,bd,bf,bw,a8,aO,aI,ba,aM,aE,if_neg this]
     exact hu)
   (fun i' j u hi' hj hge hu=>by
     have hlt:i'*k+j - (i*k+off)<ty.size:=by
      have:=(List.getElem?_eq_some_iff.1 hu).1
      omega
     have hii:i'=i:=by
      rcases Nat.lt_trichotomy i' i with hlt'|rfl|hlt'
      · have:(i'+1)*k<=i*k:=Nat.mul_le_mul_right k hlt'
        rw [Nat.add_mul] at this
        omega
      · rfl
      · have:(i+1)*k<=i'*k:=Nat.mul_le_mul_right k hlt'
        rw [Nat.add_mul] at this
        omega
     subst hii
     have hin:i'=i'∧off<=j∧j<off+l.length:=⟨rfl,by omega,by omega⟩
     show RelC w (ae c.F ρ s.mem) u (if i'=i'∧off<=j∧j<off+l.length then ap l (j - off) else f i' j)
     rw [if_pos hin]
     rw [bW,gEE (by omega)]
     rw [show i'*k+j - (i'*k+off)=j - off by omega] at hu
     exact (c3 (j - off) u _ (by simpa using hu) (gEE (by omega))).closed (dY hcl _ (List.getElem_mem _)))
  refine ⟨_, ?_,h.written m1 m2 m3 m4⟩
  obtain ⟨ii,d,z,hii,hd,hs,_⟩:=ht
  have hst:=eg (P:=P) g (i*k+off) e xv.cells.toList 0 cur w hg (by omega) c2
  simp only [Nat.add_zero] at hst
  have hne: ¬ xv.cells.size≠ii.size:=by
   simp only [Array.length_toList] at hcl'
   omega
  simp only [Instr.storeAt,Instr.sureAddr,Sem.run_bind,Sem.run_pure,Result.andThen_ok,storeVar,aW hii,if_neg hne,hst]
end
end Go.Vd
