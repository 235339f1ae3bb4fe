/- The operations that leave the call's own memory alone: what they yield is what the generator says. -/
import Derived.Test.YtckmnmcnelfkjaaGreatDoorVdStd
import Derived.Laws.Strings
import Derived.Laws.StructEq
import Derived.Laws.BytesString
import Derived.Laws.BytesArg
set_option linter.unusedVariables false
set_option linter.unusedSimpArgs false
namespace Go.Vd
open Go.RowKit
variable {t:TypeId} {v:Value} {ty:Ty} {places:List (Nat×Nat)} {cs:List Value} {l:List SV} {e k b:Nat} {op:BinOp} {eqs:Bool} {isb:Bool}
section
variable {P:Program} {o:Oper} {a:Act} {w:World} {ρ:Nat->Value} {rw:Nat->Prop} {N:Nat->Prop} {F:Nat->Prop}
theorem aU{K:Act->World->Prop}{Q:Exit->Act->World->Prop}{w':World}(h:(execOp a.eval o).run P w= .ok (.value v) w')(hk:K (a.put o.dst v) w'):o.wp P a w K Q:=by
 unfold Oper.wp
 rw [h]
 exact hk
theorem Rel.eq_int{k:IntKind}{n:Int}(h:Rel w ρ rw N v (.int k n)):v= .int k n:=by cases h;rfl
theorem Rel.eq_bool{b:Bool}(h:Rel w ρ rw N v (.bool b)):v= .bool b:=by cases h;rfl
theorem lL{x y:Operand}{k:FloatKind}{b:Nat} :eqGuard op t x y (.float k b) v=pure ():=by cases op<;>rfl
theorem lM{x y:Operand}{k:FloatKind}{b c:Nat} :eqGuard op t x y (.complex k b c) v=pure ():=by cases op<;>rfl
theorem Rel.eq_flt{b:Nat}(h:Rel w ρ rw N v (.flt b)):v= .float .f64 b:=by cases h;rfl
theorem Rel.eq_cpx{a b:Nat}(h:Rel w ρ rw N v (.cpx a b)):v= .complex .f64 a b:=by cases h;rfl
theorem Rel.eq_str{s:List UInt8}(h:Rel w ρ rw N v (.str s)):v= .string ⟨s.toArray⟩:=by cases h;rfl
theorem Rel.of_str(s:List UInt8):Rel w ρ rw N (.string ⟨s.toArray⟩) (.str s):=by
 have:=Rel.str (w:=w) (ρ:=ρ) (rw:=rw) (N:=N) ⟨s.toArray⟩
 simpa using this
theorem gJ{k k':IntKind}(h:sB k k'=true):k=k':=by cases k<;>cases k'<;>first|rfl|cases h
theorem xk(s:List UInt8):(ByteArray.mk s.toArray).toList=s:=by
 simp [ByteArray.toList_eq]
theorem Fr{t:TypeId}{x y:Operand}{u v:SV}{p:Option Prop}{r:SV}(h:Dq std op u v=some (p,r))(hp:aK p)
 (hx:Rel w ρ rw N (a.eval x) u) (hy:Rel w ρ rw N (a.eval y) v):
 ∃ z,(do eqGuard op t x y (a.eval x) (a.eval y);binOp op t (a.eval x) (a.eval y):Sem Value).run P w= .ok z w∧Rel w ρ rw N z r:=by
 unfold Dq at h
 split at h
 · rename_i b1 b2
   rw [hx.eq_flt,hy.eq_flt]
   unfold K3 at h
   split at h<;>simp only [sIE,pIE,reduceCtorEq] at h<;>obtain ⟨rfl,rfl⟩:=h
   case h_1=>obtain ⟨r,hr⟩:=Option.isSome_iff_exists.1 (show (Ieee.double.add b1 b2).isSome=true from hp);exact ⟨_,by simp [go_sem,binOp,lL,Op.floatArith,FloatKind.format,hr,std], .flt _⟩
   case h_2=>obtain ⟨r,hr⟩:=Option.isSome_iff_exists.1 (show (Ieee.double.sub b1 b2).isSome=true from hp);exact ⟨_,by simp [go_sem,binOp,lL,Op.floatArith,FloatKind.format,hr,std], .flt _⟩
   all_goals exact ⟨_,by simp [go_sem,binOp,lL,Op.floatCmp,FloatKind.format,std], .bool _⟩
 · rename_i b1 b2 b3 b4
   rw [hx.eq_cpx,hy.eq_cpx]
   unfold K4 at h
   split at h<;>simp only [sIE,pIE,reduceCtorEq] at h<;>obtain ⟨rfl,rfl⟩:=h
   case h_1=>
    obtain ⟨r1,hr1⟩:=Option.isSome_iff_exists.1 (show (Ieee.double.add b1 b3).isSome=true from hp.1)
    obtain ⟨r2,hr2⟩:=Option.isSome_iff_exists.1 (show (Ieee.double.add b2 b4).isSome=true from hp.2)
    exact ⟨_,by simp [go_sem,binOp,lM,Op.complexOp,Op.Complex.arith,Op.floatArith,FloatKind.format,hr1,hr2,std], .cpx _ _⟩
   case h_2=>
    obtain ⟨r1,hr1⟩:=Option.isSome_iff_exists.1 (show (Ieee.double.sub b1 b3).isSome=true from hp.1)
    obtain ⟨r2,hr2⟩:=Option.isSome_iff_exists.1 (show (Ieee.double.sub b2 b4).isSome=true from hp.2)
    exact ⟨_,by simp [go_sem,binOp,lM,Op.complexOp,Op.Complex.arith,Op.floatArith,FloatKind.format,hr1,hr2,std], .cpx _ _⟩
   all_goals exact ⟨_,by simp [go_sem,binOp,lM,Op.complexOp,Op.Complex.cmp,Op.floatCmp,FloatKind.format,std], .bool _⟩
 · rename_i k m k' n
   rw [hx.eq_int,hy.eq_int]
   split at h
   · simp only [sIE,pIE] at h
     obtain ⟨rfl,rfl⟩:=h
     have hp': ¬ n<0:=by simp only [aK,std,bd,bf,bw,a8,aO,aI,ba,aM,aE] at hp;omega
     refine ⟨_, ?_, .int _ _⟩
     simp [go_sem,Op.shift,hp',std,bd,bf,bw,a8,aO,aI,ba,aM,aE]
   · simp only [sIE,pIE] at h
     obtain ⟨rfl,rfl⟩:=h
     have hp': ¬ n<0:=by simp only [aK,std,bd,bf,bw,a8,aO,aI,ba,aM,aE] at hp;omega
     refine ⟨_, ?_, .int _ _⟩
     simp [go_sem,Op.shift,hp',std,bd,bf,bw,a8,aO,aI,ba,aM,aE]
   · rename_i h1 h2
     cases hk:sB k k'<;>simp only [hk,cond_true,cond_false] at h
     · cases h
     · obtain rfl:=gJ hk
       unfold KZ at h
       split at h<;>simp only [sIE,pIE,reduceCtorEq] at h<;>obtain ⟨rfl,rfl⟩:=h
       case h_4=>exact ⟨_,by simp [go_sem,Op.intDiv,show ¬ n=0 from hp,std,bd,bf,bw,a8,aO,aI,ba,aM,aE], .int _ _⟩
       case h_5=>exact ⟨_,by simp [go_sem,Op.intDiv,show ¬ n=0 from hp,std,bd,bf,bw,a8,aO,aI,ba,aM,aE], .int _ _⟩
       all_goals first
        |exact ⟨_,by simp [go_sem,Op.intArith,std,bd,bf,bw,a8,aO,aI,ba,aM,aE], .int _ _⟩
        |exact ⟨_,by simp [go_sem];rfl, .int _ _⟩
        |exact ⟨_,by simp [go_sem,std,bd,bf,bw,a8,aO,aI,ba,aM,aE], .bool _⟩
 · rename_i s s'
   rw [hx.eq_str,hy.eq_str]
   unfold K1 at h
   split at h<;>simp only [sIE,pIE,reduceCtorEq] at h<;>obtain ⟨rfl,rfl⟩:=h
   case h_7=>
    have hp': ¬(9223372036854775807:Int)<(s.length:Int)+(s'.length:Int):=by simp only [aK,std,bd,bf,bw,a8,aO,aI,ba,aM,aE] at hp;omega
    refine ⟨.string ⟨(s++s').toArray⟩, ?_,by simpa [std,bd,bf,bw,a8,aO,aI,ba,aM,aE] using Rel.of_str (s++s')⟩
    have hcat:(ByteArray.mk s.toArray++ByteArray.mk s'.toArray)=ByteArray.mk (s++s').toArray:=by
     apply ByteArray.ext
     simp
    have hs1:(ByteArray.mk s.toArray).size=s.length:=by simp [ByteArray.size]
    have hs2:(ByteArray.mk s'.toArray).size=s'.length:=by simp [ByteArray.size]
    simp only [binOp,Op.stringOp,eqGuard_add]
    simp [hs1,hs2,hp',hcat]
   all_goals
    refine ⟨_, ?_, .bool _⟩
    simp [eqGuard_at_string,binOp,Op.stringOp,xk,std,bd,bf,bw,a8,aO,aI,ba,aM,aE]
 · cases h
theorem fY{d:TypeDesc}(h:P.underlying t=some d)(w:World):(isAgg t).run P w= .ok (i5 d) w:=by
 unfold isAgg
 rw [Sem.run_bind,run_underlying h w]
 cases d<;>simp [i5]
theorem aW{i:TypeInfo}(h:P.info? t=some i)(w:World):(sizeOf t).run P w= .ok i.size w:=by
 simp [sizeOf,typeInfo,h]
theorem eP(ht:aB P t ty)(ad:Addr)(cs:List Value)(hl:cs.length=ty.size)
 (hc: ∀ j v,cs[j]? =some v->w.cell? (ad.add j)=some v):(loadVar t ad).run P w= .ok (bif ty.agg then .agg cs.toArray else cs.headD undef) w:=by
 obtain ⟨i,d,z,hi,hd,hs,hpos,hagg,h1,_⟩:=ht
 unfold loadVar
 rw [Sem.run_bind,fY hd w,hagg]
 cases hb:ty.agg
 · have hlen:cs.length=1:=by rw [hl,h1 hb]
   match cs,hlen with
   | [v],_=>
     have:=hc 0 v rfl
     simp only [Addr.add_zero'] at this
     simp [Result.andThen,this]
 · simp only [Result.andThen,if_true,Sem.run_bind,aW hi,hs,<-hl,run_loadCells_list (P:=P) w ad cs hc,Sem.run_pure,cond_true]
theorem ag: ∀ {m:Mem} {k:Nat} {b:Blk},af m k=some b->(k,b)∈m
 | [],k,b,h=>by cases h
 | (k',c)::m,k,b,h=>by
   simp only [af] at h
   cases hk:Nat.beq k' k<;>simp only [hk,cond_true,cond_false] at h
   · exact List.mem_cons_of_mem _ (ag h)
   · have:k'=k:=nQE hk
     cases h
     subst this
     exact List.mem_cons_self ..
theorem Lb(hl:cs.length=l.length)(h1: ∀ v∈cs,one v)(h: ∀(i:Nat) v s,cs[i]? =some v->l[i]? =some s->Rel w ρ rw N v s):
 Rel w ρ rw N (.agg cs.toArray) (.agg l):= .agg0 _ _ (by simpa using hl) (by simpa using h1) (by simpa using h)
theorem O4(hl:cs.length=(aj l).length)(h1: ∀ v∈cs,one v)(h: ∀(i:Nat) v s,cs[i]? =some v->(aj l)[i]? =some s->Rel w ρ rw N v s)(hm:bR N l):
 Rel w ρ rw N (.agg cs.toArray) (.agg l):= .agg _ _ (by simpa using hl) (by simpa using h1) (by simpa using h) hm
theorem iw(ht:aB P t ty){m:Mem}(hm:MemOk F w ρ m N){k off:Nat}(hv:Rel w ρ (ae F ρ m) N v (.ptr k off))
 {u:Nat} {c:List SV} (hb:af m k=some (.box u c)) (hoff:off+ty.size<=bq c):
 ∃ z,(Instr.loadAt t v).run P w= .ok z w∧Rel w ρ (ae F ρ m) N z (bif ty.agg then .agg (fm c off ty.size) else od c off):=by
 rw [cO] at hoff
 obtain ⟨g,arr,e,hg,hsz,hone,hrel,hruns⟩:=hm.blk _ (ag hb)
 cases hv with
 |ptr _ _ g' hk h=>
  rw [h] at e
  obtain rfl:g'=g:=by simpa using e
  have hl:((arr.toList.drop off).take ty.size).length=ty.size:=by simp;omega
  have hc: ∀ j v,((arr.toList.drop off).take ty.size)[j]? =some v->w.cell? ((⟨g',off,none⟩:Addr).add j)=some v:=by
   intro j v hv
   rw [Addr.add_lit,cell_of_row w g' _ arr u (0,0) hg]
   rw [List.getElem?_take] at hv
   split at hv
   · simpa using hv
   · cases hv
  refine ⟨_,by simp only [Instr.loadAt,Instr.sureAddr,Sem.run_bind,Sem.run_pure,Result.andThen];exact eP ht _ _ hl hc, ?_⟩
  cases hb:ty.agg
  · obtain ⟨_,_,_,_,_,_,_,_,h1,_⟩:=ht
    have h1:=h1 hb
    rw [h1] at hl hoff ⊢
    simp only [cond_false]
    have ho:off<arr.size:=by omega
    have e1:(arr.toList.drop off).take 1= [arr[off]] :=by
     rw [List.drop_eq_getElem_cons (by simpa using ho)]
     simp
    rw [e1,pQ,gEE (by omega)]
    exact hrel off _ _ (by simp [ho]) (by simp)
  · simp only [cond_true]
    refine O4 (by rw [fW];simp;omega) (fun v hv=>hone v (List.mem_of_mem_drop (List.mem_of_mem_take hv))) (fun i v s hv hs=> ?_) (hruns.take _ _)
    rw [fW] at hs
    rw [List.getElem?_take] at hv hs
    split at hv
    · rename_i hi
      rw [if_pos hi] at hs
      exact hrel (off+i) v s (by simpa using hv) (by simpa using hs)
    · cases hv
theorem xm(ht:aB P t ty){k:Nat}{f:Nat->SV}(hv:Rel w ρ rw N v (.rop k f))(hk:ty.size<=k):
 ∃ z,(Instr.loadAt t v).run P w= .ok z w∧Rel w ρ rw N z (bif ty.agg then .agg (bv f 0 ty.size) else f 0):=by
 cases hv with
 |rop ad _ _ g hs hc hr=>
  have hl:((List.range ty.size).map g).length=ty.size:=by simp
  have hc': ∀ j v,((List.range ty.size).map g)[j]? =some v->w.cell? (ad.add j)=some v:=by
   intro j v hv
   rw [List.getElem?_map] at hv
   by_cases hj:j<ty.size
   · rw [List.getElem?_range hj] at hv
     simp only [Option.map_some,sIE] at hv
     subst hv
     exact (hc j (by omega)).1
   · rw [List.getElem?_eq_none (by simp;omega)] at hv
     cases hv
  refine ⟨_,by simp only [Instr.loadAt,Instr.sureAddr,Sem.run_bind,Sem.run_pure,Result.andThen];exact eP ht _ _ hl hc', ?_⟩
  cases hb:ty.agg
  · obtain ⟨_,_,_,_,_,_,_,_,h1,_⟩:=ht
    have h1:=h1 hb
    rw [h1] at hk ⊢
    simpa using (hr 0 (by omega)).rel
  · simp only [cond_true]
    refine Lb (by simp [gW]) (fun v hv=> ?_) fun i v s hv hs=> ?_
    · obtain ⟨j,hj,rfl⟩:=List.mem_map.1 hv
      exact (hc j (by have:=List.mem_range.1 hj;omega)).2.1
    · rw [jU] at hs
      split at hs
      · rename_i hi
        rw [List.getElem?_map,List.getElem?_range hi] at hv
        simp only [Option.map_some,sIE,Nat.zero_add] at hv hs
        subst hv hs
        exact (hr i (by omega)).rel
      · cases hs
theorem lr(ht:aB P t ty)(htag:ty.tag= .struct places eqs){v:Value}{k off i oo sz:Nat}
 (hv:Rel w ρ rw N v (.ptr k off)) (hp:nth places i=some (oo,sz)) (hsz:sz≠0): ∃ z,(Instr.fieldAt t v i).run P w= .ok z w∧Rel w ρ rw N z (.ptr k (off+oo)):=by
 obtain ⟨_,d,_,_,hd,_,_,_,_,_,_,_,_,hT⟩:=ht
 rw [htag] at hT
 obtain ⟨_,fs,rfl,_,hfs⟩:=hT
 have:=hfs i
 rw [hp] at this
 cases hf:fs[i]? with
 |none=>rw [hf] at this;cases this
 |some f=>
  rw [hf] at this
  simp only [Option.bind_some] at this
  cases hi:P.info? f.type with
  |none=>rw [hi] at this;cases this
  |some j=>
   rw [hi] at this
   simp only [Option.map_some,sIE,pIE] at this
   obtain ⟨rfl,rfl⟩:=this
   cases hv with
   |ptr _ _ g hk h=>
    refine ⟨_, ?_, .ptr k (off+f.offset) g hk h⟩
    simp [Instr.fieldAt,Sem.run_bind,run_underlying hd w,Result.andThen,hf,Instr.sureAddr,fieldPlace,aW hi,hsz,Addr.add_lit]
theorem sM(ht:aB P t ty)(htag:ty.tag= .struct places eqs){v:Value}{k i oo sz:Nat}{f:Nat->SV}
 (hv:Rel w ρ rw N v (.rop k f)) (hp:nth places i=some (oo,sz)) (hsz:sz≠0) (hk:oo+sz<=k):
 ∃ z,(Instr.fieldAt t v i).run P w= .ok z w∧Rel w ρ rw N z (.rop sz fun j=>f (oo+j)):=by
 obtain ⟨_,d,_,_,hd,_,_,_,_,_,_,_,_,hT⟩:=ht
 rw [htag] at hT
 obtain ⟨_,fs,rfl,_,hfs⟩:=hT
 have:=hfs i
 rw [hp] at this
 cases hf:fs[i]? with
 |none=>rw [hf] at this;cases this
 |some fl=>
  rw [hf] at this
  simp only [Option.bind_some] at this
  cases hi:P.info? fl.type with
  |none=>rw [hi] at this;cases this
  |some j=>
   rw [hi] at this
   simp only [Option.map_some,sIE,pIE] at this
   obtain ⟨rfl,rfl⟩:=this
   cases hv with
   |rop ad _ _ g hs hc hr=>
    refine ⟨.pointer (some (ad.add fl.offset)), ?_, .rop _ _ _ (fun j=>g (fl.offset+j)) ?_ (fun j hj=> ?_) fun j hj=>hr _ (by omega)⟩
    · simp [Instr.fieldAt,Sem.run_bind,run_underlying hd w,Result.andThen,hf,Instr.sureAddr,fieldPlace,aW hi,hsz]
    · unfold Addr.add;split<;>simp [hs]
    · rw [pR,b9]
      exact hc _ (by omega)
theorem sN(ht:aB P t ty)(htag:ty.tag= .slice e k b isb){v:Value}{n:Nat}{f:Nat->Nat->SV}{q:IntKind}{i:Int}
 (hv:Rel w ρ rw N v (.slc n k f)) (hi:0<=i∧i<(n:Int)): ∃ z,(Instr.indexAt t v (.int q i)).run P w= .ok z w∧Rel w ρ rw N z (.rop k (f i.toNat)):=by
 obtain ⟨_,d,_,_,hd,_,_,_,_,_,_,_,_,hT⟩:=ht
 rw [htag] at hT
 obtain ⟨rfl,_,_,j,z,hj,hjs,_⟩:=hT
 cases hv with
 |slc ad _ c _ _ g hn hc ha hr=>
  obtain ⟨ad,rfl,hsp⟩:=ha (by omega)
  refine ⟨.pointer (some (ad.add (i.toNat*k))), ?_, .rop _ _ _ (fun j=>g i.toNat j) ?_ (fun j hj=> ?_) fun j hj=>hr _ _ (by omega) hj⟩
  · have h2:i<((n:Nat):Int):=hi.2
    simp [Instr.indexAt,asIntOf,Sem.run_bind,run_underlying hd w,Result.andThen,hi.1,h2,aW hj,hjs]
  · unfold Addr.add;split<;>simp [hsp]
  · obtain ⟨ad',e,h1,h2,h3⟩:=hc i.toNat j (by omega) hj
    cases e
    rw [pR,b9]
    exact ⟨h1,h2,h3⟩
theorem sO(ht:aB P t ty){n e ek k:Nat}(htag:ty.tag= .array n e ek){v:Value}{f:Nat->SV}{q:IntKind}{i:Int}
 (hv:Rel w ρ rw N v (.rop k f)) (hi:0<=i∧i<(n:Int)) (hk:n*ek<=k): ∃ z,(Instr.indexAt t v (.int q i)).run P w= .ok z w∧Rel w ρ rw N z (.rop ek fun j=>f (i.toNat*ek+j)):=by
 obtain ⟨_,d,_,_,hd,_,_,_,_,_,_,_,_,hT⟩:=ht
 rw [htag] at hT
 obtain ⟨rfl,j,hj,hjs⟩:=hT
 have hle:(i.toNat+1)*ek<=n*ek:=Nat.mul_le_mul_right ek (by omega)
 rw [Nat.add_mul] at hle
 cases hv with
 |rop ad _ _ g hs hc hr=>
  refine ⟨.pointer (some (ad.add (i.toNat*ek))), ?_, .rop _ _ _ (fun j=>g (i.toNat*ek+j)) ?_ (fun j hj=> ?_) fun j hj=>hr _ (by omega)⟩
  · have h2:i<((n:Nat):Int):=hi.2
    simp [Instr.indexAt,asIntOf,Sem.run_bind,run_underlying hd w,Result.andThen,hi.1,h2,aW hj,hjs,Instr.sureAddr]
  · unfold Addr.add;split<;>simp [hs]
  · rw [pR,b9]
    exact hc _ (by omega)
theorem wE(ht:aB P t ty)(htag:ty.tag= .str){s:List UInt8}{q:IntKind}{i:Int}(hi:0<=i)(hl:i+1<=(s.length:Int)):
 (Instr.index t (.string ⟨s.toArray⟩) (.int q i)).run P w= .ok (.int .u8 ((s[i.toNat]?.getD 0).toNat:Int)) w:=by
 obtain ⟨_,d,_,_,hd,_,_,_,_,_,_,_,_,hT⟩:=ht
 rw [htag] at hT
 obtain rfl:=hT
 have h1:i.toNat<s.length:=by omega
 have h2:(ByteArray.mk s.toArray)[i.toNat]? =some s[i.toNat] :=by
  rw [getElem?_pos (ByteArray.mk s.toArray) i.toNat (by simpa [ByteArray.size] using h1)]
  rfl
 simp [Instr.index,asIntOf,Sem.run_bind,run_underlying hd w,Result.andThen,hi,h2,h1]
theorem getElem?_range_map(g:Nat->Value)(n i:Nat):((List.range n).map g)[i]? =if i<n then some (g i) else none:=by
 rw [List.getElem?_map]
 by_cases h:i<n
 · rw [List.getElem?_range h,if_pos h];rfl
 · rw [List.getElem?_eq_none (by simp;omega),if_neg h];rfl
theorem sP{T:Tys}(hT:TysOk P T){s d:Nat}{x:SV}{p:Option Prop}{r:SV}(h:me std T s d x=some (p,r))(hp:aK p)(hx:Rel w ρ rw N v x)
 (hrw: ∀ b,rw b->b<w.heap.size): ∃ z w',(convert s d v).run P w= .ok z w'∧Ext w w'∧Rel w' ρ rw N z r:=by
 unfold me at h
 split at h
 · rename_i sy dy k n hs hd
   obtain ⟨_,ds,_,_,hus,_,_,_,_,_,_,_,_,hTs⟩:=hT _ _ hs
   obtain ⟨_,dd,_,_,hud,_,_,_,_,_,_,_,_,hTd⟩:=hT _ _ hd
   split at h
   · rename_i k1 k2 e1 e2
     rw [e1] at hTs
     rw [e2] at hTd
     obtain rfl:=hTs
     obtain rfl:=hTd
     simp only [sIE,pIE] at h
     obtain ⟨rfl,rfl⟩:=h
     rw [hx.eq_int]
     exact ⟨_,_,by simp [convert,run_underlying hus w,run_underlying hud w,Conv.intToInt,std,bd,bf,bw,a8,aO,aI,ba,aM,aE],Keep.refl _ _, .int _ _⟩
   · rename_i k1 e1 e2
     rw [e1] at hTs
     rw [e2] at hTd
     obtain rfl:=hTs
     obtain rfl:=hTd
     simp only [sIE,pIE] at h
     obtain ⟨rfl,rfl⟩:=h
     rw [hx.eq_int]
     exact ⟨_,_,by simp [convert,run_underlying hus w,run_underlying hud w,Conv.intToFloat,std],Keep.refl _ _, .flt _⟩
   · cases h
 · rename_i sy dy b hs hd
   obtain ⟨_,ds,_,_,hus,_,_,_,_,_,_,_,_,hTs⟩:=hT _ _ hs
   obtain ⟨_,dd,_,_,hud,_,_,_,_,_,_,_,_,hTd⟩:=hT _ _ hd
   split at h
   · rename_i k2 e1 e2
     rw [e1] at hTs
     rw [e2] at hTd
     obtain rfl:=hTs
     obtain rfl:=hTd
     simp only [sIE,pIE] at h
     obtain ⟨rfl,rfl⟩:=h
     rw [hx.eq_flt]
     obtain ⟨n,hn,h1,h2⟩:=hp
     exact ⟨.int k2 n,w,by simp [convert,run_underlying hus w,run_underlying hud w,Conv.floatToInt,hn,h1,h2],Keep.refl _ _,by simp only [std,hn,Option.getD_some];exact .int _ _⟩
   · cases h
 · rename_i sy dy n f hs hd
   obtain ⟨_,ds,_,_,hus,_,_,_,_,_,_,_,_,hTs⟩:=hT _ _ hs
   obtain ⟨_,dd,_,_,hud,_,_,_,_,_,_,_,_,hTd⟩:=hT _ _ hd
   split at h
   · rename_i e ks bs e1 e2
     rw [e1] at hTs
     rw [e2] at hTd
     obtain ⟨rfl,hk0,hb,_⟩:=hTs
     obtain rfl:=hTd
     simp only [sIE,pIE] at h
     obtain ⟨rfl,rfl⟩:=h
     cases hx with
     |slc ad _ c _ _ g hn hc ha hr=>
      have hg: ∀ i,i<n->g i 0= .int .u8 (match f i 0 with| .int _ m=>m|_=>0):=fun i hi=>by
       obtain ⟨m,hm⟩:=hp i hi
       have:=(hr i 0 hi (by omega)).rel (ρ:=ρ) (N:=N)
       rw [hm] at this ⊢
       exact this.eq_int
      have hstr: ∀ i,i<n->rk (f i 0)=UInt8.ofNat (match f i 0 with| .int _ m=>m|_=>0).toNat:=fun i hi=>by
       obtain ⟨m,hm⟩:=hp i hi
       rw [hm];rfl
      rcases Nat.eq_zero_or_pos n with h0|h0
      · subst h0
        have e0:(Conv.bytesToString (.slice ad 0 c)).run P w= .ok (.string ByteArray.empty) w:=by
         cases ad with
         |none=>rfl
         |some ad=>
          have:=run_bytesToString (P:=P) w ad 0 c [] (by simp [loadCells,loadCellsFrom])
          simpa using this
        refine ⟨_,_,(run_convert_bytes_string w s d e ad 0 c hus (hb rfl) hud).trans e0,Keep.refl _ _, ?_⟩
        exact Rel.of_str (w:=w) (ρ:=ρ) (rw:=rw) (N:=N) []
      · obtain ⟨ad,rfl,hsp⟩:=ha h0
        have hl:=run_loadCells_list (P:=P) w ad (((List.range n).map fun i=>match f i 0 with| .int _ m=>m|_=>0).map (Value.int .u8)) (fun j v hj=>by
         rw [List.map_map,getElem?_range_map] at hj
         split at hj
         · rename_i hjn
           obtain ⟨ad',e,h1,_⟩:=hc j 0 hjn (by omega)
           cases e
           simp only [Nat.mul_one,Nat.add_zero] at h1
           rw [h1,hg j hjn]
           exact hj
         · cases hj)
        simp only [List.length_map,List.length_range] at hl
        refine ⟨_,_,(run_convert_bytes_string w s d e (some ad) n c hus (hb rfl) hud).trans (run_bytesToString w ad n c _ hl),Keep.refl _ _, ?_⟩
        rw [foldl_push_bytes]
        have e1:ByteArray.empty.data= #[] :=rfl
        have e2:(std.strOf n f)=((List.range n).map fun i=>match f i 0 with| .int _ m=>m|_=>0).map fun n=>UInt8.ofNat n.toNat:=by
         rw [List.map_map]
         exact List.map_congr_left fun i hi=>hstr i (List.mem_range.1 hi)
        rw [e1,e2]
        simpa using Rel.of_str (w:=w) (ρ:=ρ) (rw:=rw) (N:=N) (((List.range n).map fun i=>match f i 0 with| .int _ m=>m|_=>0).map fun n=>UInt8.ofNat n.toNat)
   · cases h
 · rename_i sy dy l hs hd
   obtain ⟨_,ds,_,_,hus,_,_,_,_,_,_,_,_,hTs⟩:=hT _ _ hs
   obtain ⟨_,dd,_,_,hud,_,_,_,_,_,_,_,_,hTd⟩:=hT _ _ hd
   split at h
   · rename_i e1 e2
     rw [e1] at hTs
     rw [e2] at hTd
     obtain rfl:=hTs
     obtain rfl:=hTd
     simp only [sIE,pIE] at h
     obtain ⟨rfl,rfl⟩:=h
     rw [hx.eq_str]
     exact ⟨_,_,by simp [convert,run_underlying hus w,run_underlying hud w],Keep.refl _ _, .of_str _⟩
   · rename_i e ks bs e1 e2
     rw [e1] at hTs
     rw [e2] at hTd
     obtain rfl:=hTs
     obtain ⟨rfl,hk0,hb,_⟩:=hTd
     simp only [sIE,pIE] at h
     obtain ⟨rfl,rfl⟩:=h
     rw [hx.eq_str]
     have hrun:=run_bytes_of_string (P:=P) w s d e ⟨l.toArray⟩ hus hud (hb rfl)
     refine ⟨_,_,hrun,(Ext.drew w).trans (Ext.alloc _ _), ?_⟩
     have hsz:(ByteArray.mk l.toArray).size=l.length:=by simp [ByteArray.size]
     rw [hsz]
     have hgc:l.length<=grownCap w l.length 0 e:=by unfold grownCap;simp only [Question.cut];omega
     refine .slc _ _ _ _ _ (fun i j=> .int .u8 ((l[i]?.getD 0).toNat:Int)) hgc (fun i j hi hj=>⟨_,rfl, ?_,rfl,fun h=> ?_⟩) (fun _=>⟨_,rfl,rfl⟩) (fun i j hi hj=> .int _ _)
     · have hj0:j=0:=by omega
       have hi':i<l.length:=hi
       subst hj0
       rw [Addr.add_lit]
       have:=World.cell?_alloc_mark w.drew (bytesRow ⟨l.toArray⟩ (grownCap w l.length 0 e)) e ((bytesRow ⟨l.toArray⟩ (grownCap w l.length 0 e)).size,(bytesRow ⟨l.toArray⟩ (grownCap w l.length 0 e)).size+1) i
       simp only [Nat.mul_one,Nat.add_zero,Nat.zero_add]
       rw [show w.heap.size=w.drew.heap.size from rfl,this,bytesRow_at _ _ _ (by simpa using hi')]
       simp [hi']
     · exact absurd (hrw _ h) (by simp)
   · cases h
 · cases h
theorem Rel.cells{s:SV}(h:Rel w ρ rw N v s)(hl:cellsOf s=some l):
 v.cells.size=(aj l).length∧(∀ u∈v.cells.toList,one u)∧(∀(i:Nat) u t,v.cells[i]? =some u->(aj l)[i]? =some t->Rel w ρ rw N u t)∧bR N l:=by
 have single: ∀ {v:Value} {s:SV},Rel w ρ rw N v s->v.cells= #[v] ->one v->v.cells.size=(aj [s]).length∧(∀ u∈v.cells.toList,one u)∧(∀(i:Nat) u t,v.cells[i]? =some u->(aj [s])[i]? =some t->Rel w ρ rw N u t)∧bR N [s] :=by
  intro v s h hc h1
  rw [hc,show aj [s] = [s] by simp [aj,mY h.one1]]
  refine ⟨rfl,by simpa using h1,fun i u t hu ht=> ?_, .flat fun t ht=>by obtain rfl:=List.mem_singleton.1 ht;exact h.one1⟩
  match i with
  |0=>simp at hu ht;subst hu ht;exact h
  |i+1=>simp at hu
 cases h with
 |agg cs l' hl' h1 h hm=>simp only [cellsOf,sIE] at hl;subst hl;exact ⟨hl',h1,h,hm⟩
 |any|un|tup|opt=>cases hl
 |own key hk h1=>
  simp only [cellsOf,sIE] at hl
  subst hl
  refine single (.own _ hk h1) ?_ h1
  unfold one at h1
  unfold Value.cells
  cases hv:ρ key<;>rw [hv] at h1<;>first|rfl|cases h1
 |kid key fam i hk hf h1 hi=>
  simp only [cellsOf,sIE] at hl
  subst hl
  refine single (.kid _ _ _ hk hf h1 hi) ?_ h1
  unfold one at h1
  unfold Value.cells
  cases hv:bU (ρ fam) i<;>rw [hv] at h1<;>first|rfl|cases h1
 |fkid key fam n i hk hf hi h1=>
  simp only [cellsOf,sIE] at hl
  subst hl
  refine single (.fkid _ _ _ _ hk hf hi h1) ?_ h1
  unfold one at h1
  unfold Value.cells
  cases hv:bU (ρ fam) i<;>rw [hv] at h1<;>first|rfl|cases h1
 |iptr key base n i g hk h hi=>simp only [cellsOf,sIE] at hl;subst hl;exact single (.iptr _ _ _ _ _ hk h hi) rfl rfl
 |val v=>
  unfold cellsOf at hl
  cases v<;>simp only [sIE,reduceCtorEq] at hl<;>subst hl<;>exact single (.val _) rfl rfl
 |int k n=>simp only [cellsOf,sIE] at hl;subst hl;exact single (.int _ _) rfl rfl
 |bool b=>simp only [cellsOf,sIE] at hl;subst hl;exact single (.bool _) rfl rfl
 |str s=>simp only [cellsOf,sIE] at hl;subst hl;exact single (.str _) rfl rfl
 |flt b=>simp only [cellsOf,sIE] at hl;subst hl;exact single (.flt _) rfl rfl
 |cpx a b=>simp only [cellsOf,sIE] at hl;subst hl;exact single (.cpx _ _) rfl rfl
 |nilp=>simp only [cellsOf,sIE] at hl;subst hl;exact single .nilp rfl rfl
 |nils=>simp only [cellsOf,sIE] at hl;subst hl;exact single .nils rfl rfl
 |ptr key off g hk h=>simp only [cellsOf,sIE] at hl;subst hl;exact single (.ptr _ _ _ hk h) rfl rfl
 |rop a k f g hs hc hr=>simp only [cellsOf,sIE] at hl;subst hl;exact single (.rop _ _ _ g hs hc hr) rfl rfl
 |eptr key k i off g n c hk h hi=>simp only [cellsOf,sIE] at hl;subst hl;exact single (.eptr _ _ _ _ _ _ _ hk h hi) rfl rfl
 |slc a n c k f g hn hc ha hr=>simp only [cellsOf,sIE] at hl;subst hl;exact single (.slc _ _ _ _ _ g hn hc ha hr) rfl rfl
 |emp a=>simp only [cellsOf,sIE] at hl;subst hl;exact single (.emp _) rfl rfl
 |part key k lo n a c hk hn h=>simp only [cellsOf,sIE] at hl;subst hl;exact single (.part _ _ _ _ _ _ hk hn h) rfl rfl
 |clo f cs l' hl' h hm=>simp only [cellsOf,sIE] at hl;subst hl;exact single (.clo _ _ _ hl' h hm) rfl rfl
 |ifc t v s h=>simp only [cellsOf,sIE] at hl;subst hl;exact single (.ifc _ _ _ h) rfl rfl
 |mth f v s h=>simp only [cellsOf,sIE] at hl;subst hl;exact single (.mth _ _ _ h) rfl rfl
theorem nX{α β:Type}(f:α->Sem β)(g:α->β): ∀ l:List α,(∀ x∈l,(f x).run P w= .ok (g x) w)->(l.mapM f).run P w= .ok (l.map g) w
 | [],_=>rfl
 |x::l,h=>by
  rw [List.mapM_cons,Sem.run_bind,h x (List.mem_cons_self ..)]
  simp only [Result.andThen,Sem.run_bind,nX f g l (fun y hy=>h y (List.mem_cons_of_mem _ hy))]
  rfl
def bt (cs:List Value)(off:Nat)(l:List Value):List Value:=cs.take off++l++cs.drop (off+l.length)
theorem oB(off:Nat): ∀(l:List Value) (k:Nat) (cs:Array Value),off+k+l.length<=cs.size->
 ((l.zipIdx k).foldl (fun cs (x:Value×Nat)=>cs.setIfInBounds (off+x.2) x.1) cs).toList=bt cs.toList (off+k) l
 | [],k,cs,h=>by simp [bt]
 |v::l,k,cs,h=>by
  simp only [List.length_cons] at h
  rw [List.zipIdx_cons,List.foldl_cons,oB off l (k+1) _ (by simp;omega)]
  apply List.ext_getElem?
  intro i
  simp only [bt,Array.toList_setIfInBounds,List.length_cons]
  rw [List.getElem?_append,List.getElem?_append,List.getElem?_append,List.getElem?_append]
  simp only [List.length_append,List.length_take,List.length_set,Array.length_toList,List.getElem?_take,List.getElem?_set,List.getElem?_drop,List.length_cons]
  by_cases h1:i<off+k
  · simp [h1,show i<off+(k+1) by omega,show i<min (off+(k+1)) cs.size by omega,show ¬ off+k=i by omega,show i<min (off+k) cs.size by omega,show i<min (off+k) cs.size+(l.length+1) by omega,
     show i<min (off+(k+1)) cs.size+l.length by omega]
  · by_cases h2:i=off+k
    · subst h2
      simp [show off+k<min (off+(k+1)) cs.size by omega,show ¬ off+k<min (off+k) cs.size by omega,show off+k<min (off+(k+1)) cs.size+l.length by omega,
       show off+k<min (off+k) cs.size+(l.length+1) by omega,show off+k<cs.size by omega,show off+k - min (off+k) cs.size=0 by omega,show off+k<off+(k+1) by omega]
    · by_cases h3:i<off+k+(l.length+1)
      · simp [show ¬ i<min (off+(k+1)) cs.size by omega,show ¬ i<min (off+k) cs.size by omega,show i<min (off+(k+1)) cs.size+l.length by omega,
         show i<min (off+k) cs.size+(l.length+1) by omega,show i - min (off+k) cs.size=(i - min (off+(k+1)) cs.size)+1 by omega]
      · simp [show ¬ i<min (off+(k+1)) cs.size by omega,show ¬ i<min (off+k) cs.size by omega,show ¬ i<min (off+(k+1)) cs.size+l.length by omega,
         show ¬ i<min (off+k) cs.size+(l.length+1) by omega]
        rw [if_neg (by omega)]
        congr 1
        omega
theorem xn{c:List SV}{off:Nat}{l:List Value}{s:List SV}(hl:l.length=(aj s).length)(hc:cs.length=(aj c).length)(ho:off+bq s<=bq c)
 (h1: ∀ v∈cs,one v) (h1': ∀ v∈l,one v) (h: ∀(i:Nat) v t,cs[i]? =some v->(aj c)[i]? =some t->Rel w ρ rw N v t) (h': ∀(i:Nat) v t,l[i]? =some v->(aj s)[i]? =some t->Rel w ρ rw N v t):
 (bt cs off l).length=(aj (d8 c off s)).length∧(∀ v∈bt cs off l,one v)∧ ∀(i:Nat) v t,(bt cs off l)[i]? =some v->(aj (d8 c off s))[i]? =some t->Rel w ρ rw N v t:=by
 have e1:=cO c
 have e2:=cO s
 refine ⟨by rw [qp ho];simp [bt];omega,fun v hv=> ?_,fun i v t hv ht=> ?_⟩
 · simp only [bt,List.mem_append] at hv
   rcases hv with (hv|hv) |hv
   · exact h1 v (List.mem_of_mem_take hv)
   · exact h1' v hv
   · exact h1 v (List.mem_of_mem_drop hv)
 · rw [rf ho] at ht
   simp only [bt] at hv
   rw [List.getElem?_append,List.getElem?_append] at hv
   simp only [List.length_append,List.length_take,List.getElem?_take,List.getElem?_drop] at hv
   by_cases a1:i<off
   · rw [if_neg (by omega)] at ht
     rw [if_pos (by omega),if_pos (by omega),if_pos a1] at hv
     exact h i v t hv ht
   · by_cases a2:i<off+bq s
     · rw [if_pos (by omega)] at ht
       rw [if_pos (by omega),if_neg (by omega),show min off cs.length=off by omega] at hv
       exact h' _ v t hv ht
     · rw [if_neg (by omega)] at ht
       rw [if_neg (by omega),show off+l.length+(i - (min off cs.length+l.length))=i by omega] at hv
       exact h i v t hv ht
theorem xo{e:Operand->SV}{pl:Nat->Option (Nat×Nat)}{pl':Nat->Option (Nat×Nat)}(hpl: ∀ i,pl i=pl' i):
 ∀(parts:List (Nat×Operand)) (cs:Array Value) (c c':List SV),(∀ x∈parts,Rel w ρ rw N (a.eval x.2) (e x.2))->iq e pl c parts=some c'->
  cs.size=(aj c).length->(∀ v∈cs.toList,one v)->(∀(i:Nat) v t,cs[i]? =some v->(aj c)[i]? =some t->Rel w ρ rw N v t)->bR N c->
  ∃ cs',Instr.fill pl' cs (parts.map fun x=>(x.1,a.eval x.2))=some cs'∧cs'.size=(aj c').length∧(∀ v∈cs'.toList,one v)∧(∀(i:Nat) v t,cs'[i]? =some v->(aj c')[i]? =some t->Rel w ρ rw N v t)∧bR N c'
 | [],cs,c,c',_,h,hs,h1,hr,hm=>by
   simp only [iq,sIE] at h
   subst h
   exact ⟨cs,rfl,hs,h1,hr,hm⟩
 | (i,x)::parts,cs,c,c',hx,h,hs,h1,hr,hm=>by
   simp only [iq] at h
   split at h
   · rename_i off size l hp hcl
     cases hb:(Nat.beq (bq l) size && Nat.ble (off+size) (bq c))<;>simp only [hb,cond_true,cond_false,reduceCtorEq] at h
     simp only [bAE] at hb
     have hb1:bq l=size:=nQE hb.1
     have hb2:off+size<=bq c:=Nat.le_of_ble_eq_true hb.2
     have e1:=cO l
     have e2:=cO c
     obtain ⟨g1,g2,g3,g4⟩:=(hx _ (List.mem_cons_self ..)).cells hcl
     simp only at g1 g2 g3
     have hset:=xn (off:=off) (cs:=cs.toList) (c:=c) (l:=(a.eval x).cells.toList) (s:=l) (by simpa using g1) (by simpa using hs) (by omega) h1 g2 (by simpa using hr) (by simpa using g3)
     have hfold:=oB off (a.eval x).cells.toList 0 cs (by rw [Array.length_toList];omega)
     simp only [Nat.add_zero] at hfold
     have hz:(a.eval x).cells.zipIdx.foldl (fun cs (c,j)=>cs.setIfInBounds (off+j) c) cs=(bt cs.toList off (a.eval x).cells.toList).toArray:=by
      rw [<-hfold,Array.toArray_toList,<-Array.foldl_toList,Array.toList_zipIdx]
     obtain ⟨cs',r1,r2⟩:=xo hpl parts (bt cs.toList off (a.eval x).cells.toList).toArray (d8 c off l) c' (fun y hy=>hx y (List.mem_cons_of_mem _ hy)) h (by simpa using hset.1) (by simpa using hset.2.1) (by simpa using hset.2.2) (hm.put g4 _)
     refine ⟨cs', ?_,r2⟩
     simp only [List.map_cons,Instr.fill]
     rw [<-hpl i,hp]
     simp only
     rw [if_neg (by simp;omega),hz]
     exact r1
   · cases h
theorem qs(v:Value):Rel w ρ rw N v (ofValue v):=by
 unfold ofValue
 split
 · exact .int _ _
 · exact .bool _
 · exact .str _
 · exact .flt _
 · exact .cpx _ _
 · exact .nils
 · exact .nilp
 · exact .clo _ #[] [] rfl (fun i v s h=>by simp at h) (fun k h=>by obtain ⟨s,h,_⟩:=h;cases h)
 · exact .val _
theorem eM: ∀(l:List Value) (i:Nat) (v:Value) (t:SV),l[i]? =some v->(eV l)[i]? =some t->Rel w ρ rw N v t
 | [],i,v,t,h,_=>by simp at h
 |x::l,0,v,t,h,h'=>by
  simp only [List.getElem?_cons_zero,sIE,eV] at h h'
  subst h h'
  exact qs _
 |x::l,i+1,v,t,h,h'=>eM l i v t (by simpa using h) (by simpa [eV] using h')
theorem e9: ∀ l:List Value,(eV l).length=l.length
 | [] =>rfl
 |_::l=>by simp [eV,e9 l]
theorem gP{i:TypeInfo}{z:Value}(h:P.info? t=some i)(hz:i.zero=some z)(w:World):(zeroValue t).run P w= .ok z w:=by
 simp [zeroValue,typeInfo,h,hz]
theorem vI(ht:aB P t ty)(htag:ty.tag= .struct places eqs){e:Operand->SV}{parts:Array (Nat×Operand)}{c:List SV}
 (h:iq e (nth places) ty.zero parts.toList=some c) (hzz:zOk ty.zero=true) (hx: ∀ x∈parts.toList,Rel w ρ rw N (a.eval x.2) (e x.2)):
 ∃ z,(Instr.build t (parts.map fun (i,x)=>(i,a.eval x))).run P w= .ok z w∧Rel w ρ rw N z (.agg c):=by
 obtain ⟨i,d,z,hi,hd,hs,hpos,hagg,h1,hz,hzero,hzone,hzsize,hT⟩:=ht
 rw [htag] at hT
 obtain ⟨_,fs,rfl,_,hfs⟩:=hT
 have nth_eq: ∀(l:List (Nat×Nat)) (i:Nat),nth l i=l[i]? :=by
  intro l
  induction l with
  |nil=>intro i;rfl
  |cons x l ih=>intro i;cases i with
   |zero=>rfl
   |succ i=>simpa [nth] using ih i
 let g:Field->Nat×Nat:=fun f=>(f.offset,((P.info? f.type).map (·.size)).getD 0)
 have hrun:(fs.mapM fun f=>(do pure (f.offset,<-sizeOf f.type):Sem (Nat×Nat))).run P w= .ok (fs.toList.map g).toArray w:=by
  have hm:=nX (P:=P) (w:=w) (fun f:Field=>(do pure (f.offset,<-sizeOf f.type):Sem (Nat×Nat))) g fs.toList (fun f hf=>by
   obtain ⟨k,hk⟩:=List.mem_iff_getElem?.1 hf
   have h2:=hfs k
   rw [nth_eq,gEE (by have:=(List.getElem?_eq_some_iff.1 hk).1;simp at this;omega)] at h2
   rw [show fs[k]? =some f by simpa using hk] at h2
   simp only [Option.bind_some] at h2
   cases hj:P.info? f.type with
   |none=>rw [hj] at h2;cases h2
   |some j=>simp [aW hj,g,hj])
  rw [Array.mapM_eq_mapM_toList,Sem.run_map,hm]
  rfl
 have hpl: ∀ i,nth places i=(fs.toList.map g).toArray[i]? :=fun k=>by
  rw [hfs k]
  simp only [List.getElem?_toArray,List.getElem?_map,Array.getElem?_toList]
  cases hk:fs[k]? with
  |none=>rfl
  |some f=>
   have h2:=hfs k
   rw [hk,nth_eq,gEE (by have:=(Array.getElem?_eq_some_iff.1 hk).1;omega)] at h2
   simp only [Option.bind_some,Option.map_some] at h2 ⊢
   cases hj:P.info? f.type with
   |none=>rw [hj] at h2;cases h2
   |some j=>simp [g,hj]
 obtain ⟨cs',r1,r2,r3,r4,r5⟩:=xo (a:=a) (w:=w) (ρ:=ρ) (rw:=rw) (N:=N) hpl parts.toList z.cells ty.zero c hx h (by rw [<-hzero,e9];simp) hzone
  (fun k v t hv ht=>by rw [<-hzero] at ht;exact eM z.cells.toList k v t (by simpa using hv) ht) (.zero hzz)
 refine ⟨.agg cs', ?_, .agg _ _ r2 r3 r4 r5⟩
 have e1:(parts.map fun (x:Nat×Operand)=>(x.1,a.eval x.2)).toList=parts.toList.map fun x=>(x.1,a.eval x.2):=by simp
 simp only [Instr.build,Sem.run_bind,gP hi hz,run_underlying hd w,Result.andThen,hrun]
 rw [e1,r1]
 rfl
theorem lN{e:Operand->SV}{k:Nat} : ∀(parts:List (Nat×Operand)) (i:Nat) (ls:List (List SV)),fD e k i parts=some ls->
 ls.length=parts.length∧ ∀ j,j<parts.length-> ∃ x l,parts[j]? =some (i+j,x)∧ls[j]? =some l∧cellsOf (e x)=some l∧l.length=k∧bM l=true
 | [],i,ls,h=>by
   simp only [fD,sIE] at h
   subst h
   exact ⟨rfl,fun j hj=>absurd hj (by simp)⟩
 | (q,x)::parts,i,ls,h=>by
   simp only [fD] at h
   split at h
   · rename_i l ls' hl hls
     cases hb:(Nat.beq i q &&(Nat.beq (len l) k && bM l))<;>simp only [hb,cond_true,cond_false,reduceCtorEq,sIE] at h
     simp only [bAE] at hb
     have hb1:i=q:=nQE hb.1
     have hb2:l.length=k:=by rw [<-dW];exact nQE hb.2.1
     subst hb1
     subst h
     obtain ⟨h1,h2⟩:=lN parts (i+1) ls' hls
     refine ⟨by simp [h1],fun j hj=> ?_⟩
     cases j with
     |zero=>exact ⟨x,l,by simp,by simp,hl,hb2,hb.2.2⟩
     |succ j=>
      obtain ⟨x',l',r1,r2,r3⟩:=h2 j (by simpa using hj)
      exact ⟨x',l',by simp [r1];omega,by simp [r2],r3⟩
   · cases h
theorem mZ{k:Nat}(hk:0<k): ∀(parts:List (Nat×Value)) (i:Nat) (cs:Array Value),(∀ j,j<parts.length-> ∃ v,parts[j]? =some (i+j,v)∧v.cells.size=k)->(i+parts.length)*k<=cs.size->
 ∃ cs',Instr.fill (fun i=>some (i*k,k)) cs parts=some cs'∧cs'.size=cs.size∧(∀ q,q<i*k->cs'[q]? =cs[q]?)∧
   ∀ j q v,j<parts.length->q<k->parts[j]? =some (i+j,v)->cs'[(i+j)*k+q]? =v.cells[q]?
 | [],i,cs,_,_=>⟨cs,rfl,rfl,fun _ _=>rfl,fun j q v hj=>absurd hj (by simp)⟩
 | (q0,v0)::parts,i,cs,h,hs=>by
   obtain ⟨v,e,hv⟩:=h 0 (by simp)
   simp only [List.getElem?_cons_zero,Nat.add_zero,sIE,pIE] at e
   obtain ⟨rfl,rfl⟩:=e
   have hs1:q0*k+k+parts.length*k<=cs.size:=by
    simp only [List.length_cons] at hs
    have:(q0+(parts.length+1))*k=q0*k+k+parts.length*k:=by rw [Nat.add_mul,Nat.add_mul];omega
    omega
   have hfold:=oB (q0*k) v0.cells.toList 0 cs (by simp;omega)
   simp only [Nat.add_zero] at hfold
   have hz:v0.cells.zipIdx.foldl (fun cs (c,j)=>cs.setIfInBounds (q0*k+j) c) cs=(bt cs.toList (q0*k) v0.cells.toList).toArray:=by
    rw [<-hfold,Array.toArray_toList,<-Array.foldl_toList,Array.toList_zipIdx]
   have hlen:(bt cs.toList (q0*k) v0.cells.toList).length=cs.size:=by simp [bt];omega
   have hget: ∀ p,(bt cs.toList (q0*k) v0.cells.toList)[p]? =if q0*k<=p∧p<q0*k+k then v0.cells[p - q0*k]? else cs[p]? :=by
    intro p
    simp only [bt]
    rw [List.getElem?_append,List.getElem?_append]
    simp only [List.length_append,List.length_take,Array.length_toList,List.getElem?_take,List.getElem?_drop,Array.getElem?_toList,hv]
    by_cases a1:p<q0*k
    · rw [if_pos (by omega),if_pos (by omega),if_pos a1,if_neg (by omega)]
    · by_cases a2:p<q0*k+k
      · rw [if_pos (by omega),if_neg (by omega),if_pos (by omega),show min (q0*k) cs.size=q0*k by omega]
      · rw [if_neg (by omega),if_neg (by omega),show q0*k+k+(p - (min (q0*k) cs.size+k))=p by omega]
   obtain ⟨cs',r1,r2,r3,r4⟩:=mZ hk parts (q0+1) (bt cs.toList (q0*k) v0.cells.toList).toArray (fun j hj=>by
    obtain ⟨u,e,hu⟩:=h (j+1) (by simpa using hj)
    exact ⟨u,by rw [List.getElem?_cons_succ] at e;rw [e];congr 2;omega,hu⟩) (by
    have:(q0+1+parts.length)*k=q0*k+k+parts.length*k:=by rw [Nat.add_mul,Nat.add_mul];omega
    simp [hlen];omega)
   refine ⟨cs', ?_,by rw [r2];simp [hlen],fun p hp=> ?_,fun j p u hj hp hu=> ?_⟩
   · simp only [Instr.fill]
     rw [if_neg (by simp [hv];omega),hz]
     exact r1
   · rw [r3 p (by rw [Nat.add_mul];omega)]
     simp only [List.getElem?_toArray,hget]
     rw [if_neg (by omega)]
   · cases j with
     |zero=>
      simp only [List.getElem?_cons_zero,Nat.add_zero,sIE,pIE,true_and] at hu
      subst hu
      rw [Nat.add_zero,r3 _ (by rw [Nat.add_mul];omega)]
      simp only [List.getElem?_toArray,hget]
      rw [if_pos (by omega),show q0*k+p - q0*k=p by omega]
     |succ j=>
      have:=r4 j p u (by simpa using hj) hp (by rw [List.getElem?_cons_succ] at hu;rw [hu];congr 2;omega)
      rwa [show q0+1+j=q0+(j+1) by omega] at this
theorem Rel.closed{s:SV}(h:Rel w ρ rw N v s)(hc:bz s=true):RelC w rw v s:=by
 cases h<;>first|cases hc|skip
 · exact .any _
 · exact .int _ _
 · exact .bool _
 · exact .str _
 · exact .flt _
 · exact .cpx _ _
 · exact .nilp
 · exact .nils
 · exact .slc _ _ _ _ _ _ (by assumption) (by assumption) (by assumption) (by assumption)
 · exact .val _
 · exact .emp _
 · rename_i f cs l hl h hm
   cases l with
   |nil=>
    obtain rfl:cs= #[] :=Array.eq_empty_of_size_eq_zero (by simpa using hl)
    exact .clo f
   |cons=>cases hc
 · exact .ifc _ _ _ (by assumption)
 · exact .mth _ _ _ (by assumption)
theorem dY: ∀ {l:List SV},bM l=true-> ∀ s∈l,bz s=true
 | [],_,s,h=>by cases h
 |x::l,h,s,hs=>by
  simp only [bM,bAE] at h
  rcases List.mem_cons.1 hs with rfl|hs
  · exact h.1
  · exact dY h.2 s hs
theorem oC(ht:aB P t ty)(htag:ty.tag= .slice e k b isb){ev:Operand->SV}{parts:Array (Nat×Operand)}{ls:List (List SV)}
 (h:fD ev k 0 parts.toList=some ls) (hx: ∀ x∈parts.toList,Rel w ρ rw N (a.eval x.2) (ev x.2)) (hsmall:ls.length*k<=16777216) (hpos:0<ls.length) (hrw: ∀ b,rw b->b<w.heap.size):
 ∃ z w',(Instr.buildSlice t ls.length (parts.map fun (i,x)=>(i,a.eval x))).run P w= .ok z w'∧Ext w w'∧Rel w' ρ rw N z (.slc ls.length k (std.lst ls)):=by
 obtain ⟨_,d,_,_,hd,_,_,_,_,_,_,_,_,hT⟩:=ht
 rw [htag] at hT
 obtain ⟨rfl,hk0,_,i,z,hi,his,_,hz,hzs⟩:=hT
 obtain ⟨hl,hch⟩:=lN _ _ _ h
 have e1:(parts.map fun (x:Nat×Operand)=>(x.1,a.eval x.2)).toList=parts.toList.map fun x=>(x.1,a.eval x.2):=by simp
 have hne:ls.length*k≠0:=by
  have:0<ls.length*k:=Nat.mul_pos hpos hk0
  omega
 obtain ⟨cs,r1,r2,_,r4⟩:=mZ hk0 (parts.toList.map fun x=>(x.1,a.eval x.2)) 0 ((Array.range (ls.length*k)).map (z.cells[· % z.cells.size]!)) (fun j hj=>by
  obtain ⟨x,l,q1,q2,q3,q4,q5⟩:=hch j (by simpa using hj)
  refine ⟨a.eval x,by rw [List.getElem?_map,q1];rfl, ?_⟩
  rw [((hx _ (List.mem_of_getElem? q1)).cells q3).1,cX q5,q4]) (by simp [hl])
 refine ⟨.slice (some ⟨w.heap.size,0,none⟩) ls.length ls.length,w.alloc (.cells cs e), ?_,Ext.alloc _ _, ?_⟩
 · have hns: ¬ 16777216<ls.length*k:=by omega
   simp [Instr.buildSlice,run_underlying hd,aW hi,his,hns,hne,gP hi hz,e1,r1,newRow]
 · refine .slc _ _ _ _ _ (fun p q=>(cs[p*k+q]?).getD undef) (Nat.le_refl _) (fun p q hp hq=> ?_) (fun _=>⟨_,rfl,rfl⟩) (fun p q hp hq=> ?_)
   · obtain ⟨x,l,q1,q2,q3,q4,q5⟩:=hch p (by omega)
     obtain ⟨c1,c2,c3,_⟩:=(hx _ (List.mem_of_getElem? q1)).cells q3
     simp only at c1 c2 c3
     rw [cX q5] at c1 c3
     have hcell:=r4 p q (a.eval x) (by simpa using (show p<parts.size by simpa using (show p<parts.toList.length by omega))) hq (by rw [List.getElem?_map,q1];simp)
     rw [Nat.zero_add] at hcell
     have hlt:q<(a.eval x).cells.size:=by omega
     rw [Array.getElem?_eq_getElem hlt] at hcell
     refine ⟨_,rfl, ?_, ?_,fun hh=>absurd (hrw _ hh) (by simp)⟩
     · rw [Addr.add_lit,Nat.zero_add,World.cell?_alloc_new,hcell];rfl
     · rw [hcell]
       exact c2 _ (by simp)
   · obtain ⟨x,l,q1,q2,q3,q4,q5⟩:=hch p (by omega)
     obtain ⟨c1,c2,c3,_⟩:=(hx _ (List.mem_of_getElem? q1)).cells q3
     simp only at c1 c2 c3
     rw [cX q5] at c1 c3
     have hcell:=r4 p q (a.eval x) (by simpa using (show p<parts.size by simpa using (show p<parts.toList.length by omega))) hq (by rw [List.getElem?_map,q1];simp)
     rw [Nat.zero_add] at hcell
     have hlt:q<(a.eval x).cells.size:=by omega
     rw [Array.getElem?_eq_getElem hlt] at hcell
     rw [hcell]
     simp only [std,bd,bf,bw,a8,aO,aI,ba,aM,aE,q2,Option.getD_some,bW]
     rw [gEE (by omega)]
     exact ((c3 q _ _ (Array.getElem?_eq_getElem hlt) (gEE (by omega))).closed (dY q5 _ (by simp))).ext (Ext.alloc _ _)
theorem iy{ad:Option Addr}{n c k l h m:Nat}{f:Nat->Nat->SV}(hv:Rel w ρ rw N (.slice ad n c) (.slc n k f))(h1:l<=h)(h2:h<=n)(h3:h<=m):
 Rel w ρ rw N (.slice (if m=l then ad else ad.map (·.add (l*k))) (h - l) (m - l)) (.slc (h - l) k fun i j=>f (l+i) j):=by
 generalize hvv:Value.slice ad n c=v at hv
 cases hv with
 |slc _ _ _ _ _ g hn hc ha hr=>
  injection hvv with e1 e2 e3
  subst e1 e3
  refine .slc _ _ _ _ _ (fun i j=>g (l+i) j) (by omega) (fun i j hi hj=> ?_) (fun h0=> ?_) (fun i j hi hj=>hr _ _ (by omega) hj)
  · rw [if_neg (by omega)]
    obtain ⟨ad',rfl,q1,q2,q3⟩:=hc (l+i) j (by omega) hj
    refine ⟨_,rfl, ?_,q2,by rw [b9];exact q3⟩
    rw [pR,show l*k+(i*k+j)=(l+i)*k+j by rw [Nat.add_mul];omega]
    exact q1
  · rw [if_neg (by omega)]
    obtain ⟨ad',rfl,q1⟩:=ha (by omega)
    refine ⟨_,rfl, ?_⟩
    unfold Addr.add
    split<;>simp [q1]
theorem sQ(ht:aB P t ty)(htag:ty.tag= .slice e k b isb){x:Value}{n:Nat}{f:Nat->Nat->SV}{lo hi mx:Option Operand}{ev:Operand->SV}
 {p:Option Prop} {r:SV} (h:ku std (.slc n k f) (bn ev lo) (bn ev hi) (bn ev mx)=some (p,r)) (hp:aK p) (hx:Rel w ρ rw N x (.slc n k f))
 (hlo: ∀ y,lo=some y->Rel w ρ rw N (a.eval y) (ev y)) (hhi: ∀ y,hi=some y->Rel w ρ rw N (a.eval y) (ev y)) (hmx: ∀ y,mx=some y->Rel w ρ rw N (a.eval y) (ev y)):
 ∃ z,(Instr.sliceAt t x (lo.map a.eval) (hi.map a.eval) (mx.map a.eval)).run P w= .ok z w∧Rel w ρ rw N z r:=by
 obtain ⟨_,d,_,_,hd,_,_,_,_,_,_,_,_,hT⟩:=ht
 rw [htag] at hT
 obtain ⟨rfl,hk0,_,i,z,hi',his,_⟩:=hT
 have hel:P.elem t=e:=by simp [Program.elem,hd]
 have hd':P.underlying t=some (.slice (P.elem t)):=by rw [hel];exact hd
 have hsz: ∀ w,(sizeOf (P.elem t)).run P w= .ok k w:=fun w=>by rw [hel,aW hi',his]
 have hx0:=hx
 cases hx with
 |slc ad _ c _ _ g hn hc ha hr=>
  rw [run_sliceAt_slice w t _ _ _ _ hd']
  unfold ku at h
  simp only at h
  split at h
  · rename_i e1 e2 e3
    simp only [sIE,pIE] at h
    obtain ⟨rfl,rfl⟩:=h
    cases lo<;>cases hi<;>cases mx<;>simp only [bn,reduceCtorEq] at e1 e2 e3
    refine ⟨_,by simp only [Option.map_none];rw [run_slice_all w t ad n c hd',hsz];rfl, ?_⟩
    have:=iy (l:=0) (h:=n) (m:=c) hx0 (by omega) (by omega) (by omega)
    simpa [sliced] using this
  · rename_i q bb e1 e2 e3
    simp only [sIE,pIE] at h
    obtain ⟨rfl,rfl⟩:=h
    cases lo<;>cases hi<;>cases mx<;>simp only [bn,reduceCtorEq,sIE] at e1 e2 e3
    have hv:=hhi _ rfl
    rw [e2] at hv
    simp only [aK,std,bd,bf,bw,a8,aO,aI,ba,aM,aE] at hp
    refine ⟨_,by simp only [Option.map_none,Option.map_some];rw [hv.eq_int,run_slice_h w t ad n c hd' q bb hp.1 (by omega),hsz];rfl, ?_⟩
    have:=iy (l:=0) (h:=bb.toNat) (m:=c) hx0 (by omega) (by omega) (by omega)
    simpa [sliced,std,bd,bf,bw,a8,aO,aI,ba,aM,aE] using this
  · rename_i q aa e1 e2 e3
    simp only [sIE,pIE] at h
    obtain ⟨rfl,rfl⟩:=h
    cases lo<;>cases hi<;>cases mx<;>simp only [bn,reduceCtorEq,sIE] at e1 e2 e3
    have hv:=hlo _ rfl
    rw [e1] at hv
    simp only [aK,std,bd,bf,bw,a8,aO,aI,ba,aM,aE] at hp
    refine ⟨_,by simp only [Option.map_none,Option.map_some];rw [hv.eq_int,run_slice_l w t ad n c hd' q aa hp.1 (by omega),hsz];rfl, ?_⟩
    have:=iy (l:=aa.toNat) (h:=n) (m:=c) hx0 (by omega) (by omega) (by omega)
    simpa [sliced,std,bd,bf,bw,a8,aO,aI,ba,aM,aE] using this
  · rename_i q aa q' bb e1 e2 e3
    simp only [sIE,pIE] at h
    obtain ⟨rfl,rfl⟩:=h
    cases lo<;>cases hi<;>cases mx<;>simp only [bn,reduceCtorEq,sIE] at e1 e2 e3
    have hv:=hlo _ rfl
    have hv':=hhi _ rfl
    rw [e1] at hv
    rw [e2] at hv'
    simp only [aK,std,bd,bf,bw,a8,aO,aI,ba,aM,aE] at hp
    refine ⟨_,by simp only [Option.map_none,Option.map_some];rw [hv.eq_int,hv'.eq_int,run_slice_lh w t ad n c hd' q q' aa bb hp.2.1 (by omega) (by omega),hsz];rfl, ?_⟩
    have:=iy (l:=aa.toNat) (h:=bb.toNat) (m:=c) hx0 (by omega) (by omega) (by omega)
    simpa [sliced,std,bd,bf,bw,a8,aO,aI,ba,aM,aE] using this
  · rename_i q aa q' bb q'' cc e1 e2 e3
    simp only [sIE,pIE] at h
    obtain ⟨rfl,rfl⟩:=h
    cases lo<;>cases hi<;>cases mx<;>simp only [bn,reduceCtorEq,sIE] at e1 e2 e3
    have hv:=hlo _ rfl
    have hv':=hhi _ rfl
    have hv'':=hmx _ rfl
    rw [e1] at hv
    rw [e2] at hv'
    rw [e3] at hv''
    simp only [aK,std,bd,bf,bw,a8,aO,aI,ba,aM,aE] at hp
    refine ⟨_,by simp only [Option.map_none,Option.map_some];rw [hv.eq_int,hv'.eq_int,hv''.eq_int,run_slice_lhm w t ad n c hd' q q' q'' aa bb cc hp.2.2.1 (by omega) (by omega) (by omega),hsz];rfl, ?_⟩
    have:=iy (l:=aa.toNat) (h:=bb.toNat) (m:=cc.toNat) hx0 (by omega) (by omega) (by omega)
    simpa [sliced,std,bd,bf,bw,a8,aO,aI,ba,aM,aE] using this
  · cases h
theorem m5(s:List UInt8)(l h:Nat):(ByteArray.mk s.toArray).extract l h=ByteArray.mk ((s.take h).drop l).toArray:=by
 apply ByteArray.ext
 simp [ByteArray.data_extract,List.extract_toArray,List.extract_eq_take_drop,List.drop_take]
theorem sR(ht:aB P t ty)(htag:ty.tag= .str){x:Value}{s:List UInt8}{lo hi mx:Option Operand}{ev:Operand->SV}
 {p:Option Prop} {r:SV} (h:ku std (.str s) (bn ev lo) (bn ev hi) (bn ev mx)=some (p,r)) (hp:aK p) (hx:Rel w ρ rw N x (.str s))
 (hlo: ∀ y,lo=some y->Rel w ρ rw N (a.eval y) (ev y)) (hhi: ∀ y,hi=some y->Rel w ρ rw N (a.eval y) (ev y)):
 ∃ z,(Instr.sliceAt t x (lo.map a.eval) (hi.map a.eval) (mx.map a.eval)).run P w= .ok z w∧Rel w ρ rw N z r:=by
 obtain ⟨_,d,_,_,hd,_,_,_,_,_,_,_,_,hT⟩:=ht
 rw [htag] at hT
 obtain rfl:=hT
 rw [hx.eq_str,run_sliceAt_string w t _ _ _ _ hd]
 have hsz:(ByteArray.mk s.toArray).size=s.length:=by simp [ByteArray.size]
 unfold ku at h
 simp only at h
 split at h
 · rename_i q aa e1 e2 e3
   simp only [sIE,pIE] at h
   obtain ⟨rfl,rfl⟩:=h
   cases lo<;>cases hi<;>cases mx<;>simp only [bn,reduceCtorEq,sIE] at e1 e2 e3
   have hv:=hlo _ rfl
   rw [e1] at hv
   simp only [aK,std,bd,bf,bw,a8,aO,aI,ba,aM,aE] at hp
   refine ⟨_,by simp only [Option.map_none,Option.map_some];rw [hv.eq_int,run_slice_string_l w t _ hd q aa hp.1 (by rw [hsz];omega)], ?_⟩
   rw [hsz,m5]
   simpa [std,bd,bf,bw,a8,aO,aI,ba,aM,aE] using Rel.of_str (w:=w) (ρ:=ρ) (rw:=rw) (N:=N) ((s.take s.length).drop aa.toNat)
 · rename_i q bb e1 e2 e3
   simp only [sIE,pIE] at h
   obtain ⟨rfl,rfl⟩:=h
   cases lo<;>cases hi<;>cases mx<;>simp only [bn,reduceCtorEq,sIE] at e1 e2 e3
   have hv:=hhi _ rfl
   rw [e2] at hv
   simp only [aK,std,bd,bf,bw,a8,aO,aI,ba,aM,aE] at hp
   refine ⟨_,by simp only [Option.map_none,Option.map_some];rw [hv.eq_int,run_slice_string_h w t _ hd q bb hp.1 (by rw [hsz];omega)], ?_⟩
   rw [m5]
   simpa [std,bd,bf,bw,a8,aO,aI,ba,aM,aE] using Rel.of_str (w:=w) (ρ:=ρ) (rw:=rw) (N:=N) ((s.take bb.toNat).drop 0)
 · rename_i q aa q' bb e1 e2 e3
   simp only [sIE,pIE] at h
   obtain ⟨rfl,rfl⟩:=h
   cases lo<;>cases hi<;>cases mx<;>simp only [bn,reduceCtorEq,sIE] at e1 e2 e3
   have hv:=hlo _ rfl
   have hv':=hhi _ rfl
   rw [e1] at hv
   rw [e2] at hv'
   simp only [aK,std,bd,bf,bw,a8,aO,aI,ba,aM,aE] at hp
   have hbb:(bb.toNat:Int)=bb:=by omega
   refine ⟨.string ((ByteArray.mk s.toArray).extract aa.toNat bb.toNat), ?_, ?_⟩
   · simp only [Option.map_none,Option.map_some]
     rw [hv.eq_int,hv'.eq_int]
     have hle1:(bb.toNat:Int)<=(s.length:Int):=by omega
     have hle:0<=bb∧bb<=(s.length:Int):=by omega
     simp [Instr.slice,run_underlying hd,Instr.sliceBounds,run_sliceBound,hsz,hp.1,hp.2.1,hle,hbb]
   · rw [m5]
     exact Rel.of_str _
 · cases h
end
end Go.Vd
