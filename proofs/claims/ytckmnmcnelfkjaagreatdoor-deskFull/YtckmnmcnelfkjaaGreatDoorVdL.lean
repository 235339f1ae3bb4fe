/- A row of bytes that is written out; made a constant's. -/
import Derived.Test.YtckmnmcnelfkjaaGreatDoorVdX2
set_option linter.unusedVariables false
set_option linter.unusedSimpArgs false
namespace Go.Vd
open Go.RowKit
variable {v:Value}
section
variable {P:Program} {o:Oper} {a:Act} {w:World} {ρ:Nat->Value} {U:Nat->Prop} {c:Ctx} {s:St}
theorem RelC.cells{w w':World}{rw:Nat->Prop}(hc: ∀ a,w'.cell? a=w.cell? a){t:SV}(h:RelC w rw v t):RelC w' rw v t:=by
 induction h with
 |any v=>exact .any v
 |int k n=>exact .int k n
 |bool b=>exact .bool b
 |str s=>exact .str s
 |flt b=>exact .flt b
 |cpx a b=>exact .cpx a b
 |nilp=>exact .nilp
 |nils=>exact .nils
 |slc a n c k f g hn h1 ha hr ih=>exact .slc a n c k f g hn (fun i j hi hj=>by obtain ⟨ad,e,q1,q2,q3⟩:=h1 i j hi hj;exact ⟨ad,e,by rw [hc];exact q1,q2,q3⟩) ha ih
 |val v=>exact .val v
 |emp a=>exact .emp a
 |clo f=>exact .clo f
 |ifc t v s h=>exact .ifc t v s h
 |mth f v s h=>exact .mth f v s h
theorem Rel.cells0{w w':World}{ρ:Nat->Value}{rw N:Nat->Prop}(hc: ∀ a,w'.cell? a=w.cell? a){t:SV}(h:Rel w ρ rw N v t):Rel w' ρ rw N v t:=by
 induction h with
 |any v=>exact .any v
 |un=>exact .un
 |kid key fam i hk hf h1 hi=>exact .kid key fam i hk hf h1 hi
 |int k n=>exact .int k n
 |bool b=>exact .bool b
 |str s=>exact .str s
 |flt b=>exact .flt b
 |cpx a b=>exact .cpx a b
 |nilp=>exact .nilp
 |nils=>exact .nils
 |ptr key off g hk' h=>exact .ptr key off g hk' h
 |rop a k f g hs h1 hr'=>exact .rop a k f g hs (fun j hj=>by rw [hc];exact h1 j hj) fun j hj=>(hr' j hj).cells hc
 |slc a n c k f g hn h1 ha hr'=>exact .slc a n c k f g hn (fun i j hi hj=>by obtain ⟨ad,e,q1,q2,q3⟩:=h1 i j hi hj;exact ⟨ad,e,by rw [hc];exact q1,q2,q3⟩) ha fun i j hi hj=>(hr' i j hi hj).cells hc
 |own key hk' h1=>exact .own key hk' h1
 |eptr key k i off g n c hk' h hi=>exact .eptr key k i off g n c hk' h hi
 |agg cs l hl h1 h hm ih=>exact .agg cs l hl h1 ih hm
 |iptr key base n i g hk h hi=>exact .iptr key base n i g hk h hi
 |fkid key fam n i hk hf hi h1=>exact .fkid key fam n i hk hf hi h1
 |tup cs l hl h ih=>exact .tup cs l hl ih
 |opt c v s h h0 hm ih=>exact .opt c v s ih h0 hm
 |val v=>exact .val v
 |emp a=>exact .emp a
 |part key k lo n a c hk' hn h=>exact .part key k lo n a c hk' hn h
 |clo f cs l hl h hm ih=>exact .clo f cs l hl ih hm
 |ifc t v s h=>exact .ifc t v s h
 |mth f v s h=>exact .mth f v s h
theorem Mp(h:SimR c U s a w ρ){q e k n:Nat}{f:Nat->Nat->SV}(hl:af s.mem q=some (.row e k n f))(hn:0<n){t:TypeId}(ht:P.underlying t=some (.slice e))(he:P.underlying e=some (.int .u8))(hv:Rel w ρ (ae c.F ρ s.mem) U v (.own q)):
 ∃ w',(convert t t v).run P w= .ok v w'∧SimR c U (frz std q s) a w' ρ∧Rel w' ρ (ae c.F ρ (frz std q s).mem) U v (.slc n k f):=by
 have hrow:=h.mem.blk _ (ag hl)
 obtain ⟨xs,⟨_,hx⟩,_⟩:=hrow
 simp only at hx
 rcases hx with ⟨_,h0⟩ | ⟨g,cap,cur,e0,hc0,⟨mk,hg,hmk⟩,hnc,_⟩
 · omega
 have hvq:v=ρ q:=by cases hv;rfl
 subst hvq
 have hbq:av (ρ q)=some g:=by rw [e0,aV hc0]
 let w':World:= { w with heap:=w.heap.modify g fun _=> .cells cur e (cur.size,cur.size+1) }
 have hw'g:w'.heap[g]? =some (.cells cur e (cur.size,cur.size+1)):=by
  have hlt:g<w.heap.size:=(Array.getElem?_eq_some_iff.1 hg).1
  simp only [w',Array.getElem?_modify,if_true,hg,Option.map_some]
 have hw'o: ∀ b,b≠g->w'.heap[b]? =w.heap[b]? :=fun b hb=>by
  simp only [w',Array.getElem?_modify]
  rw [if_neg (fun e=>hb e.symm)]
 have hcell: ∀ ad,w'.cell? ad=w.cell? ad:=fun ad=>by
  unfold World.cell?
  by_cases hb:ad.block=g
  · rw [hb,hw'g,hg]
  · rw [hw'o _ hb]
 have hsz:w'.heap.size=w.heap.size:=by simp [w']
 have hrun:(convert t t (ρ q)).run P w= .ok (ρ q) w':=by
  have hsh:w.shape? g=some (e,cur.size):=by unfold World.shape?;rw [hg]
  have hfr:w.freeze ⟨g,cur.size,none⟩ 1=w':=by
   unfold World.freeze
   rw [if_neg (by decide)]
   have hh:(w.heap.modify g fun
    | .cells c elem (lo,hi)=> .cells c elem (if lo==hi then (cur.size,cur.size+1) else (min lo cur.size,max hi (cur.size+1)))
    |o=>o)=w.heap.modify g fun _=> .cells cur e (cur.size,cur.size+1):=by
    apply Array.ext
    · simp
    · intro i h1 h2
      simp only [Array.getElem_modify]
      by_cases hi:g=i
      · subst hi
        have:w.heap[g]'(by simpa using h1)= .cells cur e mk:=by
         have:=hg
         rw [Array.getElem?_eq_getElem (by simpa using h1)] at this
         simpa using this
        simp only [this]
        rcases hmk with rfl| ⟨rfl,_⟩
        · simp
        · simp
      · simp [hi]
   exact congrArg (fun hp=>({ w with heap:=hp } :World)) hh
  rw [e0]
  simp [convert,run_underlying ht,run_underlying he,markStringish,hsh]
  exact hfr
 have hfs:=B8 h q
 have h1:=hfs.1
 have hfree: ∀ b,av (ρ q)=some b-> ¬ ae c.F ρ (frz std q s).mem b:=fun b hb=>by
  have:=xO h hl rfl b (.inl hb)
  unfold frz
  rw [hl]
  exact this
 refine ⟨w',hrun,⟨h1.dfr,h1.sz,fun t=>(h1.tmps t).cells0 hcell,h1.stk.imp fun v s hv=>hv.cells0 hcell,⟨fun x hx=> ?_,h1.mem.key,h1.mem.apart,fun b hb=>by rw [hsz];exact h1.mem.frg b hb,h1.mem.sorted⟩, ?_,h1.sub,h1.old,h1.glb⟩, ?_⟩
 · have hxb: ∀ b,hasB ρ x b->w'.heap[b]? =w.heap[b]? :=fun b hb=>hw'o b fun e=>hfree g hbq (.inr ⟨x,hx,by rw [<-e];exact hb⟩)
   have hB:=h1.mem.blk x hx
   obtain ⟨key,y⟩:=x
   cases y with
   |box t cells=>
    obtain ⟨g2,arr,q1,q2,q3,q4,q5,q6⟩:=hB
    simp only at q1 q2 q3 q4 q5
    exact ⟨g2,arr,q1,(hxb g2 (.inl (by simp only [q1];rfl))).trans q2,q3,q4,fun i v s hv hs=>(q5 i v s hv hs).cells0 hcell,q6⟩
   |row e2 k2 n2 f2=>
    obtain ⟨ys,⟨q0,q1⟩,q2,q3⟩:=hB
    simp only at q0 q1 q2 q3
    refine ⟨ys,⟨q0, ?_⟩,q2,fun i j v hi hj hv=>(q3 i j v hi hj hv).cells hcell⟩
    rcases q1 with q1| ⟨g2,cap2,cur2,r1,r2,r3,r4⟩
    · exact .inl q1
    · exact .inr ⟨g2,cap2,cur2,r1,r2,r3.same (hxb g2 (.inl (by simp only [r1];exact aV r2))),r4⟩
   |krow e2 K=>
    obtain ⟨ys,q0,q1,q2⟩:=hB
    simp only at q0 q1 q2
    exact ⟨ys,q0.same fun b hb=>hxb b (.inl hb),q1,q2.key,q2.len,q2.size,q2.zero,q2.name,fun i hi=>by
     obtain ⟨zs,z1,z2,z3⟩:=q2.row i hi
     exact ⟨zs,z1.same fun b hb=>hxb b (.inr ⟨i,hi,hb⟩),z2,fun x j v hx hj hv=>(z3 x j v hx hj hv).cells hcell⟩,fun i v p h1 h2 h3 h4 h5=>(q2.frz i v p h1 h2 h3 h4 h5).cells hcell,q2.apart,q2.outer⟩
   |kids K=>
    obtain ⟨q00,q01,ys,q1,q2⟩:=hB
    exact ⟨q00,q01,ys,q1,q2.key,q2.len,q2.size,q2.zero,q2.name,fun i hi=>by
     obtain ⟨zs,z1,z2,z3⟩:=q2.row i hi
     exact ⟨zs,z1.same fun b hb=>hxb b (.inr ⟨i,hi,hb⟩),z2,fun x j v hx hj hv=>(z3 x j v hx hj hv).cells hcell⟩,fun i v p h1 h2 h3 h4 h5=>(q2.frz i v p h1 h2 h3 h4 h5).cells hcell,q2.apart,q2.outer⟩
   |kmap t2 v2 M2=>
    obtain ⟨g2,es,clock,q1,q2,q3⟩:=hB
    simp only at q1 q2 q3
    exact ⟨g2,es,clock,q1,(hxb g2 (.inl (by simp only [q1];rfl))).trans q2,q3⟩
 · have hk:=h1.keep
   refine ⟨hk.os,hk.tape,hk.output,by rw [hsz];exact hk.size,fun b hb hr=> ?_⟩
   rw [hw'o b ?_]
   · exact hk.block b hb hr
   · intro e
     subst e
     rcases h.sub b ⟨_,ag hl, .inl hbq⟩ with h'|h'
     · exact hr h'
     · omega
 · have:=i7 h.mem (rw':=ae c.F ρ (frz std q s).mem) (fun b _ hb=>hfs.2 b hb) hfree (eN h.mem hv hl) hl
   have e1:std.shift f 0=f:=by funext i j;simp [std,aI]
   rw [e1] at this
   exact this.cells0 hcell
end
end Go.Vd
