/- Maps whose keys are a number and a text. -/
import Derived.Test.YtckmnmcnelfkjaaGreatDoorVdL
import Derived.MapKept
set_option linter.unusedVariables false
set_option linter.unusedSimpArgs false
namespace Go.Vd
open Go.RowKit
variable {b:List UInt8} {vb:Bool} {k:Nat} {ty:Ty}
section
variable {P:Program} {o:Oper} {a:Act} {w:World} {ρ:Nat->Value} {U:Nat->Prop} {c:Ctx} {s:St}
def dA (a:Int)(b:ByteArray):Value:= .agg #[.int .u32 a, .string b]
theorem lx(vb:Bool)(a:Int)(b:ByteArray)(n:Int):iu vb ((a,b.data.toList),n)=(dA a b,bif vb then .bool (n !=0) else .int .i64 n):=by
 simp [iu,dA]
theorem IL(hK:sL P k)(vb:Bool)(a:Int)(b:ByteArray)(x:(Int×List UInt8)×Int)(w:World):(Op.equal k (dA a b) (iu vb x).1).run P w= .ok (decide (x.1=(a,b.data.toList))) w:=by
 have:=hK.2.2 a x.1.1 b ⟨x.1.2.toArray⟩ w
 simp only [iu,dA]
 rw [this]
 congr 1
 obtain ⟨⟨p,q⟩,m⟩:=x
 by_cases h1:a=p<;>by_cases h2:b.data.toList=q
 · subst h1;subst h2;simp
 · have h2': ¬ q=b.data.toList:=fun e=>h2 e.symm
   simp [h1,h2,h2']
 · have h1': ¬ p=a:=fun e=>h1 e.symm
   simp [h1,h1']
 · have h1': ¬ p=a:=fun e=>h1 e.symm
   simp [h1,h1']
theorem DW(hK:sL P k)(a:Int)(b:ByteArray)(w:World): ∀(M:MM) (es:List MapEntry) (i:Nat),es.map (fun e=>(e.key,e.val))=M.map (iu vb)->
 (∃ M1 n M2 l1 e l2,M=M1++((a,b.data.toList),n)::M2∧(∀ y∈M1,y.1≠(a,b.data.toList))∧es=l1++e::l2∧l1.length=M1.length∧l1.map (fun e=>(e.key,e.val))=M1.map (iu vb)∧
   (e.key,e.val)=iu vb ((a,b.data.toList),n)∧l2.map (fun e=>(e.key,e.val))=M2.map (iu vb)∧(Instr.findAsking k (dA a b) es i).run P w= .ok (some (i+M1.length,e.val)) w)∨
 ((∀ y∈M,y.1≠(a,b.data.toList))∧(Instr.findAsking k (dA a b) es i).run P w= .ok none w)
 | [], [],i,_=> .inr ⟨(fun y hy=>by cases hy),by simp [Instr.findAsking]⟩
 | [],e::es,i,h=>by simp at h
 |x::M, [],i,h=>by simp at h
 |x::M,e::es,i,h=>by
  simp only [List.map_cons,List.cons.injEq] at h
  have he:=IL hK vb a b x w
  have hk:e.key=(iu vb x).1:=by rw [<-h.1]
  by_cases hx:x.1=(a,b.data.toList)
  · refine .inl ⟨[],x.2,M, [],e,es,by rw [<-hx];rfl,(fun y hy=>by cases hy),rfl,rfl,rfl,by rw [h.1,<-hx],h.2, ?_⟩
    simp only [Instr.findAsking,Sem.run_bind,hk,he,Result.andThen_ok,hx]
    simp
  · have hstep:(Instr.findAsking k (dA a b) (e::es) i).run P w=(Instr.findAsking k (dA a b) es (i+1)).run P w:=by
     simp only [Instr.findAsking,Sem.run_bind,hk,he,Result.andThen_ok,hx]
     simp
    rw [hstep]
    rcases DW hK a b w M es (i+1) h.2 with ⟨M1,n,M2,l1,e',l2,r1,r2,r3,r4,r5,r6,r7,r8⟩ | ⟨r1,r2⟩
    · refine .inl ⟨x::M1,n,M2,e::l1,e',l2,by rw [r1];rfl,fun y hy=> ?_,by rw [r3];rfl,by simp [r4],by simp [h.1,r5],r6,r7, ?_⟩
      · rcases List.mem_cons.1 hy with rfl|hy
        · exact hx
        · exact r2 y hy
      · rw [r8];simp;omega
    · refine .inr ⟨fun y hy=> ?_,r2⟩
      rcases List.mem_cons.1 hy with rfl|hy
      · exact hx
      · exact r1 y hy
theorem FU{M1 M2:MM}{a:Int}{n:Int}(h: ∀ y∈M1,y.1≠(a,b)):dx (M1++((a,b),n)::M2) a b=n:=by
 induction M1 with
 |nil=>simp [dx]
 |cons y M ih=>
  obtain ⟨k,m⟩:=y
  have:=h (k,m) (List.mem_cons_self ..)
  simp only [List.cons_append,dx]
  rw [if_neg this]
  exact ih fun y hy=>h y (List.mem_cons_of_mem _ hy)
theorem DX{M:MM}{a:Int}(h: ∀ y∈M,y.1≠(a,b)):dx M a b=0:=by
 induction M with
 |nil=>rfl
 |cons y M ih=>
  obtain ⟨k,m⟩:=y
  have:=h (k,m) (List.mem_cons_self ..)
  simp only [dx]
  rw [if_neg this]
  exact ih fun y hy=>h y (List.mem_cons_of_mem _ hy)
theorem FV{M1 M2:MM}{a:Int}{n m:Int}(h: ∀ y∈M1,y.1≠(a,b)):dh (M1++((a,b),n)::M2) a b m=M1++((a,b),m)::M2:=by
 induction M1 with
 |nil=>simp [dh]
 |cons y M ih=>
  obtain ⟨k,m⟩:=y
  have:=h (k,m) (List.mem_cons_self ..)
  simp only [List.cons_append,dh]
  rw [if_neg this]
  rw [ih fun y hy=>h y (List.mem_cons_of_mem _ hy)]
theorem DY{M:MM}{a:Int}{m:Int}(h: ∀ y∈M,y.1≠(a,b)):dh M a b m=M++ [((a,b),m)] :=by
 induction M with
 |nil=>rfl
 |cons y M ih=>
  obtain ⟨k,m⟩:=y
  have:=h (k,m) (List.mem_cons_self ..)
  simp only [dh]
  rw [if_neg this,ih fun y hy=>h y (List.mem_cons_of_mem _ hy)]
  rfl
theorem iK(hK:sL P k)(v:Value)(es:List MapEntry)(w:World):(Instr.findKey k v es).run P w=(Instr.findAsking k v es).run P w:=by
 obtain ⟨fs,hu⟩:=hK.1
 cases es with
 |nil=>simp [Instr.findKey,run_underlying hu,Instr.findNow,Instr.findAsking]
 |cons e es=>simp [Instr.findKey,run_underlying hu,Instr.findNow,Instr.sameNow]
theorem B9{rw:Nat->Prop}{v:Value}{p:Int}(h:Rel w ρ rw U v (.agg [.int .u32 p, .str b])): ∃ bs:ByteArray,v=dA p bs∧bs.data.toList=b:=by
 cases h with
 |agg cs _ hl h1 hh hm=>
  have h2:cs.size=2:=hl
  obtain ⟨cl⟩:=cs
  match cl,h2 with
  | [x,y],_=>
    have hx:=hh 0 x (.int .u32 p) rfl rfl
    have hy:=hh 1 y (.str b) rfl rfl
    cases hx
    generalize hs:SV.str b=t at hy
    cases hy with
    |str bs=>cases hs;exact ⟨bs,rfl,rfl⟩
    |_=>cases hs
theorem tD{α:Type}(f:α->α)(e:α)(l2:List α): ∀ l1:List α,(l1++e::l2).modify l1.length f=l1++f e::l2
 | [] =>by simp
 |x::l1=>by simp [tD f e l2 l1]
theorem FW(h:SimR c U s a w ρ){t k e:TypeId}(ht:aB P t ty)(htag:ty.tag= .map k e vb){t' q:Nat}{M:MM}{v kv:Value}{p:Int}{b:List UInt8}
 (hx:Rel w ρ (ae c.F ρ s.mem) U v (.own q)) (hl:af s.mem q=some (.kmap t' vb M)) (hk:Rel w ρ (ae c.F ρ s.mem) U kv (.agg [.int .u32 p, .str b])):
 ∃ z,(Instr.lookup t v kv false).run P w= .ok z w∧Rel w ρ (ae c.F ρ s.mem) U z (bif vb then .bool (std.i2b (std.mget M p b)) else .int .i64 (std.mget M p b)):=by
 obtain ⟨_,d,_,_,hd,_,_,_,_,_,_,_,_,hTT⟩:=ht
 rw [htag] at hTT
 obtain ⟨rfl,hK,hz⟩:=hTT
 obtain ⟨bs,rfl,rfl⟩:=B9 hk
 obtain ⟨r,es,clock,e0,hg,hE⟩:=h.mem.blk _ (ag hl)
 simp only at e0 hg hE
 have hv:v= .map (some r):=by cases hx;exact e0
 subst hv
 have hzr:(zeroValue e).run P w= .ok (bif vb then .bool false else .int .i64 0) w:=by
  cases hi:P.info? e with
  |none=>rw [hi] at hz;cases hz
  |some i=>
   rw [hi] at hz
   have hz:i.zero=some (bif vb then .bool false else .int .i64 0):=hz
   simp [zeroValue,typeInfo,hi,hz]
 have hck:=hK.2.1 es.isEmpty p bs w
 rcases DW hK p bs w M es.toList 0 hE with ⟨M1,n,M2,l1,x,l2,r1,r2,r3,r4,r5,r6,r7,r8⟩ | ⟨r1,r2⟩
 · have hx:x.val=bif vb then .bool (n !=0) else .int .i64 n:=by
    rw [lx] at r6
    exact congrArg Prod.snd r6
   refine ⟨x.val, ?_, ?_⟩
   · simp only [Instr.lookup,Sem.run_bind,run_underlying hd,Result.andThen_ok,run_getObj_map _ _ _ _ hg,Sem.run_pure,dA,hck]
     rw [iK hK]
     simp only [dA] at r8
     rw [r8]
     rfl
   · have e1:std.mget M p bs.data.toList=n:=by rw [r1];exact FU r2
     rw [e1,hx]
     cases vb
     · exact .int _ _
     · exact .bool _
 · refine ⟨bif vb then .bool false else .int .i64 0, ?_, ?_⟩
   · simp only [Instr.lookup,Sem.run_bind,run_underlying hd,Result.andThen_ok,run_getObj_map _ _ _ _ hg,Sem.run_pure,dA,hck]
     rw [iK hK]
     simp only [dA] at r2
     rw [r2]
     simp [hzr]
   · have e1:std.mget M p bs.data.toList=0:=DX r1
     rw [e1]
     cases vb
     · exact .int _ _
     · exact .bool _
theorem O9(h:SimR c U s a w ρ){t k e ty':TypeId}{vb vb':Bool}(ht:aB P t ty)(htag:ty.tag= .map k e vb){t' q:Nat}{M:MM}{v:Value}
 (hx:Rel w ρ (ae c.F ρ s.mem) U v (.own q)) (hl:af s.mem q=some (.kmap t' vb' M)):
 (Builtin.len_ #[t] ty' #[v]).run P w= .ok (.int .i64 (std.mlen M)) w:=by
 obtain ⟨_,d,_,_,hd,_,_,_,_,_,_,_,_,hTT⟩:=ht
 rw [htag] at hTT
 obtain ⟨rfl,hK,hz⟩:=hTT
 obtain ⟨r,es,clock,e0,hg,hE⟩:=h.mem.blk _ (ag hl)
 simp only at e0 hg hE
 have hv:v= .map (some r):=by cases hx;exact e0
 subst hv
 have hn:es.size=M.length:=by
  have:=congrArg List.length hE
  simpa using this
 simp [Builtin.len_,run_underlying hd,run_getObj_map _ _ _ _ hg,hn,goInt,std]
theorem DZ(h:SimR c U s a w ρ){key:Nat}(hk: ¬ U key)(t:TypeId)(vb:Bool)(d:Option Nat):
 ∃ z w',(Instr.makeMap t none).run P w= .ok z w'∧Sim c (aL U key) { s with tmps:=Vd.put s.tmps d (.own key),mem:=ins s.mem key (.kmap t vb []) } (a.put d z) w':=by
 have hnew: ∀ g,av (.map (some w.heap.size))=some g->w.heap.size<=g:=by
  intro g hg
  simp only [av,sIE] at hg
  omega
 refine ⟨.map (some w.heap.size),w.alloc (.map #[] 0),by simp [Instr.makeMap],_,h.add hk (Ext.alloc _ _) (x:= .map (some w.heap.size)) hnew ?_ ?_ d⟩
 · exact ⟨w.heap.size, #[],0,aX _ _ _,heap_alloc_new _ _,rfl⟩
 · have:=Rel.own (w:=w.alloc (.map #[] 0)) (ρ:=aQ ρ key (.map (some w.heap.size))) (rw:=ae c.F (aQ ρ key (.map (some w.heap.size))) (ins s.mem key (.kmap t vb []))) (N:=aL U key) key (.inr rfl) (by rw [aX];rfl)
   rwa [aX] at this
theorem Mq(h:SimR c U s a w ρ){t k e:TypeId}(ht:aB P t ty)(htag:ty.tag= .map k e vb){q:Nat}{t':Nat}{M:MM}{v kv xv:Value}{p n:Int}{b:List UInt8}
 (hx:Rel w ρ (ae c.F ρ s.mem) U v (.own q)) (hl:af s.mem q=some (.kmap t' vb M)) (hk:Rel w ρ (ae c.F ρ s.mem) U kv (.agg [.int .u32 p, .str b])) (hxv:xv=bif vb then .bool (n !=0) else .int .i64 n):
 ∃ w',(Instr.mapUpdate t v kv xv).run P w= .ok () w'∧SimR c U { s with mem:=upd s.mem q (.kmap t' vb (std.mput M p b n)) } a w' ρ:=by
 obtain ⟨_,d,_,_,hd,_,_,_,_,_,_,_,_,hTT⟩:=ht
 rw [htag] at hTT
 obtain ⟨rfl,hK,hz⟩:=hTT
 obtain ⟨bs,rfl,rfl⟩:=B9 hk
 obtain ⟨r,es,clock,e0,hg,hE⟩:=h.mem.blk _ (ag hl)
 simp only at e0 hg hE
 have hv:v= .map (some r):=by cases hx;exact e0
 subst hv
 have hck:=hK.2.1 false p bs w
 have fin: ∀(es':Array MapEntry) (clock':Nat),es'.toList.map (fun e=>(e.key,e.val))=(std.mput M p bs.data.toList n).map (iu vb)->
  SimR c U { s with mem:=upd s.mem q (.kmap t' vb (std.mput M p bs.data.toList n)) } a { w with heap:=w.heap.setIfInBounds r (.map es' clock') } ρ:=fun es' clock' hes=>by
  obtain ⟨m1,m2,m3,m4⟩:=h.mem.write (w':= { w with heap:=w.heap.setIfInBounds r (.map es' clock') }) (b:= .kmap t' vb (std.mput M p bs.data.toList n)) hl (g:=r) (by rw [e0];rfl) rfl rfl rfl (by simp) (fun k hk=>(MapKept.heap_set hg).2 k hk)
   ⟨r,es',clock',e0,(MapKept.heap_set hg).1,hes⟩
  exact h.written m1 m2 m3 m4
 rcases DW hK p bs w M es.toList 0 hE with ⟨M1,n0,M2,l1,x,l2,r1,r2,r3,r4,r5,r6,r7,r8⟩ | ⟨r1,r2⟩
 · have hxk:x.key=dA p bs:=by
    rw [lx] at r6
    exact congrArg Prod.fst r6
   have hget:es[M1.length]? =some x:=by
    rw [<-Array.getElem?_toList,r3,<-r4];simp
   have hst:(Instr.keyThatStays (dA p bs) (dA p bs)).run P w= .ok (dA p bs) w:=by
    have:Instr.sameBits 10000 (dA p bs) (dA p bs)=true:=by simp [Instr.sameBits,dA,MapKept.bytes_beq]
    simp [Instr.keyThatStays,this]
   refine ⟨_, ?_,fin (es.modify M1.length fun e=> { e with key:=dA p bs,val:=xv }) clock ?_⟩
   · simp only [Instr.mapUpdate,Sem.run_bind,run_underlying hd,Result.andThen_ok,run_getObj_map _ _ _ _ hg,dA,hck]
     rw [iK hK]
     simp only [dA] at r8 hxk hst
     rw [r8]
     simp only [Result.andThen_ok,Nat.zero_add,hget,Option.map_some,Option.getD_some,hxk,Sem.run_bind,hst,MapKept.run_setObj_map _ hg]
   · have e1:std.mput M p bs.data.toList n=M1++((p,bs.data.toList),n)::M2:=by rw [r1];exact FV r2
     rw [e1,Array.toList_modify,r3,<-r4,tD]
     simp [r5,r7,lx,hxv]
 · refine ⟨_, ?_,fin (es.push { key:=dA p bs,val:=xv,born:=clock }) (clock+1) ?_⟩
   · simp only [Instr.mapUpdate,Sem.run_bind,run_underlying hd,Result.andThen_ok,run_getObj_map _ _ _ _ hg,dA,hck]
     rw [iK hK]
     simp only [dA] at r2
     rw [r2]
     simp only [Result.andThen_ok,MapKept.run_setObj_map _ hg]
   · have e1:std.mput M p bs.data.toList n=M++ [((p,bs.data.toList),n)] :=DY r1
     rw [e1]
     simp [hE,lx,hxv]
end
end Go.Vd
