/- Two operations of which neither waits for the other one come to the same in either order. -/
import Derived.Test.YtckmnmcnelfkjaaGreatDoorVdRegion
set_option linter.unusedVariables false
set_option linter.unusedSimpArgs false
namespace Go.Vd
open Go.RowKit
variable {all:List Oper} {tmps:List SV} {p:Option Prop} {base i:Nat} {o:Oper} {m m1:Mem} {k:Nat} {e:Operand->SV} {r:SV} {s:SV} {op:Op} {ρ:Nat->Value} {rw U:Nat->Prop} {d:Option Nat} {t:Nat} {key:Nat} {w:World} {v:Value} {oi oj:Oper} {x:Operand}
section
variable {A:Ar} {T:Tys} {G:Pu}
theorem jx{e e':Operand->SV} : ∀ {l:List Operand},(∀ x∈l,e x=e' x)->bu e l=bu e' l
 | [],_=>rfl
 |x::l,h=>by simp only [bu,h x (List.mem_cons_self ..),jx fun y hy=>h y (List.mem_cons_of_mem _ hy)]
theorem lP{e e':Operand->SV}{x:Option Operand}(h: ∀ y,x=some y->e y=e' y):bn e x=bn e' x:=by
 cases x with
 |none=>rfl
 |some y=>simp only [bn,h y rfl]
theorem oQ{e e':Operand->SV}{pl:Nat->Option (Nat×Nat)} : ∀ {l:List (Nat×Operand)} {c:List SV},(∀ x∈l,e x.2=e' x.2)->iq e pl c l=iq e' pl c l
 | [],_,_=>rfl
 | (i,x)::l,c,h=>by
   have h0:e x=e' x:=h (i,x) (List.mem_cons_self ..)
   simp only [iq,h0]
   split
   · rename_i off size l' _ _
     cases (Nat.beq (bq l') size && Nat.ble (off+size) (bq c))<;>simp only [cond_true,cond_false]
     exact oQ fun y hy=>h y (List.mem_cons_of_mem _ hy)
   · rfl
theorem kV{e e':Operand->SV} : ∀ {l:List (Nat×Operand)} {i:Nat},(∀ x∈l,e x.2=e' x.2)->fD e k i l=fD e' k i l
 | [],_,_=>rfl
 | (j,x)::l,i,h=>by
   have h0:e x=e' x:=h (j,x) (List.mem_cons_self ..)
   simp only [fD,h0,kV (l:=l) (i:=i+1) fun y hy=>h y (List.mem_cons_of_mem _ hy)]
theorem mp{e e':Operand->SV} : ∀ {l:List Operand},(∀ x∈l,e x=e' x)->fU A e l=fU A e' l
 | [],_=>rfl
 |x::l,h=>by simp only [fU,h x (List.mem_cons_self ..),mp fun y hy=>h y (List.mem_cons_of_mem _ hy)]
theorem FE{parts:Array (Nat×Operand)}{x:Nat×Operand}(h:x∈parts.toList)(t:TypeId):x.2∈(Op.build t parts).operands.toList:=by
 simp only [Op.operands]
 exact List.mem_map.2 ⟨x,h,rfl⟩
theorem tk{parts:Array (Nat×Operand)}{x:Nat×Operand}(h:x∈parts.toList)(t n:Nat):x.2∈(Op.buildSlice t n parts).operands.toList:=by
 simp only [Op.operands]
 exact List.mem_map.2 ⟨x,h,rfl⟩
theorem dH{c:Call}(h:x∈c.args.toList):x∈(Op.call c).operands.toList:=by
 simp only [Op.operands,Call.operands]
 simp
 right
 simpa using h
theorem oR{e e':Operand->SV}{m:Mem}(h: ∀ x∈op.operands.toList,e x=e' x):aw A T G op e m=aw A T G op e' m:=by
 cases op with
 |move x=>simp only [aw,h x (by simp [Op.operands])]
 |assign x=>simp only [aw,h x (by simp [Op.operands])]
 |nilCheck x=>simp only [aw,h x (by simp [Op.operands])]
 |pick c a b=>simp only [aw,h c (by simp [Op.operands]),h a (by simp [Op.operands]),h b (by simp [Op.operands])]
 |load t p=>simp only [aw,h p (by simp [Op.operands])]
 |fieldAddr t x i=>simp only [aw,h x (by simp [Op.operands])]
 |indexAddr t x i=>simp only [aw,h x (by simp [Op.operands]),h i (by simp [Op.operands])]
 |index t x i=>simp only [aw,h x (by simp [Op.operands]),h i (by simp [Op.operands])]
 |binOp b t x y t'=>simp only [aw,h x (by simp [Op.operands]),h y (by simp [Op.operands])]
 |unOp b t x=>cases b<;>simp only [aw,h x (by simp [Op.operands])]
 |convert s d x=>simp only [aw,h x (by simp [Op.operands])]
 |extract t i=>simp only [aw,h t (by simp [Op.operands])]
 |field t x i=>simp only [aw,h x (by simp [Op.operands])]
 |build t parts=>
  have:=fun pl c=>oQ (e:=e) (e':=e') (pl:=pl) (l:=parts.toList) (c:=c) fun x hx=>h x.2 (FE hx t)
  simp only [aw,this]
 |buildSlice t n parts=>
  have:=fun k i=>kV (e:=e) (e':=e') (k:=k) (l:=parts.toList) (i:=i) fun x hx=>h x.2 (tk hx t n)
  simp only [aw,this]
 |slice t x lo hi mx=>
  have h1:=h x (by simp [Op.operands])
  have h2:bn e lo=bn e' lo:=lP fun y hy=>h y (by simp [Op.operands,hy])
  have h3:bn e hi=bn e' hi:=lP fun y hy=>h y (by simp [Op.operands,hy])
  have h4:bn e mx=bn e' mx:=lP fun y hy=>h y (by simp [Op.operands,hy])
  simp only [aw,h1,h2,h3,h4]
 |makeFunc fn first captured=>
  have ha:bu e captured.toList=bu e' captured.toList:=jx fun x hx=>h x (by simp [Op.operands];exact .inr (by simpa using hx))
  have hx: ∀ x,first.toList= [x] ->e x=e' x:=fun x hx=>h x (by
   have:x∈first:=by rw [<-Array.mem_toList_iff,hx];simp
   simp [Op.operands,this])
  cases fn<;>simp only [aw,ha]
  split
  · rfl
  · rename_i x hxa
    rw [hx x hxa]
  · rfl
 |makeInterface t x=>simp only [aw,h x (by simp [Op.operands])]
 |call c=>
  obtain ⟨callee,args,ts⟩:=c
  have ha:bu e args.toList=bu e' args.toList:=jx fun x hx=>h x (dH hx)
  cases callee with
  |value f=>
   cases f with
   |tmp t=>simp only [aw,ha,h (.tmp t) (by simp [Op.operands,Call.operands])]
   |func|const|global=>simp only [aw,ha]
  |invoke r n=>rfl
  |builtin b=>
   have hx: ∀ x,args.toList= [x] ->e x=e' x:=fun x hx=>h x (dH (by rw [hx];simp))
   have hxy: ∀ x y,args.toList= [x,y] ->e x=e' x∧e y=e' y:=fun x y hx=>⟨h x (dH (by rw [hx];simp)),h y (dH (by rw [hx];simp))⟩
   cases b<;>first
    |rfl
    | (simp only [aw]
       split
       · rename_i x y hxa
         rw [(hxy x y hxa).1,(hxy x y hxa).2]
       · rfl)
    | (simp only [aw]
       split
       · rename_i x hxa
         rw [hx x hxa]
       · rfl)
    | (simp only [aw]
       split
       · rename_i x t hxa _
         rw [hx x hxa]
       · rfl)
 |_=>rfl
theorem dU(h:eo k s):eO k s:=by cases s<;>first|exact h|cases h
theorem ic(h:cA k s):eo k s:=by cases s<;>first|exact h|cases h
theorem lv(h:eO k s):gr k s:=by cases s<;>first|exact h|cases h
theorem IC(h:gr k s):bT k s:=by cases s<;>first|exact h|cases h
theorem gX(h:eO k s):bT k s:=IC (lv h)
theorem xC(h:eo k s):bT k s:=gX (dU h)
theorem jE{m m':Mem}(h: ∀ k,eo k s->af m k=af m' k):aZ A m s=aZ A m' s:=by
 cases s with
 |own k=>simp only [aZ,h k rfl]
 |part k=>simp only [aZ,h k rfl]
 |kid k q i=>simp only [aZ,h k (.inl rfl)]
 |fkid k q n i=>simp only [aZ,h k (.inl rfl)]
 |krun k q n=>simp only [aZ,h k (.inl rfl)]
 |_=>rfl
theorem FF{m m':Mem}(h: ∀ k,eo k s->af m k=af m' k):cF m s=cF m' s:=by
 cases s with
 |own k=>simp only [cF,h k rfl]
 |_=>rfl
theorem tl{m m':Mem} : ∀ {l:List SV},(∀ k,(∃ s∈l,eo k s)->af m k=af m' k)->eW A m l=eW A m' l
 | [],_=>rfl
 |s::l,h=>by
  simp only [eW,jE (A:=A) (m:=m) (m':=m') (s:=s) fun k hk=>h k ⟨s,List.mem_cons_self ..,hk⟩,tl (l:=l) fun k ⟨t,ht,hk⟩=>h k ⟨t,List.mem_cons_of_mem _ ht,hk⟩]
theorem oS{m m':Mem} : ∀ {l:List SV},(∀ s∈l,∀ k,eO k s->af m k=af m' k)->bK A m l=bK A m' l
 | [],_=>rfl
 |s::l,h=>by
  have ih:=oS (l:=l) fun t ht=>h t (List.mem_cons_of_mem _ ht)
  have hs:=h s (List.mem_cons_self ..)
  cases s with
  |agg q=>simp only [bK,ih,tl (A:=A) (m:=m) (m':=m') (l:=q) hs]
  |_=>simp only [bK,ih,jE (A:=A) (m:=m) (m':=m') fun k hk=>hs k (dU hk)]
theorem vU : ∀ {l:List Operand},s∈bu e l-> ∃ x∈l,e x=s
 | [],h=>by cases h
 |x::l,h=>by
  rcases List.mem_cons.1 h with rfl|h
  · exact ⟨x,List.mem_cons_self ..,rfl⟩
  · obtain ⟨y,hy,e⟩:=vU h
    exact ⟨y,List.mem_cons_of_mem _ hy,e⟩
theorem tq{m m':Mem}(h: ∀ x∈op.operands.toList,∀ k,eO k (e x)->af m k=af m' k):aw A T G op e m=aw A T G op e m':=by
 cases op with
 |load t p=>
  have hp:=h p (by simp [Op.operands])
  simp only [aw]
  cases he:e p with
  |ptr k off=>rw [he] at hp;cases T t<;>simp only [hp k rfl]
  |iptr k b n i=>rw [he] at hp;cases T t<;>simp only [hp k rfl]
  |eptr k q i off=>rw [he] at hp;cases T t<;>simp only [hp k rfl]
  |_=>cases T t<;>rfl
 |indexAddr t x i=>
  have hp:=h x (by simp [Op.operands])
  simp only [aw]
  cases he:e x with
  |own k=>rw [he] at hp;cases e i<;>cases T t<;>simp only [hp k rfl]
  |part k=>rw [he] at hp;cases e i<;>cases T t<;>simp only [hp k rfl]
  |_=>cases e i<;>cases T t<;>rfl
 |slice t x lo hi mx=>
  have hp:=h x (by simp [Op.operands])
  simp only [aw]
  cases he:e x with
  |own k=>rw [he] at hp;simp only [hp k rfl]
  |part k=>rw [he] at hp;simp only [hp k rfl]
  |_=>rfl
 |makeFunc fn first captured=>cases fn<;>rfl
 |convert s d x=>simp only [aw,jE (A:=A) (m:=m) (m':=m') (s:=e x) fun k hk=>h x (by simp [Op.operands]) k (dU hk)]
 |unOp b t x=>cases b<;>rfl
 |call c=>
  obtain ⟨callee,args,ts⟩:=c
  cases callee with
  |value f=>
   cases f<;>first|rfl|skip
   all_goals
    have:bK A m (bu e args.toList)=bK A m' (bu e args.toList):=oS fun s hs k hk=>by
     obtain ⟨x,hx,rfl⟩:=vU hs
     exact h x (dH hx) k hk
    simp only [aw,this]
  |invoke r n=>rfl
  |builtin b=>
   cases b<;>first|rfl|skip
   simp only [aw]
   split
   · rename_i x t hxa _
     rw [jE (A:=A) (m:=m) (m':=m') (s:=e x) fun k hk=>h x (dH (by rw [hxa];simp)) k (dU hk)]
   · rfl
 |_=>rfl
theorem lQ(m m':Mem)(h:cE op= .none):aw A T G op e m=aw A T G op e m':=by
 cases op with
 |unOp b t x=>cases b<;>rfl
 |load|indexAddr|convert|slice=>cases h
 |makeFunc fn first captured=>cases fn<;>rfl
 |call c=>
  obtain ⟨callee,args,ts⟩:=c
  cases callee with
  |value f=>cases h
  |invoke r n=>rfl
  |builtin b=>cases b<;>first|rfl|cases h
 |_=>rfl
theorem FG{e:Operand->SV}{m m' m1:Mem}{key:Nat}{p:Option Prop}{r:SV}(ht:cE op≠ .writes)
 (h:cE op= .none∨ ∀ x∈op.operands.toList,∀ k,eO k (e x)->af m k=af m' k) (hc:bA A T G op e m key=some (p,r,m1)):
 (m1=m∧bA A T G op e m' key=some (p,r,m'))∨(cE op≠ .none∧ ∃ b,m1=ins m key b∧bA A T G op e m' key=some (p,r,ins m' key b)):=by
 have cF: ∀ op:Op,aw A T G op e m=aw A T G op e m'->(match aw A T G op e m with|some (p,r)=>some (p,r,m) |none=>none)=some (p,r,m1)->
  (m1=m∧(match aw A T G op e m' with|some (p,r)=>some (p,r,m') |none=>none)=some (p,r,m')):=by
  intro op hm hh
  rw [hm] at hh
  split at hh
  · rename_i p' r' hp'
    simp only [sIE,pIE] at hh
    obtain ⟨rfl,rfl,rfl⟩:=hh
    exact ⟨rfl,rfl⟩
  · cases hh
 have hpm:aw A T G op e m=aw A T G op e m':=by
  rcases h with h|h
  · exact lQ m m' h
  · exact tq h
 cases op with
 |store=>exact absurd rfl ht
 |alloc t=>
  simp only [bA] at hc ⊢
  split at hc
  · rename_i ty hty
    cases hzz:zOk ty.zero<;>simp only [hzz,cond_true,cond_false,reduceCtorEq,sIE,pIE] at hc ⊢
    obtain ⟨rfl,rfl,rfl⟩:=hc
    exact .inr ⟨(fun e=>by cases e),_,rfl,rfl,rfl,rfl⟩
  · cases hc
 |box t x=>
  simp only [bA] at hc ⊢
  split at hc
  · simp only [sIE,pIE] at hc
    obtain ⟨rfl,rfl,rfl⟩:=hc
    exact .inr ⟨(fun e=>by cases e),_,rfl,rfl⟩
  · cases hc
 |makeSlice t x y=>
  refine .inr ⟨(fun e=>by cases e), ?_⟩
  simp only [bA] at hc ⊢
  split at hc
  · split at hc
    · split at hc
      · rename_i te hte
        split at hc
        · rename_i kk _ _ e1 k1 hkr hz0
          cases hb:Nat.beq _ 1<;>rw [hb] at hc<;>simp only [cond_true,cond_false,reduceCtorEq,sIE,pIE] at hc
          obtain ⟨rfl,rfl,rfl⟩:=hc
          exact ⟨_,rfl,rfl⟩
        · cases hb:(bM te.zero && Nat.beq (len te.zero) _)<;>rw [hb] at hc<;>simp only [cond_true,cond_false,reduceCtorEq,sIE,pIE] at hc
          obtain ⟨rfl,rfl,rfl⟩:=hc
          exact ⟨_,rfl,rfl⟩
      · cases hc
    · cases hc
  · cases hc
 |buildSlice t n parts=>
  cases n with
  |zero=>
   simp only [bA] at hc ⊢
   split at hc
   · split at hc
     · simp only [sIE,pIE] at hc
       obtain ⟨rfl,rfl,rfl⟩:=hc
       exact .inr ⟨(fun e=>by cases e),_,rfl,rfl⟩
     · cases hc
   · cases hc
  |succ n=>
   simp only [bA] at hc ⊢
   cases hbs:uo T t (n+1) parts e with
   |some y=>
    rw [hbs] at hc
    simp only [sIE,pIE] at hc
    obtain ⟨rfl,rfl,rfl⟩:=hc
    exact .inr ⟨(fun e=>by cases e),_,rfl,rfl⟩
   |none=>
    rw [hbs] at hc
    exact .inl (cF _ hpm hc)
 |call c=>
  obtain ⟨callee,args,ts⟩:=c
  cases callee with
  |value f=>
   cases f with
   |func f=>
    simp only [bA] at hc ⊢
    rw [hpm] at hc
    split at hc
    · split at hc
      · rename_i r' b hcl
        simp only [sIE,pIE] at hc
        obtain ⟨rfl,rfl,rfl⟩:=hc
        exact .inr ⟨(fun e=>by cases e),_,rfl,rfl⟩
      · rename_i r' hcl
        simp only [sIE,pIE] at hc
        obtain ⟨rfl,rfl,rfl⟩:=hc
        exact .inl ⟨rfl,rfl⟩
    · cases hc
   |tmp|const|global=>exact .inl (cF _ hpm hc)
  |invoke r n=>exact .inl (cF _ hpm hc)
  |builtin b=>cases b<;>first|exact absurd rfl ht|exact .inl (cF _ hpm hc)
 |convert src dst x=>
  simp only [bA] at hc ⊢
  cases hcv:Il T src dst (e x) with
  |some y=>
   rw [hcv] at hc
   simp only [sIE,pIE] at hc
   obtain ⟨rfl,rfl,rfl⟩:=hc
   exact .inr ⟨(fun e=>by cases e),_,rfl,rfl⟩
  |none=>
   rw [hcv] at hc
   exact .inl (cF _ hpm hc)
 |_=>exact .inl (cF _ hpm hc)
theorem AR{e e':Operand->SV}{m:Mem}(h: ∀ x∈op.operands.toList,e x=e' x):bA A T G op e m key=bA A T G op e' m key:=by
 have hp:=oR (A:=A) (T:=T) (G:=G) (m:=m) h
 cases op with
 |alloc t=>rfl
 |box t x=>simp only [bA,h x (by simp [Op.operands])]
 |store t p x=>simp only [bA,h p (by simp [Op.operands]),h x (by simp [Op.operands])]
 |makeSlice t x y=>simp only [bA,h x (by simp [Op.operands]),h y (by simp [Op.operands])]
 |buildSlice t n parts=>
  cases n with
  |zero=>rfl
  |succ n=>
   have hch:=fun k i=>kV (e:=e) (e':=e') (k:=k) (l:=parts.toList) (i:=i) fun x hx=>h x.2 (tk hx t (n+1))
   have hb:uo T t (n+1) parts e=uo T t (n+1) parts e':=by simp only [uo,hch]
   simp only [bA,hp,hb]
 |convert src dst x=>simp only [bA,hp,h x (by simp [Op.operands])]
 |call c=>
  obtain ⟨callee,args,ts⟩:=c
  cases callee with
  |value f=>cases f<;>simp only [bA,hp]
  |invoke r n=>simp only [bA,hp]
  |builtin b=>
   cases b<;>first
    | (simp only [bA,hp];done)
    |skip
   simp only [bA]
   split
   · rename_i x y t u hxa _
     rw [h x (dH (by rw [hxa];simp)),h y (dH (by rw [hxa];simp))]
   · rfl
 |_=>simp only [bA,hp]
theorem AU{gv:SV}{want:Bool}{e e':Operand->SV}{m:Mem}{base:Nat}(h: ∀ x∈op.operands.toList,e x=e' x):cW A T G op gv want e m base=cW A T G op gv want e' m base:=by
 have h1:=oR (A:=A) (T:=T) (G:=G) (op:=op) (m:=m) (e:=lG e op) (e':=lG e' op) fun x hx=>by
  unfold lG
  split
  · rename_i t y z
    cases x with
    |tmp t'=>simp only [h _ hx]
    |_=>exact h _ hx
  · simp only [wW,h x hx]
 have h2:mS A e op=mS A e' op:=by
  unfold mS
  split
  · rename_i t y z
    rw [h (.tmp t) (by simp [Op.operands])]
  · exact mp (A:=A) h
 simp only [cW,h1,h2]
theorem FH{op:Op}{gv:SV}{want:Bool}{e:Operand->SV}{m m' m1:Mem}{base:Nat}{p:Option Prop}{r:SV}
 (h:cE op= .none∨ ∀ x∈op.operands.toList,∀ k,eO k (wW e x)->af m k=af m' k) (hc:cW A T G op gv want e m base=some (p,r,m1)):
 m1=m∧cW A T G op gv want e m' base=some (p,r,m'):=by
 have hpm:aw A T G op (lG e op) m=aw A T G op (lG e op) m':=by
  rcases h with h|h
  · exact lQ m m' h
  · cases op with
    |pick c y z=>exact lQ m m' rfl
    |_=>exact tq h
 simp only [cW] at hc ⊢
 rw [hpm] at hc
 split at hc
 · split at hc
   · cases hc
   · cases hc
   · simp only [sIE,pIE] at hc
     obtain ⟨rfl,rfl,rfl⟩:=hc
     exact ⟨rfl,rfl⟩
 · cases hc
theorem ID(tmps:List SV){d d':Option Nat}(x y:SV)(h: ∀ k,d=some k->d'≠some k):put (put tmps d x) d' y=put (put tmps d' y) d x:=by
 cases d with
 |none=>cases d'<;>rfl
 |some k=>
  cases d' with
  |none=>rfl
  |some k'=>
   simp only [put,i4]
   rw [List.set_comm]
   intro e
   exact h k rfl (by rw [e])
theorem vV{x:SV}(h: ∀ k,d=some k->k≠t):ap (put tmps d x) t=ap tmps t:=by
 cases d with
 |none=>rfl
 |some k=>simp only [put,i4,bW,List.getElem?_set,if_neg (h k rfl)]
theorem oT{gl:Nat->SV}{x:SV}{y:Operand}(h: ∀ k,d=some k->y≠ .tmp k):ev gl (put tmps d x) y=ev gl tmps y:=by
 cases y with
 |tmp t=>exact vV fun k hk e=>h k hk (by rw [e])
 |const v=>cases v<;>rfl
 |_=>rfl
theorem f7{a b:Blk}{k k':Nat}(h:k≠k'): ∀ m:Mem,ins (ins m k a) k' b=ins (ins m k' b) k a
 | [] =>by
   simp only [ins]
   cases h1:Nat.ble k k'<;>cases h2:Nat.ble k' k<;>simp only [cond_true,cond_false]
   · have: ¬ k<=k':=fun e=>by rw [Nat.ble_eq_true_of_le e] at h1;cases h1
     have: ¬ k'<=k:=fun e=>by rw [Nat.ble_eq_true_of_le e] at h2;cases h2
     omega
   · have:=Nat.le_of_ble_eq_true h1
     have:=Nat.le_of_ble_eq_true h2
     omega
 | (q,c)::m=>by
   have ih:=f7 (a:=a) (b:=b) h m
   have t1: ∀ x y:Nat,Nat.ble x y=true↔x<=y:=fun x y=>⟨Nat.le_of_ble_eq_true,Nat.ble_eq_true_of_le⟩
   have t2: ∀ x y:Nat,Nat.ble x y=false↔ ¬ x<=y:=fun x y=>by rw [<-t1,Bool.not_eq_true]
   simp only [ins]
   cases h1:Nat.ble q k<;>cases h2:Nat.ble q k'<;>simp only [cond_true,cond_false,ins,h1,h2]
   · rw [ih]
   · have h3:Nat.ble k k'=true:=by rw [t1];rw [t2] at h1;rw [t1] at h2;omega
     have h4:Nat.ble k' k=false:=by rw [t2];rw [t2] at h1;rw [t1] at h2;omega
     simp only [h4,cond_false]
   · have h3:Nat.ble k k'=false:=by rw [t2];rw [t1] at h1;rw [t2] at h2;omega
     simp only [h3,cond_false,ins,h2]
   · cases h3:Nat.ble k k'<;>cases h4:Nat.ble k' k<;>simp only [cond_true,cond_false,ins,h1,h2]
     · rw [t2] at h3 h4;omega
     · rw [t1] at h3 h4;omega
theorem cq{b:Blk}{k q:Nat}(h:q≠k): ∀ m:Mem,af (ins m k b) q=af m q
 | [] =>by
   simp only [ins,af]
   cases hb:Nat.beq k q
   · rfl
   · exact absurd (nQE hb).symm h
 | (j,c)::m=>by
   simp only [ins]
   cases Nat.ble j k<;>simp only [cond_true,cond_false,af,cq h m]
   cases hb:Nat.beq k q
   · rfl
   · exact absurd (nQE hb).symm h
def bX (A:Ar)(T:Tys)(G:Pu)(all:List Oper)(base i:Nat)(o:Oper)(tmps:List SV)(m:Mem):Option (Option Prop×SV×Mem):=
 match o.guard with
 |some (j,want)=>match j5 all j with
  |some d=>cW A T G o.op (ap tmps d) want (ev T.gl tmps) m base
  |none=>none
 |none=>bA A T G o.op (ev T.gl tmps) m (base+i)
def bQ (A:Ar)(T:Tys)(G:Pu)(all:List Oper)(base i:Nat)(o:Oper)(tmps:List SV)(m:Mem):Option (Option Prop×SV×Mem):=oe (uq all o) (base+i) (bX A T G all base i o tmps m)
theorem cK{m:Mem}(h:cJ o.op=false):bQ A T G all base i o tmps m=bX A T G all base i o tmps m:=by
 unfold bQ uq
 rw [h]
 exact kf _
theorem DO(h:cJ op=true):cE op= .writes:=by
 cases op with
 |call c=>
  obtain ⟨callee,args,ts⟩:=c
  cases callee with
  |builtin b=>cases b<;>first|rfl|cases h
  |value f=>cases h
  |invoke x n=>cases h
 |_=>cases h
theorem apG{gv:SV}{want:Bool}{m:Mem}{base:Nat}(h:cJ op=true):cW A T G op gv want e m base=none:=by
 cases op with
 |call c=>
  obtain ⟨callee,args,ts⟩:=c
  cases callee with
  |builtin b=>
   cases b<;>first| (cases h;done) |skip
   unfold cW
   simp only [aw]
   split
   · rename_i hp;cases hp
   · rfl
  |value f=>cases h
  |invoke x n=>cases h
 |_=>cases h
theorem AV{s:St} :dz A T G all base i o s=fin o s (bQ A T G all base i o s.tmps s.mem):=by
 unfold dz bQ bX
 cases hg:o.guard with
 |none=>rfl
 |some x=>
  obtain ⟨j,want⟩:=x
  simp only
  cases hd:j5 all j with
  |none=>rfl
  |some d=>
   simp only
   cases ha:cJ o.op
   · unfold uq;rw [ha];exact congrArg (fin o s) (kf _).symm
   · rw [apG ha];rfl
theorem FI{base i:Nat}{tmps:List SV}{m:Mem}{x:SV}(h: ∀ k,d=some k->k∉o.looksAt all.toArray):
 bX A T G all base i o (put tmps d x) m=bX A T G all base i o tmps m:=by
 have hev: ∀ y∈o.op.operands.toList,ev T.gl (put tmps d x) y=ev T.gl tmps y:=fun y hy=>oT fun k hk e=>h k hk (by
  subst e
  exact List.mem_append_left _ (List.mem_filterMap.2 ⟨.tmp k,hy,rfl⟩))
 unfold bX
 split
 · rename_i j want hg
   split
   · rename_i dd hd
     have hgd:ap (put tmps d x) dd=ap tmps dd:=vV fun k hk e=>h k hk (by
      subst e
      refine List.mem_append_right _ ?_
      rw [hg]
      simp only [nb hd]
      simp)
     rw [hgd]
     exact AU hev
   · rfl
 · exact AR hev
theorem FJ{all:List Oper}{base i:Nat}{tmps:List SV}{m m' m1:Mem}{p:Option Prop}{r:SV}(ht:cE o.op≠ .writes)
 (h:cE o.op= .none∨ ∀ x∈o.op.operands.toList,∀ k,bT k (ev T.gl tmps x)->af m k=af m' k) (hc:bX A T G all base i o tmps m=some (p,r,m1)):
 (m1=m∧bX A T G all base i o tmps m'=some (p,r,m'))∨(cE o.op≠ .none∧ ∃ b,m1=ins m (base+i) b∧bX A T G all base i o tmps m'=some (p,r,ins m' (base+i) b)):=by
 unfold bX at hc ⊢
 split at hc
 · rename_i j want hg
   split at hc
   · rename_i d hd
     refine .inl (FH ?_ hc)
     rcases h with h|h
     · exact .inl h
     · refine .inr fun x hx k hk=>h x hx k ?_
       unfold wW at hk
       cases he:ev T.gl tmps x with
       |opt c t=>rw [he] at hk;exact lv hk
       |_=>rw [he] at hk;exact gX hk
   · cases hc
 · refine FG ht ?_ hc
   rcases h with h|h
   · exact .inl h
   · exact .inr fun x hx k hk=>h x hx k (gX hk)
end
section
variable {P:Program} {c:Ctx} {T:Tys} {G:Pu} {X:Xt}
theorem Rel.ment1_in(h:Rel w ρ rw U v s)(hk:eo k s):U k:=by
 cases h<;>first| (exact (by assumption: ∀ k,(∃ s,s∈_∧cA k s)->U k) k hk) |cases hk|skip
 all_goals first|assumption| (subst_vars;assumption)
theorem IE{cs:Array Value}{l:List SV}{t:SV}(hl:cs.size=(aj l).length)(h: ∀(i:Nat) v s,cs[i]? =some v->(aj l)[i]? =some s->Rel w ρ rw U v s)(hm:bR U l)(ht:t∈l)(hk:eo k t):U k:=by
 have cell: ∀ u,u∈aj l->eo k u->U k:=fun u hu hku=>by
  obtain ⟨i,hi⟩:=List.mem_iff_getElem?.1 hu
  have hlt:i<cs.size:=by rw [hl];exact (List.getElem?_eq_some_iff.1 hi).1
  exact (h i _ u (Array.getElem?_eq_getElem hlt) hi).ment1_in hku
 cases hr:aH t
 · exact cell t (oA ht hr) hk
 · exact hm t ht hr k (by cases t<;>first| (cases hr;done) |exact hk)
theorem Rel.ment2_in(h:Rel w ρ rw U v s)(hk:eO k s):U k:=by
 cases s with
 |agg l=>
  obtain ⟨t,ht,hk⟩:=hk
  generalize hs:SV.agg l=s at h
  cases h with
  |agg cs l' hl h1 h hm=>
   cases hs
   exact IE hl h hm ht hk
  |_=>cases hs
 |_=>exact h.ment1_in hk
theorem Rel.ment3_in(h:Rel w ρ rw U v s)(hk:gr k s):U k:=by
 cases s with
 |tup l=>
  obtain ⟨t,ht,hk⟩:=hk
  generalize hs:SV.tup l=s at h
  cases h with
  |tup cs l' hl h=>
   cases hs
   obtain ⟨i,hi⟩:=List.mem_iff_getElem?.1 ht
   have hlt:i<cs.size:=by rw [hl];exact (List.getElem?_eq_some_iff.1 hi).1
   exact (h i _ t (Array.getElem?_eq_getElem hlt) hi).ment2_in hk
  |_=>cases hs
 |_=>exact h.ment2_in hk
theorem Rel.ment_in(h:Rel w ρ rw U v s)(hk:bT k s):U k:=by
 cases s with
 |opt cc t=>
  generalize hs:SV.opt cc t=s at h
  cases h with
  |opt c v t' _ _ hm=>cases hs;exact hm k hk
  |_=>cases hs
 |_=>exact h.ment3_in hk
theorem mq : ∀ {m:Mem},m.Pairwise (cf ρ)->m.Pairwise fun e e'=>e.1≠e'.1:=fun h=>h.imp fun h=>h.1
theorem jX{q:Nat} : ∀ {m:Mem},m.Pairwise (fun e e'=>e.1≠e'.1)->af (del m q) q=none
 | [],_=>rfl
 | (k,c)::m,h=>by
   obtain ⟨h1,h2⟩:=List.pairwise_cons.1 h
   simp only [del]
   cases hb:Nat.beq k q<;>simp only [cond_true,cond_false]
   · simp only [af,hb,cond_false]
     exact jX h2
   · obtain rfl:=nQE hb
     cases hl:af m k with
     |none=>rfl
     |some b=>exact absurd rfl (h1 (k,b) (ag hl))
theorem dp{q k:Nat}(hk:k≠q): ∀(m:Mem),af (del m q) k=af m k
 | [] =>rfl
 | (j,c)::m=>by
   simp only [del]
   cases hb:Nat.beq j q<;>simp only [cond_true,cond_false,af]
   · rw [dp hk m]
   · obtain rfl:=nQE hb
     cases hb2:Nat.beq j k
     · rfl
     · exact absurd (nQE hb2).symm hk
theorem vW{t:TypeId}{m m':Mem}{pr:Option Prop×SV}(h:aw std T G (.load t x) e m=some pr)(hm: ∀ k b,cA k (e x)->af m k=some b->af m' k=some b):aw std T G (.load t x) e m'=some pr:=by
 simp only [aw] at h ⊢
 split at h
 · rename_i k off ty hx hty
   rw [hx] at hm
   split at h
   · rename_i u c hl
     rw [hm k _ rfl hl]
     exact h
   · cases h
 · rename_i k base n i ty hx hty
   rw [hx] at hm
   split at h
   · rename_i u c hl
     rw [hm k _ rfl hl]
     exact h
   · cases h
 · rename_i k f ty hx hty
   exact h
 · rename_i q k i off ty hx hty
   rw [hx] at hm
   split at h
   · rename_i hl
     rw [hm q _ rfl hl]
     exact h
   · rename_i hl
     rw [hm q _ rfl hl]
     exact h
   · cases h
 · cases h
theorem DP(hL:io o.op=true)(hc:bX std T G all base i o tmps m=some (p,r,m1)):
 m1=m∧ ∀ m',(∀ k b,(∃ x∈o.op.operands.toList,bT k (ev T.gl tmps x))->af m k=some b->af m' k=some b)->bX std T G all base i o tmps m'=some (p,r,m'):=by
 cases ho:o.op with
 |load t x=>
  unfold bX at hc ⊢
  split at hc
  · rename_i j want hg
    split at hc
    · rename_i d hd
      simp only [ho,cW] at hc ⊢
      split at hc
      · rename_i cc b pp rr ht hpure
        split at hc
        · cases hc
        · cases hc
        · rename_i hcl hkb
          simp only [sIE,pIE] at hc
          obtain ⟨rfl,rfl,rfl⟩:=hc
          refine ⟨rfl,fun m' hm=> ?_⟩
          have:=vW (m':=m') hpure fun k b hk hb=>hm k b ⟨x,by simp [Op.operands],by
           have hk:cA k (d9 (ev T.gl tmps x)):=hk
           cases hs:ev T.gl tmps x with
           |opt c t=>rw [hs] at hk;exact lv (dU (ic hk))
           |_=>rw [hs] at hk;exact gX (dU (ic hk))⟩ hb
          rw [ht,this]
          simp only
          rw [hcl,hkb]
      · cases hc
    · cases hc
  · simp only [ho,bA] at hc ⊢
    split at hc
    · rename_i p' r' hpure
      simp only [sIE,pIE] at hc
      obtain ⟨rfl,rfl,rfl⟩:=hc
      refine ⟨rfl,fun m' hm=> ?_⟩
      rw [vW (m':=m') hpure fun k b hk hb=>hm k b ⟨x,by simp [Op.operands],gX (dU (ic hk))⟩ hb]
    · cases hc
 |_=>rw [ho] at hL;cases hL
theorem tv{t:TypeId}{lo hi mx:Option Operand}{m m':Mem}{pr:Option Prop×SV}(h:aw std T G (.slice t x lo hi mx) e m=some pr)(hm: ∀ k b,cA k (e x)->af m k=some b->af m' k=some b):aw std T G (.slice t x lo hi mx) e m'=some pr:=by
 cases hs:e x with
 |own q=>
  rw [hs] at hm
  simp only [aw,hs] at h ⊢
  cases hl:af m q with
  |none=>
   rw [hl] at h
   split at h
   · split at h<;>cases h
   · cases h
  |some b=>
   rw [hl] at h
   rw [hm q b rfl hl]
   exact h
 |part q k o n=>
  rw [hs] at hm
  simp only [aw,hs] at h ⊢
  cases hl:af m q with
  |none=>
   rw [hl] at h
   split at h
   · split at h<;>cases h
   · cases h
  |some b=>
   rw [hl] at h
   rw [hm q b rfl hl]
   exact h
 |_=>
  simp only [aw,hs] at h ⊢
  exact h
theorem AW(hL:q9 o.op=true)(hc:bX std T G all base i o tmps m=some (p,r,m1)):
 m1=m∧ ∀ m',(∀ t x lo hi mx,o.op= .slice t x lo hi mx-> ∀ k b,bT k (ev T.gl tmps x)->af m k=some b->af m' k=some b)->bX std T G all base i o tmps m'=some (p,r,m'):=by
 cases ho:o.op with
 |slice t x lo hi mx=>
  have hmem:x∈(Op.slice t x lo hi mx).operands.toList:=by simp [Op.operands]
  unfold bX at hc ⊢
  split at hc
  · rename_i j want hg
    split at hc
    · rename_i d hd
      simp only [ho,cW] at hc ⊢
      split at hc
      · rename_i cc b pp rr ht hpure
        split at hc
        · cases hc
        · cases hc
        · rename_i hcl hkb
          simp only [sIE,pIE] at hc
          obtain ⟨rfl,rfl,rfl⟩:=hc
          refine ⟨rfl,fun m' hm=> ?_⟩
          have:=tv (m':=m') hpure fun k b hk hb=>hm t x lo hi mx rfl k b (by
           have hk:cA k (d9 (ev T.gl tmps x)):=hk
           cases hs:ev T.gl tmps x with
           |opt c t=>rw [hs] at hk;exact lv (dU (ic hk))
           |_=>rw [hs] at hk;exact gX (dU (ic hk))) hb
          rw [ht,this]
          simp only
          rw [hcl,hkb]
      · cases hc
    · cases hc
  · simp only [ho,bA] at hc ⊢
    split at hc
    · rename_i p' r' hpure
      simp only [sIE,pIE] at hc
      obtain ⟨rfl,rfl,rfl⟩:=hc
      refine ⟨rfl,fun m' hm=> ?_⟩
      rw [tv (m':=m') hpure fun k b hk hb=>hm t x lo hi mx rfl k b (gX (dU (ic hk))) hb]
    · cases hc
 |_=>rw [ho] at hL;cases hL
theorem FK(hL:io o.op=true)(hh:hot (ev T.gl tmps) o.op=false)(hc:bX std T G all base i o tmps m=some (p,r,m1))
 {x:Operand} {k:Nat} {b:Blk} (hx:x∈o.op.operands.toList) (hk:bT k (ev T.gl tmps x)) (hb:af m k=some b): ∃ t c,b= .box t c:=by
 cases ho:o.op with
 |load t y=>
  rw [ho] at hx hh
  have:x=y:=by simpa [Op.operands] using hx
  subst this
  have main: ∀(e:Operand->SV) pr,e x=ev T.gl tmps x∨e x=d9 (ev T.gl tmps x)->aw std T G (.load t x) e m=some pr-> ∃ t c,b= .box t c:=by
   intro e pr he h
   simp only [aw] at h
   simp only [hot] at hh
   split at h
   · rename_i q off ty hq hty
     split at h
     · rename_i u c hl
       have:k=q:=by
        rcases he with he|he
        · rw [<-he,hq] at hk;exact hk.symm
        · rw [hq] at he
          cases hs:ev T.gl tmps x with
          |opt c s=>rw [hs] at he hk;simp only [d9] at he;subst he;exact hk.symm
          |_=>rw [hs] at he hk;simp only [d9] at he;first| (cases he;exact hk.symm) |cases he
       subst this
       rw [hl] at hb
       cases hb
       exact ⟨_,_,rfl⟩
     · cases h
   · rename_i q b2 n2 i2 ty hq hty
     exfalso
     have:d9 (ev T.gl tmps x)= .iptr q b2 n2 i2:=by
      rcases he with he|he
      · rw [<-he,hq];rfl
      · rw [<-he,hq]
     rw [this] at hh
     cases hh
   · rename_i q f ty hq hty
     exfalso
     rcases he with he|he
     · rw [<-he,hq] at hk;exact hk
     · rw [hq] at he
       cases hs:ev T.gl tmps x with
       |opt c s=>rw [hs] at he hk;simp only [d9] at he;subst he;exact hk
       |_=>rw [hs] at he hk;simp only [d9] at he;first| (cases he;exact hk) |cases he
   · rename_i q k2 i2 off ty hq hty
     exfalso
     have:d9 (ev T.gl tmps x)= .eptr q k2 i2 off:=by
      rcases he with he|he
      · rw [<-he,hq];rfl
      · rw [<-he,hq]
     rw [this] at hh
     cases hh
   · cases h
  unfold bX at hc
  split at hc
  · split at hc
    · simp only [ho,cW] at hc
      split at hc
      · rename_i hpure
        exact main _ _ (.inr rfl) hpure
      · cases hc
    · cases hc
  · simp only [ho,bA] at hc
    split at hc
    · rename_i hpure
      exact main _ _ (.inl rfl) hpure
    · cases hc
 |_=>rw [ho] at hL;cases hL
theorem fv{s t:SV}(hk:bT k s)(he:t=s∨t=d9 s)(hno: ∀ c u,t≠ .opt c u):bT k t:=by
 rcases he with rfl|rfl
 · exact hk
 · cases s with
   |opt c u=>cases u<;>first|exact hk|exact absurd rfl (hno _ _)
   |_=>exact hk
def nj (b:Blk):Prop:=(∃ e K j,b= .krow e K∧K.hl=some j)∨ ∃ K,b= .kids K
theorem DQ(hL:io o.op=true)(hc:bX std T G all base i o tmps m=some (p,r,m1))
 {x:Operand} {k:Nat} {b:Blk} (hx:x∈o.op.operands.toList) (hk:bT k (ev T.gl tmps x)) (hb:af m k=some b) (hh:nj b):False:=by
 cases ho:o.op with
 |load t y=>
  rw [ho] at hx
  have:x=y:=by simpa [Op.operands] using hx
  subst this
  have main: ∀(e:Operand->SV) pr,e x=ev T.gl tmps x∨e x=d9 (ev T.gl tmps x)->aw std T G (.load t x) e m=some pr->False:=by
   intro e pr he h
   simp only [aw] at h
   split at h
   · rename_i q off ty hq hty
     have hk2:=fv hk he (by rw [hq];intro c u h;cases h)
     rw [hq] at hk2
     obtain rfl:q=k:=hk2
     rw [hb] at h
     rcases hh with ⟨e,K,j,rfl,_⟩ | ⟨K,rfl⟩<;>cases h
   · rename_i q b2 n2 i2 ty hq hty
     have hk2:=fv hk he (by rw [hq];intro c u h;cases h)
     rw [hq] at hk2
     obtain rfl:q=k:=hk2
     rw [hb] at h
     rcases hh with ⟨e,K,j,rfl,_⟩ | ⟨K,rfl⟩<;>cases h
   · rename_i q f ty hq hty
     have hk2:=fv hk he (by rw [hq];intro c u h;cases h)
     rw [hq] at hk2
     exact hk2
   · rename_i q k2 i2 off ty hq hty
     have hk2:=fv hk he (by rw [hq];intro c u h;cases h)
     rw [hq] at hk2
     obtain rfl:q=k:=hk2
     rw [hb] at h
     rcases hh with ⟨e,K,j,rfl,hh⟩ | ⟨K,rfl⟩
     rotate_left
     · cases h
     simp only [hh] at h
     revert h
     generalize (Nat.beq k2 1 &&(Nat.beq off 0 &&(Nat.beq ty.size 1 && !ty.agg)))=bb
     cases bb<;>simp
   · cases h
  unfold bX at hc
  split at hc
  · split at hc
    · simp only [ho,cW] at hc
      split at hc
      · rename_i hpure
        exact main _ _ (.inr rfl) hpure
      · cases hc
    · cases hc
  · simp only [ho,bA] at hc
    split at hc
    · rename_i hpure
      exact main _ _ (.inl rfl) hpure
    · cases hc
 |_=>rw [ho] at hL;cases hL
theorem AX(hL:q9 o.op=true)(hc:bX std T G all base i o tmps m=some (p,r,m1))
 {k:Nat} {b:Blk} (hb:af m k=some b) (hh:nj b): ∀ x,(∃ t lo hi mx,o.op= .slice t x lo hi mx)-> ¬ bT k (ev T.gl tmps x):=by
 intro x ⟨t,lo,hi,mx,ho⟩ hk
 have main: ∀(e:Operand->SV) pr,e x=ev T.gl tmps x∨e x=d9 (ev T.gl tmps x)->aw std T G (.slice t x lo hi mx) e m=some pr->False:=by
  intro e pr he h
  cases hs:e x with
  |own q=>
   have hk2:=fv hk he (by rw [hs];intro c u h;cases h)
   rw [hs] at hk2
   obtain rfl:q=k:=hk2
   rcases hh with ⟨e,K,j,rfl,hh⟩ | ⟨K,rfl⟩<;>simp only [aw,hs,hb] at h<;>(repeat' split at h)<;>cases h
  |part q a b c=>
   have hk2:=fv hk he (by rw [hs];intro c u h;cases h)
   rw [hs] at hk2
   obtain rfl:q=k:=hk2
   rcases hh with ⟨e,K,j,rfl,hh⟩ | ⟨K,rfl⟩<;>simp only [aw,hs,hb] at h<;>(repeat' split at h)<;>cases h
  |slc|nils|emp|str=>
   have hk2:=fv hk he (by rw [hs];intro c u h;cases h)
   rw [hs] at hk2
   exact hk2
  |_=>
   simp only [aw,hs] at h
   (repeat' split at h)<;>cases h
 unfold bX at hc
 split at hc
 · split at hc
   · simp only [ho,cW] at hc
     split at hc
     · rename_i hpure
       exact main _ _ (.inr rfl) hpure
     · cases hc
   · cases hc
 · simp only [ho,bA] at hc
   split at hc
   · rename_i hpure
     exact main _ _ (.inl rfl) hpure
   · cases hc
theorem oU(hA:cJ o.op=true)(hc:bX std T G all base i o tmps m=some (p,r,m1)):
 (∃ b,m1=ins m (base+i) b)∨(∃ q b e k n f,m1=ins (del m q) (base+i) b∧af m q=some (.row e k n f))∨(hot (ev T.gl tmps) o.op=true∧ ∃ q b e k n f,m1=upd m q b∧af m q=some (.row e k n f))∨
   ∃ q b b0 b1,m1=ins (upd m q b1) (base+i) b∧(af m q=some b0∧((∀ t c,b0≠ .box t c)∧nj b1)):=by
 cases ho:o.op with
 |call c=>
  obtain ⟨callee,args,ts⟩:=c
  cases callee with
  |builtin b=>
   cases b<;>first| (rw [ho] at hA;cases hA;done) |skip
   unfold bX at hc
   split at hc
   · split at hc
     · simp only [ho,cW,aw] at hc
       split at hc
       · rename_i hpure;cases hpure
       · cases hc
     · cases hc
   · simp only [ho,bA] at hc
     split at hc
     · rename_i x y t u hargs hts
       split at hc
       · split at hc
         · split at hc
           · rename_i te hx hte
             cases hb:(bM te.zero && Nat.beq (len te.zero) _)<;>rw [hb] at hc<;>simp only [cond_true,cond_false,reduceCtorEq,sIE,pIE] at hc
             obtain ⟨_,_,rfl⟩:=hc
             exact .inl ⟨_,rfl⟩
           · cases hc
         · cases hc
       · split at hc
         · rename_i el k by_ isb htag
           rename_i kk _ _ _ _ _ _
           revert hc
           generalize Nat.beq k _=bb
           intro hc
           cases bb<;>simp only [cond_true,cond_false,reduceCtorEq] at hc
           split at hc
           · simp only [sIE,pIE] at hc
             obtain ⟨_,_,rfl⟩:=hc
             exact .inl ⟨_,rfl⟩
           · simp only [sIE,pIE] at hc
             obtain ⟨_,_,rfl⟩:=hc
             exact .inl ⟨_,rfl⟩
           · rename_i q hx
             split at hc
             · rename_i e' k' n f hl
               revert hc
               generalize (Nat.beq el e' && Nat.beq k k')=bb
               intro hc
               cases bb<;>simp only [cond_true,cond_false,reduceCtorEq,sIE,pIE] at hc
               obtain ⟨_,_,rfl⟩:=hc
               exact .inr (.inl ⟨q,_,_,_,_,_,rfl,hl⟩)
             · cases hc
           · rename_i q k2 oo b hx
             split at hc
             · rename_i e' k' n f hl
               revert hc
               generalize ((Nat.beq el e' && Nat.beq k k')&&(Nat.beq k k2 && Nat.beq oo 0))=bb
               intro hc
               cases bb<;>simp only [cond_true,cond_false,reduceCtorEq,sIE,pIE] at hc
               obtain ⟨_,_,rfl⟩:=hc
               exact .inr (.inr (.inl ⟨by simp only [hot,hargs,hx],q,_,_,_,_,_,rfl,hl⟩))
             · cases hc
           · rename_i q jf ix hx
             split at hc
             · rename_i e0 K0 hl
               split at hc
               · simp only [sIE,pIE] at hc
                 obtain ⟨_,_,rfl⟩:=hc
                 exact .inr (.inr (.inr ⟨q,_,_,_,rfl,hl,fun t c e=>(by cases e), .inl ⟨_,_,ix,rfl,rfl⟩⟩))
               · cases hc
             · cases hc
           · rename_i q jf cn ix hx
             split at hc
             · rename_i K0 hl
               split at hc
               · simp only [sIE,pIE] at hc
                 obtain ⟨_,_,rfl⟩:=hc
                 exact .inr (.inr (.inr ⟨q,_,_,_,rfl,hl,fun t c e=>(by cases e), .inr ⟨_,rfl⟩⟩))
               · cases hc
             · cases hc
           · cases hc
         · cases hc
       · cases hc
     · cases hc
  |value f=>rw [ho] at hA;cases hA
  |invoke x n=>rw [ho] at hA;cases hA
 |_=>rw [ho] at hA;cases hA
theorem oV(hA:cJ o.op=true)(hh:hot (ev T.gl tmps) o.op=false)(hc:bX std T G all base i o tmps m=some (p,r,m1))(hnd:m.Pairwise fun e e'=>e.1≠e'.1)
 {k:Nat} {b:Blk} (hk:k≠base+i) (hb:af m1 k=some b):af m k=some b∨nj b:=by
 rcases oU hA hc with ⟨c,rfl⟩ | ⟨q,c,_,_,_,_,rfl,hl⟩ | ⟨h,_⟩ | ⟨q,c,b0,b1,rfl,hl,hnb,hh1⟩
 · rw [cq hk] at hb;exact .inl hb
 · rw [cq hk] at hb
   by_cases hq:k=q
   · subst hq;rw [jX hnd] at hb;cases hb
   · rw [dp hq] at hb;exact .inl hb
 · rw [hh] at h;cases h
 · rw [cq hk] at hb
   by_cases hq:k=q
   · subst hq
     have e0: ∀ {m:Mem},af m k=some b0->af (upd m k b1) k=some b1:=by
      intro m
      induction m with
      |nil=>intro h;cases h
      |cons y m ih=>
       intro h
       simp only [af] at h
       simp only [upd]
       cases hy:Nat.beq y.1 k<;>simp only [hy,cond_true,cond_false,af] at h ⊢
       exact ih h
     rw [e0 hl] at hb
     cases hb
     exact .inr hh1
   · rw [cB hq] at hb;exact .inl hb
theorem qG(hA:cJ o.op=true)(hc:bX std T G all base i o tmps m=some (p,r,m1))
 {k:Nat} {b:Blk} (hk:k≠base+i) (hb:af m k=some b) (hbox: ∃ t c,b= .box t c):af m1 k=some b:=by
 obtain ⟨t,c,rfl⟩:=hbox
 rcases oU hA hc with ⟨c,rfl⟩ | ⟨q,c,_,_,_,_,rfl,hl⟩ | ⟨_,q,c,_,_,_,_,rfl,hl⟩ | ⟨q,c,b0,b1,rfl,hl,hnb,_⟩
 · rwa [cq hk]
 · rw [cq hk,dp (fun e=>by subst e;rw [hl] at hb;cases hb)];exact hb
 · rw [cB (fun e=>by subst e;rw [hl] at hb;cases hb)];exact hb
 · rw [cq hk,cB (fun e=>by subst e;rw [hl] at hb;exact hnb _ _ (Option.some.inj hb))];exact hb
theorem vX(h:cA k s):ur k s=true:=by
 cases s<;>simp only [cA,ur] at h ⊢<;>first| (subst h;exact Nat.beq_refl _) |skip
 all_goals (rcases h with rfl|rfl<;>simp [Nat.beq_refl])
theorem vY(h:eo k s):us k s=true:=by
 cases s with
 |clo f l=>obtain ⟨t,ht,hk⟩:=h;exact List.any_eq_true.2 ⟨t,ht,vX hk⟩
 |_=>simp only [eo,us] at h ⊢;exact vX h
theorem vZ(h:eO k s):ut k s=true:=by
 cases s with
 |agg l=>obtain ⟨t,ht,hk⟩:=h;exact List.any_eq_true.2 ⟨t,ht,vY hk⟩
 |_=>simp only [eO,ut] at h ⊢;exact vY h
theorem v6(h:gr k s):uv k s=true:=by
 cases s with
 |tup l=>obtain ⟨t,ht,hk⟩:=h;exact List.any_eq_true.2 ⟨t,ht,vZ hk⟩
 |_=>simp only [gr,uv] at h ⊢;exact vZ h
theorem IF(h:bT k s):nam k s=true:=by
 cases s with
 |opt c t=>simp only [bT,nam] at h ⊢;exact v6 h
 |_=>simp only [bT,nam] at h ⊢;exact v6 h
theorem xD{ops:List Operand}{f t:Nat}(h:adr e ops all f t=true):fo e ops t=true:=by
 cases f with
 |zero=>simp only [adr,bAE] at h;exact h.2
 |succ f=>simp only [adr,bAE] at h;exact h.2
theorem FM(h:kO e all op o=true){y:Operand}(hy: ∃ t x,o.op= .store t y x)(hk:bT k (e y)): ∀ x∈op.operands.toList,¬ bT k (e x):=by
 obtain ⟨t,z,ho⟩:=hy
 unfold kO at h
 rw [ho] at h
 cases y with
 |tmp q=>
  replace h:=xD h
  unfold fo at h
  split at h
  · rename_i k' off he
    intro x hx hm
    rw [he] at hk
    have hk:k'=k:=hk
    subst hk
    have:=List.all_eq_true.1 h x hx
    rw [IF hm] at this
    cases this
  · rename_i he;intro x hx hm;rw [he] at hk;cases hk
  · rename_i he;intro x hx hm;rw [he] at hk;cases hk
  · cases h
 |_=>cases h
theorem FN(h:kO e all op o=true)(hS:oc o.op=true):hot e o.op=false:=by
 cases ho:o.op with
 |store t y x=>
  unfold kO at h
  rw [ho] at h
  cases y with
  |tmp q=>
   replace h:=xD h
   unfold fo at h
   simp only [hot]
   split at h
   · rename_i he;rw [he]
   · rename_i he;rw [he]
   · rename_i he;rw [he]
   · cases h
  |_=>cases h
 |_=>rw [ho] at hS;cases hS
theorem mr{k q:Nat}{a b:Blk}(h:k≠q): ∀ m:Mem,upd (ins m k a) q b=ins (upd m q b) k a
 | [] =>by
   simp only [ins,upd]
   cases hb:Nat.beq k q
   · rfl
   · exact absurd (nQE hb) h
 | (j,c)::m=>by
   simp only [ins,upd]
   cases h1:Nat.ble j k<;>cases h2:Nat.beq j q<;>simp only [cond_true,cond_false,upd,h2,ins,h1]
   · rw [mr h m]
   · cases hb:Nat.beq k q
     · simp [cond_false,h2]
     · exact absurd (nQE hb) h
   · cases hb:Nat.beq k q
     · simp [cond_false,h2]
     · exact absurd (nQE hb) h
theorem uJ{k q:Nat}{a:Blk}(h:k≠q): ∀ {m:Mem},m.Pairwise (fun e e'=>e'.1<e.1)->del (ins m k a) q=ins (del m q) k a
 | [],_=>by
   simp only [ins,del]
   cases hb:Nat.beq k q
   · rfl
   · exact absurd (nQE hb) h
 | (j,c)::m,hp=>by
   have hp':=List.pairwise_cons.1 hp
   have hkq:Nat.beq k q=false:=by
    cases hb:Nat.beq k q
    · rfl
    · exact absurd (nQE hb) h
   simp only [ins,del]
   cases h1:Nat.ble j k<;>cases h2:Nat.beq j q<;>simp only [cond_true,cond_false,del,h2,ins,h1,hkq]
   · rw [uJ h hp'.2]
   · obtain rfl:j=q:=nQE h2
     have hjk:=Nat.le_of_ble_eq_true h1
     cases m with
     |nil=>rfl
     |cons e m=>
      have h3:=hp'.1 e (List.mem_cons_self ..)
      obtain ⟨e1,e2⟩:=e
      simp only at h3
      have h4:Nat.ble e1 k=true:=Nat.ble_eq_true_of_le (by omega)
      simp only [ins,h4,cond_true]
theorem dI{b:Blk} : ∀ m:Mem,af (ins m k b) k=some b
 | [] =>by simp [ins,af]
 | (j,c)::m=>by
   simp only [ins]
   cases h:Nat.ble j k<;>simp only [cond_true,cond_false,af]
   · have hj:Nat.beq j k=false:=by
      cases hb:Nat.beq j k
      · rfl
      · have:=nQE hb;subst this;rw [Nat.ble_eq_true_of_le (Nat.le_refl _)] at h;cases h
     rw [hj]
     exact dI m
   · rw [Nat.beq_refl];rfl
theorem AY(hA:cJ o.op=true)(hc:bX std T G all base i o tmps m=some (p,r,m1)):
 ∃ F:Mem->Mem,m1=F m∧(∀ m',(∀ k,(∃ x∈o.op.operands.toList,bT k (ev T.gl tmps x))->af m' k=af m k)->bX std T G all base i o tmps m'=some (p,r,F m'))∧
   (∀ k a m',m'.Pairwise (fun e e'=>e'.1<e.1)->k≠base+i->(¬ ∃ x∈o.op.operands.toList,bT k (ev T.gl tmps x))->F (ins m' k a)=ins (F m') k a)∧
   (r= .own (base+i)->(∃ bl,∀ m',af (F m') (base+i)=some bl)∧ ∀ m',m'.Pairwise (fun e e'=>e'.1<e.1)->(∀ e∈m',e.1≠base+i)->(F m').Pairwise fun e e'=>e'.1<e.1):=by
 cases ho:o.op with
 |call c=>
  obtain ⟨callee,args,ts⟩:=c
  cases callee with
  |builtin b=>
   cases b<;>first| (rw [ho] at hA;cases hA;done) |skip
   unfold bX at hc ⊢
   split at hc
   · split at hc
     · simp only [ho,cW,aw] at hc
       split at hc
       · rename_i hpure;cases hpure
       · cases hc
     · cases hc
   · rename_i hgd
     simp only [ho,bA] at hc ⊢
     split at hc
     · rename_i x y t u hargs hts
       have hxm:x∈(Op.call { callee:=Callee.builtin Builtin.append,args:=args,argTypes:=ts }).operands.toList:=dH (by rw [hargs];simp)
       have hym:y∈(Op.call { callee:=Callee.builtin Builtin.append,args:=args,argTypes:=ts }).operands.toList:=dH (by rw [hargs];simp)
       have hsrcE: ∀ m':Mem,(∀ k,(∃ x∈(Op.call { callee:=Callee.builtin Builtin.append,args:=args,argTypes:=ts }).operands.toList,bT k (ev T.gl tmps x))->af m' k=af m k)->lp std T m' t u (ev T.gl tmps y)=lp std T m t u (ev T.gl tmps y):=fun m' hm=>by
        unfold lp
        rw [jE (m:=m') (m':=m) (s:=ev T.gl tmps y) fun k hk=>hm k ⟨y,hym,xC hk⟩,FF (m:=m') (m':=m) (s:=ev T.gl tmps y) fun k hk=>hm k ⟨y,hym,xC hk⟩]
       split at hc
       · rename_i ty z hty hsrc
         split at hc
         · rename_i el k by_ isb htag
           split at hc
           · rename_i te hx hte
             cases hb:(bM te.zero && Nat.beq (len te.zero) k)<;>rw [hb] at hc<;>simp only [cond_true,cond_false,reduceCtorEq,sIE,pIE] at hc
             obtain ⟨rfl,rfl,rfl⟩:=hc
             refine ⟨fun m'=>ins m' (base+i) _,rfl,fun m' hm=> ?_,fun k' a m' _ hk _=>f7 hk m',fun _=>⟨⟨_,fun m'=>dI m'⟩,fun m' h1 h2=>dN h1 h2⟩⟩
             rw [hsrcE m' hm]
             simp only [hargs,hts,hty,hsrc,htag,hx,hte,hb,cond_true]
           · cases hc
         · cases hc
       · rename_i ty n' kk g hty hsrc
         split at hc
         · rename_i el k by_ isb htag
           cases hkk:Nat.beq k kk<;>simp only [hkk,cond_true,cond_false,reduceCtorEq] at hc
           split at hc
           · rename_i hx
             simp only [sIE,pIE] at hc
             obtain ⟨rfl,rfl,rfl⟩:=hc
             refine ⟨fun m'=>ins m' (base+i) _,rfl,fun m' hm=> ?_,fun k' a m' _ hk _=>f7 hk m',fun _=>⟨⟨_,fun m'=>dI m'⟩,fun m' h1 h2=>dN h1 h2⟩⟩
             rw [hsrcE m' hm]
             simp only [hargs,hts,hty,hsrc,htag,hx,hkk,cond_true]
           · rename_i hx
             simp only [sIE,pIE] at hc
             obtain ⟨rfl,rfl,rfl⟩:=hc
             refine ⟨fun m'=>ins m' (base+i) _,rfl,fun m' hm=> ?_,fun k' a m' _ hk _=>f7 hk m',fun _=>⟨⟨_,fun m'=>dI m'⟩,fun m' h1 h2=>dN h1 h2⟩⟩
             rw [hsrcE m' hm]
             simp only [hargs,hts,hty,hsrc,htag,hx,hkk,cond_true]
           · rename_i q hx
             have hqm: ∃ x∈(Op.call { callee:=Callee.builtin Builtin.append,args:=args,argTypes:=ts }).operands.toList,bT q (ev T.gl tmps x):=⟨x,hxm,by rw [hx];exact rfl⟩
             split at hc
             · rename_i e' k' n f hl
               cases hb:(Nat.beq el e' && Nat.beq k k')<;>simp only [hb,cond_true,cond_false,reduceCtorEq,sIE,pIE] at hc
               obtain ⟨rfl,rfl,rfl⟩:=hc
               refine ⟨fun m'=>ins (del m' q) (base+i) _,rfl,fun m' hm=> ?_,fun k2 a m' hs hk hno=> ?_,fun _=>⟨⟨_,fun m'=>dI _⟩,fun m' h1 h2=>dN (gx h1) fun e he=>h2 e (cQ he)⟩⟩
               · rw [hsrcE m' hm]
                 simp only [hargs,hts,hty,hsrc,htag,hx,hm q hqm,hl,hkk,hb,cond_true]
               · have hkq:k2≠q:=fun e=>hno (e▸hqm)
                 simp only
                 rw [uJ hkq hs,f7 hk]
             · cases hc
           · rename_i q k2 oo b hx
             have hqm: ∃ x∈(Op.call { callee:=Callee.builtin Builtin.append,args:=args,argTypes:=ts }).operands.toList,bT q (ev T.gl tmps x):=⟨x,hxm,by rw [hx];exact rfl⟩
             split at hc
             · rename_i e' k' n f hl
               cases hb:((Nat.beq el e' && Nat.beq k k')&&(Nat.beq k k2 && Nat.beq oo 0))<;>simp only [hb,cond_true,cond_false,reduceCtorEq,sIE,pIE] at hc
               obtain ⟨rfl,rfl,rfl⟩:=hc
               refine ⟨fun m'=>upd m' q _,rfl,fun m' hm=> ?_,fun k2 a m' hs hk hno=> ?_,fun e=>by cases e⟩
               · rw [hsrcE m' hm]
                 simp only [hargs,hts,hty,hsrc,htag,hx,hm q hqm,hl,hkk,hb,cond_true]
               · have hkq:k2≠q:=fun e=>hno (e▸hqm)
                 exact mr hkq m'
             · cases hc
           · rename_i q jf ix hx
             have hqm: ∃ x∈(Op.call { callee:=Callee.builtin Builtin.append,args:=args,argTypes:=ts }).operands.toList,bT q (ev T.gl tmps x):=⟨x,hxm,by rw [hx];exact .inl rfl⟩
             split at hc
             · rename_i e0 K0 hl
               split at hc
               · rename_i q1 q2 q3
                 simp only [sIE,pIE] at hc
                 obtain ⟨rfl,rfl,rfl⟩:=hc
                 refine ⟨fun m'=>ins (upd m' q _) (base+i) _,rfl,fun m' hm=> ?_,fun k2 a m' hs hk hno=> ?_,fun _=>⟨⟨_,fun m'=>dI _⟩,fun m' h1 h2=>dN (gy h1) fun e he=> ?_⟩⟩
                 · rw [hsrcE m' hm]
                   simp only [hargs,hts,hty,hsrc,htag,hx,hm q hqm,hl,hkk,q1,q2,q3,cond_true]
                 · have hkq:k2≠q:=fun e=>hno (e▸hqm)
                   simp only
                   rw [mr hkq,f7 hk]
                 · have hm:e.1∈m'.map (·.1):=by rw [<-i9 m'];exact List.mem_map.2 ⟨e,he,rfl⟩
                   obtain ⟨x,hx,e'⟩:=List.mem_map.1 hm
                   rw [<-e'];exact h2 x hx
               · cases hc
             · cases hc
           · rename_i q jf cn ix hx
             have hqm: ∃ x∈(Op.call { callee:=Callee.builtin Builtin.append,args:=args,argTypes:=ts }).operands.toList,bT q (ev T.gl tmps x):=⟨x,hxm,by rw [hx];exact .inl rfl⟩
             split at hc
             · rename_i K0 hl
               split at hc
               · rename_i q1 q2 q3
                 simp only [sIE,pIE] at hc
                 obtain ⟨rfl,rfl,rfl⟩:=hc
                 refine ⟨fun m'=>ins (upd m' q _) (base+i) _,rfl,fun m' hm=> ?_,fun k2 a m' hs hk hno=> ?_,fun _=>⟨⟨_,fun m'=>dI _⟩,fun m' h1 h2=>dN (gy h1) fun e he=> ?_⟩⟩
                 · rw [hsrcE m' hm]
                   simp only [hargs,hts,hty,hsrc,htag,hx,hm q hqm,hl,hkk,q1,q2,q3,cond_true]
                 · have hkq:k2≠q:=fun e=>hno (e▸hqm)
                   simp only
                   rw [mr hkq,f7 hk]
                 · have hm:e.1∈m'.map (·.1):=by rw [<-i9 m'];exact List.mem_map.2 ⟨e,he,rfl⟩
                   obtain ⟨x,hx,e'⟩:=List.mem_map.1 hm
                   rw [<-e'];exact h2 x hx
               · cases hc
             · cases hc
           · cases hc
         · cases hc
       · cases hc
     · cases hc
  |value f=>rw [ho] at hA;cases hA
  |invoke x n=>rw [ho] at hA;cases hA
 |_=>rw [ho] at hA;cases hA
theorem AZ(hA:gT o.op=true)(hc:bX std T G all base i o tmps m=some (p,r,m1)):
 ∃ b,m1=ins m (base+i) b∧r= .ptr (base+i) 0∧ ∀ m',bX std T G all base i o tmps m'=some (p,r,ins m' (base+i) b):=by
 cases ho:o.op with
 |alloc t=>
  unfold bX at hc ⊢
  split at hc
  · split at hc
    · simp only [ho,cW,aw] at hc
      split at hc
      · rename_i hpure;cases hpure
      · cases hc
    · cases hc
  · simp only [ho,bA] at hc ⊢
    split at hc
    · rename_i ty hty
      cases hzz:zOk ty.zero<;>simp only [hzz,cond_true,cond_false,reduceCtorEq,sIE,pIE] at hc ⊢
      obtain ⟨rfl,rfl,rfl⟩:=hc
      exact ⟨_,rfl,rfl,fun m'=>⟨rfl,rfl,rfl⟩⟩
    · cases hc
 |box t x=>
  unfold bX at hc ⊢
  split at hc
  · split at hc
    · simp only [ho,cW,aw] at hc
      split at hc
      · rename_i hpure;cases hpure
      · cases hc
    · cases hc
  · simp only [ho,bA] at hc ⊢
    split at hc
    · rename_i cs hcs
      simp only [sIE,pIE] at hc
      obtain ⟨rfl,rfl,rfl⟩:=hc
      exact ⟨_,rfl,rfl,fun m'=>rfl⟩
    · cases hc
 |_=>rw [ho] at hA;cases hA
theorem A0(hS:oc o.op=true)(hcold:hot (ev T.gl tmps) o.op=false)(hc:bX std T G all base i o tmps m=some (p,r,m1)):
 ∃ k b y,(∃ t x,o.op= .store t y x)∧bT k (ev T.gl tmps y)∧(∃ c,af m k=some c)∧m1=upd m k b∧ ∀ m',af m' k=af m k->bX std T G all base i o tmps m'=some (p,r,upd m' k b):=by
 cases ho:o.op with
 |store t y x=>
  unfold bX at hc ⊢
  split at hc
  · split at hc
    · simp only [ho,cW,aw] at hc
      split at hc
      · rename_i hpure;cases hpure
      · cases hc
    · cases hc
  · rename_i hg
    simp only [ho,bA] at hc
    split at hc
    · rename_i k off l ty hy hx hty
      split at hc
      · rename_i u cs hl
        cases hb:(Nat.beq (bq l) ty.size && Nat.ble (off+ty.size) (bq cs))<;>rw [hb] at hc<;>simp only [cond_true,cond_false,reduceCtorEq,sIE,pIE] at hc
        obtain ⟨rfl,rfl,rfl⟩:=hc
        refine ⟨k,_,y,⟨t,x,rfl⟩,by rw [hy];exact rfl,⟨_,hl⟩,rfl,fun m' hm=> ?_⟩
        simp only [ho,bA,hy,hx,hty,hm,hl,hb,cond_true]
      · cases hc
    · rename_i hy hx hty
      rw [ho] at hcold
      simp only [hot,hy] at hcold
      cases hcold
    · rename_i q k j off l ty hy hx hty
      rw [ho] at hcold
      simp only [hot,hy] at hcold
      cases hcold
    · cases hc
 |_=>rw [ho] at hS;cases hS
theorem O5(h:cE op≠ .writes):cJ op=false:=by
 cases ha:cJ op
 · rfl
 · exact absurd (DO ha) h
theorem w9(h:io op=true):cJ op=false:=by cases op<;>first|rfl|cases h
theorem DR(h:q9 op=true):cJ op=false:=by cases op<;>first|rfl|cases h
theorem Lc(h:oc op=true):cJ op=false:=by cases op<;>first|rfl|cases h
theorem Ld(h:gT op=true):cJ op=false:=by cases op<;>first|rfl|cases h
theorem IG{base i:Nat}{tmps:List SV}{m:Mem}{x:SV}(h: ∀ k,d=some k->k∉o.looksAt all.toArray):
 bQ std T G all base i o (put tmps d x) m=bQ std T G all base i o tmps m:=by
 unfold bQ
 rw [FI h]
theorem dZ{all:List Oper}{base i:Nat}{tmps:List SV}{m m' m1:Mem}{p:Option Prop}{r:SV}(ht:cE o.op≠ .writes)
 (h:cE o.op= .none∨ ∀ x∈o.op.operands.toList,∀ k,bT k (ev T.gl tmps x)->af m k=af m' k) (hc:bQ std T G all base i o tmps m=some (p,r,m1)):
 (m1=m∧bQ std T G all base i o tmps m'=some (p,r,m'))∨(cE o.op≠ .none∧ ∃ b,m1=ins m (base+i) b∧bQ std T G all base i o tmps m'=some (p,r,ins m' (base+i) b)):=by
 rw [cK (O5 ht)] at hc ⊢
 have:=FJ ht h hc
 rcases this with h1| ⟨h1,b,h2,h3⟩
 · exact .inl h1
 · exact .inr ⟨h1,b,h2,h3⟩
theorem lw(hL:io o.op=true)(hc:bQ std T G all base i o tmps m=some (p,r,m1)):
 m1=m∧ ∀ m',(∀ k b,(∃ x∈o.op.operands.toList,bT k (ev T.gl tmps x))->af m k=some b->af m' k=some b)->bQ std T G all base i o tmps m'=some (p,r,m'):=by
 rw [cK (w9 hL)] at hc
 obtain ⟨h1,h2⟩:=DP hL hc
 exact ⟨h1,fun m' hm=>by rw [cK (w9 hL)];exact h2 m' hm⟩
theorem DS(hL:q9 o.op=true)(hc:bQ std T G all base i o tmps m=some (p,r,m1)):
 m1=m∧ ∀ m',(∀ t x lo hi mx,o.op= .slice t x lo hi mx-> ∀ k b,bT k (ev T.gl tmps x)->af m k=some b->af m' k=some b)->bQ std T G all base i o tmps m'=some (p,r,m'):=by
 rw [cK (DR hL)] at hc
 obtain ⟨h1,h2⟩:=AW hL hc
 exact ⟨h1,fun m' hm=>by rw [cK (DR hL)];exact h2 m' hm⟩
theorem xE(hL:io o.op=true)(hh:hot (ev T.gl tmps) o.op=false)(hc:bQ std T G all base i o tmps m=some (p,r,m1))
 {x:Operand} {k:Nat} {b:Blk} (hx:x∈o.op.operands.toList) (hk:bT k (ev T.gl tmps x)) (hb:af m k=some b): ∃ t c,b= .box t c:=by
 rw [cK (w9 hL)] at hc
 exact FK hL hh hc hx hk hb
theorem v7(hL:io o.op=true)(hc:bQ std T G all base i o tmps m=some (p,r,m1))
 {x:Operand} {k:Nat} {b:Blk} (hx:x∈o.op.operands.toList) (hk:bT k (ev T.gl tmps x)) (hb:af m k=some b) (hh:nj b):False:=by
 rw [cK (w9 hL)] at hc
 exact DQ hL hc hx hk hb hh
theorem DT(hS:oc o.op=true)(hcold:hot (ev T.gl tmps) o.op=false)(hc:bQ std T G all base i o tmps m=some (p,r,m1)):
 ∃ k b y,(∃ t x,o.op= .store t y x)∧bT k (ev T.gl tmps y)∧(∃ c,af m k=some c)∧m1=upd m k b∧ ∀ m',af m' k=af m k->bQ std T G all base i o tmps m'=some (p,r,upd m' k b):=by
 rw [cK (Lc hS)] at hc
 obtain ⟨k,b,y,h1,h2,h3,h4,h5⟩:=A0 hS hcold hc
 exact ⟨k,b,y,h1,h2,h3,h4,fun m' hm=>by rw [cK (Lc hS)];exact h5 m' hm⟩
theorem nk(hA:gT o.op=true)(hc:bQ std T G all base i o tmps m=some (p,r,m1)):
 ∃ b,m1=ins m (base+i) b∧r= .ptr (base+i) 0∧ ∀ m',bQ std T G all base i o tmps m'=some (p,r,ins m' (base+i) b):=by
 rw [cK (Ld hA)] at hc
 obtain ⟨b,h1,h2,h3⟩:=AZ hA hc
 exact ⟨b,h1,h2,fun m'=>by rw [cK (Ld hA)];exact h3 m'⟩
theorem qH(hA:cJ o.op=true)(hh:hot (ev T.gl tmps) o.op=false)(hc:bQ std T G all base i o tmps m=some (p,r,m1))(hnd:m.Pairwise fun e e'=>e.1≠e'.1)
 {k:Nat} {b:Blk} (hk:k≠base+i) (hb:af m1 k=some b):af m k=some b∨nj b:=by
 obtain ⟨r0,m0,h0,⟨rfl,rfl⟩ | ⟨_,_,_,_,_,_,_,_,rfl⟩⟩:=nh hc
 · exact oV hA hh h0 hnd hk hb
 · rw [dp hk] at hb
   exact oV hA hh h0 hnd hk hb
theorem DU(hA:cJ o.op=true)(hc:bQ std T G all base i o tmps m=some (p,r,m1))
 {k:Nat} {b:Blk} (hk:k≠base+i) (hb:af m k=some b) (hbox: ∃ t c,b= .box t c):af m1 k=some b:=by
 obtain ⟨r0,m0,h0,⟨rfl,rfl⟩ | ⟨_,_,_,_,_,_,_,_,rfl⟩⟩:=nh hc
 · exact qG hA h0 hk hb hbox
 · rw [dp hk]
   exact qG hA h0 hk hb hbox
theorem tw(hA:cJ o.op=true)(hc:bQ std T G all base i o tmps m=some (p,r,m1)):
 ∃ F:Mem->Mem,m1=F m∧(∀ m',(∀ k,(∃ x∈o.op.operands.toList,bT k (ev T.gl tmps x))->af m' k=af m k)->bQ std T G all base i o tmps m'=some (p,r,F m'))∧
   (∀ k a m',m'.Pairwise (fun e e'=>e'.1<e.1)->(∀ e∈m',e.1≠base+i)->k≠base+i->(¬ ∃ x∈o.op.operands.toList,bT k (ev T.gl tmps x))->F (ins m' k a)=ins (F m') k a):=by
 obtain ⟨r0,m0,h0,hd⟩:=nh hc
 obtain ⟨F,rfl,f1,f2,f3⟩:=AY hA h0
 cases hz:uq all o
 · have e1: ∀ m',bQ std T G all base i o tmps m'=bX std T G all base i o tmps m':=fun m'=>by unfold bQ;rw [hz];exact kf _
   rcases hd with ⟨rfl,rfl⟩ | ⟨_,_,_,_,hb,_⟩
   · exact ⟨F,rfl,fun m' hm=>by rw [e1];exact f1 m' hm,fun k a m' h1 _ h2 h3=>f2 k a m' h1 h2 h3⟩
   · rw [hz] at hb;cases hb
 · rcases hd with ⟨rfl,rfl⟩ | ⟨e,k,n,f,_,rfl,hl,rfl,rfl⟩
   · refine ⟨F,rfl,fun m' hm=> ?_,fun k a m' h1 _ h2 h3=>f2 k a m' h1 h2 h3⟩
     have hf:=f1 m' hm
     have hcm:=hc
     unfold bQ at hcm ⊢
     rw [h0,hz] at hcm
     rw [hf,hz]
     simp only [oe,cond_true] at hcm ⊢
     split
     · rename_i q
       simp only at hcm
       cases hq:Nat.beq q (base+i)<;>simp only [hq,cond_true,cond_false] at hcm ⊢
       obtain rfl:=nQE hq
       obtain ⟨⟨bl,hbl⟩,_⟩:=f3 rfl
       rw [hbl] at hcm ⊢
       cases bl with
       |box t c=>rfl
       |krow e K=>rfl
       |kids K=>rfl
       |kmap=>rfl
       |row e k n f=>simp only [sIE,pIE] at hcm;exact absurd hcm.2.1 (by intro h;cases h)
     · rfl
   · obtain ⟨⟨bl,hbl⟩,f4⟩:=f3 rfl
     have hbe:bl= .row e k n f:=by have:=hbl m;rw [hl] at this;exact (Option.some.inj this).symm
     subst hbe
     refine ⟨fun m'=>del (F m') (base+i),rfl,fun m' hm=> ?_,fun k2 a m' h1 hfr h2 h3=> ?_⟩
     · unfold bQ
       rw [f1 m' hm,hz]
       simp only [oe,cond_true,Nat.beq_refl,hbl]
     · simp only
       rw [f2 k2 a m' h1 h2 h3,uJ h2 (f4 m' h1 hfr)]
def gz (A:Ar)(T:Tys)(G:Pu)(X:Xt)(all:List Oper)(base i:Nat)(o:Oper)(tmps:List SV)(m:Mem):Option (Option Prop×SV×Mem):=
 bif eU X.wl o.op && df o then wtU A X o.op (ev T.gl tmps) m (base+i) else bQ A T G all base i o tmps m
theorem cY{m:Mem}(h:(eU X.wl o.op && df o)=false):gz std T G X all base i o tmps m=bQ std T G all base i o tmps m:=by
 unfold gz
 rw [h]
 rfl
theorem xG{m:Mem}(h:(eU X.wl o.op && df o)=true):gz std T G X all base i o tmps m=wtU std X o.op (ev T.gl tmps) m (base+i):=by
 unfold gz
 rw [h]
 rfl
theorem RI(h:(eU X.wl o.op && df o)=true):gT o.op=false:=by
 simp only [bAE] at h
 obtain ⟨f,args,ts,e⟩:=vS h.1
 rw [e];rfl
theorem FO{e e':Operand->SV}{m:Mem}(h: ∀ x∈op.operands.toList,e x=e' x):wtU std X op e m key=wtU std X op e' m key:=by
 cases op with
 |call c=>
  obtain ⟨callee,args,ts⟩:=c
  have hv:bu e args.toList=bu e' args.toList:=jx fun x hx=>h x (dH hx)
  cases callee with
  |value x=>cases x<;>first|rfl| (simp only [wtU,hv])
  |_=>rfl
 |_=>rfl
theorem v8{base i:Nat}{tmps:List SV}{m:Mem}{x:SV}(h: ∀ k,d=some k->k∉o.looksAt all.toArray):
 gz std T G X all base i o (put tmps d x) m=gz std T G X all base i o tmps m:=by
 unfold gz
 rw [IG h]
 have hev: ∀ y∈o.op.operands.toList,ev T.gl (put tmps d x) y=ev T.gl tmps y:=fun y hy=>oT fun k hk e=>h k hk (by
  subst e
  exact List.mem_append_left _ (List.mem_filterMap.2 ⟨.tmp k,hy,rfl⟩))
 rw [FO hev]
theorem ms{s s':St}(ho:all[i]? =some o):Y T G X all base i s s'↔ ∃ p r m,gz std T G X all base i o s.tmps s.mem=some (p,r,m)∧aK p∧s'= { s with tmps:=put s.tmps o.dst r,mem:=m } :=by
 have e:j7 std T G X all base i o s=fin o s (gz std T G X all base i o s.tmps s.mem):=by
  unfold j7 gz
  cases (eU X.wl o.op && df o)
  · exact AV
  · rfl
 constructor
 · rintro ⟨o',p,ho',hst,hp⟩
   rw [ho] at ho'
   cases ho'
   rw [e] at hst
   cases hc:gz std T G X all base i o s.tmps s.mem with
   |none=>rw [hc] at hst;cases hst
   |some x=>
    obtain ⟨p',r,m⟩:=x
    rw [hc] at hst
    simp only [fin,sIE,pIE] at hst
    obtain ⟨rfl,rfl⟩:=hst
    exact ⟨p',r,m,rfl,hp,rfl⟩
 · rintro ⟨p,r,m,hc,hp,rfl⟩
   exact ⟨o,p,ho,by rw [e,hc];rfl,hp⟩
theorem B6{base j:Nat}{s s':St}(hj:all[j]? =some oj)(hap:oi.apart all.toArray oj=true)(hy:Y T G X all base j s s'):hot (ev T.gl s'.tmps) oi.op=hot (ev T.gl s.tmps) oi.op:=by
 obtain ⟨a1,a2,a3⟩:=Oper.apart_spec hap
 obtain ⟨p,r,m,_,_,rfl⟩:=(ms hj).1 hy
 have hev: ∀ y∈oi.op.operands.toList,ev T.gl (put s.tmps oj.dst r) y=ev T.gl s.tmps y:=fun y hy=>oT fun k hk e=>a3 k hk (by
  subst e
  exact List.mem_append_left _ (List.mem_filterMap.2 ⟨.tmp k,hy,rfl⟩))
 cases ho:oi.op with
 |load t x=>
  rw [ho] at hev
  simp only [hot,hev x (by simp [Op.operands])]
 |store t x y=>
  rw [ho] at hev
  simp only [hot,hev x (by simp [Op.operands])]
 |call c=>
  obtain ⟨callee,args,ts⟩:=c
  cases callee with
  |builtin b=>
   cases b<;>first|rfl|skip
   rw [ho] at hev
   simp only [hot]
   cases hargs:args.toList with
   |nil=>rfl
   |cons x l=>
    simp only [hev x (dH (by rw [hargs];simp))]
  |value f=>rfl
  |invoke x n=>rfl
 |_=>rfl
theorem xH(h:ur k s=true):cA k s:=by
 cases s<;>first|exact nQE h| (simp only [ur,Bool.or_eq_true] at h;exact h.imp nQE nQE) |cases h
theorem xI(h:us k s=true):eo k s:=by
 unfold us at h
 unfold eo
 split at h
 · obtain ⟨x,hx,h2⟩:=List.any_eq_true.1 h
   exact ⟨x,hx,xH h2⟩
 · rename_i hne
   split
   · exact absurd rfl (hne _ _)
   · exact xH h
theorem xJ(h:ut k s=true):eO k s:=by
 unfold ut at h
 unfold eO
 split at h
 · obtain ⟨x,hx,h2⟩:=List.any_eq_true.1 h
   exact ⟨x,hx,xI h2⟩
 · rename_i hne
   split
   · exact absurd rfl (hne _)
   · exact xI h
theorem xK(h:uv k s=true):gr k s:=by
 unfold uv at h
 unfold gr
 split at h
 · obtain ⟨x,hx,h2⟩:=List.any_eq_true.1 h
   exact ⟨x,hx,xJ h2⟩
 · rename_i hne
   split
   · exact absurd rfl (hne _)
   · exact xJ h
theorem Mj(h:nam k s=true):bT k s:=by
 unfold nam at h
 unfold bT
 split at h
 · exact xK h
 · rename_i hne
   split
   · exact absurd rfl (hne _ _)
   · exact xK h
theorem qI : ∀ {l:List Oper} {o:Oper},kN t l=true->o∈l->o.dst=some t->gT o.op=true
 | [],_,_,h,_=>by cases h
 |x::l,o,ha,h,hd=>by
  simp only [kN,bAE] at ha
  rcases List.mem_cons.1 h with rfl|h
  · have:=ha.1
    rw [hd] at this
    simpa using this
  · exact qI ha.2 h hd
theorem tx{P:Nat->Bool} : ∀ {l:List Oper} {o:Oper},j6 P t l=true->o∈l->o.dst=some t->gT o.op=true∨ ∃ ty q i,o.op= .fieldAddr ty (.tmp q) i∧o.guard=none∧P q=true
 | [],_,_,h,_=>by cases h
 |x::l,o,ha,h,hd=>by
  simp only [j6,bAE] at ha
  rcases List.mem_cons.1 h with rfl|h
  · have:=ha.1
    rw [hd] at this
    simp only [Nat.beq_refl,cond_true,Bool.or_eq_true] at this
    rcases this with h|h
    · exact .inl h
    · split at h
      · rename_i ty q i h1 h2
        exact .inr ⟨ty,q,i,h1,h2,h⟩
      · cases h
  · exact tx ha.2 h hd
theorem tz{P Q:Nat->Bool}(hPQ: ∀ q,P q=true->Q q=true) : ∀ {l:List Oper},j6 P t l=true->j6 Q t l=true
 | [],h=>rfl
 |x::l,h=>by
  simp only [j6,bAE] at h ⊢
  refine ⟨?_,tz hPQ h.2⟩
  have h1:=h.1
  split at h1
  · rename_i d hd
    cases hb:Nat.beq d t
    · simp
    · rw [hb] at h1
      simp only [cond_true,Bool.or_eq_true] at h1 ⊢
      rcases h1 with h1|h1
      · exact .inl h1
      · right
        split at h1
        · exact hPQ _ h1
        · cases h1
  · rfl
theorem uK{ty q j:Nat}(ho:o.op= .fieldAddr ty (.tmp q) j)(hg:o.guard=none)(hc:bX std T G all base i o tmps m=some (p,r,m1)){l:List Operand}(hp:fo (ev T.gl tmps) l q=true):
 ∃ k a b,ev T.gl tmps (.tmp q)= .ptr k a∧r= .ptr k b:=by
 unfold bX at hc
 rw [hg] at hc
 simp only [ho,bA,aw] at hc
 unfold fo at hp
 split at hp
 · rename_i k a he
   rw [he] at hc
   refine ⟨k,a, ?_⟩
   split at hc
   · rename_i p' r' hm
     simp only [sIE,pIE] at hc
     obtain ⟨_,rfl,_⟩:=hc
     split at hm
     · rename_i k2 off ty2 e1 e2
       cases e1
       split at hm
       · split at hm
         · rename_i o2 s2 hn
           cases hb:Nat.ble 1 s2<;>rw [hb] at hm<;>simp at hm
           exact ⟨_,he,hm.2.symm⟩
         · cases hm
       · cases hm
     · rename_i e1 _;cases e1
     · rename_i e1 _;cases e1
     · cases hm
   · cases hc
 · rename_i he;rw [he] at hc;simp at hc
 · rename_i he;rw [he] at hc;simp at hc
 · cases hp
theorem FP(l:List SV)(t:Nat)(x:SV):ap (dL l t x) t=x∨ap (dL l t x) t= .un:=by
 induction l generalizing t with
 |nil=>cases t<;>exact .inr rfl
 |cons y l ih=>
  cases t with
  |zero=>exact .inl rfl
  |succ t=>exact ih t
theorem IH{base j:Nat}{s s':St}(hj:all[j]? =some oj)(hap:oi.apart all.toArray oj=true)(hy:Y T G X all base j s s'):
 hot (ev T.gl s'.tmps) oi.op=hot (ev T.gl s.tmps) oi.op:=B6 (G:=G) (X:=X) hj hap hy
theorem II(hgl:T.gl=c.gl){listed:Array Bool}{base j:Nat}{s s':St}(hj:all[j]? =some oj)(hinh:Inh c base listed s)(hjun:listed.getD j true=false)(hap:oi.apart all.toArray oj=true)(hy:Y T G X all base j s s')
 (hh:dM (ev T.gl s'.tmps) all oi.op=true):dM (ev T.gl s.tmps) all oi.op=true:=by
 have h0:=B6 (G:=G) (X:=X) hj hap hy
 obtain ⟨a1,a2,a3⟩:=Oper.apart_spec hap
 obtain ⟨p,r,m,hcj,_,rfl⟩:=(ms hj).1 hy
 obtain ⟨a,w,ρ,hs⟩:=hinh
 have hkey: ∀ x,¬ bT (base+j) (ev T.gl s.tmps x):=fun x hk=>by
  have:=(hs.ev x).ment_in (hgl▸hk)
  exact fu hjun this
 have hev: ∀ y∈oi.op.operands.toList,ev T.gl (put s.tmps oj.dst r) y=ev T.gl s.tmps y:=fun y hy=>oT fun k hk e=>a3 k hk (by
  subst e
  exact List.mem_append_left _ (List.mem_filterMap.2 ⟨.tmp k,hy,rfl⟩))
 have hptr: ∀ q k b,oj.dst=some q->r= .ptr k b->(oi.op.operands.toList.all fun x=> !nam k (ev T.gl s.tmps x))=true->fo (ev T.gl (put s.tmps oj.dst r)) oi.op.operands.toList q=true:=by
  intro q k b hd hr hk
  have:ev T.gl (put s.tmps oj.dst (.ptr k b)) (.tmp q)= .ptr k b∨ev T.gl (put s.tmps oj.dst (.ptr k b)) (.tmp q)= .un:=by
   rw [hd];exact FP _ _ _
  unfold fo
  subst hr
  rcases this with h|h
  · rw [h]
    refine List.all_eq_true.2 fun x hx=> ?_
    rw [hev x hx]
    exact List.all_eq_true.1 hk x hx
  · rw [h]
 have hfresh:(oi.op.operands.toList.all fun x=> !nam (base+j) (ev T.gl s.tmps x))=true:=by
  refine List.all_eq_true.2 fun x hx=> ?_
  cases hn:nam (base+j) (ev T.gl s.tmps x)
  · rfl
  · exact absurd (Mj hn) (hkey x)
 have hsame: ∀ q,¬ oj.dst=some q->fo (ev T.gl s.tmps) oi.op.operands.toList q=true->fo (ev T.gl (put s.tmps oj.dst r)) oi.op.operands.toList q=true:=by
  intro q hd h2
  have hq:ev T.gl (put s.tmps oj.dst r) (.tmp q)=ev T.gl s.tmps (.tmp q):=oT fun k hk e=>by
   cases e
   exact hd hk
  unfold fo at h2 ⊢
  rw [hq]
  split at h2
  · rename_i k off he
    exact List.all_eq_true.2 fun x hx=>by rw [hev x hx];exact List.all_eq_true.1 h2 x hx
  · rfl
  · rfl
  · cases h2
 have hal: ∀ q,oj.dst=some q->gT oj.op=true->fo (ev T.gl (put s.tmps oj.dst r)) oi.op.operands.toList q=true:=by
  intro q hd ha
  have hcj:=hcj
  rw [cY (by cases hw:(eU X.wl oj.op && df oj);rfl;rw [RI hw] at ha;cases ha)] at hcj
  obtain ⟨b,_,hr,_⟩:=nk ha hcj
  exact hptr q _ _ hd hr hfresh
 have hadr: ∀ f q,adr (ev T.gl s.tmps) oi.op.operands.toList all f q=true->adr (ev T.gl (put s.tmps oj.dst r)) oi.op.operands.toList all f q=true:=by
  intro f
  induction f with
  |zero=>
   intro q h
   simp only [adr,bAE] at h ⊢
   refine ⟨h.1, ?_⟩
   by_cases hd:oj.dst=some q
   · exact hal q hd (qI h.1 (List.mem_of_getElem? hj) hd)
   · exact hsame q hd h.2
  |succ f ih=>
   intro q h
   simp only [adr,bAE] at h ⊢
   refine ⟨tz ih h.1, ?_⟩
   by_cases hd:oj.dst=some q
   · rcases tx h.1 (List.mem_of_getElem? hj) hd with ha| ⟨ty,q',n,ho,hg,hp⟩
     · exact hal q hd ha
     · have hp:=xD hp
       obtain ⟨k,a,b,he,hr⟩:=uK ho hg (by rw [cY (by rw [ho];rfl),cK (by rw [ho];rfl)] at hcj;exact hcj) hp
       refine hptr q k b hd hr ?_
       unfold fo at hp
       rw [he] at hp
       exact hp
   · exact hsame q hd h.2
 have hst: ∀ o,kO (ev T.gl s.tmps) all oi.op o=true->kO (ev T.gl (put s.tmps oj.dst r)) all oi.op o=true:=by
  intro o ho
  unfold kO at ho ⊢
  split
  · rename_i t q x hoo
    rw [hoo] at ho
    exact hadr _ _ ho
  · rename_i t y x hno hoo
    rw [hoo] at ho
    split at ho
    · rename_i e
      cases e
      exact (hno _ rfl).elim
    · cases ho
    · rename_i hne
      exact absurd rfl (hne _ _ _)
  · rfl
 unfold dM at hh ⊢
 simp only at h0
 rw [h0] at hh
 simp only [Bool.or_eq_true,bAE,Bool.not_eq_true'] at hh ⊢
 rcases hh with hh| ⟨h1,h2⟩
 · exact .inl hh
 · refine .inr ⟨h1, ?_⟩
   rw [List.all_eq_false] at h2 ⊢
   obtain ⟨o,hm,hno⟩:=h2
   exact ⟨o,hm,fun e=>hno (hst o e)⟩
theorem FQ{T:Tys}(h:um T t=true): ∃ ty n e k,T t=some ty∧ty.tag= .array n e k:=by
 unfold um at h
 split at h
 · rename_i ty hty
   split at h
   · rename_i n e k htag;exact ⟨ty,n,e,k,hty,htag⟩
   · cases h
 · cases h
theorem xL{T:Tys}{G:Pu}{x y:Operand}(h:um T t=true)(e:Operand->SV)(m m':Mem):aw std T G (.indexAddr t x y) e m=aw std T G (.indexAddr t x y) e m':=by
 obtain ⟨ty,n,el,k,hty,htag⟩:=FQ h
 simp only [aw,hty,htag]
 cases e x<;>first|rfl| (cases e y<;>first|rfl| (simp only [htag]))
theorem xM{x y:Operand}(ho:o.op= .indexAddr t x y)(ht:um T t=true)(hc:bQ std T G all base i o tmps m=some (p,r,m1)):
 m1=m∧ ∀ m',bQ std T G all base i o tmps m'=some (p,r,m'):=by
 have hap:cJ o.op=false:=by rw [ho];rfl
 rw [cK hap] at hc
 suffices h:m1=m∧ ∀ m',bX std T G all base i o tmps m'=some (p,r,m') from ⟨h.1,fun m'=>by rw [cK hap];exact h.2 m'⟩
 unfold bX at hc ⊢
 split at hc
 · rename_i j want hg
   split at hc
   · rename_i d hd
     rw [ho] at hc ⊢
     unfold cW at hc ⊢
     have e0:=fun m'=>xL (T:=T) (G:=G) (x:=x) (y:=y) ht (lG (ev T.gl tmps) (.indexAddr t x y)) m' m
     split at hc
     · rename_i c b p' r' h1 h2
       split at hc
       · cases hc
       · cases hc
       · rename_i r'' h3 h4
         simp only [sIE,pIE] at hc
         obtain ⟨rfl,rfl,rfl⟩:=hc
         refine ⟨rfl,fun m'=> ?_⟩
         simp only [e0 m',h1,h2,h3,h4]
     · cases hc
   · cases hc
 · rw [ho] at hc ⊢
   simp only [bA] at hc ⊢
   have e0:=fun m'=>xL (T:=T) (G:=G) (x:=x) (y:=y) ht (ev T.gl tmps) m' m
   split at hc
   · rename_i p' r' h1
     simp only [sIE,pIE] at hc
     obtain ⟨rfl,rfl,rfl⟩:=hc
     exact ⟨rfl,fun m'=>by simp only [e0 m',h1]⟩
   · cases hc
theorem xN(h:wtU std X op e m key=some (p,r,m1)):
 (∃ q c el k n g,m1=ins (del m q) key c∧af m q=some (.row el k n g))∨ ∃ q c K K',m1=ins (upd m q (.kids K')) key c∧af m q=some (.kids K):=by
 unfold wtU at h
 split at h
 · split at h
   · rename_i q rest hev
     split at h
     · rename_i el k n g hl
       split at h
       · rename_i p' n' g' hw
         cases hb:(!b8 rest && !inW _ X.sl)<;>rw [hb] at h<;>simp only [cond_true,cond_false,reduceCtorEq,sIE,pIE] at h
         obtain ⟨_,_,rfl⟩:=h
         exact .inl ⟨q,_,el,k,n,g,rfl,hl⟩
       · cases h
     · cases h
   · rename_i q j c i rest hev
     split at h
     · rename_i K hl
       split at h
       · split at h
         · rename_i p' n' g' hw
           cases hb:(!b8 rest && !inW _ X.sl)<;>rw [hb] at h<;>simp only [cond_true,cond_false,reduceCtorEq,sIE,pIE] at h
           obtain ⟨_,_,rfl⟩:=h
           exact .inr ⟨q,_,K,_,rfl,hl⟩
         · cases h
       · cases h
     · cases h
   · cases h
 · cases h
theorem nZ{b0 b1:Blk} : ∀ {m:Mem},af m k=some b0->af (upd m k b1) k=some b1
 | [],h=>by cases h
 |y::m,h=>by
  simp only [af] at h
  simp only [upd]
  cases hy:Nat.beq y.1 k<;>simp only [hy,cond_true,cond_false,af] at h ⊢
  exact nZ h
theorem Mk(h:wtU std X op e m key=some (p,r,m1))(hnd:m.Pairwise fun e e'=>e.1≠e'.1)
 {k:Nat} {b:Blk} (hk:k≠key) (hb:af m1 k=some b):af m k=some b∨nj b:=by
 rcases xN h with ⟨q,c,_,_,_,_,rfl,hl⟩ | ⟨q,c,K,K',rfl,hl⟩
 · rw [cq hk] at hb
   by_cases hq:k=q
   · subst hq;rw [jX hnd] at hb;cases hb
   · rw [dp hq] at hb;exact .inl hb
 · rw [cq hk] at hb
   by_cases hq:k=q
   · subst hq
     rw [nZ hl] at hb
     cases hb
     exact .inr (.inr ⟨_,rfl⟩)
   · rw [cB hq] at hb;exact .inl hb
theorem O6(h:wtU std X op e m key=some (p,r,m1))
 {k:Nat} {b:Blk} (hk:k≠key) (hb:af m k=some b) (hbox: ∃ t c,b= .box t c):af m1 k=some b:=by
 obtain ⟨t,c,rfl⟩:=hbox
 rcases xN h with ⟨q,c,_,_,_,_,rfl,hl⟩ | ⟨q,c,K,K',rfl,hl⟩
 · rw [cq hk,dp (fun e=>by subst e;rw [hl] at hb;cases hb)];exact hb
 · rw [cq hk,cB (fun e=>by subst e;rw [hl] at hb;cases hb)];exact hb
theorem tB{o:Op}(h:pI T o=true):cE o= .none∨(∃ t x y,o= .indexAddr t x y∧um T t=true)∨io o=true:=by
 unfold pI at h
 split at h
 · exact .inr (.inl ⟨_,_,_,rfl,h⟩)
 · exact .inr (.inr rfl)
 · split at h
   · rename_i h1;exact .inl h1
   · cases h
theorem O7(hgl:T.gl=c.gl){base:Nat}{i:Nat}{oi:Oper}(hi:all[i]? =some oi)(listed:Array Bool)(s s1 s2:St)(j:Nat)(oj:Oper)(hj:all[j]? =some oj)(hji:j≠i)
 (hinh:Inh c base listed s) (hiun:listed.getD i true=false) (hjun:listed.getD j true=false) (hap:oi.apart all.toArray oj=true) (hcl3:mc T X.wl oi.op oj.op=false∧(dM (ev T.gl s.tmps) all oi.op=true->eX X.wl (hot (ev T.gl s.tmps) oi.op) oi.op oj.op=false))
 (hy1:Y T G X all base i s s1) (hy2:Y T G X all base j s1 s2): ∃ s1',Y T G X all base j s s1'∧Y T G X all base i s1' s2:=by
 obtain ⟨a1,a2,a3⟩:=Oper.apart_spec hap
 obtain ⟨a,w,ρ,hs⟩:=hinh
 obtain ⟨pi,ri,mi,ci,hpi,rfl⟩:=(ms hi).1 hy1
 obtain ⟨pj,rj,mj,cj,hpj,rfl⟩:=(ms hj).1 hy2
 simp only at cj
 rw [v8 a1] at cj
 have hkey: ∀ x k,bT k (ev T.gl s.tmps x)->k≠base+i∧k≠base+j:=fun x k hk=>by
  have:=(hs.ev x).ment_in (hgl▸hk)
  exact ⟨fun e=>fu hiun (e▸this),fun e=>fu hjun (e▸this)⟩
 have fin0: ∀ m',gz std T G X all base j oj s.tmps s.mem=some (pj,rj,m')->gz std T G X all base i oi s.tmps m'=some (pi,ri,mj)-> ∃ s1',Y T G X all base j s s1'∧
  Y T G X all base i s1' { next:=s.next,tmps:=put (put s.tmps oi.dst ri) oj.dst rj,mem:=mj,stk:=s.stk } :=fun m' h1 h2=>
  ⟨{ s with tmps:=put s.tmps oj.dst rj,mem:=m' },(ms hj).2 ⟨pj,rj,m',h1,hpj,rfl⟩,
   (ms hi).2 ⟨pi,ri,mj,by simp only;rw [v8 a3];exact h2,hpi,by simp only;rw [ID _ _ _ fun k hk=>a2 k hk]⟩⟩
 have hc3:=hcl3.1
 unfold mc at hc3
 simp only [Bool.or_eq_false_iff,Bool.and_eq_false_iff,Bool.not_eq_false'] at hc3
 have hcl2:xf oi.op oj.op=false∧(dM (ev T.gl s.tmps) all oi.op=true->eX X.wl (hot (ev T.gl s.tmps) oi.op) oi.op oj.op=false):=⟨hc3.1,hcl3.2⟩
 cases hwi:(eU X.wl oi.op && df oi)
 rotate_left
 ·
  have hwi1:eU X.wl oi.op=true:=by simp only [bAE] at hwi;exact hwi.1
  have hfj:pI T oj.op=true:=by
   rcases hc3.2.1 with h|h
   · rw [hwi1] at h;cases h
   · exact h
  have hwj:(eU X.wl oj.op && df oj)=false:=by
   cases hw:eU X.wl oj.op
   · rfl
   · obtain ⟨f,args,ts,e⟩:=vS hw
     rw [e] at hfj
     cases hfj
  rw [cY hwj] at cj
  rcases tB hfj with hnj| ⟨t,x,y,ho,ht⟩ |hL
  · rcases dZ (m':=s.mem) (by rw [hnj];exact fun e=>by cases e) (.inl hnj) cj with ⟨rfl,h2⟩ | ⟨hne,_⟩
    · exact fin0 s.mem (by rw [cY hwj];exact h2) ci
    · exact absurd hnj hne
  · obtain ⟨rfl,h2⟩:=xM ho ht cj
    exact fin0 s.mem (by rw [cY hwj];exact h2 s.mem) ci
  · obtain ⟨rfl,hl⟩:=lw hL cj
    refine fin0 s.mem ((cY hwj).trans (hl s.mem fun k b hk hb=> ?_)) ci
    obtain ⟨x,hx,hk⟩:=hk
    rw [xG hwi] at ci
    rcases Mk ci (mq hs.mem.apart) (hkey x k hk).1 hb with h|hh
    · exact h
    · exact (v7 hL cj hx hk hb hh).elim
 cases hwj:(eU X.wl oj.op && df oj)
 rotate_left
 · have hwj1:eU X.wl oj.op=true:=by simp only [bAE] at hwj;exact hwj.1
   have hfi:pI T oi.op=true:=by
    rcases hc3.2.2 with h|h
    · rw [hwj1] at h;cases h
    · exact h
   rw [cY hwi] at ci
   rcases tB hfi with hni| ⟨t,x,y,ho,ht⟩ |hL
   · rcases dZ (m':=mj) (by rw [hni];exact fun e=>by cases e) (.inl hni) ci with ⟨rfl,h2⟩ | ⟨hne,_⟩
     · exact fin0 mj cj (by rw [cY hwi];exact h2)
     · exact absurd hni hne
   · obtain ⟨rfl,h2⟩:=xM ho ht ci
     exact fin0 mj cj (by rw [cY hwi];exact h2 mj)
   · have hcold:hot (ev T.gl s.tmps) oi.op=false:=by
      cases hh:hot (ev T.gl s.tmps) oi.op
      · rfl
      · have h2:dM (ev T.gl s.tmps) all oi.op=true:=by unfold dM;rw [hh];rfl
        have h3:=hcl2.2 h2
        rw [hh] at h3
        simp only [eX,cond_true,Bool.or_eq_false_iff] at h3
        rw [hwj1] at h3
        cases h3.2
     obtain ⟨rfl,hl⟩:=lw hL ci
     refine fin0 mj cj ((cY hwi).trans (hl mj fun k b hk hb=> ?_))
     obtain ⟨x,hx,hk⟩:=hk
     rw [xG hwj] at cj
     exact O6 cj (hkey x k hk).2 hb (xE hL hcold ci hx hk hb)
 have fin': ∀ m',bQ std T G all base j oj s.tmps s.mem=some (pj,rj,m')->bQ std T G all base i oi s.tmps m'=some (pi,ri,mj)-> ∃ s1',Y T G X all base j s s1'∧
  Y T G X all base i s1' { next:=s.next,tmps:=put (put s.tmps oi.dst ri) oj.dst rj,mem:=mj,stk:=s.stk } :=fun m' h1 h2=>fin0 m' (by rw [cY hwj];exact h1) (by rw [cY hwi];exact h2)
 rw [cY hwi] at ci
 rw [cY hwj] at cj
 by_cases hold:pH oi.op oj.op=false
 rotate_left
 · have hold':pH oi.op oj.op=true:=by simpa using hold
   have hcold:hot (ev T.gl s.tmps) oi.op=false:=by
    cases hh:hot (ev T.gl s.tmps) oi.op
    · rfl
    · have h2:dM (ev T.gl s.tmps) all oi.op=true:=by unfold dM;rw [hh];rfl
      have h3:=hcl2.2 h2
      rw [hh] at h3
      simp only [eX,cond_true,Bool.or_eq_false_iff] at h3
      exact absurd h3.1 hold
   have hpair:(cJ oi.op=true∧io oj.op=true)∨(io oi.op=true∧cJ oj.op=true)∨(q8 oi.op=true∧oc oj.op=true)∨(cJ oi.op=true∧gT oj.op=true)∨(gT oi.op=true∧cJ oj.op=true)∨(cJ oi.op=true∧q9 oj.op=true):=by
    have:=hcl2.1
    unfold xf at this
    rw [hold'] at this
    revert this
    cases cJ oi.op<;>cases io oi.op<;>cases cJ oj.op<;>cases io oj.op<;>cases q8 oi.op<;>cases oc oj.op<;>cases gT oi.op<;>cases gT oj.op<;>cases q9 oj.op<;>simp
   have hnd:=mq hs.mem.apart
   rcases hpair with ⟨hA,hL⟩ | ⟨hL,hA⟩ | ⟨hR,hS⟩ | ⟨hA,hL⟩ | ⟨hL,hA⟩ | ⟨hA,hL⟩
   ·
    obtain ⟨rfl,hl⟩:=lw hL cj
    refine fin' s.mem (hl s.mem fun k b hk hb=> ?_) ci
    obtain ⟨x,hx,hk⟩:=hk
    have hne:=(hkey x k hk).1
    rcases qH hA hcold ci hnd hne hb with h|hh
    · exact h
    · exact (v7 hL cj hx hk hb hh).elim
   · obtain ⟨rfl,hl⟩:=lw hL ci
     refine fin' mj cj (hl mj fun k b hk hb=> ?_)
     obtain ⟨x,hx,hk⟩:=hk
     have hne:=(hkey x k hk).2
     exact DU hA cj hne hb (xE hL hcold ci hx hk hb)
   ·
    have hrd:cE oi.op= .reads:=by
     unfold q8 at hR
     cases ht:cE oi.op<;>rw [ht] at hR<;>first|rfl|cases hR
    have hcold2:dM (ev T.gl s.tmps) all oi.op=false:=by
     cases hh:dM (ev T.gl s.tmps) all oi.op
     · rfl
     · have h3:=hcl2.2 hh
       rw [hcold] at h3
       simp only [eX,cond_false,hR,hS,Bool.and_self,Bool.true_eq_false] at h3
    have hst:kO (ev T.gl s.tmps) all oi.op oj=true:=by
     unfold dM at hcold2
     rw [hcold,hR] at hcold2
     simp only [Bool.false_or,Bool.true_and,Bool.not_eq_false'] at hcold2
     exact List.all_eq_true.1 hcold2 oj (List.mem_of_getElem? hj)
    obtain ⟨k',b',y,hy,hment,hlk,rfl,hgen⟩:=DT hS (FN hst hS) cj
    have hk1:=(hkey y k' hment).1
    have hno: ∀ x∈oi.op.operands.toList,∀ k,bT k (ev T.gl s.tmps x)->k≠k':=fun x hx k hk e=>FM hst hy hment x hx (e▸hk)
    have hsame:af mi k'=af s.mem k':=by
     rcases dZ (m':=s.mem) (by rw [hrd];exact fun e=>by cases e) (.inr fun _ _ _ _=>rfl) ci with ⟨rfl,_⟩ | ⟨_,b,rfl,_⟩
     · rfl
     · exact cq hk1 _
    have h1:=hgen s.mem hsame.symm
    refine fin' (upd s.mem k' b') h1 ?_
    rcases dZ (m':=upd s.mem k' b') (by rw [hrd];exact fun e=>by cases e) (.inr fun x hx k hk=>(cB (hno x hx k hk) s.mem).symm) ci with ⟨rfl,h2⟩ | ⟨_,b,rfl,h2⟩
    · exact h2
    · rw [mr (Ne.symm hk1)];exact h2
   ·
    obtain ⟨F,rfl,f1,f2⟩:=tw hA ci
    obtain ⟨b,rfl,_,hb⟩:=nk hL cj
    have hno: ¬ ∃ x∈oi.op.operands.toList,bT (base+j) (ev T.gl s.tmps x):=fun ⟨x,_,hk⟩=>(hkey x _ hk).2 rfl
    refine fin' _ (hb s.mem) ?_
    rw [f1 _ fun k ⟨x,_,hk⟩=>cq (hkey x k hk).2 s.mem]
    rw [f2 _ _ _ hs.mem.sorted (fun e he e'=>fu hiun (e'▸hs.mem.key e he)) (by omega) hno]
   · obtain ⟨b,rfl,_,hb⟩:=nk hL ci
     obtain ⟨F,rfl,f1,f2⟩:=tw hA cj
     have hno: ¬ ∃ x∈oj.op.operands.toList,bT (base+i) (ev T.gl s.tmps x):=fun ⟨x,_,hk⟩=>(hkey x _ hk).1 rfl
     have h1:=f1 s.mem fun k ⟨x,_,hk⟩=>(cq (hkey x k hk).1 s.mem).symm
     refine fin' _ h1 ?_
     rw [f2 _ _ _ hs.mem.sorted (fun e he e'=>fu hjun (e'▸hs.mem.key e he)) (by omega) hno]
     exact hb _
   ·
    obtain ⟨rfl,hl⟩:=DS hL cj
    refine fin' s.mem (hl s.mem fun t x lo hi mx ho k b hk hb=> ?_) ci
    have hne:=(hkey x k hk).1
    rcases qH hA hcold ci hnd hne hb with h|hh
    · exact h
    · rw [cK (DR hL)] at cj
      exact (AX hL cj hb hh x ⟨t,lo,hi,mx,ho⟩ hk).elim
 have hcl:=hold
 by_cases hwj:cE oj.op= .writes
 · have hni:cE oi.op= .none:=by
    unfold pH at hcl
    rw [hwj] at hcl
    cases ht:cE oi.op<;>rw [ht] at hcl<;>first|rfl|cases hcl
   rcases dZ (m':=mj) (by rw [hni];exact fun e=>by cases e) (.inl hni) ci with ⟨rfl,h2⟩ | ⟨hne,_⟩
   · exact fin' mj cj h2
   · exact absurd hni hne
 · by_cases hwi:cE oi.op= .writes
   · have hnj:cE oj.op= .none:=by
      unfold pH at hcl
      rw [hwi] at hcl
      cases ht:cE oj.op<;>rw [ht] at hcl<;>first|rfl|cases hcl
     rcases dZ (m':=s.mem) (by rw [hnj];exact fun e=>by cases e) (.inl hnj) cj with ⟨rfl,h2⟩ | ⟨hne,_⟩
     · exact fin' s.mem h2 ci
     · exact absurd hnj hne
   · have hlook: ∀(m:Mem) (q:Nat) (b:Blk),(∀ x k,bT k (ev T.gl s.tmps x)->k≠q)-> ∀ x∈oj.op.operands.toList,∀ k,bT k (ev T.gl s.tmps x)->af (ins m q b) k=af m k:=fun m q b hq x _ k hk=>cq (hq x k hk) m
     rcases dZ (m':=s.mem) hwi (.inr fun _ _ _ _=>rfl) ci with ⟨rfl,_⟩ | ⟨_,bi,rfl,_⟩
     ·
      rcases dZ (m':=s.mem) hwj (.inr fun _ _ _ _=>rfl) cj with ⟨rfl,_⟩ | ⟨_,bj,rfl,_⟩
      · exact fin' _ cj ci
      · refine fin' _ cj ?_
        rcases dZ (m':=ins s.mem (base+j) bj) hwi (.inr fun x _ k hk=>(cq (hkey x k hk).2 s.mem).symm) ci with ⟨_,h2⟩ | ⟨_,b,e,_⟩
        · exact h2
        · have:=congrArg List.length e
          have hl: ∀ m:Mem,(ins m (base+i) b).length=m.length+1:=fun m=>by
           induction m with
           |nil=>rfl
           |cons x m ih=>obtain ⟨k,y⟩:=x;simp only [ins];cases Nat.ble k (base+i)<;>simp [ih]
          rw [hl] at this
          omega
     · rcases dZ (m':=s.mem) hwj (.inr fun x _ k hk=>cq (hkey x k hk).1 s.mem) cj with ⟨rfl,h1⟩ | ⟨_,bj,rfl,h1⟩
       · exact fin' _ h1 ci
       · refine fin' _ h1 ?_
         rcases dZ (m':=ins s.mem (base+j) bj) hwi (.inr fun x _ k hk=>(cq (hkey x k hk).2 s.mem).symm) ci with ⟨e,_⟩ | ⟨_,b,e,h2⟩
         · have:=congrArg List.length e
           have hl: ∀ m:Mem,(ins m (base+i) bi).length=m.length+1:=fun m=>by
            induction m with
            |nil=>rfl
            |cons x m ih=>obtain ⟨k,y⟩:=x;simp only [ins];cases Nat.ble k (base+i)<;>simp [ih]
           rw [hl] at this
           omega
         · have hbb: ∀ m:Mem,ins m (base+i) bi=ins m (base+i) b->bi=b:=fun m=>by
            induction m with
            |nil=>intro e;simp only [ins] at e;cases e;rfl
            |cons x m ih=>
             obtain ⟨k,y⟩:=x
             simp only [ins]
             cases Nat.ble k (base+i)<;>simp only [cond_true,cond_false]
             · intro e;injection e with _ e;exact ih e
             · intro e;injection e with e _;cases e;rfl
           obtain rfl:=hbb _ e
           rw [f7 (by omega)]
           exact h2
end
end Go.Vd
