/- Two operations of which neither waits for the other one come to the same in either order. -/
import Derived.Test.YtckmnmcnelfkjaaGreatDoorVdRegion
set_option linter.unusedVariables false
set_option linter.unusedSimpArgs false
namespace Go.Vd
open Go.RowKit
section
variable {A:Ar} {T:Tys} {G:Pu}
theorem jB{e e':Operand->SV} : ∀ {l:List Operand},(∀ x∈l,e x=e' x)->bx e l=bx e' l
 | [],_=>rfl
 |x::l,h=>by simp only [bx,h x (List.mem_cons_self ..),jB fun y hy=>h y (List.mem_cons_of_mem _ hy)]
theorem lZ{e e':Operand->SV}{x:Option Operand}(h: ∀ y,x=some y->e y=e' y):bt e x=bt e' x:=by
 cases x with
 |none=>rfl
 |some y=>simp only [bt,h y rfl]
theorem oY{e e':Operand->SV}{pl:Nat->Option (Nat×Nat)} : ∀ {l:List (Nat×Operand)} {c:List SV},(∀ x∈l,e x.2=e' x.2)->iw e pl c l=iw e' pl c l
 | [],_,_=>rfl
 | (i,x)::l,c,h=>by
   have h0:e x=e' x:=h (i,x) (List.mem_cons_self ..)
   simp only [iw,h0]
   split
   · rename_i off size l' _ _
     cases (Nat.beq (bv l') size && Nat.ble (off+size) (bv c))<;>simp only [cond_true,cond_false]
     exact oY fun y hy=>h y (List.mem_cons_of_mem _ hy)
   · rfl
theorem lf{e e':Operand->SV}{k:Nat} : ∀ {l:List (Nat×Operand)} {i:Nat},(∀ x∈l,e x.2=e' x.2)->fJ e k i l=fJ e' k i l
 | [],_,_=>rfl
 | (j,x)::l,i,h=>by
   have h0:e x=e' x:=h (j,x) (List.mem_cons_self ..)
   simp only [fJ,h0,lf (l:=l) (i:=i+1) fun y hy=>h y (List.mem_cons_of_mem _ hy)]
theorem mB{e e':Operand->SV} : ∀ {l:List Operand},(∀ x∈l,e x=e' x)->f7 A e l=f7 A e' l
 | [],_=>rfl
 |x::l,h=>by simp only [f7,h x (List.mem_cons_self ..),mB fun y hy=>h y (List.mem_cons_of_mem _ hy)]
theorem FG{parts:Array (Nat×Operand)}{x:Nat×Operand}(h:x∈parts.toList)(t:TypeId):x.2∈(Op.build t parts).operands.toList:=by
 simp only [Op.operands]
 exact List.mem_map.2 ⟨x,h,rfl⟩
theorem tx{parts:Array (Nat×Operand)}{x:Nat×Operand}(h:x∈parts.toList)(t n:Nat):x.2∈(Op.buildSlice t n parts).operands.toList:=by
 simp only [Op.operands]
 exact List.mem_map.2 ⟨x,h,rfl⟩
theorem dL{c:Call}{x:Operand}(h:x∈c.args.toList):x∈(Op.call c).operands.toList:=by
 simp only [Op.operands,Call.operands]
 simp
 right
 simpa using h
theorem oZ{op:Op}{e e':Operand->SV}{m:Mem}(h: ∀ x∈op.operands.toList,e x=e' x):aB A T G op e m=aB A T G op e' m:=by
 cases op with
 |move x=>simp only [aB,h x (by simp [Op.operands])]
 |assign x=>simp only [aB,h x (by simp [Op.operands])]
 |nilCheck x=>simp only [aB,h x (by simp [Op.operands])]
 |pick c a b=>simp only [aB,h c (by simp [Op.operands]),h a (by simp [Op.operands]),h b (by simp [Op.operands])]
 |load t p=>simp only [aB,h p (by simp [Op.operands])]
 |fieldAddr t x i=>simp only [aB,h x (by simp [Op.operands])]
 |indexAddr t x i=>simp only [aB,h x (by simp [Op.operands]),h i (by simp [Op.operands])]
 |index t x i=>simp only [aB,h x (by simp [Op.operands]),h i (by simp [Op.operands])]
 |binOp b t x y t'=>simp only [aB,h x (by simp [Op.operands]),h y (by simp [Op.operands])]
 |unOp b t x=>cases b<;>simp only [aB,h x (by simp [Op.operands])]
 |convert s d x=>simp only [aB,h x (by simp [Op.operands])]
 |extract t i=>simp only [aB,h t (by simp [Op.operands])]
 |field t x i=>simp only [aB,h x (by simp [Op.operands])]
 |build t parts=>
  have:=fun pl c=>oY (e:=e) (e':=e') (pl:=pl) (l:=parts.toList) (c:=c) fun x hx=>h x.2 (FG hx t)
  simp only [aB,this]
 |buildSlice t n parts=>
  have:=fun k i=>lf (e:=e) (e':=e') (k:=k) (l:=parts.toList) (i:=i) fun x hx=>h x.2 (tx hx t n)
  simp only [aB,this]
 |slice t x lo hi mx=>
  have h1:=h x (by simp [Op.operands])
  have h2:bt e lo=bt e' lo:=lZ fun y hy=>h y (by simp [Op.operands,hy])
  have h3:bt e hi=bt e' hi:=lZ fun y hy=>h y (by simp [Op.operands,hy])
  have h4:bt e mx=bt e' mx:=lZ fun y hy=>h y (by simp [Op.operands,hy])
  simp only [aB,h1,h2,h3,h4]
 |makeFunc fn first captured=>
  have ha:bx e captured.toList=bx e' captured.toList:=jB fun x hx=>h x (by simp [Op.operands];exact .inr (by simpa using hx))
  have hx: ∀ x,first.toList= [x] ->e x=e' x:=fun x hx=>h x (by
   have:x∈first:=by rw [<-Array.mem_toList_iff,hx];simp
   simp [Op.operands,this])
  cases fn<;>simp only [aB,ha]
  split
  · rfl
  · rename_i x hxa
    rw [hx x hxa]
  · rfl
 |makeInterface t x=>simp only [aB,h x (by simp [Op.operands])]
 |call c=>
  obtain ⟨callee,args,ts⟩:=c
  have ha:bx e args.toList=bx e' args.toList:=jB fun x hx=>h x (dL hx)
  cases callee with
  |value f=>
   cases f with
   |tmp t=>simp only [aB,ha,h (.tmp t) (by simp [Op.operands,Call.operands])]
   |func|const|global=>simp only [aB,ha]
  |invoke r n=>rfl
  |builtin b=>
   have hx: ∀ x,args.toList= [x] ->e x=e' x:=fun x hx=>h x (dL (by rw [hx];simp))
   have hxy: ∀ x y,args.toList= [x,y] ->e x=e' x∧e y=e' y:=fun x y hx=>⟨h x (dL (by rw [hx];simp)),h y (dL (by rw [hx];simp))⟩
   cases b<;>first
    |rfl
    | (simp only [aB]
       split
       · rename_i x y hxa
         rw [(hxy x y hxa).1,(hxy x y hxa).2]
       · rfl)
    | (simp only [aB]
       split
       · rename_i x hxa
         rw [hx x hxa]
       · rfl)
    | (simp only [aB]
       split
       · rename_i x t hxa _
         rw [hx x hxa]
       · rfl)
 |_=>rfl
theorem dX{k:Nat}{s:SV}(h:ez k s):eV k s:=by cases s<;>first|exact h|cases h
theorem ik{k:Nat}{s:SV}(h:cD k s):ez k s:=by cases s<;>first|exact h|cases h
theorem lE{k:Nat}{s:SV}(h:eV k s):gz k s:=by cases s<;>first|exact h|cases h
theorem ID{k:Nat}{s:SV}(h:gz k s):bW k s:=by cases s<;>first|exact h|cases h
theorem g8{k:Nat}{s:SV}(h:eV k s):bW k s:=ID (lE h)
theorem xH{k:Nat}{s:SV}(h:ez k s):bW k s:=g8 (dX h)
theorem jH{m m':Mem}{s:SV}(h: ∀ k,ez k s->af m k=af m' k):bc A m s=bc A m' s:=by
 cases s with
 |own k=>simp only [bc,h k rfl]
 |part k=>simp only [bc,h k rfl]
 |kid k q i=>simp only [bc,h k (.inl rfl)]
 |fkid k q n i=>simp only [bc,h k (.inl rfl)]
 |krun k q n=>simp only [bc,h k (.inl rfl)]
 |_=>rfl
theorem FH{m m':Mem}{s:SV}(h: ∀ k,ez k s->af m k=af m' k):cK m s=cK m' s:=by
 cases s with
 |own k=>simp only [cK,h k rfl]
 |_=>rfl
theorem tz{m m':Mem} : ∀ {l:List SV},(∀ k,(∃ s∈l,ez k s)->af m k=af m' k)->fc A m l=fc A m' l
 | [],_=>rfl
 |s::l,h=>by
  simp only [fc,jH (A:=A) (m:=m) (m':=m') (s:=s) fun k hk=>h k ⟨s,List.mem_cons_self ..,hk⟩,tz (l:=l) fun k ⟨t,ht,hk⟩=>h k ⟨t,List.mem_cons_of_mem _ ht,hk⟩]
theorem o6{m m':Mem} : ∀ {l:List SV},(∀ s∈l,∀ k,eV k s->af m k=af m' k)->bN A m l=bN A m' l
 | [],_=>rfl
 |s::l,h=>by
  have ih:=o6 (l:=l) fun t ht=>h t (List.mem_cons_of_mem _ ht)
  have hs:=h s (List.mem_cons_self ..)
  cases s with
  |agg q=>simp only [bN,ih,tz (A:=A) (m:=m) (m':=m') (l:=q) hs]
  |_=>simp only [bN,ih,jH (A:=A) (m:=m) (m':=m') fun k hk=>hs k (dX hk)]
theorem vX{e:Operand->SV}{s:SV} : ∀ {l:List Operand},s∈bx e l-> ∃ x∈l,e x=s
 | [],h=>by cases h
 |x::l,h=>by
  rcases List.mem_cons.1 h with rfl|h
  · exact ⟨x,List.mem_cons_self ..,rfl⟩
  · obtain ⟨y,hy,e⟩:=vX h
    exact ⟨y,List.mem_cons_of_mem _ hy,e⟩
theorem tB{op:Op}{e:Operand->SV}{m m':Mem}(h: ∀ x∈op.operands.toList,∀ k,eV k (e x)->af m k=af m' k):aB A T G op e m=aB A T G op e m':=by
 cases op with
 |load t p=>
  have hp:=h p (by simp [Op.operands])
  simp only [aB]
  cases he:e p with
  |ptr k off=>rw [he] at hp;cases T t<;>simp only [hp k rfl]
  |iptr k b n i=>rw [he] at hp;cases T t<;>simp only [hp k rfl]
  |eptr k q i off=>rw [he] at hp;cases T t<;>simp only [hp k rfl]
  |_=>cases T t<;>rfl
 |indexAddr t x i=>
  have hp:=h x (by simp [Op.operands])
  simp only [aB]
  cases he:e x with
  |own k=>rw [he] at hp;cases e i<;>cases T t<;>simp only [hp k rfl]
  |part k=>rw [he] at hp;cases e i<;>cases T t<;>simp only [hp k rfl]
  |_=>cases e i<;>cases T t<;>rfl
 |slice t x lo hi mx=>
  have hp:=h x (by simp [Op.operands])
  simp only [aB]
  cases he:e x with
  |own k=>rw [he] at hp;simp only [hp k rfl]
  |part k=>rw [he] at hp;simp only [hp k rfl]
  |_=>rfl
 |makeFunc fn first captured=>cases fn<;>rfl
 |convert s d x=>simp only [aB,jH (A:=A) (m:=m) (m':=m') (s:=e x) fun k hk=>h x (by simp [Op.operands]) k (dX hk)]
 |unOp b t x=>cases b<;>rfl
 |call c=>
  obtain ⟨callee,args,ts⟩:=c
  cases callee with
  |value f=>
   cases f<;>first|rfl|skip
   all_goals
    have:bN A m (bx e args.toList)=bN A m' (bx e args.toList):=o6 fun s hs k hk=>by
     obtain ⟨x,hx,rfl⟩:=vX hs
     exact h x (dL hx) k hk
    simp only [aB,this]
  |invoke r n=>rfl
  |builtin b=>
   cases b<;>first|rfl|skip
   simp only [aB]
   split
   · rename_i x t hxa _
     rw [jH (A:=A) (m:=m) (m':=m') (s:=e x) fun k hk=>h x (dL (by rw [hxa];simp)) k (dX hk)]
   · rfl
 |_=>rfl
theorem l4{op:Op}{e:Operand->SV}(m m':Mem)(h:cJ op= .none):aB A T G op e m=aB A T G op e m':=by
 cases op with
 |unOp b t x=>cases b<;>rfl
 |load|indexAddr|convert|slice=>cases h
 |makeFunc fn first captured=>cases fn<;>rfl
 |call c=>
  obtain ⟨callee,args,ts⟩:=c
  cases callee with
  |value f=>cases h
  |invoke r n=>rfl
  |builtin b=>cases b<;>first|rfl|cases h
 |_=>rfl
theorem FI{op:Op}{e:Operand->SV}{m m' m1:Mem}{key:Nat}{p:Option Prop}{r:SV}(ht:cJ op≠ .writes)
 (h:cJ op= .none∨ ∀ x∈op.operands.toList,∀ k,eV k (e x)->af m k=af m' k) (hc:bD A T G op e m key=some (p,r,m1)):
 (m1=m∧bD A T G op e m' key=some (p,r,m'))∨(cJ op≠ .none∧ ∃ b,m1=ins m key b∧bD A T G op e m' key=some (p,r,ins m' key b)):=by
 have cK: ∀ op:Op,aB A T G op e m=aB A T G op e m'->(match aB A T G op e m with|some (p,r)=>some (p,r,m) |none=>none)=some (p,r,m1)->
  (m1=m∧(match aB A T G op e m' with|some (p,r)=>some (p,r,m') |none=>none)=some (p,r,m')):=by
  intro op hm hh
  rw [hm] at hh
  split at hh
  · rename_i p' r' hp'
    simp only [sIE,pIE] at hh
    obtain ⟨rfl,rfl,rfl⟩:=hh
    exact ⟨rfl,rfl⟩
  · cases hh
 have hpm:aB A T G op e m=aB A T G op e m':=by
  rcases h with h|h
  · exact l4 m m' h
  · exact tB h
 cases op with
 |store=>exact absurd rfl ht
 |alloc t=>
  simp only [bD] at hc ⊢
  split at hc
  · rename_i ty hty
    cases hzz:zOk ty.zero<;>simp only [hzz,cond_true,cond_false,reduceCtorEq,sIE,pIE] at hc ⊢
    obtain ⟨rfl,rfl,rfl⟩:=hc
    exact .inr ⟨(fun e=>by cases e),_,rfl,rfl,rfl,rfl⟩
  · cases hc
 |box t x=>
  simp only [bD] at hc ⊢
  split at hc
  · simp only [sIE,pIE] at hc
    obtain ⟨rfl,rfl,rfl⟩:=hc
    exact .inr ⟨(fun e=>by cases e),_,rfl,rfl⟩
  · cases hc
 |makeSlice t x y=>
  refine .inr ⟨(fun e=>by cases e), ?_⟩
  simp only [bD] at hc ⊢
  split at hc
  · split at hc
    · split at hc
      · rename_i te hte
        split at hc
        · rename_i kk _ _ e1 k1 hkr hz0
          cases hb:Nat.beq _ 1<;>rw [hb] at hc<;>simp only [cond_true,cond_false,reduceCtorEq,sIE,pIE] at hc
          obtain ⟨rfl,rfl,rfl⟩:=hc
          exact ⟨_,rfl,rfl⟩
        · cases hb:(bQ te.zero && Nat.beq (len te.zero) _)<;>rw [hb] at hc<;>simp only [cond_true,cond_false,reduceCtorEq,sIE,pIE] at hc
          obtain ⟨rfl,rfl,rfl⟩:=hc
          exact ⟨_,rfl,rfl⟩
      · cases hc
    · cases hc
  · cases hc
 |buildSlice t n parts=>
  cases n with
  |zero=>
   simp only [bD] at hc ⊢
   split at hc
   · split at hc
     · simp only [sIE,pIE] at hc
       obtain ⟨rfl,rfl,rfl⟩:=hc
       exact .inr ⟨(fun e=>by cases e),_,rfl,rfl⟩
     · cases hc
   · cases hc
  |succ n=>
   simp only [bD] at hc ⊢
   cases hbs:uw T t (n+1) parts e with
   |some y=>
    rw [hbs] at hc
    simp only [sIE,pIE] at hc
    obtain ⟨rfl,rfl,rfl⟩:=hc
    exact .inr ⟨(fun e=>by cases e),_,rfl,rfl⟩
   |none=>
    rw [hbs] at hc
    exact .inl (cK _ hpm hc)
 |call c=>
  obtain ⟨callee,args,ts⟩:=c
  cases callee with
  |value f=>
   cases f with
   |func f=>
    simp only [bD] at hc ⊢
    rw [hpm] at hc
    split at hc
    · split at hc
      · rename_i r' b hcl
        simp only [sIE,pIE] at hc
        obtain ⟨rfl,rfl,rfl⟩:=hc
        exact .inr ⟨(fun e=>by cases e),_,rfl,rfl⟩
      · rename_i r' hcl
        simp only [sIE,pIE] at hc
        obtain ⟨rfl,rfl,rfl⟩:=hc
        exact .inl ⟨rfl,rfl⟩
    · cases hc
   |tmp|const|global=>exact .inl (cK _ hpm hc)
  |invoke r n=>exact .inl (cK _ hpm hc)
  |builtin b=>cases b<;>first|exact absurd rfl ht|exact .inl (cK _ hpm hc)
 |convert src dst x=>
  simp only [bD] at hc ⊢
  cases hcv:Im T src dst (e x) with
  |some y=>
   rw [hcv] at hc
   simp only [sIE,pIE] at hc
   obtain ⟨rfl,rfl,rfl⟩:=hc
   exact .inr ⟨(fun e=>by cases e),_,rfl,rfl⟩
  |none=>
   rw [hcv] at hc
   exact .inl (cK _ hpm hc)
 |_=>exact .inl (cK _ hpm hc)
theorem AW{op:Op}{e e':Operand->SV}{m:Mem}{key:Nat}(h: ∀ x∈op.operands.toList,e x=e' x):bD A T G op e m key=bD A T G op e' m key:=by
 have hp:=oZ (A:=A) (T:=T) (G:=G) (m:=m) h
 cases op with
 |alloc t=>rfl
 |box t x=>simp only [bD,h x (by simp [Op.operands])]
 |store t p x=>simp only [bD,h p (by simp [Op.operands]),h x (by simp [Op.operands])]
 |makeSlice t x y=>simp only [bD,h x (by simp [Op.operands]),h y (by simp [Op.operands])]
 |buildSlice t n parts=>
  cases n with
  |zero=>rfl
  |succ n=>
   have hch:=fun k i=>lf (e:=e) (e':=e') (k:=k) (l:=parts.toList) (i:=i) fun x hx=>h x.2 (tx hx t (n+1))
   have hb:uw T t (n+1) parts e=uw T t (n+1) parts e':=by simp only [uw,hch]
   simp only [bD,hp,hb]
 |convert src dst x=>simp only [bD,hp,h x (by simp [Op.operands])]
 |call c=>
  obtain ⟨callee,args,ts⟩:=c
  cases callee with
  |value f=>cases f<;>simp only [bD,hp]
  |invoke r n=>simp only [bD,hp]
  |builtin b=>
   cases b<;>first
    | (simp only [bD,hp];done)
    |skip
   simp only [bD]
   split
   · rename_i x y t u hxa _
     rw [h x (dL (by rw [hxa];simp)),h y (dL (by rw [hxa];simp))]
   · rfl
 |_=>simp only [bD,hp]
theorem AX{op:Op}{gv:SV}{want:Bool}{e e':Operand->SV}{m:Mem}{base:Nat}(h: ∀ x∈op.operands.toList,e x=e' x):c8 A T G op gv want e m base=c8 A T G op gv want e' m base:=by
 have h1:=oZ (A:=A) (T:=T) (G:=G) (op:=op) (m:=m) (e:=lN e op) (e':=lN e' op) fun x hx=>by
  unfold lN
  split
  · rename_i t y z
    cases x with
    |tmp t'=>simp only [h _ hx]
    |_=>exact h _ hx
  · simp only [wZ,h x hx]
 have h2:m7 A e op=m7 A e' op:=by
  unfold m7
  split
  · rename_i t y z
    rw [h (.tmp t) (by simp [Op.operands])]
  · exact mB (A:=A) h
 simp only [c8,h1,h2]
theorem FJ{op:Op}{gv:SV}{want:Bool}{e:Operand->SV}{m m' m1:Mem}{base:Nat}{p:Option Prop}{r:SV}
 (h:cJ op= .none∨ ∀ x∈op.operands.toList,∀ k,eV k (wZ e x)->af m k=af m' k) (hc:c8 A T G op gv want e m base=some (p,r,m1)):
 m1=m∧c8 A T G op gv want e m' base=some (p,r,m'):=by
 have hpm:aB A T G op (lN e op) m=aB A T G op (lN e op) m':=by
  rcases h with h|h
  · exact l4 m m' h
  · cases op with
    |pick c y z=>exact l4 m m' rfl
    |_=>exact tB h
 simp only [c8] at hc ⊢
 rw [hpm] at hc
 split at hc
 · split at hc
   · cases hc
   · cases hc
   · simp only [sIE,pIE] at hc
     obtain ⟨rfl,rfl,rfl⟩:=hc
     exact ⟨rfl,rfl⟩
 · cases hc
theorem IE(tmps:List SV){d d':Option Nat}(x y:SV)(h: ∀ k,d=some k->d'≠some k):put (put tmps d x) d' y=put (put tmps d' y) d x:=by
 cases d with
 |none=>cases d'<;>rfl
 |some k=>
  cases d' with
  |none=>rfl
  |some k'=>
   simp only [put,i6]
   rw [List.set_comm]
   intro e
   exact h k rfl (by rw [e])
theorem vY{tmps:List SV}{d:Option Nat}{x:SV}{t:Nat}(h: ∀ k,d=some k->k≠t):au (put tmps d x) t=au tmps t:=by
 cases d with
 |none=>rfl
 |some k=>simp only [put,i6,bZ,List.getElem?_set,if_neg (h k rfl)]
theorem o7{gl:Nat->SV}{tmps:List SV}{d:Option Nat}{x:SV}{y:Operand}(h: ∀ k,d=some k->y≠ .tmp k):ev gl (put tmps d x) y=ev gl tmps y:=by
 cases y with
 |tmp t=>exact vY fun k hk e=>h k hk (by rw [e])
 |const v=>cases v<;>rfl
 |_=>rfl
theorem gd{a b:Blk}{k k':Nat}(h:k≠k'): ∀ m:Mem,ins (ins m k a) k' b=ins (ins m k' b) k a
 | [] =>by
   simp only [ins]
   cases h1:Nat.ble k k'<;>cases h2:Nat.ble k' k<;>simp only [cond_true,cond_false]
   · have: ¬ k<=k':=fun e=>by rw [Nat.ble_eq_true_of_le e] at h1;cases h1
     have: ¬ k'<=k:=fun e=>by rw [Nat.ble_eq_true_of_le e] at h2;cases h2
     omega
   · have:=Nat.le_of_ble_eq_true h1
     have:=Nat.le_of_ble_eq_true h2
     omega
 | (q,c)::m=>by
   have ih:=gd (a:=a) (b:=b) h m
   have t1: ∀ x y:Nat,Nat.ble x y=true↔x<=y:=fun x y=>⟨Nat.le_of_ble_eq_true,Nat.ble_eq_true_of_le⟩
   have t2: ∀ x y:Nat,Nat.ble x y=false↔ ¬ x<=y:=fun x y=>by rw [<-t1,Bool.not_eq_true]
   simp only [ins]
   cases h1:Nat.ble q k<;>cases h2:Nat.ble q k'<;>simp only [cond_true,cond_false,ins,h1,h2]
   · rw [ih]
   · have h3:Nat.ble k k'=true:=by rw [t1];rw [t2] at h1;rw [t1] at h2;omega
     have h4:Nat.ble k' k=false:=by rw [t2];rw [t2] at h1;rw [t1] at h2;omega
     simp only [h4,cond_false]
   · have h3:Nat.ble k k'=false:=by rw [t2];rw [t1] at h1;rw [t2] at h2;omega
     simp only [h3,cond_false,ins,h2]
   · cases h3:Nat.ble k k'<;>cases h4:Nat.ble k' k<;>simp only [cond_true,cond_false,ins,h1,h2]
     · rw [t2] at h3 h4;omega
     · rw [t1] at h3 h4;omega
theorem cx{b:Blk}{k q:Nat}(h:q≠k): ∀ m:Mem,af (ins m k b) q=af m q
 | [] =>by
   simp only [ins,af]
   cases hb:Nat.beq k q
   · rfl
   · exact absurd (nQE hb).symm h
 | (j,c)::m=>by
   simp only [ins]
   cases Nat.ble j k<;>simp only [cond_true,cond_false,af,cx h m]
   cases hb:Nat.beq k q
   · rfl
   · exact absurd (nQE hb).symm h
def b8 (A:Ar)(T:Tys)(G:Pu)(all:List Oper)(base i:Nat)(o:Oper)(tmps:List SV)(m:Mem):Option (Option Prop×SV×Mem):=
 match o.guard with
 |some (j,want)=>match ka all j with
  |some d=>c8 A T G o.op (au tmps d) want (ev T.gl tmps) m base
  |none=>none
 |none=>bD A T G o.op (ev T.gl tmps) m (base+i)
def bT (A:Ar)(T:Tys)(G:Pu)(all:List Oper)(base i:Nat)(o:Oper)(tmps:List SV)(m:Mem):Option (Option Prop×SV×Mem):=ox (ux all o) (base+i) (b8 A T G all base i o tmps m)
theorem cP{all:List Oper}{base i:Nat}{o:Oper}{tmps:List SV}{m:Mem}(h:cO o.op=false):bT A T G all base i o tmps m=b8 A T G all base i o tmps m:=by
 unfold bT ux
 rw [h]
 exact km _
theorem DR{op:Op}(h:cO op=true):cJ op= .writes:=by
 cases op with
 |call c=>
  obtain ⟨callee,args,ts⟩:=c
  cases callee with
  |builtin b=>cases b<;>first|rfl|cases h
  |value f=>cases h
  |invoke x n=>cases h
 |_=>cases h
theorem apG{op:Op}{gv:SV}{want:Bool}{e:Operand->SV}{m:Mem}{base:Nat}(h:cO op=true):c8 A T G op gv want e m base=none:=by
 cases op with
 |call c=>
  obtain ⟨callee,args,ts⟩:=c
  cases callee with
  |builtin b=>
   cases b<;>first| (cases h;done) |skip
   unfold c8
   simp only [aB]
   split
   · rename_i hp;cases hp
   · rfl
  |value f=>cases h
  |invoke x n=>cases h
 |_=>cases h
theorem AY{all:List Oper}{base i:Nat}{o:Oper}{s:St} :dF A T G all base i o s=fin o s (bT A T G all base i o s.tmps s.mem):=by
 unfold dF bT b8
 cases hg:o.guard with
 |none=>rfl
 |some x=>
  obtain ⟨j,want⟩:=x
  simp only
  cases hd:ka all j with
  |none=>rfl
  |some d=>
   simp only
   cases ha:cO o.op
   · unfold ux;rw [ha];exact congrArg (fin o s) (km _).symm
   · rw [apG ha];rfl
theorem FK{all:List Oper}{base i:Nat}{o:Oper}{tmps:List SV}{m:Mem}{d:Option Nat}{x:SV}(h: ∀ k,d=some k->k∉o.looksAt all.toArray):
 b8 A T G all base i o (put tmps d x) m=b8 A T G all base i o tmps m:=by
 have hev: ∀ y∈o.op.operands.toList,ev T.gl (put tmps d x) y=ev T.gl tmps y:=fun y hy=>o7 fun k hk e=>h k hk (by
  subst e
  exact List.mem_append_left _ (List.mem_filterMap.2 ⟨.tmp k,hy,rfl⟩))
 unfold b8
 split
 · rename_i j want hg
   split
   · rename_i dd hd
     have hgd:au (put tmps d x) dd=au tmps dd:=vY fun k hk e=>h k hk (by
      subst e
      refine List.mem_append_right _ ?_
      rw [hg]
      simp only [nm hd]
      simp)
     rw [hgd]
     exact AX hev
   · rfl
 · exact AW hev
theorem FM{all:List Oper}{base i:Nat}{o:Oper}{tmps:List SV}{m m' m1:Mem}{p:Option Prop}{r:SV}(ht:cJ o.op≠ .writes)
 (h:cJ o.op= .none∨ ∀ x∈o.op.operands.toList,∀ k,bW k (ev T.gl tmps x)->af m k=af m' k) (hc:b8 A T G all base i o tmps m=some (p,r,m1)):
 (m1=m∧b8 A T G all base i o tmps m'=some (p,r,m'))∨(cJ o.op≠ .none∧ ∃ b,m1=ins m (base+i) b∧b8 A T G all base i o tmps m'=some (p,r,ins m' (base+i) b)):=by
 unfold b8 at hc ⊢
 split at hc
 · rename_i j want hg
   split at hc
   · rename_i d hd
     refine .inl (FJ ?_ hc)
     rcases h with h|h
     · exact .inl h
     · refine .inr fun x hx k hk=>h x hx k ?_
       unfold wZ at hk
       cases he:ev T.gl tmps x with
       |opt c t=>rw [he] at hk;exact lE hk
       |_=>rw [he] at hk;exact g8 hk
   · cases hc
 · refine FI ht ?_ hc
   rcases h with h|h
   · exact .inl h
   · exact .inr fun x hx k hk=>h x hx k (g8 hk)
end
section
variable {P:Program} {c:Ctx} {T:Tys} {G:Pu} {X:Xt}
theorem Rel.ment1_in{w:World}{ρ:Nat->Value}{rw U:Nat->Prop}{v:Value}{s:SV}{k:Nat}(h:Rel w ρ rw U v s)(hk:ez k s):U k:=by
 cases h<;>first| (exact (by assumption: ∀ k,(∃ s,s∈_∧cD k s)->U k) k hk) |cases hk|skip
 all_goals first|assumption| (subst_vars;assumption)
theorem IF{w:World}{ρ:Nat->Value}{rw U:Nat->Prop}{cs:Array Value}{l:List SV}{t:SV}{k:Nat}(hl:cs.size=(ap l).length)(h: ∀(i:Nat) v s,cs[i]? =some v->(ap l)[i]? =some s->Rel w ρ rw U v s)(hm:bU U l)(ht:t∈l)(hk:ez k t):U k:=by
 have cell: ∀ u,u∈ap l->ez k u->U k:=fun u hu hku=>by
  obtain ⟨i,hi⟩:=List.mem_iff_getElem?.1 hu
  have hlt:i<cs.size:=by rw [hl];exact (List.getElem?_eq_some_iff.1 hi).1
  exact (h i _ u (Array.getElem?_eq_getElem hlt) hi).ment1_in hku
 cases hr:aK t
 · exact cell t (oI ht hr) hk
 · exact hm t ht hr k (by cases t<;>first| (cases hr;done) |exact hk)
theorem Rel.ment2_in{w:World}{ρ:Nat->Value}{rw U:Nat->Prop}{v:Value}{s:SV}{k:Nat}(h:Rel w ρ rw U v s)(hk:eV k s):U k:=by
 cases s with
 |agg l=>
  obtain ⟨t,ht,hk⟩:=hk
  generalize hs:SV.agg l=s at h
  cases h with
  |agg cs l' hl h1 h hm=>
   cases hs
   exact IF hl h hm ht hk
  |_=>cases hs
 |_=>exact h.ment1_in hk
theorem Rel.ment3_in{w:World}{ρ:Nat->Value}{rw U:Nat->Prop}{v:Value}{s:SV}{k:Nat}(h:Rel w ρ rw U v s)(hk:gz k s):U k:=by
 cases s with
 |tup l=>
  obtain ⟨t,ht,hk⟩:=hk
  generalize hs:SV.tup l=s at h
  cases h with
  |tup cs l' hl h=>
   cases hs
   obtain ⟨i,hi⟩:=List.mem_iff_getElem?.1 ht
   have hlt:i<cs.size:=by rw [hl];exact (List.getElem?_eq_some_iff.1 hi).1
   exact (h i _ t (Array.getElem?_eq_getElem hlt) hi).ment2_in hk
  |_=>cases hs
 |_=>exact h.ment2_in hk
theorem Rel.ment_in{w:World}{ρ:Nat->Value}{rw U:Nat->Prop}{v:Value}{s:SV}{k:Nat}(h:Rel w ρ rw U v s)(hk:bW k s):U k:=by
 cases s with
 |opt cc t=>
  generalize hs:SV.opt cc t=s at h
  cases h with
  |opt c v t' _ _ hm=>cases hs;exact hm k hk
  |_=>cases hs
 |_=>exact h.ment3_in hk
theorem mC{ρ:Nat->Value} : ∀ {m:Mem},m.Pairwise (cm ρ)->m.Pairwise fun e e'=>e.1≠e'.1:=fun h=>h.imp fun h=>h.1
theorem j0{q:Nat} : ∀ {m:Mem},m.Pairwise (fun e e'=>e.1≠e'.1)->af (del m q) q=none
 | [],_=>rfl
 | (k,c)::m,h=>by
   obtain ⟨h1,h2⟩:=List.pairwise_cons.1 h
   simp only [del]
   cases hb:Nat.beq k q<;>simp only [cond_true,cond_false]
   · simp only [af,hb,cond_false]
     exact j0 h2
   · obtain rfl:=nQE hb
     cases hl:af m k with
     |none=>rfl
     |some b=>exact absurd rfl (h1 (k,b) (ai hl))
theorem dv{q k:Nat}(hk:k≠q): ∀(m:Mem),af (del m q) k=af m k
 | [] =>rfl
 | (j,c)::m=>by
   simp only [del]
   cases hb:Nat.beq j q<;>simp only [cond_true,cond_false,af]
   · rw [dv hk m]
   · obtain rfl:=nQE hb
     cases hb2:Nat.beq j k
     · rfl
     · exact absurd (nQE hb2).symm hk
theorem vZ{e:Operand->SV}{t:TypeId}{x:Operand}{m m':Mem}{pr:Option Prop×SV}(h:aB std T G (.load t x) e m=some pr)(hm: ∀ k b,cD k (e x)->af m k=some b->af m' k=some b):aB std T G (.load t x) e m'=some pr:=by
 simp only [aB] at h ⊢
 split at h
 · rename_i k off ty hx hty
   rw [hx] at hm
   split at h
   · rename_i u c hl
     rw [hm k _ rfl hl]
     exact h
   · cases h
 · rename_i k base n i ty hx hty
   rw [hx] at hm
   split at h
   · rename_i u c hl
     rw [hm k _ rfl hl]
     exact h
   · cases h
 · rename_i k f ty hx hty
   exact h
 · rename_i q k i off ty hx hty
   rw [hx] at hm
   split at h
   · rename_i hl
     rw [hm q _ rfl hl]
     exact h
   · rename_i hl
     rw [hm q _ rfl hl]
     exact h
   · cases h
 · cases h
theorem DS{all:List Oper}{base i:Nat}{o:Oper}{tmps:List SV}{m m1:Mem}{p:Option Prop}{r:SV}(hL:iu o.op=true)(hc:b8 std T G all base i o tmps m=some (p,r,m1)):
 m1=m∧ ∀ m',(∀ k b,(∃ x∈o.op.operands.toList,bW k (ev T.gl tmps x))->af m k=some b->af m' k=some b)->b8 std T G all base i o tmps m'=some (p,r,m'):=by
 cases ho:o.op with
 |load t x=>
  unfold b8 at hc ⊢
  split at hc
  · rename_i j want hg
    split at hc
    · rename_i d hd
      simp only [ho,c8] at hc ⊢
      split at hc
      · rename_i cc b pp rr ht hpure
        split at hc
        · cases hc
        · cases hc
        · rename_i hcl hkb
          simp only [sIE,pIE] at hc
          obtain ⟨rfl,rfl,rfl⟩:=hc
          refine ⟨rfl,fun m' hm=> ?_⟩
          have:=vZ (m':=m') hpure fun k b hk hb=>hm k b ⟨x,by simp [Op.operands],by
           have hk:cD k (eg (ev T.gl tmps x)):=hk
           cases hs:ev T.gl tmps x with
           |opt c t=>rw [hs] at hk;exact lE (dX (ik hk))
           |_=>rw [hs] at hk;exact g8 (dX (ik hk))⟩ hb
          rw [ht,this]
          simp only
          rw [hcl,hkb]
      · cases hc
    · cases hc
  · simp only [ho,bD] at hc ⊢
    split at hc
    · rename_i p' r' hpure
      simp only [sIE,pIE] at hc
      obtain ⟨rfl,rfl,rfl⟩:=hc
      refine ⟨rfl,fun m' hm=> ?_⟩
      rw [vZ (m':=m') hpure fun k b hk hb=>hm k b ⟨x,by simp [Op.operands],g8 (dX (ik hk))⟩ hb]
    · cases hc
 |_=>rw [ho] at hL;cases hL
theorem tC{e:Operand->SV}{t:TypeId}{x:Operand}{lo hi mx:Option Operand}{m m':Mem}{pr:Option Prop×SV}(h:aB std T G (.slice t x lo hi mx) e m=some pr)(hm: ∀ k b,cD k (e x)->af m k=some b->af m' k=some b):aB std T G (.slice t x lo hi mx) e m'=some pr:=by
 cases hs:e x with
 |own q=>
  rw [hs] at hm
  simp only [aB,hs] at h ⊢
  cases hl:af m q with
  |none=>
   rw [hl] at h
   split at h
   · split at h<;>cases h
   · cases h
  |some b=>
   rw [hl] at h
   rw [hm q b rfl hl]
   exact h
 |part q k o n=>
  rw [hs] at hm
  simp only [aB,hs] at h ⊢
  cases hl:af m q with
  |none=>
   rw [hl] at h
   split at h
   · split at h<;>cases h
   · cases h
  |some b=>
   rw [hl] at h
   rw [hm q b rfl hl]
   exact h
 |_=>
  simp only [aB,hs] at h ⊢
  exact h
theorem AZ{all:List Oper}{base i:Nat}{o:Oper}{tmps:List SV}{m m1:Mem}{p:Option Prop}{r:SV}(hL:rm o.op=true)(hc:b8 std T G all base i o tmps m=some (p,r,m1)):
 m1=m∧ ∀ m',(∀ t x lo hi mx,o.op= .slice t x lo hi mx-> ∀ k b,bW k (ev T.gl tmps x)->af m k=some b->af m' k=some b)->b8 std T G all base i o tmps m'=some (p,r,m'):=by
 cases ho:o.op with
 |slice t x lo hi mx=>
  have hmem:x∈(Op.slice t x lo hi mx).operands.toList:=by simp [Op.operands]
  unfold b8 at hc ⊢
  split at hc
  · rename_i j want hg
    split at hc
    · rename_i d hd
      simp only [ho,c8] at hc ⊢
      split at hc
      · rename_i cc b pp rr ht hpure
        split at hc
        · cases hc
        · cases hc
        · rename_i hcl hkb
          simp only [sIE,pIE] at hc
          obtain ⟨rfl,rfl,rfl⟩:=hc
          refine ⟨rfl,fun m' hm=> ?_⟩
          have:=tC (m':=m') hpure fun k b hk hb=>hm t x lo hi mx rfl k b (by
           have hk:cD k (eg (ev T.gl tmps x)):=hk
           cases hs:ev T.gl tmps x with
           |opt c t=>rw [hs] at hk;exact lE (dX (ik hk))
           |_=>rw [hs] at hk;exact g8 (dX (ik hk))) hb
          rw [ht,this]
          simp only
          rw [hcl,hkb]
      · cases hc
    · cases hc
  · simp only [ho,bD] at hc ⊢
    split at hc
    · rename_i p' r' hpure
      simp only [sIE,pIE] at hc
      obtain ⟨rfl,rfl,rfl⟩:=hc
      refine ⟨rfl,fun m' hm=> ?_⟩
      rw [tC (m':=m') hpure fun k b hk hb=>hm t x lo hi mx rfl k b (g8 (dX (ik hk))) hb]
    · cases hc
 |_=>rw [ho] at hL;cases hL
theorem FN{all:List Oper}{base i:Nat}{o:Oper}{tmps:List SV}{m m1:Mem}{p:Option Prop}{r:SV}(hL:iu o.op=true)(hh:hot (ev T.gl tmps) o.op=false)(hc:b8 std T G all base i o tmps m=some (p,r,m1))
 {x:Operand} {k:Nat} {b:Blk} (hx:x∈o.op.operands.toList) (hk:bW k (ev T.gl tmps x)) (hb:af m k=some b): ∃ t c,b= .box t c:=by
 cases ho:o.op with
 |load t y=>
  rw [ho] at hx hh
  have:x=y:=by simpa [Op.operands] using hx
  subst this
  have main: ∀(e:Operand->SV) pr,e x=ev T.gl tmps x∨e x=eg (ev T.gl tmps x)->aB std T G (.load t x) e m=some pr-> ∃ t c,b= .box t c:=by
   intro e pr he h
   simp only [aB] at h
   simp only [hot] at hh
   split at h
   · rename_i q off ty hq hty
     split at h
     · rename_i u c hl
       have:k=q:=by
        rcases he with he|he
        · rw [<-he,hq] at hk;exact hk.symm
        · rw [hq] at he
          cases hs:ev T.gl tmps x with
          |opt c s=>rw [hs] at he hk;simp only [eg] at he;subst he;exact hk.symm
          |_=>rw [hs] at he hk;simp only [eg] at he;first| (cases he;exact hk.symm) |cases he
       subst this
       rw [hl] at hb
       cases hb
       exact ⟨_,_,rfl⟩
     · cases h
   · rename_i q b2 n2 i2 ty hq hty
     exfalso
     have:eg (ev T.gl tmps x)= .iptr q b2 n2 i2:=by
      rcases he with he|he
      · rw [<-he,hq];rfl
      · rw [<-he,hq]
     rw [this] at hh
     cases hh
   · rename_i q f ty hq hty
     exfalso
     rcases he with he|he
     · rw [<-he,hq] at hk;exact hk
     · rw [hq] at he
       cases hs:ev T.gl tmps x with
       |opt c s=>rw [hs] at he hk;simp only [eg] at he;subst he;exact hk
       |_=>rw [hs] at he hk;simp only [eg] at he;first| (cases he;exact hk) |cases he
   · rename_i q k2 i2 off ty hq hty
     exfalso
     have:eg (ev T.gl tmps x)= .eptr q k2 i2 off:=by
      rcases he with he|he
      · rw [<-he,hq];rfl
      · rw [<-he,hq]
     rw [this] at hh
     cases hh
   · cases h
  unfold b8 at hc
  split at hc
  · split at hc
    · simp only [ho,c8] at hc
      split at hc
      · rename_i hpure
        exact main _ _ (.inr rfl) hpure
      · cases hc
    · cases hc
  · simp only [ho,bD] at hc
    split at hc
    · rename_i hpure
      exact main _ _ (.inl rfl) hpure
    · cases hc
 |_=>rw [ho] at hL;cases hL
theorem fB{k:Nat}{s t:SV}(hk:bW k s)(he:t=s∨t=eg s)(hno: ∀ c u,t≠ .opt c u):bW k t:=by
 rcases he with rfl|rfl
 · exact hk
 · cases s with
   |opt c u=>cases u<;>first|exact hk|exact absurd rfl (hno _ _)
   |_=>exact hk
def ny (b:Blk):Prop:=(∃ e K j,b= .krow e K∧K.hl=some j)∨ ∃ K,b= .kids K
theorem DT{all:List Oper}{base i:Nat}{o:Oper}{tmps:List SV}{m m1:Mem}{p:Option Prop}{r:SV}(hL:iu o.op=true)(hc:b8 std T G all base i o tmps m=some (p,r,m1))
 {x:Operand} {k:Nat} {b:Blk} (hx:x∈o.op.operands.toList) (hk:bW k (ev T.gl tmps x)) (hb:af m k=some b) (hh:ny b):False:=by
 cases ho:o.op with
 |load t y=>
  rw [ho] at hx
  have:x=y:=by simpa [Op.operands] using hx
  subst this
  have main: ∀(e:Operand->SV) pr,e x=ev T.gl tmps x∨e x=eg (ev T.gl tmps x)->aB std T G (.load t x) e m=some pr->False:=by
   intro e pr he h
   simp only [aB] at h
   split at h
   · rename_i q off ty hq hty
     have hk2:=fB hk he (by rw [hq];intro c u h;cases h)
     rw [hq] at hk2
     obtain rfl:q=k:=hk2
     rw [hb] at h
     rcases hh with ⟨e,K,j,rfl,_⟩ | ⟨K,rfl⟩<;>cases h
   · rename_i q b2 n2 i2 ty hq hty
     have hk2:=fB hk he (by rw [hq];intro c u h;cases h)
     rw [hq] at hk2
     obtain rfl:q=k:=hk2
     rw [hb] at h
     rcases hh with ⟨e,K,j,rfl,_⟩ | ⟨K,rfl⟩<;>cases h
   · rename_i q f ty hq hty
     have hk2:=fB hk he (by rw [hq];intro c u h;cases h)
     rw [hq] at hk2
     exact hk2
   · rename_i q k2 i2 off ty hq hty
     have hk2:=fB hk he (by rw [hq];intro c u h;cases h)
     rw [hq] at hk2
     obtain rfl:q=k:=hk2
     rw [hb] at h
     rcases hh with ⟨e,K,j,rfl,hh⟩ | ⟨K,rfl⟩
     rotate_left
     · cases h
     simp only [hh] at h
     revert h
     generalize (Nat.beq k2 1 &&(Nat.beq off 0 &&(Nat.beq ty.size 1 && !ty.agg)))=bb
     cases bb<;>simp
   · cases h
  unfold b8 at hc
  split at hc
  · split at hc
    · simp only [ho,c8] at hc
      split at hc
      · rename_i hpure
        exact main _ _ (.inr rfl) hpure
      · cases hc
    · cases hc
  · simp only [ho,bD] at hc
    split at hc
    · rename_i hpure
      exact main _ _ (.inl rfl) hpure
    · cases hc
 |_=>rw [ho] at hL;cases hL
theorem A0{all:List Oper}{base i:Nat}{o:Oper}{tmps:List SV}{m m1:Mem}{p:Option Prop}{r:SV}(hL:rm o.op=true)(hc:b8 std T G all base i o tmps m=some (p,r,m1))
 {k:Nat} {b:Blk} (hb:af m k=some b) (hh:ny b): ∀ x,(∃ t lo hi mx,o.op= .slice t x lo hi mx)-> ¬ bW k (ev T.gl tmps x):=by
 intro x ⟨t,lo,hi,mx,ho⟩ hk
 have main: ∀(e:Operand->SV) pr,e x=ev T.gl tmps x∨e x=eg (ev T.gl tmps x)->aB std T G (.slice t x lo hi mx) e m=some pr->False:=by
  intro e pr he h
  cases hs:e x with
  |own q=>
   have hk2:=fB hk he (by rw [hs];intro c u h;cases h)
   rw [hs] at hk2
   obtain rfl:q=k:=hk2
   rcases hh with ⟨e,K,j,rfl,hh⟩ | ⟨K,rfl⟩<;>simp only [aB,hs,hb] at h<;>(repeat' split at h)<;>cases h
  |part q a b c=>
   have hk2:=fB hk he (by rw [hs];intro c u h;cases h)
   rw [hs] at hk2
   obtain rfl:q=k:=hk2
   rcases hh with ⟨e,K,j,rfl,hh⟩ | ⟨K,rfl⟩<;>simp only [aB,hs,hb] at h<;>(repeat' split at h)<;>cases h
  |slc|nils|emp|str=>
   have hk2:=fB hk he (by rw [hs];intro c u h;cases h)
   rw [hs] at hk2
   exact hk2
  |_=>
   simp only [aB,hs] at h
   (repeat' split at h)<;>cases h
 unfold b8 at hc
 split at hc
 · split at hc
   · simp only [ho,c8] at hc
     split at hc
     · rename_i hpure
       exact main _ _ (.inr rfl) hpure
     · cases hc
   · cases hc
 · simp only [ho,bD] at hc
   split at hc
   · rename_i hpure
     exact main _ _ (.inl rfl) hpure
   · cases hc
theorem o8{all:List Oper}{base i:Nat}{o:Oper}{tmps:List SV}{m m1:Mem}{p:Option Prop}{r:SV}(hA:cO o.op=true)(hc:b8 std T G all base i o tmps m=some (p,r,m1)):
 (∃ b,m1=ins m (base+i) b)∨(∃ q b e k n f,m1=ins (del m q) (base+i) b∧af m q=some (.row e k n f))∨(hot (ev T.gl tmps) o.op=true∧ ∃ q b e k n f,m1=upd m q b∧af m q=some (.row e k n f))∨
   ∃ q b b0 b1,m1=ins (upd m q b1) (base+i) b∧(af m q=some b0∧((∀ t c,b0≠ .box t c)∧ny b1)):=by
 cases ho:o.op with
 |call c=>
  obtain ⟨callee,args,ts⟩:=c
  cases callee with
  |builtin b=>
   cases b<;>first| (rw [ho] at hA;cases hA;done) |skip
   unfold b8 at hc
   split at hc
   · split at hc
     · simp only [ho,c8,aB] at hc
       split at hc
       · rename_i hpure;cases hpure
       · cases hc
     · cases hc
   · simp only [ho,bD] at hc
     split at hc
     · rename_i x y t u hargs hts
       split at hc
       · split at hc
         · split at hc
           · rename_i te hx hte
             cases hb:(bQ te.zero && Nat.beq (len te.zero) _)<;>rw [hb] at hc<;>simp only [cond_true,cond_false,reduceCtorEq,sIE,pIE] at hc
             obtain ⟨_,_,rfl⟩:=hc
             exact .inl ⟨_,rfl⟩
           · cases hc
         · cases hc
       · split at hc
         · rename_i el k by_ isb htag
           rename_i kk _ _ _ _ _ _
           revert hc
           generalize Nat.beq k _=bb
           intro hc
           cases bb<;>simp only [cond_true,cond_false,reduceCtorEq] at hc
           split at hc
           · simp only [sIE,pIE] at hc
             obtain ⟨_,_,rfl⟩:=hc
             exact .inl ⟨_,rfl⟩
           · simp only [sIE,pIE] at hc
             obtain ⟨_,_,rfl⟩:=hc
             exact .inl ⟨_,rfl⟩
           · rename_i q hx
             split at hc
             · rename_i e' k' n f hl
               revert hc
               generalize (Nat.beq el e' && Nat.beq k k')=bb
               intro hc
               cases bb<;>simp only [cond_true,cond_false,reduceCtorEq,sIE,pIE] at hc
               obtain ⟨_,_,rfl⟩:=hc
               exact .inr (.inl ⟨q,_,_,_,_,_,rfl,hl⟩)
             · cases hc
           · rename_i q k2 oo b hx
             split at hc
             · rename_i e' k' n f hl
               revert hc
               generalize ((Nat.beq el e' && Nat.beq k k')&&(Nat.beq k k2 && Nat.beq oo 0))=bb
               intro hc
               cases bb<;>simp only [cond_true,cond_false,reduceCtorEq,sIE,pIE] at hc
               obtain ⟨_,_,rfl⟩:=hc
               exact .inr (.inr (.inl ⟨by simp only [hot,hargs,hx],q,_,_,_,_,_,rfl,hl⟩))
             · cases hc
           · rename_i q jf ix hx
             split at hc
             · rename_i e0 K0 hl
               split at hc
               · simp only [sIE,pIE] at hc
                 obtain ⟨_,_,rfl⟩:=hc
                 exact .inr (.inr (.inr ⟨q,_,_,_,rfl,hl,fun t c e=>(by cases e), .inl ⟨_,_,ix,rfl,rfl⟩⟩))
               · cases hc
             · cases hc
           · rename_i q jf cn ix hx
             split at hc
             · rename_i K0 hl
               split at hc
               · simp only [sIE,pIE] at hc
                 obtain ⟨_,_,rfl⟩:=hc
                 exact .inr (.inr (.inr ⟨q,_,_,_,rfl,hl,fun t c e=>(by cases e), .inr ⟨_,rfl⟩⟩))
               · cases hc
             · cases hc
           · cases hc
         · cases hc
       · cases hc
     · cases hc
  |value f=>rw [ho] at hA;cases hA
  |invoke x n=>rw [ho] at hA;cases hA
 |_=>rw [ho] at hA;cases hA
theorem o9{all:List Oper}{base i:Nat}{o:Oper}{tmps:List SV}{m m1:Mem}{p:Option Prop}{r:SV}(hA:cO o.op=true)(hh:hot (ev T.gl tmps) o.op=false)(hc:b8 std T G all base i o tmps m=some (p,r,m1))(hnd:m.Pairwise fun e e'=>e.1≠e'.1)
 {k:Nat} {b:Blk} (hk:k≠base+i) (hb:af m1 k=some b):af m k=some b∨ny b:=by
 rcases o8 hA hc with ⟨c,rfl⟩ | ⟨q,c,_,_,_,_,rfl,hl⟩ | ⟨h,_⟩ | ⟨q,c,b0,b1,rfl,hl,hnb,hh1⟩
 · rw [cx hk] at hb;exact .inl hb
 · rw [cx hk] at hb
   by_cases hq:k=q
   · subst hq;rw [j0 hnd] at hb;cases hb
   · rw [dv hq] at hb;exact .inl hb
 · rw [hh] at h;cases h
 · rw [cx hk] at hb
   by_cases hq:k=q
   · subst hq
     have e0: ∀ {m:Mem},af m k=some b0->af (upd m k b1) k=some b1:=by
      intro m
      induction m with
      |nil=>intro h;cases h
      |cons y m ih=>
       intro h
       simp only [af] at h
       simp only [upd]
       cases hy:Nat.beq y.1 k<;>simp only [hy,cond_true,cond_false,af] at h ⊢
       exact ih h
     rw [e0 hl] at hb
     cases hb
     exact .inr hh1
   · rw [cE hq] at hb;exact .inl hb
theorem qO{all:List Oper}{base i:Nat}{o:Oper}{tmps:List SV}{m m1:Mem}{p:Option Prop}{r:SV}(hA:cO o.op=true)(hc:b8 std T G all base i o tmps m=some (p,r,m1))
 {k:Nat} {b:Blk} (hk:k≠base+i) (hb:af m k=some b) (hbox: ∃ t c,b= .box t c):af m1 k=some b:=by
 obtain ⟨t,c,rfl⟩:=hbox
 rcases o8 hA hc with ⟨c,rfl⟩ | ⟨q,c,_,_,_,_,rfl,hl⟩ | ⟨_,q,c,_,_,_,_,rfl,hl⟩ | ⟨q,c,b0,b1,rfl,hl,hnb,_⟩
 · rwa [cx hk]
 · rw [cx hk,dv (fun e=>by subst e;rw [hl] at hb;cases hb)];exact hb
 · rw [cE (fun e=>by subst e;rw [hl] at hb;cases hb)];exact hb
 · rw [cx hk,cE (fun e=>by subst e;rw [hl] at hb;exact hnb _ _ (Option.some.inj hb))];exact hb
theorem v6{k:Nat}{s:SV}(h:cD k s):uy k s=true:=by
 cases s<;>simp only [cD,uy] at h ⊢<;>first| (subst h;exact Nat.beq_refl _) |skip
 all_goals (rcases h with rfl|rfl<;>simp [Nat.beq_refl])
theorem v7{k:Nat}{s:SV}(h:ez k s):uz k s=true:=by
 cases s with
 |clo f l=>obtain ⟨t,ht,hk⟩:=h;exact List.any_eq_true.2 ⟨t,ht,v6 hk⟩
 |_=>simp only [ez,uz] at h ⊢;exact v6 h
theorem v8{k:Nat}{s:SV}(h:eV k s):uA k s=true:=by
 cases s with
 |agg l=>obtain ⟨t,ht,hk⟩:=h;exact List.any_eq_true.2 ⟨t,ht,v7 hk⟩
 |_=>simp only [eV,uA] at h ⊢;exact v7 h
theorem wa{k:Nat}{s:SV}(h:gz k s):uB k s=true:=by
 cases s with
 |tup l=>obtain ⟨t,ht,hk⟩:=h;exact List.any_eq_true.2 ⟨t,ht,v8 hk⟩
 |_=>simp only [gz,uB] at h ⊢;exact v8 h
theorem IG{k:Nat}{s:SV}(h:bW k s):nam k s=true:=by
 cases s with
 |opt c t=>simp only [bW,nam] at h ⊢;exact wa h
 |_=>simp only [bW,nam] at h ⊢;exact wa h
theorem xI{e:Operand->SV}{ops:List Operand}{all:List Oper}{f t:Nat}(h:adr e ops all f t=true):fw e ops t=true:=by
 cases f with
 |zero=>simp only [adr,bAE] at h;exact h.2
 |succ f=>simp only [adr,bAE] at h;exact h.2
theorem FO{e:Operand->SV}{all:List Oper}{op:Op}{o:Oper}(h:kZ e all op o=true){y:Operand}(hy: ∃ t x,o.op= .store t y x){k:Nat}(hk:bW k (e y)): ∀ x∈op.operands.toList,¬ bW k (e x):=by
 obtain ⟨t,z,ho⟩:=hy
 unfold kZ at h
 rw [ho] at h
 cases y with
 |tmp q=>
  replace h:=xI h
  unfold fw at h
  split at h
  · rename_i k' off he
    intro x hx hm
    rw [he] at hk
    have hk:k'=k:=hk
    subst hk
    have:=List.all_eq_true.1 h x hx
    rw [IG hm] at this
    cases this
  · rename_i he;intro x hx hm;rw [he] at hk;cases hk
  · rename_i he;intro x hx hm;rw [he] at hk;cases hk
  · cases h
 |_=>cases h
theorem FP{e:Operand->SV}{all:List Oper}{op:Op}{o:Oper}(h:kZ e all op o=true)(hS:ot o.op=true):hot e o.op=false:=by
 cases ho:o.op with
 |store t y x=>
  unfold kZ at h
  rw [ho] at h
  cases y with
  |tmp q=>
   replace h:=xI h
   unfold fw at h
   simp only [hot]
   split at h
   · rename_i he;rw [he]
   · rename_i he;rw [he]
   · rename_i he;rw [he]
   · cases h
  |_=>cases h
 |_=>rw [ho] at hS;cases hS
theorem mD{k q:Nat}{a b:Blk}(h:k≠q): ∀ m:Mem,upd (ins m k a) q b=ins (upd m q b) k a
 | [] =>by
   simp only [ins,upd]
   cases hb:Nat.beq k q
   · rfl
   · exact absurd (nQE hb) h
 | (j,c)::m=>by
   simp only [ins,upd]
   cases h1:Nat.ble j k<;>cases h2:Nat.beq j q<;>simp only [cond_true,cond_false,upd,h2,ins,h1]
   · rw [mD h m]
   · cases hb:Nat.beq k q
     · simp [cond_false,h2]
     · exact absurd (nQE hb) h
   · cases hb:Nat.beq k q
     · simp [cond_false,h2]
     · exact absurd (nQE hb) h
theorem uP{k q:Nat}{a:Blk}(h:k≠q): ∀ {m:Mem},m.Pairwise (fun e e'=>e'.1<e.1)->del (ins m k a) q=ins (del m q) k a
 | [],_=>by
   simp only [ins,del]
   cases hb:Nat.beq k q
   · rfl
   · exact absurd (nQE hb) h
 | (j,c)::m,hp=>by
   have hp':=List.pairwise_cons.1 hp
   have hkq:Nat.beq k q=false:=by
    cases hb:Nat.beq k q
    · rfl
    · exact absurd (nQE hb) h
   simp only [ins,del]
   cases h1:Nat.ble j k<;>cases h2:Nat.beq j q<;>simp only [cond_true,cond_false,del,h2,ins,h1,hkq]
   · rw [uP h hp'.2]
   · obtain rfl:j=q:=nQE h2
     have hjk:=Nat.le_of_ble_eq_true h1
     cases m with
     |nil=>rfl
     |cons e m=>
      have h3:=hp'.1 e (List.mem_cons_self ..)
      obtain ⟨e1,e2⟩:=e
      simp only at h3
      have h4:Nat.ble e1 k=true:=Nat.ble_eq_true_of_le (by omega)
      simp only [ins,h4,cond_true]
theorem dM{b:Blk}{k:Nat} : ∀ m:Mem,af (ins m k b) k=some b
 | [] =>by simp [ins,af]
 | (j,c)::m=>by
   simp only [ins]
   cases h:Nat.ble j k<;>simp only [cond_true,cond_false,af]
   · have hj:Nat.beq j k=false:=by
      cases hb:Nat.beq j k
      · rfl
      · have:=nQE hb;subst this;rw [Nat.ble_eq_true_of_le (Nat.le_refl _)] at h;cases h
     rw [hj]
     exact dM m
   · rw [Nat.beq_refl];rfl
theorem A1{all:List Oper}{base i:Nat}{o:Oper}{tmps:List SV}{m m1:Mem}{p:Option Prop}{r:SV}(hA:cO o.op=true)(hc:b8 std T G all base i o tmps m=some (p,r,m1)):
 ∃ F:Mem->Mem,m1=F m∧(∀ m',(∀ k,(∃ x∈o.op.operands.toList,bW k (ev T.gl tmps x))->af m' k=af m k)->b8 std T G all base i o tmps m'=some (p,r,F m'))∧
   (∀ k a m',m'.Pairwise (fun e e'=>e'.1<e.1)->k≠base+i->(¬ ∃ x∈o.op.operands.toList,bW k (ev T.gl tmps x))->F (ins m' k a)=ins (F m') k a)∧
   (r= .own (base+i)->(∃ bl,∀ m',af (F m') (base+i)=some bl)∧ ∀ m',m'.Pairwise (fun e e'=>e'.1<e.1)->(∀ e∈m',e.1≠base+i)->(F m').Pairwise fun e e'=>e'.1<e.1):=by
 cases ho:o.op with
 |call c=>
  obtain ⟨callee,args,ts⟩:=c
  cases callee with
  |builtin b=>
   cases b<;>first| (rw [ho] at hA;cases hA;done) |skip
   unfold b8 at hc ⊢
   split at hc
   · split at hc
     · simp only [ho,c8,aB] at hc
       split at hc
       · rename_i hpure;cases hpure
       · cases hc
     · cases hc
   · rename_i hgd
     simp only [ho,bD] at hc ⊢
     split at hc
     · rename_i x y t u hargs hts
       have hxm:x∈(Op.call { callee:=Callee.builtin Builtin.append,args:=args,argTypes:=ts }).operands.toList:=dL (by rw [hargs];simp)
       have hym:y∈(Op.call { callee:=Callee.builtin Builtin.append,args:=args,argTypes:=ts }).operands.toList:=dL (by rw [hargs];simp)
       have hsrcE: ∀ m':Mem,(∀ k,(∃ x∈(Op.call { callee:=Callee.builtin Builtin.append,args:=args,argTypes:=ts }).operands.toList,bW k (ev T.gl tmps x))->af m' k=af m k)->lA std T m' t u (ev T.gl tmps y)=lA std T m t u (ev T.gl tmps y):=fun m' hm=>by
        unfold lA
        rw [jH (m:=m') (m':=m) (s:=ev T.gl tmps y) fun k hk=>hm k ⟨y,hym,xH hk⟩,FH (m:=m') (m':=m) (s:=ev T.gl tmps y) fun k hk=>hm k ⟨y,hym,xH hk⟩]
       split at hc
       · rename_i ty z hty hsrc
         split at hc
         · rename_i el k by_ isb htag
           split at hc
           · rename_i te hx hte
             cases hb:(bQ te.zero && Nat.beq (len te.zero) k)<;>rw [hb] at hc<;>simp only [cond_true,cond_false,reduceCtorEq,sIE,pIE] at hc
             obtain ⟨rfl,rfl,rfl⟩:=hc
             refine ⟨fun m'=>ins m' (base+i) _,rfl,fun m' hm=> ?_,fun k' a m' _ hk _=>gd hk m',fun _=>⟨⟨_,fun m'=>dM m'⟩,fun m' h1 h2=>dS h1 h2⟩⟩
             rw [hsrcE m' hm]
             simp only [hargs,hts,hty,hsrc,htag,hx,hte,hb,cond_true]
           · cases hc
         · cases hc
       · rename_i ty n' kk g hty hsrc
         split at hc
         · rename_i el k by_ isb htag
           cases hkk:Nat.beq k kk<;>simp only [hkk,cond_true,cond_false,reduceCtorEq] at hc
           split at hc
           · rename_i hx
             simp only [sIE,pIE] at hc
             obtain ⟨rfl,rfl,rfl⟩:=hc
             refine ⟨fun m'=>ins m' (base+i) _,rfl,fun m' hm=> ?_,fun k' a m' _ hk _=>gd hk m',fun _=>⟨⟨_,fun m'=>dM m'⟩,fun m' h1 h2=>dS h1 h2⟩⟩
             rw [hsrcE m' hm]
             simp only [hargs,hts,hty,hsrc,htag,hx,hkk,cond_true]
           · rename_i hx
             simp only [sIE,pIE] at hc
             obtain ⟨rfl,rfl,rfl⟩:=hc
             refine ⟨fun m'=>ins m' (base+i) _,rfl,fun m' hm=> ?_,fun k' a m' _ hk _=>gd hk m',fun _=>⟨⟨_,fun m'=>dM m'⟩,fun m' h1 h2=>dS h1 h2⟩⟩
             rw [hsrcE m' hm]
             simp only [hargs,hts,hty,hsrc,htag,hx,hkk,cond_true]
           · rename_i q hx
             have hqm: ∃ x∈(Op.call { callee:=Callee.builtin Builtin.append,args:=args,argTypes:=ts }).operands.toList,bW q (ev T.gl tmps x):=⟨x,hxm,by rw [hx];exact rfl⟩
             split at hc
             · rename_i e' k' n f hl
               cases hb:(Nat.beq el e' && Nat.beq k k')<;>simp only [hb,cond_true,cond_false,reduceCtorEq,sIE,pIE] at hc
               obtain ⟨rfl,rfl,rfl⟩:=hc
               refine ⟨fun m'=>ins (del m' q) (base+i) _,rfl,fun m' hm=> ?_,fun k2 a m' hs hk hno=> ?_,fun _=>⟨⟨_,fun m'=>dM _⟩,fun m' h1 h2=>dS (gC h1) fun e he=>h2 e (cW he)⟩⟩
               · rw [hsrcE m' hm]
                 simp only [hargs,hts,hty,hsrc,htag,hx,hm q hqm,hl,hkk,hb,cond_true]
               · have hkq:k2≠q:=fun e=>hno (e▸hqm)
                 simp only
                 rw [uP hkq hs,gd hk]
             · cases hc
           · rename_i q k2 oo b hx
             have hqm: ∃ x∈(Op.call { callee:=Callee.builtin Builtin.append,args:=args,argTypes:=ts }).operands.toList,bW q (ev T.gl tmps x):=⟨x,hxm,by rw [hx];exact rfl⟩
             split at hc
             · rename_i e' k' n f hl
               cases hb:((Nat.beq el e' && Nat.beq k k')&&(Nat.beq k k2 && Nat.beq oo 0))<;>simp only [hb,cond_true,cond_false,reduceCtorEq,sIE,pIE] at hc
               obtain ⟨rfl,rfl,rfl⟩:=hc
               refine ⟨fun m'=>upd m' q _,rfl,fun m' hm=> ?_,fun k2 a m' hs hk hno=> ?_,fun e=>by cases e⟩
               · rw [hsrcE m' hm]
                 simp only [hargs,hts,hty,hsrc,htag,hx,hm q hqm,hl,hkk,hb,cond_true]
               · have hkq:k2≠q:=fun e=>hno (e▸hqm)
                 exact mD hkq m'
             · cases hc
           · rename_i q jf ix hx
             have hqm: ∃ x∈(Op.call { callee:=Callee.builtin Builtin.append,args:=args,argTypes:=ts }).operands.toList,bW q (ev T.gl tmps x):=⟨x,hxm,by rw [hx];exact .inl rfl⟩
             split at hc
             · rename_i e0 K0 hl
               split at hc
               · rename_i q1 q2 q3
                 simp only [sIE,pIE] at hc
                 obtain ⟨rfl,rfl,rfl⟩:=hc
                 refine ⟨fun m'=>ins (upd m' q _) (base+i) _,rfl,fun m' hm=> ?_,fun k2 a m' hs hk hno=> ?_,fun _=>⟨⟨_,fun m'=>dM _⟩,fun m' h1 h2=>dS (gE h1) fun e he=> ?_⟩⟩
                 · rw [hsrcE m' hm]
                   simp only [hargs,hts,hty,hsrc,htag,hx,hm q hqm,hl,hkk,q1,q2,q3,cond_true]
                 · have hkq:k2≠q:=fun e=>hno (e▸hqm)
                   simp only
                   rw [mD hkq,gd hk]
                 · have hm:e.1∈m'.map (·.1):=by rw [<-jb m'];exact List.mem_map.2 ⟨e,he,rfl⟩
                   obtain ⟨x,hx,e'⟩:=List.mem_map.1 hm
                   rw [<-e'];exact h2 x hx
               · cases hc
             · cases hc
           · rename_i q jf cn ix hx
             have hqm: ∃ x∈(Op.call { callee:=Callee.builtin Builtin.append,args:=args,argTypes:=ts }).operands.toList,bW q (ev T.gl tmps x):=⟨x,hxm,by rw [hx];exact .inl rfl⟩
             split at hc
             · rename_i K0 hl
               split at hc
               · rename_i q1 q2 q3
                 simp only [sIE,pIE] at hc
                 obtain ⟨rfl,rfl,rfl⟩:=hc
                 refine ⟨fun m'=>ins (upd m' q _) (base+i) _,rfl,fun m' hm=> ?_,fun k2 a m' hs hk hno=> ?_,fun _=>⟨⟨_,fun m'=>dM _⟩,fun m' h1 h2=>dS (gE h1) fun e he=> ?_⟩⟩
                 · rw [hsrcE m' hm]
                   simp only [hargs,hts,hty,hsrc,htag,hx,hm q hqm,hl,hkk,q1,q2,q3,cond_true]
                 · have hkq:k2≠q:=fun e=>hno (e▸hqm)
                   simp only
                   rw [mD hkq,gd hk]
                 · have hm:e.1∈m'.map (·.1):=by rw [<-jb m'];exact List.mem_map.2 ⟨e,he,rfl⟩
                   obtain ⟨x,hx,e'⟩:=List.mem_map.1 hm
                   rw [<-e'];exact h2 x hx
               · cases hc
             · cases hc
           · cases hc
         · cases hc
       · cases hc
     · cases hc
  |value f=>rw [ho] at hA;cases hA
  |invoke x n=>rw [ho] at hA;cases hA
 |_=>rw [ho] at hA;cases hA
theorem A2{all:List Oper}{base i:Nat}{o:Oper}{tmps:List SV}{m m1:Mem}{p:Option Prop}{r:SV}(hA:gY o.op=true)(hc:b8 std T G all base i o tmps m=some (p,r,m1)):
 ∃ b,m1=ins m (base+i) b∧r= .ptr (base+i) 0∧ ∀ m',b8 std T G all base i o tmps m'=some (p,r,ins m' (base+i) b):=by
 cases ho:o.op with
 |alloc t=>
  unfold b8 at hc ⊢
  split at hc
  · split at hc
    · simp only [ho,c8,aB] at hc
      split at hc
      · rename_i hpure;cases hpure
      · cases hc
    · cases hc
  · simp only [ho,bD] at hc ⊢
    split at hc
    · rename_i ty hty
      cases hzz:zOk ty.zero<;>simp only [hzz,cond_true,cond_false,reduceCtorEq,sIE,pIE] at hc ⊢
      obtain ⟨rfl,rfl,rfl⟩:=hc
      exact ⟨_,rfl,rfl,fun m'=>⟨rfl,rfl,rfl⟩⟩
    · cases hc
 |box t x=>
  unfold b8 at hc ⊢
  split at hc
  · split at hc
    · simp only [ho,c8,aB] at hc
      split at hc
      · rename_i hpure;cases hpure
      · cases hc
    · cases hc
  · simp only [ho,bD] at hc ⊢
    split at hc
    · rename_i cs hcs
      simp only [sIE,pIE] at hc
      obtain ⟨rfl,rfl,rfl⟩:=hc
      exact ⟨_,rfl,rfl,fun m'=>rfl⟩
    · cases hc
 |_=>rw [ho] at hA;cases hA
theorem A3{all:List Oper}{base i:Nat}{o:Oper}{tmps:List SV}{m m1:Mem}{p:Option Prop}{r:SV}(hS:ot o.op=true)(hcold:hot (ev T.gl tmps) o.op=false)(hc:b8 std T G all base i o tmps m=some (p,r,m1)):
 ∃ k b y,(∃ t x,o.op= .store t y x)∧bW k (ev T.gl tmps y)∧(∃ c,af m k=some c)∧m1=upd m k b∧ ∀ m',af m' k=af m k->b8 std T G all base i o tmps m'=some (p,r,upd m' k b):=by
 cases ho:o.op with
 |store t y x=>
  unfold b8 at hc ⊢
  split at hc
  · split at hc
    · simp only [ho,c8,aB] at hc
      split at hc
      · rename_i hpure;cases hpure
      · cases hc
    · cases hc
  · rename_i hg
    simp only [ho,bD] at hc
    split at hc
    · rename_i k off l ty hy hx hty
      split at hc
      · rename_i u cs hl
        cases hb:(Nat.beq (bv l) ty.size && Nat.ble (off+ty.size) (bv cs))<;>rw [hb] at hc<;>simp only [cond_true,cond_false,reduceCtorEq,sIE,pIE] at hc
        obtain ⟨rfl,rfl,rfl⟩:=hc
        refine ⟨k,_,y,⟨t,x,rfl⟩,by rw [hy];exact rfl,⟨_,hl⟩,rfl,fun m' hm=> ?_⟩
        simp only [ho,bD,hy,hx,hty,hm,hl,hb,cond_true]
      · cases hc
    · rename_i hy hx hty
      rw [ho] at hcold
      simp only [hot,hy] at hcold
      cases hcold
    · rename_i q k j off l ty hy hx hty
      rw [ho] at hcold
      simp only [hot,hy] at hcold
      cases hcold
    · cases hc
 |_=>rw [ho] at hS;cases hS
theorem O5{op:Op}(h:cJ op≠ .writes):cO op=false:=by
 cases ha:cO op
 · rfl
 · exact absurd (DR ha) h
theorem xc{op:Op}(h:iu op=true):cO op=false:=by cases op<;>first|rfl|cases h
theorem DU{op:Op}(h:rm op=true):cO op=false:=by cases op<;>first|rfl|cases h
theorem Lc{op:Op}(h:ot op=true):cO op=false:=by cases op<;>first|rfl|cases h
theorem Ld{op:Op}(h:gY op=true):cO op=false:=by cases op<;>first|rfl|cases h
theorem IH{all:List Oper}{base i:Nat}{o:Oper}{tmps:List SV}{m:Mem}{d:Option Nat}{x:SV}(h: ∀ k,d=some k->k∉o.looksAt all.toArray):
 bT std T G all base i o (put tmps d x) m=bT std T G all base i o tmps m:=by
 unfold bT
 rw [FK h]
theorem d8{all:List Oper}{base i:Nat}{o:Oper}{tmps:List SV}{m m' m1:Mem}{p:Option Prop}{r:SV}(ht:cJ o.op≠ .writes)
 (h:cJ o.op= .none∨ ∀ x∈o.op.operands.toList,∀ k,bW k (ev T.gl tmps x)->af m k=af m' k) (hc:bT std T G all base i o tmps m=some (p,r,m1)):
 (m1=m∧bT std T G all base i o tmps m'=some (p,r,m'))∨(cJ o.op≠ .none∧ ∃ b,m1=ins m (base+i) b∧bT std T G all base i o tmps m'=some (p,r,ins m' (base+i) b)):=by
 rw [cP (O5 ht)] at hc ⊢
 have:=FM ht h hc
 rcases this with h1| ⟨h1,b,h2,h3⟩
 · exact .inl h1
 · exact .inr ⟨h1,b,h2,h3⟩
theorem lF{all:List Oper}{base i:Nat}{o:Oper}{tmps:List SV}{m m1:Mem}{p:Option Prop}{r:SV}(hL:iu o.op=true)(hc:bT std T G all base i o tmps m=some (p,r,m1)):
 m1=m∧ ∀ m',(∀ k b,(∃ x∈o.op.operands.toList,bW k (ev T.gl tmps x))->af m k=some b->af m' k=some b)->bT std T G all base i o tmps m'=some (p,r,m'):=by
 rw [cP (xc hL)] at hc
 obtain ⟨h1,h2⟩:=DS hL hc
 exact ⟨h1,fun m' hm=>by rw [cP (xc hL)];exact h2 m' hm⟩
theorem DV{all:List Oper}{base i:Nat}{o:Oper}{tmps:List SV}{m m1:Mem}{p:Option Prop}{r:SV}(hL:rm o.op=true)(hc:bT std T G all base i o tmps m=some (p,r,m1)):
 m1=m∧ ∀ m',(∀ t x lo hi mx,o.op= .slice t x lo hi mx-> ∀ k b,bW k (ev T.gl tmps x)->af m k=some b->af m' k=some b)->bT std T G all base i o tmps m'=some (p,r,m'):=by
 rw [cP (DU hL)] at hc
 obtain ⟨h1,h2⟩:=AZ hL hc
 exact ⟨h1,fun m' hm=>by rw [cP (DU hL)];exact h2 m' hm⟩
theorem xJ{all:List Oper}{base i:Nat}{o:Oper}{tmps:List SV}{m m1:Mem}{p:Option Prop}{r:SV}(hL:iu o.op=true)(hh:hot (ev T.gl tmps) o.op=false)(hc:bT std T G all base i o tmps m=some (p,r,m1))
 {x:Operand} {k:Nat} {b:Blk} (hx:x∈o.op.operands.toList) (hk:bW k (ev T.gl tmps x)) (hb:af m k=some b): ∃ t c,b= .box t c:=by
 rw [cP (xc hL)] at hc
 exact FN hL hh hc hx hk hb
theorem wb{all:List Oper}{base i:Nat}{o:Oper}{tmps:List SV}{m m1:Mem}{p:Option Prop}{r:SV}(hL:iu o.op=true)(hc:bT std T G all base i o tmps m=some (p,r,m1))
 {x:Operand} {k:Nat} {b:Blk} (hx:x∈o.op.operands.toList) (hk:bW k (ev T.gl tmps x)) (hb:af m k=some b) (hh:ny b):False:=by
 rw [cP (xc hL)] at hc
 exact DT hL hc hx hk hb hh
theorem DW{all:List Oper}{base i:Nat}{o:Oper}{tmps:List SV}{m m1:Mem}{p:Option Prop}{r:SV}(hS:ot o.op=true)(hcold:hot (ev T.gl tmps) o.op=false)(hc:bT std T G all base i o tmps m=some (p,r,m1)):
 ∃ k b y,(∃ t x,o.op= .store t y x)∧bW k (ev T.gl tmps y)∧(∃ c,af m k=some c)∧m1=upd m k b∧ ∀ m',af m' k=af m k->bT std T G all base i o tmps m'=some (p,r,upd m' k b):=by
 rw [cP (Lc hS)] at hc
 obtain ⟨k,b,y,h1,h2,h3,h4,h5⟩:=A3 hS hcold hc
 exact ⟨k,b,y,h1,h2,h3,h4,fun m' hm=>by rw [cP (Lc hS)];exact h5 m' hm⟩
theorem nA{all:List Oper}{base i:Nat}{o:Oper}{tmps:List SV}{m m1:Mem}{p:Option Prop}{r:SV}(hA:gY o.op=true)(hc:bT std T G all base i o tmps m=some (p,r,m1)):
 ∃ b,m1=ins m (base+i) b∧r= .ptr (base+i) 0∧ ∀ m',bT std T G all base i o tmps m'=some (p,r,ins m' (base+i) b):=by
 rw [cP (Ld hA)] at hc
 obtain ⟨b,h1,h2,h3⟩:=A2 hA hc
 exact ⟨b,h1,h2,fun m'=>by rw [cP (Ld hA)];exact h3 m'⟩
theorem qP{all:List Oper}{base i:Nat}{o:Oper}{tmps:List SV}{m m1:Mem}{p:Option Prop}{r:SV}(hA:cO o.op=true)(hh:hot (ev T.gl tmps) o.op=false)(hc:bT std T G all base i o tmps m=some (p,r,m1))(hnd:m.Pairwise fun e e'=>e.1≠e'.1)
 {k:Nat} {b:Blk} (hk:k≠base+i) (hb:af m1 k=some b):af m k=some b∨ny b:=by
 obtain ⟨r0,m0,h0,⟨rfl,rfl⟩ | ⟨_,_,_,_,_,_,_,_,rfl⟩⟩:=nv hc
 · exact o9 hA hh h0 hnd hk hb
 · rw [dv hk] at hb
   exact o9 hA hh h0 hnd hk hb
theorem DX{all:List Oper}{base i:Nat}{o:Oper}{tmps:List SV}{m m1:Mem}{p:Option Prop}{r:SV}(hA:cO o.op=true)(hc:bT std T G all base i o tmps m=some (p,r,m1))
 {k:Nat} {b:Blk} (hk:k≠base+i) (hb:af m k=some b) (hbox: ∃ t c,b= .box t c):af m1 k=some b:=by
 obtain ⟨r0,m0,h0,⟨rfl,rfl⟩ | ⟨_,_,_,_,_,_,_,_,rfl⟩⟩:=nv hc
 · exact qO hA h0 hk hb hbox
 · rw [dv hk]
   exact qO hA h0 hk hb hbox
theorem tD{all:List Oper}{base i:Nat}{o:Oper}{tmps:List SV}{m m1:Mem}{p:Option Prop}{r:SV}(hA:cO o.op=true)(hc:bT std T G all base i o tmps m=some (p,r,m1)):
 ∃ F:Mem->Mem,m1=F m∧(∀ m',(∀ k,(∃ x∈o.op.operands.toList,bW k (ev T.gl tmps x))->af m' k=af m k)->bT std T G all base i o tmps m'=some (p,r,F m'))∧
   (∀ k a m',m'.Pairwise (fun e e'=>e'.1<e.1)->(∀ e∈m',e.1≠base+i)->k≠base+i->(¬ ∃ x∈o.op.operands.toList,bW k (ev T.gl tmps x))->F (ins m' k a)=ins (F m') k a):=by
 obtain ⟨r0,m0,h0,hd⟩:=nv hc
 obtain ⟨F,rfl,f1,f2,f3⟩:=A1 hA h0
 cases hz:ux all o
 · have e1: ∀ m',bT std T G all base i o tmps m'=b8 std T G all base i o tmps m':=fun m'=>by unfold bT;rw [hz];exact km _
   rcases hd with ⟨rfl,rfl⟩ | ⟨_,_,_,_,hb,_⟩
   · exact ⟨F,rfl,fun m' hm=>by rw [e1];exact f1 m' hm,fun k a m' h1 _ h2 h3=>f2 k a m' h1 h2 h3⟩
   · rw [hz] at hb;cases hb
 · rcases hd with ⟨rfl,rfl⟩ | ⟨e,k,n,f,_,rfl,hl,rfl,rfl⟩
   · refine ⟨F,rfl,fun m' hm=> ?_,fun k a m' h1 _ h2 h3=>f2 k a m' h1 h2 h3⟩
     have hf:=f1 m' hm
     have hcm:=hc
     unfold bT at hcm ⊢
     rw [h0,hz] at hcm
     rw [hf,hz]
     simp only [ox,cond_true] at hcm ⊢
     split
     · rename_i q
       simp only at hcm
       cases hq:Nat.beq q (base+i)<;>simp only [hq,cond_true,cond_false] at hcm ⊢
       obtain rfl:=nQE hq
       obtain ⟨⟨bl,hbl⟩,_⟩:=f3 rfl
       rw [hbl] at hcm ⊢
       cases bl with
       |box t c=>rfl
       |krow e K=>rfl
       |kids K=>rfl
       |kmap=>rfl
       |row e k n f=>simp only [sIE,pIE] at hcm;exact absurd hcm.2.1 (by intro h;cases h)
     · rfl
   · obtain ⟨⟨bl,hbl⟩,f4⟩:=f3 rfl
     have hbe:bl= .row e k n f:=by have:=hbl m;rw [hl] at this;exact (Option.some.inj this).symm
     subst hbe
     refine ⟨fun m'=>del (F m') (base+i),rfl,fun m' hm=> ?_,fun k2 a m' h1 hfr h2 h3=> ?_⟩
     · unfold bT
       rw [f1 m' hm,hz]
       simp only [ox,cond_true,Nat.beq_refl,hbl]
     · simp only
       rw [f2 k2 a m' h1 h2 h3,uP h2 (f4 m' h1 hfr)]
def gF (A:Ar)(T:Tys)(G:Pu)(X:Xt)(all:List Oper)(base i:Nat)(o:Oper)(tmps:List SV)(m:Mem):Option (Option Prop×SV×Mem):=
 bif e9 X.wl o.op && di o then wtU A X o.op (ev T.gl tmps) m (base+i) else bT A T G all base i o tmps m
theorem de{all:List Oper}{base i:Nat}{o:Oper}{tmps:List SV}{m:Mem}(h:(e9 X.wl o.op && di o)=false):gF std T G X all base i o tmps m=bT std T G all base i o tmps m:=by
 unfold gF
 rw [h]
 rfl
theorem xK{all:List Oper}{base i:Nat}{o:Oper}{tmps:List SV}{m:Mem}(h:(e9 X.wl o.op && di o)=true):gF std T G X all base i o tmps m=wtU std X o.op (ev T.gl tmps) m (base+i):=by
 unfold gF
 rw [h]
 rfl
theorem RH{o:Oper}(h:(e9 X.wl o.op && di o)=true):gY o.op=false:=by
 simp only [bAE] at h
 obtain ⟨f,args,ts,e⟩:=vW h.1
 rw [e];rfl
theorem FQ{op:Op}{e e':Operand->SV}{m:Mem}{key:Nat}(h: ∀ x∈op.operands.toList,e x=e' x):wtU std X op e m key=wtU std X op e' m key:=by
 cases op with
 |call c=>
  obtain ⟨callee,args,ts⟩:=c
  have hv:bx e args.toList=bx e' args.toList:=jB fun x hx=>h x (dL hx)
  cases callee with
  |value x=>cases x<;>first|rfl| (simp only [wtU,hv])
  |_=>rfl
 |_=>rfl
theorem wc{all:List Oper}{base i:Nat}{o:Oper}{tmps:List SV}{m:Mem}{d:Option Nat}{x:SV}(h: ∀ k,d=some k->k∉o.looksAt all.toArray):
 gF std T G X all base i o (put tmps d x) m=gF std T G X all base i o tmps m:=by
 unfold gF
 rw [IH h]
 have hev: ∀ y∈o.op.operands.toList,ev T.gl (put tmps d x) y=ev T.gl tmps y:=fun y hy=>o7 fun k hk e=>h k hk (by
  subst e
  exact List.mem_append_left _ (List.mem_filterMap.2 ⟨.tmp k,hy,rfl⟩))
 rw [FQ hev]
theorem mE{all:List Oper}{base i:Nat}{s s':St}{o:Oper}(ho:all[i]? =some o):Y T G X all base i s s'↔ ∃ p r m,gF std T G X all base i o s.tmps s.mem=some (p,r,m)∧aN p∧s'= { s with tmps:=put s.tmps o.dst r,mem:=m } :=by
 have e:kf std T G X all base i o s=fin o s (gF std T G X all base i o s.tmps s.mem):=by
  unfold kf gF
  cases (e9 X.wl o.op && di o)
  · exact AY
  · rfl
 constructor
 · rintro ⟨o',p,ho',hst,hp⟩
   rw [ho] at ho'
   cases ho'
   rw [e] at hst
   cases hc:gF std T G X all base i o s.tmps s.mem with
   |none=>rw [hc] at hst;cases hst
   |some x=>
    obtain ⟨p',r,m⟩:=x
    rw [hc] at hst
    simp only [fin,sIE,pIE] at hst
    obtain ⟨rfl,rfl⟩:=hst
    exact ⟨p',r,m,rfl,hp,rfl⟩
 · rintro ⟨p,r,m,hc,hp,rfl⟩
   exact ⟨o,p,ho,by rw [e,hc];rfl,hp⟩
theorem B9{all:List Oper}{base j:Nat}{oi oj:Oper}{s s':St}(hj:all[j]? =some oj)(hap:oi.apart all.toArray oj=true)(hy:Y T G X all base j s s'):hot (ev T.gl s'.tmps) oi.op=hot (ev T.gl s.tmps) oi.op:=by
 obtain ⟨a1,a2,a3⟩:=Oper.apart_spec hap
 obtain ⟨p,r,m,_,_,rfl⟩:=(mE hj).1 hy
 have hev: ∀ y∈oi.op.operands.toList,ev T.gl (put s.tmps oj.dst r) y=ev T.gl s.tmps y:=fun y hy=>o7 fun k hk e=>a3 k hk (by
  subst e
  exact List.mem_append_left _ (List.mem_filterMap.2 ⟨.tmp k,hy,rfl⟩))
 cases ho:oi.op with
 |load t x=>
  rw [ho] at hev
  simp only [hot,hev x (by simp [Op.operands])]
 |store t x y=>
  rw [ho] at hev
  simp only [hot,hev x (by simp [Op.operands])]
 |call c=>
  obtain ⟨callee,args,ts⟩:=c
  cases callee with
  |builtin b=>
   cases b<;>first|rfl|skip
   rw [ho] at hev
   simp only [hot]
   cases hargs:args.toList with
   |nil=>rfl
   |cons x l=>
    simp only [hev x (dL (by rw [hargs];simp))]
  |value f=>rfl
  |invoke x n=>rfl
 |_=>rfl
theorem xL{k:Nat}{s:SV}(h:uy k s=true):cD k s:=by
 cases s<;>first|exact nQE h| (simp only [uy,Bool.or_eq_true] at h;exact h.imp nQE nQE) |cases h
theorem xM{k:Nat}{s:SV}(h:uz k s=true):ez k s:=by
 unfold uz at h
 unfold ez
 split at h
 · obtain ⟨x,hx,h2⟩:=List.any_eq_true.1 h
   exact ⟨x,hx,xL h2⟩
 · rename_i hne
   split
   · exact absurd rfl (hne _ _)
   · exact xL h
theorem xN{k:Nat}{s:SV}(h:uA k s=true):eV k s:=by
 unfold uA at h
 unfold eV
 split at h
 · obtain ⟨x,hx,h2⟩:=List.any_eq_true.1 h
   exact ⟨x,hx,xM h2⟩
 · rename_i hne
   split
   · exact absurd rfl (hne _)
   · exact xM h
theorem xO{k:Nat}{s:SV}(h:uB k s=true):gz k s:=by
 unfold uB at h
 unfold gz
 split at h
 · obtain ⟨x,hx,h2⟩:=List.any_eq_true.1 h
   exact ⟨x,hx,xN h2⟩
 · rename_i hne
   split
   · exact absurd rfl (hne _)
   · exact xN h
theorem Mj{k:Nat}{s:SV}(h:nam k s=true):bW k s:=by
 unfold nam at h
 unfold bW
 split at h
 · exact xO h
 · rename_i hne
   split
   · exact absurd rfl (hne _ _)
   · exact xO h
theorem qQ{t:Nat} : ∀ {l:List Oper} {o:Oper},kY t l=true->o∈l->o.dst=some t->gY o.op=true
 | [],_,_,h,_=>by cases h
 |x::l,o,ha,h,hd=>by
  simp only [kY,bAE] at ha
  rcases List.mem_cons.1 h with rfl|h
  · have:=ha.1
    rw [hd] at this
    simpa using this
  · exact qQ ha.2 h hd
theorem tE{P:Nat->Bool}{t:Nat} : ∀ {l:List Oper} {o:Oper},ke P t l=true->o∈l->o.dst=some t->gY o.op=true∨ ∃ ty q i,o.op= .fieldAddr ty (.tmp q) i∧o.guard=none∧P q=true
 | [],_,_,h,_=>by cases h
 |x::l,o,ha,h,hd=>by
  simp only [ke,bAE] at ha
  rcases List.mem_cons.1 h with rfl|h
  · have:=ha.1
    rw [hd] at this
    simp only [Nat.beq_refl,cond_true,Bool.or_eq_true] at this
    rcases this with h|h
    · exact .inl h
    · split at h
      · rename_i ty q i h1 h2
        exact .inr ⟨ty,q,i,h1,h2,h⟩
      · cases h
  · exact tE ha.2 h hd
theorem tF{P Q:Nat->Bool}(hPQ: ∀ q,P q=true->Q q=true){t:Nat} : ∀ {l:List Oper},ke P t l=true->ke Q t l=true
 | [],h=>rfl
 |x::l,h=>by
  simp only [ke,bAE] at h ⊢
  refine ⟨?_,tF hPQ h.2⟩
  have h1:=h.1
  split at h1
  · rename_i d hd
    cases hb:Nat.beq d t
    · simp
    · rw [hb] at h1
      simp only [cond_true,Bool.or_eq_true] at h1 ⊢
      rcases h1 with h1|h1
      · exact .inl h1
      · right
        split at h1
        · exact hPQ _ h1
        · cases h1
  · rfl
theorem uQ{all:List Oper}{base i:Nat}{o:Oper}{tmps:List SV}{m m1:Mem}{p:Option Prop}{r:SV}{ty q j:Nat}(ho:o.op= .fieldAddr ty (.tmp q) j)(hg:o.guard=none)(hc:b8 std T G all base i o tmps m=some (p,r,m1)){l:List Operand}(hp:fw (ev T.gl tmps) l q=true):
 ∃ k a b,ev T.gl tmps (.tmp q)= .ptr k a∧r= .ptr k b:=by
 unfold b8 at hc
 rw [hg] at hc
 simp only [ho,bD,aB] at hc
 unfold fw at hp
 split at hp
 · rename_i k a he
   rw [he] at hc
   refine ⟨k,a, ?_⟩
   split at hc
   · rename_i p' r' hm
     simp only [sIE,pIE] at hc
     obtain ⟨_,rfl,_⟩:=hc
     split at hm
     · rename_i k2 off ty2 e1 e2
       cases e1
       split at hm
       · split at hm
         · rename_i o2 s2 hn
           cases hb:Nat.ble 1 s2<;>rw [hb] at hm<;>simp at hm
           exact ⟨_,he,hm.2.symm⟩
         · cases hm
       · cases hm
     · rename_i e1 _;cases e1
     · rename_i e1 _;cases e1
     · cases hm
   · cases hc
 · rename_i he;rw [he] at hc;simp at hc
 · rename_i he;rw [he] at hc;simp at hc
 · cases hp
theorem FR(l:List SV)(t:Nat)(x:SV):au (dP l t x) t=x∨au (dP l t x) t= .un:=by
 induction l generalizing t with
 |nil=>cases t<;>exact .inr rfl
 |cons y l ih=>
  cases t with
  |zero=>exact .inl rfl
  |succ t=>exact ih t
theorem II{all:List Oper}{base j:Nat}{oi oj:Oper}{s s':St}(hj:all[j]? =some oj)(hap:oi.apart all.toArray oj=true)(hy:Y T G X all base j s s'):
 hot (ev T.gl s'.tmps) oi.op=hot (ev T.gl s.tmps) oi.op:=B9 (G:=G) (X:=X) hj hap hy
theorem IJ(hgl:T.gl=c.gl){listed:Array Bool}{all:List Oper}{base j:Nat}{oi oj:Oper}{s s':St}(hj:all[j]? =some oj)(hinh:Inh c base listed s)(hjun:listed.getD j true=false)(hap:oi.apart all.toArray oj=true)(hy:Y T G X all base j s s')
 (hh:dQ (ev T.gl s'.tmps) all oi.op=true):dQ (ev T.gl s.tmps) all oi.op=true:=by
 have h0:=B9 (G:=G) (X:=X) hj hap hy
 obtain ⟨a1,a2,a3⟩:=Oper.apart_spec hap
 obtain ⟨p,r,m,hcj,_,rfl⟩:=(mE hj).1 hy
 obtain ⟨a,w,ρ,hs⟩:=hinh
 have hkey: ∀ x,¬ bW (base+j) (ev T.gl s.tmps x):=fun x hk=>by
  have:=(hs.ev x).ment_in (hgl▸hk)
  exact fA hjun this
 have hev: ∀ y∈oi.op.operands.toList,ev T.gl (put s.tmps oj.dst r) y=ev T.gl s.tmps y:=fun y hy=>o7 fun k hk e=>a3 k hk (by
  subst e
  exact List.mem_append_left _ (List.mem_filterMap.2 ⟨.tmp k,hy,rfl⟩))
 have hptr: ∀ q k b,oj.dst=some q->r= .ptr k b->(oi.op.operands.toList.all fun x=> !nam k (ev T.gl s.tmps x))=true->fw (ev T.gl (put s.tmps oj.dst r)) oi.op.operands.toList q=true:=by
  intro q k b hd hr hk
  have:ev T.gl (put s.tmps oj.dst (.ptr k b)) (.tmp q)= .ptr k b∨ev T.gl (put s.tmps oj.dst (.ptr k b)) (.tmp q)= .un:=by
   rw [hd];exact FR _ _ _
  unfold fw
  subst hr
  rcases this with h|h
  · rw [h]
    refine List.all_eq_true.2 fun x hx=> ?_
    rw [hev x hx]
    exact List.all_eq_true.1 hk x hx
  · rw [h]
 have hfresh:(oi.op.operands.toList.all fun x=> !nam (base+j) (ev T.gl s.tmps x))=true:=by
  refine List.all_eq_true.2 fun x hx=> ?_
  cases hn:nam (base+j) (ev T.gl s.tmps x)
  · rfl
  · exact absurd (Mj hn) (hkey x)
 have hsame: ∀ q,¬ oj.dst=some q->fw (ev T.gl s.tmps) oi.op.operands.toList q=true->fw (ev T.gl (put s.tmps oj.dst r)) oi.op.operands.toList q=true:=by
  intro q hd h2
  have hq:ev T.gl (put s.tmps oj.dst r) (.tmp q)=ev T.gl s.tmps (.tmp q):=o7 fun k hk e=>by
   cases e
   exact hd hk
  unfold fw at h2 ⊢
  rw [hq]
  split at h2
  · rename_i k off he
    exact List.all_eq_true.2 fun x hx=>by rw [hev x hx];exact List.all_eq_true.1 h2 x hx
  · rfl
  · rfl
  · cases h2
 have hal: ∀ q,oj.dst=some q->gY oj.op=true->fw (ev T.gl (put s.tmps oj.dst r)) oi.op.operands.toList q=true:=by
  intro q hd ha
  have hcj:=hcj
  rw [de (by cases hw:(e9 X.wl oj.op && di oj);rfl;rw [RH hw] at ha;cases ha)] at hcj
  obtain ⟨b,_,hr,_⟩:=nA ha hcj
  exact hptr q _ _ hd hr hfresh
 have hadr: ∀ f q,adr (ev T.gl s.tmps) oi.op.operands.toList all f q=true->adr (ev T.gl (put s.tmps oj.dst r)) oi.op.operands.toList all f q=true:=by
  intro f
  induction f with
  |zero=>
   intro q h
   simp only [adr,bAE] at h ⊢
   refine ⟨h.1, ?_⟩
   by_cases hd:oj.dst=some q
   · exact hal q hd (qQ h.1 (List.mem_of_getElem? hj) hd)
   · exact hsame q hd h.2
  |succ f ih=>
   intro q h
   simp only [adr,bAE] at h ⊢
   refine ⟨tF ih h.1, ?_⟩
   by_cases hd:oj.dst=some q
   · rcases tE h.1 (List.mem_of_getElem? hj) hd with ha| ⟨ty,q',n,ho,hg,hp⟩
     · exact hal q hd ha
     · have hp:=xI hp
       obtain ⟨k,a,b,he,hr⟩:=uQ ho hg (by rw [de (by rw [ho];rfl),cP (by rw [ho];rfl)] at hcj;exact hcj) hp
       refine hptr q k b hd hr ?_
       unfold fw at hp
       rw [he] at hp
       exact hp
   · exact hsame q hd h.2
 have hst: ∀ o,kZ (ev T.gl s.tmps) all oi.op o=true->kZ (ev T.gl (put s.tmps oj.dst r)) all oi.op o=true:=by
  intro o ho
  unfold kZ at ho ⊢
  split
  · rename_i t q x hoo
    rw [hoo] at ho
    exact hadr _ _ ho
  · rename_i t y x hno hoo
    rw [hoo] at ho
    split at ho
    · rename_i e
      cases e
      exact (hno _ rfl).elim
    · cases ho
    · rename_i hne
      exact absurd rfl (hne _ _ _)
  · rfl
 unfold dQ at hh ⊢
 simp only at h0
 rw [h0] at hh
 simp only [Bool.or_eq_true,bAE,Bool.not_eq_true'] at hh ⊢
 rcases hh with hh| ⟨h1,h2⟩
 · exact .inl hh
 · refine .inr ⟨h1, ?_⟩
   rw [List.all_eq_false] at h2 ⊢
   obtain ⟨o,hm,hno⟩:=h2
   exact ⟨o,hm,fun e=>hno (hst o e)⟩
theorem FT{T:Tys}{t:Nat}(h:uv T t=true): ∃ ty n e k,T t=some ty∧ty.tag= .array n e k:=by
 unfold uv at h
 split at h
 · rename_i ty hty
   split at h
   · rename_i n e k htag;exact ⟨ty,n,e,k,hty,htag⟩
   · cases h
 · cases h
theorem xP{T:Tys}{G:Pu}{t:Nat}{x y:Operand}(h:uv T t=true)(e:Operand->SV)(m m':Mem):aB std T G (.indexAddr t x y) e m=aB std T G (.indexAddr t x y) e m':=by
 obtain ⟨ty,n,el,k,hty,htag⟩:=FT h
 simp only [aB,hty,htag]
 cases e x<;>first|rfl| (cases e y<;>first|rfl| (simp only [htag]))
theorem xQ{all:List Oper}{base i:Nat}{o:Oper}{tmps:List SV}{m m1:Mem}{p:Option Prop}{r:SV}{t:Nat}{x y:Operand}(ho:o.op= .indexAddr t x y)(ht:uv T t=true)(hc:bT std T G all base i o tmps m=some (p,r,m1)):
 m1=m∧ ∀ m',bT std T G all base i o tmps m'=some (p,r,m'):=by
 have hap:cO o.op=false:=by rw [ho];rfl
 rw [cP hap] at hc
 suffices h:m1=m∧ ∀ m',b8 std T G all base i o tmps m'=some (p,r,m') from ⟨h.1,fun m'=>by rw [cP hap];exact h.2 m'⟩
 unfold b8 at hc ⊢
 split at hc
 · rename_i j want hg
   split at hc
   · rename_i d hd
     rw [ho] at hc ⊢
     unfold c8 at hc ⊢
     have e0:=fun m'=>xP (T:=T) (G:=G) (x:=x) (y:=y) ht (lN (ev T.gl tmps) (.indexAddr t x y)) m' m
     split at hc
     · rename_i c b p' r' h1 h2
       split at hc
       · cases hc
       · cases hc
       · rename_i r'' h3 h4
         simp only [sIE,pIE] at hc
         obtain ⟨rfl,rfl,rfl⟩:=hc
         refine ⟨rfl,fun m'=> ?_⟩
         simp only [e0 m',h1,h2,h3,h4]
     · cases hc
   · cases hc
 · rw [ho] at hc ⊢
   simp only [bD] at hc ⊢
   have e0:=fun m'=>xP (T:=T) (G:=G) (x:=x) (y:=y) ht (ev T.gl tmps) m' m
   split at hc
   · rename_i p' r' h1
     simp only [sIE,pIE] at hc
     obtain ⟨rfl,rfl,rfl⟩:=hc
     exact ⟨rfl,fun m'=>by simp only [e0 m',h1]⟩
   · cases hc
theorem xR{op:Op}{e:Operand->SV}{m m1:Mem}{key:Nat}{p:Option Prop}{r:SV}(h:wtU std X op e m key=some (p,r,m1)):
 (∃ q c el k n g,m1=ins (del m q) key c∧af m q=some (.row el k n g))∨ ∃ q c K K',m1=ins (upd m q (.kids K')) key c∧af m q=some (.kids K):=by
 unfold wtU at h
 split at h
 · split at h
   · rename_i q rest hev
     split at h
     · rename_i el k n g hl
       split at h
       · rename_i p' n' g' hw
         cases hb:(!ce rest && !inW _ X.sl)<;>rw [hb] at h<;>simp only [cond_true,cond_false,reduceCtorEq,sIE,pIE] at h
         obtain ⟨_,_,rfl⟩:=h
         exact .inl ⟨q,_,el,k,n,g,rfl,hl⟩
       · cases h
     · cases h
   · rename_i q j c i rest hev
     split at h
     · rename_i K hl
       split at h
       · split at h
         · rename_i p' n' g' hw
           cases hb:(!ce rest && !inW _ X.sl)<;>rw [hb] at h<;>simp only [cond_true,cond_false,reduceCtorEq,sIE,pIE] at h
           obtain ⟨_,_,rfl⟩:=h
           exact .inr ⟨q,_,K,_,rfl,hl⟩
         · cases h
       · cases h
     · cases h
   · cases h
 · cases h
theorem og{k:Nat}{b0 b1:Blk} : ∀ {m:Mem},af m k=some b0->af (upd m k b1) k=some b1
 | [],h=>by cases h
 |y::m,h=>by
  simp only [af] at h
  simp only [upd]
  cases hy:Nat.beq y.1 k<;>simp only [hy,cond_true,cond_false,af] at h ⊢
  exact og h
theorem Mk{op:Op}{e:Operand->SV}{m m1:Mem}{key:Nat}{p:Option Prop}{r:SV}(h:wtU std X op e m key=some (p,r,m1))(hnd:m.Pairwise fun e e'=>e.1≠e'.1)
 {k:Nat} {b:Blk} (hk:k≠key) (hb:af m1 k=some b):af m k=some b∨ny b:=by
 rcases xR h with ⟨q,c,_,_,_,_,rfl,hl⟩ | ⟨q,c,K,K',rfl,hl⟩
 · rw [cx hk] at hb
   by_cases hq:k=q
   · subst hq;rw [j0 hnd] at hb;cases hb
   · rw [dv hq] at hb;exact .inl hb
 · rw [cx hk] at hb
   by_cases hq:k=q
   · subst hq
     rw [og hl] at hb
     cases hb
     exact .inr (.inr ⟨_,rfl⟩)
   · rw [cE hq] at hb;exact .inl hb
theorem O6{op:Op}{e:Operand->SV}{m m1:Mem}{key:Nat}{p:Option Prop}{r:SV}(h:wtU std X op e m key=some (p,r,m1))
 {k:Nat} {b:Blk} (hk:k≠key) (hb:af m k=some b) (hbox: ∃ t c,b= .box t c):af m1 k=some b:=by
 obtain ⟨t,c,rfl⟩:=hbox
 rcases xR h with ⟨q,c,_,_,_,_,rfl,hl⟩ | ⟨q,c,K,K',rfl,hl⟩
 · rw [cx hk,dv (fun e=>by subst e;rw [hl] at hb;cases hb)];exact hb
 · rw [cx hk,cE (fun e=>by subst e;rw [hl] at hb;cases hb)];exact hb
theorem tG{o:Op}(h:pS T o=true):cJ o= .none∨(∃ t x y,o= .indexAddr t x y∧uv T t=true)∨iu o=true:=by
 unfold pS at h
 split at h
 · exact .inr (.inl ⟨_,_,_,rfl,h⟩)
 · exact .inr (.inr rfl)
 · split at h
   · rename_i h1;exact .inl h1
   · cases h
theorem O7(hgl:T.gl=c.gl){all:List Oper}{base:Nat}{i:Nat}{oi:Oper}(hi:all[i]? =some oi)(listed:Array Bool)(s s1 s2:St)(j:Nat)(oj:Oper)(hj:all[j]? =some oj)(hji:j≠i)
 (hinh:Inh c base listed s) (hiun:listed.getD i true=false) (hjun:listed.getD j true=false) (hap:oi.apart all.toArray oj=true) (hcl3:mp T X.wl oi.op oj.op=false∧(dQ (ev T.gl s.tmps) all oi.op=true->fd X.wl (hot (ev T.gl s.tmps) oi.op) oi.op oj.op=false))
 (hy1:Y T G X all base i s s1) (hy2:Y T G X all base j s1 s2): ∃ s1',Y T G X all base j s s1'∧Y T G X all base i s1' s2:=by
 obtain ⟨a1,a2,a3⟩:=Oper.apart_spec hap
 obtain ⟨a,w,ρ,hs⟩:=hinh
 obtain ⟨pi,ri,mi,ci,hpi,rfl⟩:=(mE hi).1 hy1
 obtain ⟨pj,rj,mj,cj,hpj,rfl⟩:=(mE hj).1 hy2
 simp only at cj
 rw [wc a1] at cj
 have hkey: ∀ x k,bW k (ev T.gl s.tmps x)->k≠base+i∧k≠base+j:=fun x k hk=>by
  have:=(hs.ev x).ment_in (hgl▸hk)
  exact ⟨fun e=>fA hiun (e▸this),fun e=>fA hjun (e▸this)⟩
 have fin0: ∀ m',gF std T G X all base j oj s.tmps s.mem=some (pj,rj,m')->gF std T G X all base i oi s.tmps m'=some (pi,ri,mj)-> ∃ s1',Y T G X all base j s s1'∧
  Y T G X all base i s1' { next:=s.next,tmps:=put (put s.tmps oi.dst ri) oj.dst rj,mem:=mj,stk:=s.stk } :=fun m' h1 h2=>
  ⟨{ s with tmps:=put s.tmps oj.dst rj,mem:=m' },(mE hj).2 ⟨pj,rj,m',h1,hpj,rfl⟩,
   (mE hi).2 ⟨pi,ri,mj,by simp only;rw [wc a3];exact h2,hpi,by simp only;rw [IE _ _ _ fun k hk=>a2 k hk]⟩⟩
 have hc3:=hcl3.1
 unfold mp at hc3
 simp only [Bool.or_eq_false_iff,Bool.and_eq_false_iff,Bool.not_eq_false'] at hc3
 have hcl2:xi oi.op oj.op=false∧(dQ (ev T.gl s.tmps) all oi.op=true->fd X.wl (hot (ev T.gl s.tmps) oi.op) oi.op oj.op=false):=⟨hc3.1,hcl3.2⟩
 cases hwi:(e9 X.wl oi.op && di oi)
 rotate_left
 ·
  have hwi1:e9 X.wl oi.op=true:=by simp only [bAE] at hwi;exact hwi.1
  have hfj:pS T oj.op=true:=by
   rcases hc3.2.1 with h|h
   · rw [hwi1] at h;cases h
   · exact h
  have hwj:(e9 X.wl oj.op && di oj)=false:=by
   cases hw:e9 X.wl oj.op
   · rfl
   · obtain ⟨f,args,ts,e⟩:=vW hw
     rw [e] at hfj
     cases hfj
  rw [de hwj] at cj
  rcases tG hfj with hnj| ⟨t,x,y,ho,ht⟩ |hL
  · rcases d8 (m':=s.mem) (by rw [hnj];exact fun e=>by cases e) (.inl hnj) cj with ⟨rfl,h2⟩ | ⟨hne,_⟩
    · exact fin0 s.mem (by rw [de hwj];exact h2) ci
    · exact absurd hnj hne
  · obtain ⟨rfl,h2⟩:=xQ ho ht cj
    exact fin0 s.mem (by rw [de hwj];exact h2 s.mem) ci
  · obtain ⟨rfl,hl⟩:=lF hL cj
    refine fin0 s.mem ((de hwj).trans (hl s.mem fun k b hk hb=> ?_)) ci
    obtain ⟨x,hx,hk⟩:=hk
    rw [xK hwi] at ci
    rcases Mk ci (mC hs.mem.apart) (hkey x k hk).1 hb with h|hh
    · exact h
    · exact (wb hL cj hx hk hb hh).elim
 cases hwj:(e9 X.wl oj.op && di oj)
 rotate_left
 · have hwj1:e9 X.wl oj.op=true:=by simp only [bAE] at hwj;exact hwj.1
   have hfi:pS T oi.op=true:=by
    rcases hc3.2.2 with h|h
    · rw [hwj1] at h;cases h
    · exact h
   rw [de hwi] at ci
   rcases tG hfi with hni| ⟨t,x,y,ho,ht⟩ |hL
   · rcases d8 (m':=mj) (by rw [hni];exact fun e=>by cases e) (.inl hni) ci with ⟨rfl,h2⟩ | ⟨hne,_⟩
     · exact fin0 mj cj (by rw [de hwi];exact h2)
     · exact absurd hni hne
   · obtain ⟨rfl,h2⟩:=xQ ho ht ci
     exact fin0 mj cj (by rw [de hwi];exact h2 mj)
   · have hcold:hot (ev T.gl s.tmps) oi.op=false:=by
      cases hh:hot (ev T.gl s.tmps) oi.op
      · rfl
      · have h2:dQ (ev T.gl s.tmps) all oi.op=true:=by unfold dQ;rw [hh];rfl
        have h3:=hcl2.2 h2
        rw [hh] at h3
        simp only [fd,cond_true,Bool.or_eq_false_iff] at h3
        rw [hwj1] at h3
        cases h3.2
     obtain ⟨rfl,hl⟩:=lF hL ci
     refine fin0 mj cj ((de hwi).trans (hl mj fun k b hk hb=> ?_))
     obtain ⟨x,hx,hk⟩:=hk
     rw [xK hwj] at cj
     exact O6 cj (hkey x k hk).2 hb (xJ hL hcold ci hx hk hb)
 have fin': ∀ m',bT std T G all base j oj s.tmps s.mem=some (pj,rj,m')->bT std T G all base i oi s.tmps m'=some (pi,ri,mj)-> ∃ s1',Y T G X all base j s s1'∧
  Y T G X all base i s1' { next:=s.next,tmps:=put (put s.tmps oi.dst ri) oj.dst rj,mem:=mj,stk:=s.stk } :=fun m' h1 h2=>fin0 m' (by rw [de hwj];exact h1) (by rw [de hwi];exact h2)
 rw [de hwi] at ci
 rw [de hwj] at cj
 by_cases hold:pR oi.op oj.op=false
 rotate_left
 · have hold':pR oi.op oj.op=true:=by simpa using hold
   have hcold:hot (ev T.gl s.tmps) oi.op=false:=by
    cases hh:hot (ev T.gl s.tmps) oi.op
    · rfl
    · have h2:dQ (ev T.gl s.tmps) all oi.op=true:=by unfold dQ;rw [hh];rfl
      have h3:=hcl2.2 h2
      rw [hh] at h3
      simp only [fd,cond_true,Bool.or_eq_false_iff] at h3
      exact absurd h3.1 hold
   have hpair:(cO oi.op=true∧iu oj.op=true)∨(iu oi.op=true∧cO oj.op=true)∨(rl oi.op=true∧ot oj.op=true)∨(cO oi.op=true∧gY oj.op=true)∨(gY oi.op=true∧cO oj.op=true)∨(cO oi.op=true∧rm oj.op=true):=by
    have:=hcl2.1
    unfold xi at this
    rw [hold'] at this
    revert this
    cases cO oi.op<;>cases iu oi.op<;>cases cO oj.op<;>cases iu oj.op<;>cases rl oi.op<;>cases ot oj.op<;>cases gY oi.op<;>cases gY oj.op<;>cases rm oj.op<;>simp
   have hnd:=mC hs.mem.apart
   rcases hpair with ⟨hA,hL⟩ | ⟨hL,hA⟩ | ⟨hR,hS⟩ | ⟨hA,hL⟩ | ⟨hL,hA⟩ | ⟨hA,hL⟩
   ·
    obtain ⟨rfl,hl⟩:=lF hL cj
    refine fin' s.mem (hl s.mem fun k b hk hb=> ?_) ci
    obtain ⟨x,hx,hk⟩:=hk
    have hne:=(hkey x k hk).1
    rcases qP hA hcold ci hnd hne hb with h|hh
    · exact h
    · exact (wb hL cj hx hk hb hh).elim
   · obtain ⟨rfl,hl⟩:=lF hL ci
     refine fin' mj cj (hl mj fun k b hk hb=> ?_)
     obtain ⟨x,hx,hk⟩:=hk
     have hne:=(hkey x k hk).2
     exact DX hA cj hne hb (xJ hL hcold ci hx hk hb)
   ·
    have hrd:cJ oi.op= .reads:=by
     unfold rl at hR
     cases ht:cJ oi.op<;>rw [ht] at hR<;>first|rfl|cases hR
    have hcold2:dQ (ev T.gl s.tmps) all oi.op=false:=by
     cases hh:dQ (ev T.gl s.tmps) all oi.op
     · rfl
     · have h3:=hcl2.2 hh
       rw [hcold] at h3
       simp only [fd,cond_false,hR,hS,Bool.and_self,Bool.true_eq_false] at h3
    have hst:kZ (ev T.gl s.tmps) all oi.op oj=true:=by
     unfold dQ at hcold2
     rw [hcold,hR] at hcold2
     simp only [Bool.false_or,Bool.true_and,Bool.not_eq_false'] at hcold2
     exact List.all_eq_true.1 hcold2 oj (List.mem_of_getElem? hj)
    obtain ⟨k',b',y,hy,hment,hlk,rfl,hgen⟩:=DW hS (FP hst hS) cj
    have hk1:=(hkey y k' hment).1
    have hno: ∀ x∈oi.op.operands.toList,∀ k,bW k (ev T.gl s.tmps x)->k≠k':=fun x hx k hk e=>FO hst hy hment x hx (e▸hk)
    have hsame:af mi k'=af s.mem k':=by
     rcases d8 (m':=s.mem) (by rw [hrd];exact fun e=>by cases e) (.inr fun _ _ _ _=>rfl) ci with ⟨rfl,_⟩ | ⟨_,b,rfl,_⟩
     · rfl
     · exact cx hk1 _
    have h1:=hgen s.mem hsame.symm
    refine fin' (upd s.mem k' b') h1 ?_
    rcases d8 (m':=upd s.mem k' b') (by rw [hrd];exact fun e=>by cases e) (.inr fun x hx k hk=>(cE (hno x hx k hk) s.mem).symm) ci with ⟨rfl,h2⟩ | ⟨_,b,rfl,h2⟩
    · exact h2
    · rw [mD (Ne.symm hk1)];exact h2
   ·
    obtain ⟨F,rfl,f1,f2⟩:=tD hA ci
    obtain ⟨b,rfl,_,hb⟩:=nA hL cj
    have hno: ¬ ∃ x∈oi.op.operands.toList,bW (base+j) (ev T.gl s.tmps x):=fun ⟨x,_,hk⟩=>(hkey x _ hk).2 rfl
    refine fin' _ (hb s.mem) ?_
    rw [f1 _ fun k ⟨x,_,hk⟩=>cx (hkey x k hk).2 s.mem]
    rw [f2 _ _ _ hs.mem.sorted (fun e he e'=>fA hiun (e'▸hs.mem.key e he)) (by omega) hno]
   · obtain ⟨b,rfl,_,hb⟩:=nA hL ci
     obtain ⟨F,rfl,f1,f2⟩:=tD hA cj
     have hno: ¬ ∃ x∈oj.op.operands.toList,bW (base+i) (ev T.gl s.tmps x):=fun ⟨x,_,hk⟩=>(hkey x _ hk).1 rfl
     have h1:=f1 s.mem fun k ⟨x,_,hk⟩=>(cx (hkey x k hk).1 s.mem).symm
     refine fin' _ h1 ?_
     rw [f2 _ _ _ hs.mem.sorted (fun e he e'=>fA hjun (e'▸hs.mem.key e he)) (by omega) hno]
     exact hb _
   ·
    obtain ⟨rfl,hl⟩:=DV hL cj
    refine fin' s.mem (hl s.mem fun t x lo hi mx ho k b hk hb=> ?_) ci
    have hne:=(hkey x k hk).1
    rcases qP hA hcold ci hnd hne hb with h|hh
    · exact h
    · rw [cP (DU hL)] at cj
      exact (A0 hL cj hb hh x ⟨t,lo,hi,mx,ho⟩ hk).elim
 have hcl:=hold
 by_cases hwj:cJ oj.op= .writes
 · have hni:cJ oi.op= .none:=by
    unfold pR at hcl
    rw [hwj] at hcl
    cases ht:cJ oi.op<;>rw [ht] at hcl<;>first|rfl|cases hcl
   rcases d8 (m':=mj) (by rw [hni];exact fun e=>by cases e) (.inl hni) ci with ⟨rfl,h2⟩ | ⟨hne,_⟩
   · exact fin' mj cj h2
   · exact absurd hni hne
 · by_cases hwi:cJ oi.op= .writes
   · have hnj:cJ oj.op= .none:=by
      unfold pR at hcl
      rw [hwi] at hcl
      cases ht:cJ oj.op<;>rw [ht] at hcl<;>first|rfl|cases hcl
     rcases d8 (m':=s.mem) (by rw [hnj];exact fun e=>by cases e) (.inl hnj) cj with ⟨rfl,h2⟩ | ⟨hne,_⟩
     · exact fin' s.mem h2 ci
     · exact absurd hnj hne
   · have hlook: ∀(m:Mem) (q:Nat) (b:Blk),(∀ x k,bW k (ev T.gl s.tmps x)->k≠q)-> ∀ x∈oj.op.operands.toList,∀ k,bW k (ev T.gl s.tmps x)->af (ins m q b) k=af m k:=fun m q b hq x _ k hk=>cx (hq x k hk) m
     rcases d8 (m':=s.mem) hwi (.inr fun _ _ _ _=>rfl) ci with ⟨rfl,_⟩ | ⟨_,bi,rfl,_⟩
     ·
      rcases d8 (m':=s.mem) hwj (.inr fun _ _ _ _=>rfl) cj with ⟨rfl,_⟩ | ⟨_,bj,rfl,_⟩
      · exact fin' _ cj ci
      · refine fin' _ cj ?_
        rcases d8 (m':=ins s.mem (base+j) bj) hwi (.inr fun x _ k hk=>(cx (hkey x k hk).2 s.mem).symm) ci with ⟨_,h2⟩ | ⟨_,b,e,_⟩
        · exact h2
        · have:=congrArg List.length e
          have hl: ∀ m:Mem,(ins m (base+i) b).length=m.length+1:=fun m=>by
           induction m with
           |nil=>rfl
           |cons x m ih=>obtain ⟨k,y⟩:=x;simp only [ins];cases Nat.ble k (base+i)<;>simp [ih]
          rw [hl] at this
          omega
     · rcases d8 (m':=s.mem) hwj (.inr fun x _ k hk=>cx (hkey x k hk).1 s.mem) cj with ⟨rfl,h1⟩ | ⟨_,bj,rfl,h1⟩
       · exact fin' _ h1 ci
       · refine fin' _ h1 ?_
         rcases d8 (m':=ins s.mem (base+j) bj) hwi (.inr fun x _ k hk=>(cx (hkey x k hk).2 s.mem).symm) ci with ⟨e,_⟩ | ⟨_,b,e,h2⟩
         · have:=congrArg List.length e
           have hl: ∀ m:Mem,(ins m (base+i) bi).length=m.length+1:=fun m=>by
            induction m with
            |nil=>rfl
            |cons x m ih=>obtain ⟨k,y⟩:=x;simp only [ins];cases Nat.ble k (base+i)<;>simp [ih]
           rw [hl] at this
           omega
         · have hbb: ∀ m:Mem,ins m (base+i) bi=ins m (base+i) b->bi=b:=fun m=>by
            induction m with
            |nil=>intro e;simp only [ins] at e;cases e;rfl
            |cons x m ih=>
             obtain ⟨k,y⟩:=x
             simp only [ins]
             cases Nat.ble k (base+i)<;>simp only [cond_true,cond_false]
             · intro e;injection e with _ e;exact ih e
             · intro e;injection e with e _;cases e;rfl
           obtain rfl:=hbb _ e
           rw [gd (by omega)]
           exact h2
end
end Go.Vd
