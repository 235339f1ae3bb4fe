/- What the operations on leaves are; what is asked of a program's types and functions. -/
import Derived.Test.YtckmnmcnelfkjaaGreatDoorVdRel
import Derived.Laws.BytesString
import Derived.Laws.IdiomStrings
import Derived.Laws.Slices
set_option linter.unusedVariables false
namespace Go.Vd
open Go.RowKit
def rk:SV->UInt8
 | .int _ n=>UInt8.ofNat n.toNat
 |_=>0
def aM (n:Nat)(f:Nat->Nat->SV):List UInt8:=(List.range n).map fun i=>rk (f i 0)
def aE (l:List UInt8):Nat->Nat->SV:=fun i _=> .int .u8 ((l[i]?.getD 0).toNat:Int)
def bd (n:Nat)(f g:Nat->Nat->SV):Nat->Nat->SV:=fun i j=>if i<n then f i j else g (i - n) j
def bf (ls:List (List SV)):Nat->Nat->SV:=fun i j=>ap (ls[i]?.getD []) j
def bw (n:Nat)(f:Nat->Nat->SV):Prop:= ∀ i,i<n-> ∃ m:Int,f i 0= .int .u8 m
def a8 (f:Nat->Nat->SV)(i off:Nat)(l:List SV):Nat->Nat->SV:=fun i' j=>if i'=i∧off<=j∧j<off+l.length then ap l (j - off) else f i' j
def aO (f:Nat->Nat->SV)(lo m:Nat)(g:Nat->Nat->SV):Nat->Nat->SV:=fun i j=>if lo<=i∧i<lo+m then g (i - lo) j else f i j
def aI (f:Nat->Nat->SV)(lo:Nat):Nat->Nat->SV:=fun i j=>f (lo+i) j
def ba (n k:Nat)(f g:Nat->Nat->SV):Prop:= ∀ i j,i<n->j<k->Ceq (f i j) (g i j)
def uD:SV->Int
 | .int _ n=>n
 |_=>0
def uE (k:IntKind)(s:SV):Prop:= ∃ n,s= .int k n
def uF:SV->List UInt8
 | .str s=>s
 |_=> []
def uG (s:SV):Prop:= ∃ l,s= .str l
def j8 (g:Nat->Nat)(i n:Nat):Nat->Nat:=fun x=>if x=i then n else g x
def pS (g:Nat->Nat->Nat->SV)(i:Nat)(f:Nat->Nat->SV):Nat->Nat->Nat->SV:=fun x=>if x=i then f else g x
def dh:MM->Int->List UInt8->Int->MM
 | [],a,b,n=> [((a,b),n)]
 | (k,m)::l,a,b,n=>if k=(a,b) then (k,n)::l else (k,m)::dh l a b n
def dx:MM->Int->List UInt8->Int
 | [],_,_=>0
 | (k,m)::l,a,b=>if k=(a,b) then m else dx l a b
def std:Ar where
 add k a b:=k.wrap (a+b)
 sub k a b:=k.wrap (a - b)
 mul k a b:=k.wrap (a*b)
 quo k a b:=k.wrap (a.tdiv b)
 rem a b:=a.tmod b
 band k a b:=bits .and k a b
 bor k a b:=bits .or k a b
 bxor k a b:=bits .xor k a b
 shl k a b:=k.wrap (a*2 ^(min b.toNat k.bits))
 shr k a b:=a.fdiv (2 ^(min b.toNat k.bits))
 eq a b:=a==b
 ne a b:=a !=b
 lt a b:=decide (a<b)
 le a b:=decide (a<=b)
 conv k n:=k.wrap n
 not b:= !b
 beq a b:=a==b
 bne a b:= !(a==b)
 ite c p q:=bif c then p else q
 want c d w:=c &&(d==w)
 and2 a b:=a && b
 sadd a b:=a++b
 seq a b:=a==b
 sne a b:= !(a==b)
 slt a b:=Op.bytesLess a b
 sle a b:=Op.bytesLess a b|| (a==b)
 sgt a b:= !(Op.bytesLess a b|| (a==b))
 sge a b:= !Op.bytesLess a b
 slen s:=(s.length:Int)
 sget s i:=((s[i.toNat]?.getD 0).toNat:Int)
 scut s a b:=(s.take b.toNat).drop a.toNat
 ofNat n:=(n:Int)
 toNat i:=i.toNat
 nsub a b:=a - b
 nadd a b:=a+b
 strOf:=aM
 bytesOf:=aE
 lenOf l:=l.length
 cat:=bd
 lst:=bf
 nz b:=b≠0
 nneg b:=0<=b
 inb i n:=0<=i∧i<(n:Int)
 upto a b:=a<=b
 slt63 a b:=a.length+b.length<=9223372036854775807
 grow n m b:=n+m<=9223372036854775807∧(n+m)*b<=140737488355328
 imp c p:=c=true->p
 impN c p:=c=false->p
 tr c:=c=true
 isB:=bw
 tb f:=f ()
 ti f:=f ()
 ts f:=f ()
 tn f:=f ()
 tp f:=f ()
 rset:=a8
 rcopy:=aO
 shift:=aI
 nmin a b:=Nat.min a b
 nset:=j8
 fset:=pS
 makes a b by_:=0<=a∧a<=b∧b<=9223372036854775807∧b.toNat*by_<=140737488355328
 room b m n:=0<n∧b+m<=n
 zeros z by_:=0<z∧z<=4611686018427387904∧z.toNat*by_<=140737488355328
 nilq b n:=b=true->n=0
 notq b n:=b=false->n=0
 eqi a b:=a=b
 eqn a b:=a=b
 eqb a b:=a=b
 eqs a b:=a=b
 eqr:=ba
 eqv a b:=a=b
 dr f:=f ()=true
 zOf:=uD
 isI:=uE
 getL:=ap
 nmul a b:=a*b
 sOf:=uF
 isS:=uG
 fadd a b:=(Ieee.double.add a b).getD 0
 fsub a b:=(Ieee.double.sub a b).getD 0
 fav a b:=(Ieee.double.add a b).isSome=true
 fsv a b:=(Ieee.double.sub a b).isSome=true
 feq a b:=Ieee.double.order a b==some .eq
 fne a b:=Ieee.double.order a b !=some .eq
 flt a b:=Ieee.double.order a b==some .lt
 fle a b:=Ieee.double.order a b==some .lt||Ieee.double.order a b==some .eq
 fgt a b:=Ieee.double.order a b==some .gt
 fge a b:=Ieee.double.order a b==some .gt||Ieee.double.order a b==some .eq
 fOf n:=FloatKind.f64.nearest n
 fTo b:=((FloatKind.f64.decode b).toInt .zero).getD 0
 fTv k b:= ∃ n,(FloatKind.f64.decode b).toInt .zero=some n∧k.min<=n∧n<=k.max
 mput:=dh
 mget:=dx
 mlen M:=(M.length:Int)
 b2i b:=bif b then 1 else 0
 i2b n:=n !=0
 eqm M M':=M=M'
def aK:Option Prop->Prop
 |none=>True
 |some p=>p
theorem ep{p q:Option Prop} :aK (jR p q)↔aK p∧aK q:=by
 cases p<;>cases q<;>simp [jR,aK]
def i5:TypeDesc->Bool
 | .struct _| .array _ _=>true
 |_=>false
def dX:Value->SV->Prop
 | .int k n, .int k' n'=>k=k'∧n=n'
 | .bool b, .bool b'=>b=b'
 | .string s, .str l=>s=⟨l.toArray⟩
 |_,_=>False
def bp {α β:Type}(R:α->β->Prop):List α->List β->Prop
 | [], [] =>True
 |a::l,b::m=>R a b∧bp R l m
 |_,_=>False
def xj (P:Program)(t:Nat)(z:List SV):Prop:=
 P.eqGuardType P.depth t=false∧ ∀(w:World) (xs ys:List Value) (l m:List SV) (r:Bool),aS z l=true->aS z m=true->bp dX xs l->bp dX ys m->bJ std l m=some r->
  (Op.equalIn 10000 t (.agg xs.toArray) (.agg ys.toArray)).run P w= .ok r w
def sL (P:Program)(k:Nat):Prop:=
 (∃ fs,P.underlying k=some (.struct fs))∧
 (∀(em:Bool) (a:Int) (b:ByteArray) (w:World),(Instr.checkKey em 10000 k (.agg #[.int .u32 a, .string b])).run P w= .ok () w)∧
 ∀(a a':Int) (b b':ByteArray) (w:World),(Op.equal k (.agg #[.int .u32 a, .string b]) (.agg #[.int .u32 a', .string b'])).run P w= .ok (a==a' && b.data.toList==b'.data.toList) w
def La (P:Program)(t:Nat)(d:TypeDesc)(z:List SV):Tag->Prop
 | .int k=>d= .int k
 | .str=>d= .string
 | .bool=>d= .bool
 | .slice e k b isb=>d= .slice e∧0<k∧(isb=true->P.underlying e=some (.int .u8))∧
    ∃(i:TypeInfo) (z:Value),P.info? e=some i∧i.size=k∧i.bytes=b∧i.zero=some z∧z.cells.size=k
 | .struct places eqs=>(eqs=true->xj P t z)∧ ∃ fs:Array Field,d= .struct fs∧fs.size=places.length∧ ∀ i:Nat,nth places i=(fs[i]?).bind fun f=>(P.info? f.type).map fun j=>(f.offset,j.size)
 | .flt=>d= .float .f64
 | .map k e vb=>d= .map k e∧(sL P k∧(P.info? e).bind (fun i=>i.zero)=some (bif vb then .bool false else .int .i64 0))
 | .array n e k=>d= .array n e∧ ∃ i:TypeInfo,P.info? e=some i∧i.size=k
 | .other=>True
def aB (P:Program)(t:Nat)(ty:Ty):Prop:=
 ∃(i:TypeInfo) (d:TypeDesc) (z:Value),P.info? t=some i∧P.underlying t=some d∧i.size=ty.size∧0<ty.size∧i5 d=ty.agg∧
  (ty.agg=false->ty.size=1)∧i.zero=some z∧eV z.cells.toList=aj ty.zero∧(∀ v∈z.cells.toList,one v)∧z.cells.size=i.size∧La P t d ty.zero ty.tag
structure TysOk (P:Program) (T:Tys):Prop where
 ty: ∀ t ty,T t=some ty->aB P t ty
 fl: ∀ t i u,T.fl t i=some u-> ∃(fs:Array Field) (f:Field),P.underlying t=some (.struct fs)∧fs[i]? =some f∧f.type=u
instance {P:Program} {T:Tys} :CoeFun (TysOk P T) fun _=> ∀ t ty,T t=some ty->aB P t ty:=⟨TysOk.ty⟩
def aQ (ρ:Nat->Value)(key:Nat)(x:Value):Nat->Value:=fun k=>if k=key then x else ρ k
def aL (U:Nat->Prop)(key:Nat):Nat->Prop:=fun k=>U k∨k=key
def i6 (w0 w':World)(ρ:Nat->Value)(rw:Nat->Prop)(U:Nat->Prop)(v:Value)(r:SV):Prop:=
 ∀ key,¬ U key->match cV key r with
 | (r',some b)=> ∃ x,(∀ g,av x=some g->w0.heap.size<=g)∧Rel w' (aQ ρ key x) (fun b=>rw b∨av x=some b) (aL U key) v r'∧
     dv w' (aQ ρ key x) (fun b=>rw b∨av x=some b) (aL U key) key b
 | (_,none)=>Rel w' ρ rw U v r
def dk (P:Program)(f:FuncId):Prop:= ∃ fn,P.funcs[f]? =some fn∧fn.body.isNone=false∧(fn.name== "runtime.NumGoroutine")=false
def iv (gl:Nat->SV)(w:World)(rw:Nat->Prop):Prop:=
 (∀ g ρ N,Rel w ρ rw N (.pointer (some ⟨g,0,none⟩)) (gl g))∧ ∀ g k f,gl g= .rop k f->(∃ cs t b,w.heap[g]? =some (.cells cs t b)∧cs.size=k)∧ ¬ rw g
theorem iv.mono{gl:Nat->SV}{w w':World}{rw rw':Nat->Prop}(h:iv gl w rw)(hk:Keep rw w w')(hr: ∀ b,b<w.heap.size->rw' b->rw b):iv gl w' rw':=
 ⟨fun g ρ N=>(h.1 g ρ N).mono (fun _ h=>h) (fun _ _=>rfl) hk hr,fun g k f e=>by
   obtain ⟨⟨cs,t,b,hc,hs⟩,hn⟩:=h.2 g k f e
   have hlt:g<w.heap.size:=by
    rcases Nat.lt_or_ge g w.heap.size with h'|h'
    · exact h'
    · rw [Array.getElem?_eq_none h'] at hc;simp at hc
   exact ⟨⟨cs,t,b,(hk.block g hlt hn).trans hc,hs⟩,fun e=>hn (hr g hlt e)⟩⟩
def cS (P:Program)(gl:Nat->SV)(f:FuncId)(args:List SV)(r:SV):Prop:=
 ∀(w:World) (ρ:Nat->Value) (rw:Nat->Prop) (N:Nat->Prop) (vs:List Value),(∃ key,¬ N key)->(∀ b,rw b->b<w.heap.size)->iv gl w rw->bp (Rel w ρ rw N) vs args->
  Calls P f vs.toArray w fun e w'=> ∃ v,e= .returned v∧Ext w w'∧i6 w w' ρ rw N v r
def az (P:Program)(gl:Nat->SV)(G:Pu):Prop:= ∀ f args p r,G f args=some (p,r)->aK p->dk P f∧cS P gl f args r
end Go.Vd
