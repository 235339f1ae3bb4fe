/- The symbolic values, states and the generator of verification conditions. It speaks of no program. -/
import GoSem.Step
import Derived.Orders
set_option linter.unusedVariables false
namespace Go.Vd
universe u v
theorem sIE {α : Type u} (a b : α) : (some a = some b) = (a = b) := Option.some.injEq a b
theorem pIE {α : Type u} {β : Type v} (a : α) (b : β) (c : α) (d : β) : ((a, b) = (c, d)) = (a = c ∧ b = d) := Prod.mk.injEq a b c d
theorem nQE {a b : Nat} (h : Nat.beq a b = true) : a = b := Nat.eq_of_beq_eq_true h
theorem gEE {α : Type u} {l : List α} {i : Nat} (h : i < l.length) : l[i]? = some l[i] := List.getElem?_eq_getElem h
theorem bAE (a b : Bool) : (((a && b) = true)) = ((a = true) ∧ (b = true)) := Bool.and_eq_true a b
theorem iNE : (∀ n : Nat, Int.ofNat n = (n : Int)) ∧ ∀ n : Nat, ((n : Int)).toNat = n := ⟨fun _ => rfl, fun _ => rfl⟩
inductive Touch where
 |none|reads|writes
 deriving DecidableEq
def cE:Op->Touch
 | .move _| .assign _| .nilCheck _| .pick ..| .fieldAddr ..| .index ..| .field ..| .binOp ..| .unOp ..| .extract ..| .build ..| .makeFunc ..| .makeInterface ..=> .none
 | .store ..=> .writes
 | .call { callee:= .builtin .append, .. } => .writes
 | .call { callee:= .builtin .clear, .. } => .writes
 |_=> .reads
def pH (x y:Op):Bool:=
 match cE x,cE y with
 | .writes, .none| .none, .writes=>false
 | .writes,_|_, .writes=>true
 |_,_=>false
def io:Op->Bool
 | .load ..=>true
 |_=>false
def cJ:Op->Bool
 | .call { callee:= .builtin .append, .. } =>true
 |_=>false
def oc:Op->Bool
 | .store ..=>true
 |_=>false
def q8 (x:Op):Bool:=
 match cE x with
 | .reads=>true
 |_=>false
def gT:Op->Bool
 | .alloc ..=>true
 | .box ..=>true
 |_=>false
def q9:Op->Bool
 | .slice ..=>true
 |_=>false
def xf (x y:Op):Bool:=pH x y && !((cJ x && io y) || ((io x && cJ y) || ((q8 x && oc y) || ((cJ x && gT y) || ((gT x && cJ y) || (cJ x && q9 y))))))
def inW (x:Nat):List Nat->Bool
 | [] =>false
 |y::l=>Nat.beq x y||inW x l
def lm (o:Oper)(i:Nat)(ws:List Nat):Bool:=o.after.toList.any fun e=>(Nat.beq e.on i||inW e.on ws)&& Region.binds .any e
def jn (cl:Op->Op->Bool)(all:List Oper)(o:Oper)(i:Nat):Nat->List Oper->List Nat->Bool
 |_, [],_=>true
 |j,o'::l,ws=>bif lm o' i ws then jn cl all o i (j+1) l (j::ws) else (o.apart all.toArray o' && !cl o.op o'.op)&& jn cl all o i (j+1) l ws
def back (o:Oper)(i:Nat):Bool:=o.after.toList.all fun e=> !Region.binds .any e||decide (e.on<i)
def eU (wl:List Nat)(o:Op):Bool:=match o with
 | .call { callee:= .value (.func f), .. } =>inW f wl
 |_=>false
def KY (l:List Oper):Bool:=l.all fun o=>match o.op with
 | .select ..=>false
 |_=>true
inductive SV:Type where
 |any
 |un
 |int (k:IntKind) (n:Int)
 |bool (b:Bool)
 |str (s:List UInt8)
 |flt (b:Nat)
 |cpx (a b:Nat)
 |nilp
 |ptr (key off:Nat)
 |rop (k:Nat) (f:Nat->SV)
 |slc (n k:Nat) (f:Nat->Nat->SV)
 |nils
 |own (key:Nat)
 |eptr (key k i off:Nat)
 |frs (e k n:Nat) (f:Nat->Nat->SV)
 |agg (l:List SV)
 |tup (l:List SV)
 |opt (c:Bool) (s:SV)
 |val (v:Value)
 |clo (f:Nat) (l:List SV)
 |ifc (t:Nat) (s:SV)
 |mth (f:Nat) (s:SV)
 |emp
 |part (key k lo n:Nat)
 |kid (key fam i:Nat)
 |run (n:Nat) (g:Nat->Nat->SV)
 |nrun (n:Nat)
 |arun (n:Nat)
 |krun (q fam n:Nat)
 |mrun (q fam p n:Nat) (g:Nat->Nat->SV)
 |iptr (q base n i:Nat)
 |fkid (q fam n i:Nat)
structure Kids where
 e:Nat
 k:Nat
 n:Nat
 ns:Nat->Nat
 f:Nat->Nat->Nat->SV
 ow:Option Nat
 fam:Nat
 hl:Option Nat
abbrev MM:=List ((Int×List UInt8)×Int)
inductive Blk:Type where
 |box (t:TypeId) (cells:List SV)
 |row (e k n:Nat) (f:Nat->Nat->SV)
 |krow (e:Nat) (K:Kids)
 |kids (K:Kids)
 |kmap (t:TypeId) (vb:Bool) (M:MM)
abbrev Mem:=List (Nat×Blk)
structure St where
 next:Nat
 tmps:List SV
 mem:Mem
 stk:List (List SV)
structure Ar where
 add:IntKind->Int->Int->Int
 sub:IntKind->Int->Int->Int
 mul:IntKind->Int->Int->Int
 quo:IntKind->Int->Int->Int
 rem:Int->Int->Int
 band:IntKind->Int->Int->Int
 bor:IntKind->Int->Int->Int
 bxor:IntKind->Int->Int->Int
 shl:IntKind->Int->Int->Int
 shr:IntKind->Int->Int->Int
 eq:Int->Int->Bool
 ne:Int->Int->Bool
 lt:Int->Int->Bool
 le:Int->Int->Bool
 conv:IntKind->Int->Int
 not:Bool->Bool
 beq:Bool->Bool->Bool
 bne:Bool->Bool->Bool
 ite:Bool->Bool->Bool->Bool
 want:Bool->Bool->Bool->Bool
 and2:Bool->Bool->Bool
 sadd:List UInt8->List UInt8->List UInt8
 seq:List UInt8->List UInt8->Bool
 sne:List UInt8->List UInt8->Bool
 slt:List UInt8->List UInt8->Bool
 sle:List UInt8->List UInt8->Bool
 sgt:List UInt8->List UInt8->Bool
 sge:List UInt8->List UInt8->Bool
 slen:List UInt8->Int
 sget:List UInt8->Int->Int
 scut:List UInt8->Int->Int->List UInt8
 ofNat:Nat->Int
 toNat:Int->Nat
 nsub:Nat->Nat->Nat
 nadd:Nat->Nat->Nat
 strOf:Nat->(Nat->Nat->SV)->List UInt8
 bytesOf:List UInt8->Nat->Nat->SV
 lenOf:List UInt8->Nat
 cat:Nat->(Nat->Nat->SV)->(Nat->Nat->SV)->Nat->Nat->SV
 lst:List (List SV)->Nat->Nat->SV
 nz:Int->Prop
 nneg:Int->Prop
 inb:Int->Nat->Prop
 upto:Int->Int->Prop
 slt63:List UInt8->List UInt8->Prop
 grow:Nat->Nat->Nat->Prop
 imp:Bool->Prop->Prop
 impN:Bool->Prop->Prop
 tr:Bool->Prop
 isB:Nat->(Nat->Nat->SV)->Prop
 tb:(Unit->Bool)->Bool
 ti:(Unit->Int)->Int
 ts:(Unit->List UInt8)->List UInt8
 tn:(Unit->Nat)->Nat
 tp:(Unit->Prop)->Prop
 rset:(Nat->Nat->SV)->Nat->Nat->List SV->Nat->Nat->SV
 rcopy:(Nat->Nat->SV)->Nat->Nat->(Nat->Nat->SV)->Nat->Nat->SV
 shift:(Nat->Nat->SV)->Nat->Nat->Nat->SV
 nmin:Nat->Nat->Nat
 nset:(Nat->Nat)->Nat->Nat->Nat->Nat
 fset:(Nat->Nat->Nat->SV)->Nat->(Nat->Nat->SV)->Nat->Nat->Nat->SV
 makes:Int->Int->Nat->Prop
 room:Nat->Nat->Nat->Prop
 zeros:Int->Nat->Prop
 nilq:Bool->Nat->Prop
 notq:Bool->Nat->Prop
 eqi:Int->Int->Prop
 eqn:Nat->Nat->Prop
 eqb:Bool->Bool->Prop
 eqs:List UInt8->List UInt8->Prop
 eqr:Nat->Nat->(Nat->Nat->SV)->(Nat->Nat->SV)->Prop
 eqv:SV->SV->Prop
 dr:(Unit->Bool)->Prop
 zOf:SV->Int
 isI:IntKind->SV->Prop
 getL:List SV->Nat->SV
 nmul:Nat->Nat->Nat
 sOf:SV->List UInt8
 isS:SV->Prop
 fadd:Nat->Nat->Nat
 fsub:Nat->Nat->Nat
 fav:Nat->Nat->Prop
 fsv:Nat->Nat->Prop
 feq:Nat->Nat->Bool
 fne:Nat->Nat->Bool
 flt:Nat->Nat->Bool
 fle:Nat->Nat->Bool
 fgt:Nat->Nat->Bool
 fge:Nat->Nat->Bool
 fOf:Int->Nat
 fTo:Nat->Int
 fTv:IntKind->Nat->Prop
 mput:MM->Int->List UInt8->Int->MM
 mget:MM->Int->List UInt8->Int
 mlen:MM->Int
 b2i:Bool->Int
 i2b:Int->Bool
 eqm:MM->MM->Prop
inductive Tag:Type where
 |int (k:IntKind)
 |str
 |bool
 |slice (e k bytes:Nat) (isb:Bool)
 |struct (places:List (Nat×Nat)) (eqs:Bool)
 |array (n e k:Nat)
 |flt
 |map (k e:Nat) (vb:Bool)
 |other
structure Ty where
 agg:Bool
 size:Nat
 zero:List SV
 tag:Tag
structure Tys where
 ty:Nat->Option Ty
 gl:Nat->SV
 cv:Bool:=false
 fl:Nat->Nat->Option Nat:=fun _ _=>none
 bs:Bool:=false
 kr:Nat->Option (Nat×Nat):=fun _=>none
instance:CoeFun Tys fun _=>Nat->Option Ty:=⟨fun T=>T.ty⟩
def um (T:Tys)(t:Nat):Bool:=match T t with
 |some ty=>match ty.tag with
  | .array _ _ _=>true
  |_=>false
 |none=>false
def pI (T:Tys)(o:Op):Bool:=match o with
 | .indexAddr t _ _=>um T t
 | .load _ _=>true
 |o=>match cE o with
  | .none=>true
  |_=>false
def mc (T:Tys)(wl:List Nat)(x y:Op):Bool:=xf x y|| ((eU wl x && !pI T y) || (eU wl y && !pI T x))
def mP (T:Tys)(wl:List Nat)(all:List Oper):Nat->List Oper->Bool
 |_, [] =>true
 |i,o::l=>back o i && jn (mc T wl) all o i (i+1) l [] && mP T wl all (i+1) l
def xg (T:Tys)(wl:List Nat)(l:List Oper):Bool:=KY l && mP T wl l 0 l
abbrev Pu:=Nat->List SV->Option (Option Prop×SV)
def ap:List SV->Nat->SV
 | [],_=> .un
 |y::_,0=>y
 |_::l,n+1=>ap l n
def dL:List SV->Nat->SV->List SV
 | [],_,_=> []
 |_::l,0,x=>x::l
 |y::l,n+1,x=>y::dL l n x
def fT:List SV->Nat->Nat->List SV
 | [],_,_=> []
 |_::_,0,0=> []
 |x::l,0,n+1=>x::fT l 0 n
 |_::l,o+1,n=>fT l o n
def len:List SV->Nat
 | [] =>0
 |_::l=>len l+1
def af:Mem->Nat->Option Blk
 | [],_=>none
 | (k,c)::m,n=>bif Nat.beq k n then some c else af m n
def upd:Mem->Nat->Blk->Mem
 | [],_,_=> []
 | (k,c)::m,n,c'=>bif Nat.beq k n then (k,c')::m else (k,c)::upd m n c'
def del:Mem->Nat->Mem
 | [],_=> []
 | (k,c)::m,n=>bif Nat.beq k n then m else (k,c)::del m n
def ins:Mem->Nat->Blk->Mem
 | [],n,c=> [(n,c)]
 | (k,c)::m,n,c'=>bif Nat.ble k n then (n,c')::(k,c)::m else (k,c)::ins m n c'
def bv (f:Nat->SV):Nat->Nat->List SV
 |_,0=> []
 |i,n+1=>f i::bv f (i+1) n
def bz:SV->Bool
 | .any| .int _ _| .bool _| .str _| .flt _| .cpx _ _| .nilp| .nils| .slc _ _ _| .val _| .clo _ [] | .ifc _ _| .mth _ _| .emp=>true
 |_=>false
def bM:List SV->Bool
 | [] =>true
 |s::l=>bz s && bM l
def eb:List SV->List SV->List SV
 | [],m=>m
 |s::l,m=>s::eb l m
def aH:SV->Bool
 | .run _ _| .nrun _| .arun _| .krun _ _ _| .mrun _ _ _ _ _=>true
 |_=>false
def wid:SV->Nat
 | .run n _| .nrun n| .arun n| .krun _ _ n| .mrun _ _ _ n _=>n
 |_=>1
def cl (s:SV):SV:=bif bz s then s else .any
def atR (s:SV)(i:Nat):SV:=
 match s with
 | .run _ g=>cl (g i 0)
 | .nrun _=> .nils
 | .arun _=> .any
 | .krun q j n=> .fkid q j n i
 | .mrun q j p _ g=>bif Nat.blt i p then .fkid q j p i else cl (g i 0)
 |s=>s
def ip (s:SV):List SV:=bif aH s then bv (atR s) 0 (wid s) else [s]
def aj:List SV->List SV
 | [] => []
 |s::l=>ip s++aj l
def bq:List SV->Nat
 | [] =>0
 |s::l=>bq l+wid s
def od:List SV->Nat->SV
 | [],_=> .un
 |s::l,o=>bif Nat.ble (wid s) o then od l (o - wid s) else atR s o
def cut (s:SV)(a m:Nat):List SV:=bif Nat.beq a 0 && Nat.beq m (wid s) then [s] else bv (atR s) a m
def fm:List SV->Nat->Nat->List SV
 | [],_,_=> []
 |s::l,o,n=>bif Nat.ble (wid s) o then fm l (o - wid s) n
   else bif Nat.ble n (wid s - o) then cut s o n else eb (cut s o (wid s - o)) (fm l 0 (n - (wid s - o)))
def d8 (c:List SV)(o:Nat)(xs:List SV):List SV:=eb (fm c 0 o) (eb xs (fm c (o+bq xs) (bq c - (o+bq xs))))
def jo:List SV->Nat->Nat->Option SV
 | [],_,_=>none
 |s::l,o,n=>bif Nat.beq o 0 then (bif aH s && Nat.beq (wid s) n then some s else none) else bif Nat.ble (wid s) o then jo l (o - wid s) n else none
def gn:SV->Bool
 | .run _ _| .nrun _| .arun _=>true
 |_=>false
def zOk (l:List SV):Bool:=l.all fun s=>bz s||gn s
def Dp (l:List SV):Bool:=l.all fun s=> !aH s
def Fh:List SV->Bool
 | [.run _ _] =>true
 |_=>false
def cellsOf:SV->Option (List SV)
 | .agg l=>some l
 | .any| .un| .tup _| .opt _ _| .frs _ _ _ _=>none
 | .val v=>match v with
   | .agg _| .tuple _=>none
   |_=>some [.val v]
 |x=>some [x]
def ofValue:Value->SV
 | .int k n=> .int k n
 | .bool b=> .bool b
 | .string s=> .str s.data.toList
 | .float .f64 b=> .flt b
 | .complex .f64 a b=> .cpx a b
 | .slice none 0 0=> .nils
 | .pointer none=> .nilp
 | .func (.func f) ⟨[]⟩ ⟨[]⟩=> .clo f []
 |v=> .val v
def eV:List Value->List SV
 | [] => []
 |v::l=>ofValue v::eV l
def Ij:Value->Bool
 | .agg _| .tuple _=>false
 |_=>true
def pJ:List Value->Bool
 | [] =>true
 |v::l=>Ij v && pJ l
def ev (gl:Nat->SV)(tmps:List SV):Operand->SV
 | .tmp t=>ap tmps t
 | .const (.agg cs)=>bif pJ cs.toList then .agg (eV cs.toList) else .any
 | .const v=>ofValue v
 | .func f=> .clo f []
 | .global g=>gl g
def bu (e:Operand->SV):List Operand->List SV
 | [] => []
 |x::l=>e x::bu e l
def bn (e:Operand->SV):Option Operand->Option SV
 |none=>none
 |some x=>some (e x)
def put (tmps:List SV)(d:Option Nat)(x:SV):List SV:=
 match d with
 |some d=>dL tmps d x
 |none=>tmps
abbrev Out:=Option (Option Prop×SV)
section
variable (A:Ar)
def KZ (op:BinOp)(k:IntKind)(a b:Int):Out:=
 match op with
 | .add=>some (none, .int k (A.add k a b))
 | .sub=>some (none, .int k (A.sub k a b))
 | .mul=>some (none, .int k (A.mul k a b))
 | .quo=>some (some (A.nz b), .int k (A.quo k a b))
 | .rem=>some (some (A.nz b), .int k (A.rem a b))
 | .and=>some (none, .int k (A.band k a b))
 | .or=>some (none, .int k (A.bor k a b))
 | .xor=>some (none, .int k (A.bxor k a b))
 | .eql=>some (none, .bool (A.eq a b))
 | .neq=>some (none, .bool (A.ne a b))
 | .lss=>some (none, .bool (A.lt a b))
 | .leq=>some (none, .bool (A.le a b))
 | .gtr=>some (none, .bool (A.lt b a))
 | .geq=>some (none, .bool (A.le b a))
 |_=>none
def K1 (op:BinOp)(a b:List UInt8):Out:=
 match op with
 | .eql=>some (none, .bool (A.seq a b))
 | .neq=>some (none, .bool (A.sne a b))
 | .lss=>some (none, .bool (A.slt a b))
 | .leq=>some (none, .bool (A.sle a b))
 | .gtr=>some (none, .bool (A.sgt a b))
 | .geq=>some (none, .bool (A.sge a b))
 | .add=>some (some (A.slt63 a b), .str (A.sadd a b))
 |_=>none
def sB:IntKind->IntKind->Bool
 | .i8, .i8| .i16, .i16| .i32, .i32| .i64, .i64| .u8, .u8| .u16, .u16| .u32, .u32| .u64, .u64=>true
 |_,_=>false
def bJ:List SV->List SV->Option Bool
 | [], [] =>some true
 | .int _ a::l, .int _ b::m=>match bJ l m with
   |some r=>some (A.and2 (A.eq a b) r)
   |none=>none
 | .bool a::l, .bool b::m=>match bJ l m with
   |some r=>some (A.and2 (A.beq a b) r)
   |none=>none
 | .str a::l, .str b::m=>match bJ l m with
   |some r=>some (A.and2 (A.seq a b) r)
   |none=>none
 |_,_=>none
def aS:List SV->List SV->Bool
 | [], [] =>true
 | .int k _::l, .int k' _::m=>sB k k' && aS l m
 | .bool _::l, .bool _::m=>aS l m
 | .str _::l, .str _::m=>aS l m
 |_,_=>false
def K3 (op:BinOp)(a b:Nat):Out:=
 match op with
 | .add=>some (some (A.fav a b), .flt (A.fadd a b))
 | .sub=>some (some (A.fsv a b), .flt (A.fsub a b))
 | .eql=>some (none, .bool (A.feq a b))
 | .neq=>some (none, .bool (A.fne a b))
 | .lss=>some (none, .bool (A.flt a b))
 | .leq=>some (none, .bool (A.fle a b))
 | .gtr=>some (none, .bool (A.fgt a b))
 | .geq=>some (none, .bool (A.fge a b))
 |_=>none
def K4 (op:BinOp)(a b c d:Nat):Out:=
 match op with
 | .add=>some (some (A.fav a c∧A.fav b d), .cpx (A.fadd a c) (A.fadd b d))
 | .sub=>some (some (A.fsv a c∧A.fsv b d), .cpx (A.fsub a c) (A.fsub b d))
 | .eql=>some (none, .bool (A.and2 (A.feq a c) (A.feq b d)))
 | .neq=>some (none, .bool (A.not (A.and2 (A.feq a c) (A.feq b d))))
 |_=>none
def Dq (op:BinOp)(x y:SV):Out:=
 match x,y with
 | .flt a, .flt b=>K3 A op a b
 | .cpx a b, .cpx c d=>K4 A op a b c d
 | .int k a, .int k' b=>match op with
   | .shl=>some (some (A.nneg b), .int k (A.shl k a b))
   | .shr=>some (some (A.nneg b), .int k (A.shr k a b))
   |_=>bif sB k k' then KZ A op k a b else none
 | .str a, .str b=>K1 A op a b
 |_,_=>none
def d9:SV->SV
 | .opt _ s=>s
 |s=>s
def ln:SV->Option Prop
 | .opt c _=>some (A.tr c)
 |_=>none
def jR:Option Prop->Option Prop->Option Prop
 |none,q=>q
 |p,none=>p
 |some p,some q=>some (p∧q)
def fU (e:Operand->SV):List Operand->Option Prop
 | [] =>none
 |x::l=>jR (ln A (e x)) (fU e l)
def Dr (f:Prop->Prop):Option Prop->Option Prop
 |none=>none
 |some p=>some (f p)
def Fi (c a b:SV):Out:=
 match c,d9 a,d9 b with
 | .bool c, .bool p, .bool q=>some (jR (Dr (A.imp c) (ln A a)) (Dr (A.impN c) (ln A b)), .bool (A.ite c p q))
 |_,_,_=>none
def me (T:Tys)(src dst:Nat)(x:SV):Out:=
 match T src,T dst,x with
 |some s,some d, .int k n=>match s.tag,d.tag with
  | .int _, .int k'=>some (none, .int k' (A.conv k' n))
  | .int _, .flt=>some (none, .flt (A.fOf n))
  |_,_=>none
 |some s,some d, .flt b=>match s.tag,d.tag with
  | .flt, .int k'=>some (some (A.fTv k' b), .int k' (A.fTo b))
  |_,_=>none
 |some s,some d, .slc n 1 f=>match s.tag,d.tag with
  | .slice _ _ _ true, .str=>some (some (A.isB n f), .str (A.strOf n f))
  |_,_=>none
 |some s,some d, .str l=>match s.tag,d.tag with
  | .str, .str=>some (none, .str l)
  | .str, .slice _ _ _ true=>some (none, .slc (A.lenOf l) 1 (A.bytesOf l))
  |_,_=>none
 |_,_,_=>none
def ku (x:SV)(lo hi mx:Option SV):Out:=
 match x with
 | .slc n k f=>match lo,hi,mx with
   |none,none,none=>some (none, .slc n k f)
   |none,some (.int _ b),none=>some (some (A.inb b (A.nadd n 1)), .slc (A.toNat b) k f)
   |some (.int _ a),none,none=>some (some (A.inb a (A.nadd n 1)), .slc (A.nsub n (A.toNat a)) k fun i j=>f (A.nadd (A.toNat a) i) j)
   |some (.int _ a),some (.int _ b),none=>some (some (A.inb b (A.nadd n 1)∧A.inb a (A.nadd (A.toNat b) 1)), .slc (A.nsub (A.toNat b) (A.toNat a)) k fun i j=>f (A.nadd (A.toNat a) i) j)
   |some (.int _ a),some (.int _ b),some (.int _ c)=>some (some (A.inb c (A.nadd n 1)∧A.inb b (A.nadd (A.toNat c) 1)∧A.inb a (A.nadd (A.toNat b) 1)), .slc (A.nsub (A.toNat b) (A.toNat a)) k fun i j=>f (A.nadd (A.toNat a) i) j)
   |_,_,_=>none
 | .str s=>match lo,hi,mx with
   |some (.int _ a),none,none=>some (some (A.nneg a∧A.upto a (A.slen s)), .str (A.scut s a (A.slen s)))
   |none,some (.int _ b),none=>some (some (A.nneg b∧A.upto b (A.slen s)), .str (A.scut s 0 b))
   |some (.int _ a),some (.int _ b),none=>some (some (A.nneg a∧A.upto a b∧A.upto b (A.slen s)), .str (A.scut s a b))
   |_,_,_=>none
 |_=>none
def aZ (A:Ar)(m:Mem):SV->SV
 | .own k=>match af m k with
   |some (.row _ w n f)=> .slc n w f
   |some (.krow _ K)=>match K.hl with
    |none=> .slc K.n 1 fun i _=> .slc (K.ns i) K.k (K.f i)
    |some _=> .any
   |_=> .any
 | .kid k q i=>match af m k with
   |some (.krow _ K)=>match K.hl,K.ow,Nat.beq K.fam q with
    |none,none,true=> .slc (K.ns i) K.k (K.f i)
    |_,_,_=> .any
   |_=> .any
 | .nils=> .slc 0 1 fun _ _=> .any
 | .emp=> .slc 0 1 fun _ _=> .any
 | .part k w lo n=>match af m k with
   |some (.row _ w' _ f)=>bif Nat.beq w w' then .slc n w (A.shift f lo) else .any
   |_=> .any
 | .fkid q j n i=>match af m q with
   |some (.kids K)=>match K.hl,K.ow,Nat.beq K.fam j && Nat.beq K.n n with
    |none,none,true=> .slc (K.ns i) K.k (K.f i)
    |_,_,_=> .any
   |_=> .any
 | .nrun n=> .run n fun _ _=> .slc 0 1 fun _ _=> .any
 | .krun q j n=>match af m q with
   |some (.kids K)=>match K.hl,K.ow,Nat.beq K.fam j && Nat.beq K.n n with
    |none,none,true=> .run n fun i _=> .slc (K.ns i) K.k (K.f i)
    |_,_,_=> .arun n
   |_=> .arun n
 | .mrun _ _ _ n _=> .arun n
 |s=>s
def eW (A:Ar)(m:Mem):List SV->List SV
 | [] => []
 |s::r=>aZ A m s::eW A m r
def bK (A:Ar)(m:Mem):List SV->List SV
 | [] => []
 | .agg l::r=> .agg (eW A m l)::bK A m r
 |s::r=>aZ A m s::bK A m r
def j4:SV->Bool
 | .own _=>true
 | .part _ _ _ _=>true
 | .kid _ _ _=>true
 | .krun _ _ _| .mrun _ _ _ _ _| .fkid _ _ _ _=>true
 |_=>false
def b8:List SV->Bool
 | [] =>false
 | .agg l::r=>l.any j4||b8 r
 |s::r=>j4 s||b8 r
def pK:SV->Bool
 | .any| .un| .int _ _| .bool _| .str _| .flt _| .cpx _ _| .nilp| .nils| .val _| .clo _ [] | .ifc _ _| .mth _ _| .emp=>true
 |_=>false
def gp:SV->Bool
 | .agg l=>l.all pK
 |s=>pK s
def flat:SV->Bool
 | .tup l=>l.all gp
 |s=>gp s
def fV:Option Operand->Option Operand->Option Operand->Bool
 |none,some (.const (.int .i64 (.ofNat 0))),some (.const (.int .i64 (.ofNat 0)))=>true
 |_,_,_=>false
def sC (q k o n r:Nat)(lo hi mx:Option SV):Out:=
 match lo,hi,mx with
 |none,none,none=>some (none, .part q k o n)
 |none,some (.int _ b),none=>some (some (A.inb b (A.nadd r 1)), .part q k o (A.toNat b))
 |some (.int _ a),none,none=>some (some (A.inb a (A.nadd n 1)), .part q k (A.nadd o (A.toNat a)) (A.nsub n (A.toNat a)))
 |some (.int _ a),some (.int _ b),none=>some (some (A.inb b (A.nadd r 1)∧A.inb a (A.nadd (A.toNat b) 1)), .part q k (A.nadd o (A.toNat a)) (A.nsub (A.toNat b) (A.toNat a)))
 |some (.int _ a),some (.int _ b),some (.int _ c)=>some (some (A.inb c (A.nadd r 1)∧A.inb b (A.nadd (A.toNat c) 1)∧A.inb a (A.nadd (A.toNat b) 1)), .any)
 |_,_,_=>none
def Ik:SV->Bool
 | .ptr _ _=>true
 | .int _ _| .bool _| .str _| .flt _| .cpx _ _| .nilp| .nils| .val _=>true
 |_=>false
def iq (e:Operand->SV)(places:Nat->Option (Nat×Nat)):List SV->List (Nat×Operand)->Option (List SV)
 |c, [] =>some c
 |c,(i,x)::r=>match places i,cellsOf (e x) with
  |some (off,size),some l=>bif Nat.beq (bq l) size && Nat.ble (off+size) (bq c) then iq e places (d8 c off l) r else none
  |_,_=>none
def nth:List (Nat×Nat)->Nat->Option (Nat×Nat)
 | [],_=>none
 |x::_,0=>some x
 |_::l,n+1=>nth l n
def fD (e:Operand->SV)(k:Nat):Nat->List (Nat×Operand)->Option (List (List SV))
 |_, [] =>some []
 |i,(j,x)::r=>match cellsOf (e x),fD e k (i+1) r with
  |some l,some ls=>bif Nat.beq i j &&(Nat.beq (len l) k && bM l) then some (l::ls) else none
  |_,_=>none
def mQ (l:List SV)(b:Nat):List SV->Nat->Option (Option Prop×List SV)
 | [],_=>some (none, [])
 |z::zs,j=>match mQ l b zs (j+1),z with
  |some (p,cs), .int kd _=>some (jR (some (A.isI kd (A.getL l (A.nadd b j)))) p, .int kd (A.zOf (A.getL l (A.nadd b j)))::cs)
  |some (p,cs), .str _=>some (jR (some (A.isS (A.getL l (A.nadd b j)))) p, .str (A.sOf (A.getL l (A.nadd b j)))::cs)
  |_,_=>none
def aw (T:Tys)(G:Pu)(op:Op)(e:Operand->SV)(m:Mem):Out:=
 match op with
 | .move x=>some (none,e x)
 | .assign x=>some (none,e x)
 | .nilCheck x=>match e x with
   | .ptr k off=>some (none, .ptr k off)
   |_=>none
 | .pick c a b=>Fi A (e c) (e a) (e b)
 | .load t p=>match e p,T t with
   | .ptr k off,some ty=>match af m k with
     |some (.box _ c)=>bif ty.agg
       then (bif Nat.ble (off+ty.size) (bq c) then some (none, .agg (fm c off ty.size)) else none)
       else (bif Nat.ble (off+1) (bq c) then some (none,od c off) else none)
     |_=>none
   | .iptr b base n i,some ty=>match af m b with
     |some (.box _ c)=>bif Nat.beq ty.size 1 && !ty.agg then (match jo c base n with
      |some (.run _ g)=>some (none,cl (g i 0))
      |some (.nrun _)=>some (none, .nils)
      |some (.krun q j _)=>some (none, .fkid q j n i)
      |some (.mrun _ _ p _ g)=>some (some (A.upto (A.ofNat p) (A.ofNat i)),cl (g i 0))
      |_=>none) else none
     |_=>none
   | .rop k f,some ty=>bif ty.agg then (bif Nat.ble ty.size k then some (none, .agg (bv f 0 ty.size)) else none)
      else (bif Nat.ble 1 k then some (none,f 0) else none)
   | .eptr q k i off,some ty=>match af m q with
     |some (.row _ k' _ f)=>bif Nat.beq k k' && Nat.ble (off+ty.size) k then (bif ty.agg then some (none, .agg (bv (f i) off ty.size)) else (match ty.tag with
       | .int kd=>some (some (A.isI kd (f i off)), .int kd (A.zOf (f i off)))
       |_=>some (none,f i off))) else none
     |some (.krow _ K)=>bif Nat.beq k 1 &&(Nat.beq off 0 &&(Nat.beq ty.size 1 && !ty.agg)) then (match K.ow,K.hl with
       |none,none=>some (none, .kid q K.fam i)
       |some p,none=>some (some (A.upto (A.ofNat p) (A.ofNat i)), .slc (K.ns i) K.k (K.f i))
       |_,_=>none) else none
     |_=>none
   |_,_=>none
 | .fieldAddr t x i=>match e x,T t with
   | .ptr k off,some ty=>match ty.tag with
     | .struct places _=>match nth places i with
       |some (o,s)=>bif Nat.ble 1 s then some (none, .ptr k (off+o)) else none
       |none=>none
     |_=>none
   | .rop k f,some ty=>match ty.tag with
     | .struct places _=>match nth places i with
       |some (o,s)=>bif Nat.ble 1 s && Nat.ble (o+s) k then some (none, .rop s fun j=>f (o+j)) else none
       |none=>none
     |_=>none
   | .eptr q k j off,some ty=>match ty.tag with
     | .struct places _=>match nth places i with
       |some (o,s)=>bif Nat.ble 1 s then some (none, .eptr q k j (off+o)) else none
       |none=>none
     |_=>none
   |_,_=>none
 | .indexAddr t x i=>match e x,e i,T t with
   | .ptr k off, .int _ a,some ty=>match ty.tag with
     | .array n _ ek=>bif Nat.beq ek 1 then some (some (A.inb a n), .iptr k off n (A.toNat a)) else none
     |_=>none
   | .rop k f, .int _ a,some ty=>match ty.tag with
     | .array n _ ek=>bif Nat.ble (n*ek) k then some (some (A.inb a n), .rop ek fun j=>f (A.nadd (A.nmul (A.toNat a) ek) j)) else none
     |_=>none
   | .slc n k f, .int _ a,some ty=>match ty.tag with
     | .slice _ k' _ _=>bif Nat.beq k k' then some (some (A.inb a n), .rop k (f (A.toNat a))) else none
     |_=>none
   | .own q, .int _ a,some ty=>match ty.tag,af m q with
     | .slice _ k' _ _,some (.row _ k n _)=>bif Nat.beq k k' then some (some (A.inb a n), .eptr q k (A.toNat a) 0) else none
     | .slice _ k' _ _,some (.krow _ K)=>bif Nat.beq 1 k' then some (some (A.inb a K.n), .eptr q 1 (A.toNat a) 0) else none
     |_,_=>none
   | .part q k lo n, .int _ a,some ty=>match ty.tag,af m q with
     | .slice _ k' _ _,some (.row _ k2 _ _)=>bif Nat.beq k k' && Nat.beq k k2 then some (some (A.inb a n), .eptr q k (A.nadd lo (A.toNat a)) 0) else none
     |_,_=>none
   |_,_,_=>none
 | .index t x i=>match e x,e i,T t with
   | .str s, .int _ a,some ty=>match ty.tag with
     | .str=>some (some (A.inb a (A.lenOf s)), .int .u8 (A.sget s a))
     |_=>none
   | .agg l, .int _ a,some ty=>match ty.tag with
     | .array n e k=>match T e with
       |some te=>bif Fh l then (match l with
         | [.run n' g] =>bif (Nat.beq n' n && Nat.beq k 1)&&(Nat.beq te.size 1 && !te.agg) then some (some (A.inb a n),cl (g (A.toNat a) 0)) else none
         |_=>none) else bif (Dp l && Nat.beq te.size k)&& Nat.ble (n*k) (len l) then (match mQ A l (A.nmul (A.toNat a) k) te.zero 0 with
        |some (p,cs)=>some (jR (some (A.inb a n)) p,bif te.agg then .agg cs else ap cs 0)
        |none=>match a with
         | .ofNat a=>bif Nat.blt a n && Nat.ble (a*k+k) (len l) then some (none,bif te.agg then .agg (fT l (a*k) k) else ap l (a*k)) else none
         |_=>none) else none
       |none=>none
     |_=>none
   |_,_,_=>none
 | .binOp op t x y _=>match e x,e y with
   | .agg a, .agg b=>match T t,op,bJ A a b with
     |some ty, .eql,some r=>match ty.tag with
      | .struct _ true=>bif aS ty.zero a && aS ty.zero b then some (none, .bool r) else none
      |_=>none
     |some ty, .neq,some r=>match ty.tag with
      | .struct _ true=>bif aS ty.zero a && aS ty.zero b then some (none, .bool (A.not r)) else none
      |_=>none
     |_,_,_=>none
   | .bool a, .bool b=>match T t,op with
     |some ty, .eql=>match ty.tag with
      | .bool=>some (none, .bool (A.beq a b))
      |_=>none
     |some ty, .neq=>match ty.tag with
      | .bool=>some (none, .bool (A.bne a b))
      |_=>none
     |_,_=>none
   |u,v=>Dq A op u v
 | .unOp .not _ x=>match e x with
   | .bool b=>some (none, .bool (A.not b))
   |_=>none
 | .unOp .neg _ x=>match e x with
   | .int k n=>some (none, .int k (A.sub k 0 n))
   |_=>none
 | .convert s d x=>me A T s d (aZ A m (e x))
 | .extract t i=>match e t with
   | .tup l=>bif Nat.ble (i+1) (len l) then some (none,ap l i) else none
   |_=>none
 | .field t x i=>match e x,T t,T.fl t i with
   | .agg l,some ty,some u=>match ty.tag,T u with
     | .struct places _,some tu=>match nth places i with
       |some (o,s)=>bif Nat.beq tu.size s && Nat.ble (o+s) (bq l) then some (none,bif tu.agg then .agg (fm l o s) else od l o) else none
       |none=>none
     |_,_=>none
   |_,_,_=>none
 | .build t parts=>match T t with
   |some ty=>match ty.tag with
    | .struct places _=>match iq e (nth places) ty.zero parts.toList with
      |some c=>bif zOk ty.zero then some (none, .agg c) else none
      |none=>none
    |_=>none
   |none=>none
 | .buildSlice t n parts=>match T t with
   |some ty=>match ty.tag with
    | .slice _ k _ _=>match fD e k 0 parts.toList with
      |some ls=>bif Nat.beq n ls.length &&(Nat.ble 1 n && Nat.ble (n*k) 16777216) then some (none, .slc n k (A.lst ls)) else none
      |none=>none
    |_=>none
   |none=>none
 | .slice t x lo hi mx=>match T t with
   |some ty=>match ty.tag with
    | .slice _ k' _ _=>match e x with
      | .slc n k f=>bif fV lo hi mx then some (none, .emp) else bif Nat.beq k k' then ku A (.slc n k f) (bn e lo) (bn e hi) (bn e mx) else none
      | .nils=>bif fV lo hi mx then some (none, .emp) else match bn e lo,bn e hi,bn e mx with
        |none,some (.int _ b),none=>some (some (A.inb b 1), .nils)
        |_,_,_=>none
      | .emp=>bif fV lo hi mx then some (none, .emp) else none
      | .own q=>match af m q with
        |some (.row _ k n _)=>bif fV lo hi mx then some (none, .emp) else bif Nat.beq k k' then sC A q k 0 n n (bn e lo) (bn e hi) (bn e mx) else none
        |_=>none
      | .part q k o n=>match af m q with
        |some (.row _ k2 n2 _)=>bif Nat.beq k k' && Nat.beq k k2 then sC A q k o n (A.nsub n2 o) (bn e lo) (bn e hi) (bn e mx) else none
        |_=>none
      |_=>none
    | .str=>match e x with
      | .str s=>ku A (.str s) (bn e lo) (bn e hi) (bn e mx)
      |_=>none
    |_=>none
   |none=>none
 | .makeFunc (.func f) first captured=>match first.toList with
   | [] =>bif (bu e captured.toList).all Ik then some (none, .clo f (bu e captured.toList)) else none
   | [x] =>match captured.toList with
     | [] =>bif gp (e x) then some (none, .mth f (e x)) else none
     |_=>none
   |_=>none
 | .makeInterface t x=>match T t with
   |some ty=>match ty.tag with
    | .struct _ _=>bif gp (e x) then some (none, .ifc t (e x)) else none
    |_=>none
   |none=>none
 | .call { callee:= .value (.func f),args:=args, .. } =>match G f (bK A m (bu e args.toList)) with
   |some (p,r)=>bif !b8 (bu e args.toList) ||flat r then some (p,r) else none
   |none=>none
 | .call { callee:= .value (.tmp t),args:=args, .. } =>match e (.tmp t) with
   | .clo f [] =>match G f (bK A m (bu e args.toList)) with
     |some (p,r)=>bif flat r then some (p,r) else none
     |none=>none
   |_=>none
 | .call { callee:= .builtin .len,args:=args,argTypes:=ts } =>match args.toList,ts.toList with
   | [x], [t] =>match aZ A m (e x),T t with
     | .slc n _ _,some ty=>match ty.tag with
       | .slice _ _ _ _=>some (none, .int .i64 (A.ofNat n))
       |_=>none
     | .str s,some ty=>match ty.tag with
       | .str=>some (none, .int .i64 (A.slen s))
       |_=>none
     |_,_=>none
   |_,_=>none
 | .call { callee:= .builtin .complex,args:=args, .. } =>match args.toList with
   | [x,y] =>match e x,e y with
     | .flt a, .flt b=>some (none, .cpx a b)
     |_,_=>none
   |_=>none
 | .call { callee:= .builtin .real,args:=args, .. } =>match args.toList with
   | [x] =>match e x with
     | .cpx a _=>some (none, .flt a)
     |_=>none
   |_=>none
 | .call { callee:= .builtin .imag,args:=args, .. } =>match args.toList with
   | [x] =>match e x with
     | .cpx _ b=>some (none, .flt b)
     |_=>none
   |_=>none
 | .call { callee:= .builtin .cap,args:=args,argTypes:=ts } =>match args.toList,ts.toList with
   | [x], [t] =>match e x,T t with
     | .nils,some ty=>match ty.tag with
       | .slice _ _ _ _=>some (none, .int .i64 (A.ofNat 0))
       |_=>none
     |_,_=>none
   |_,_=>none
 |_=>none
def wV:SV->Option (Bool×Bool)
 | .bool b=>some (true,b)
 | .opt c (.bool b)=>some (c,b)
 |_=>none
def j5:List Oper->Nat->Option Nat
 | [],_=>none
 |o::_,0=>o.dst
 |_::l,n+1=>j5 l n
def bC (key:Nat):SV->Option (SV×Blk)
 | .frs e k n f=>some (.own key, .row e k n f)
 |_=>none
def cg (key:Nat):List SV->Option (List SV×Blk)
 | [] =>none
 |s::l=>match bC key s with
  |some (s',b)=>some (s'::l,b)
  |none=>match cg key l with
   |some (l',b)=>some (s::l',b)
   |none=>none
def bE (key:Nat):SV->Option (SV×Blk)
 | .frs e k n f=>some (.own key, .row e k n f)
 | .agg l=>match cg key l with
   |some (l',b)=>some (.agg l',b)
   |none=>none
 |_=>none
def cu (key:Nat):List SV->Option (List SV×Blk)
 | [] =>none
 |s::l=>match bE key s with
  |some (s',b)=>some (s'::l,b)
  |none=>match cu key l with
   |some (l',b)=>some (s::l',b)
   |none=>none
def cV (key:Nat)(s:SV):SV×Option Blk:=
 match s with
 | .tup l=>match cu key l with
   |some (l',b)=>(.tup l',some b)
   |none=>(s,none)
 |_=>match bE key s with
  |some (s',b)=>(s',some b)
  |none=>(s,none)
def wW (e:Operand->SV):Operand->SV:=fun x=>d9 (e x)
def wX (b:Nat):SV->Bool
 | .ptr k _=>Nat.blt k b
 | .own k=>Nat.blt k b
 | .eptr k _ _ _=>Nat.blt k b
 | .part k _ _ _=>Nat.blt k b
 | .kid k q _=>Nat.blt k b && Nat.blt q b
 | .iptr k _ _ _=>Nat.blt k b
 | .krun k q _=>Nat.blt k b && Nat.blt q b
 | .mrun k q _ _ _=>Nat.blt k b && Nat.blt q b
 | .fkid k q _ _=>Nat.blt k b && Nat.blt q b
 | .agg _| .tup _| .opt _ _| .clo _ _=>false
 |_=>true
def wY (b:Nat):SV->Bool
 | .clo _ l=>l.all (wX b)
 |s=>wX b s
def wZ (b:Nat):SV->Bool
 | .agg l=>l.all (wY b)
 |s=>wY b s
def Ds (b:Nat):SV->Bool
 | .tup l=>l.all (wZ b)
 |s=>wZ b s
def lG (e:Operand->SV):Op->Operand->SV
 | .pick (.tmp t) _ _=>fun x=>match x with
   | .tmp t'=>bif Nat.beq t' t then d9 (e (.tmp t')) else e (.tmp t')
   |x=>e x
 |_=>wW e
def mS (e:Operand->SV):Op->Option Prop
 | .pick (.tmp t) _ _=>ln A (e (.tmp t))
 |op=>fU A e op.operands.toList
def cW (T:Tys)(G:Pu)(op:Op)(gv:SV)(want:Bool)(e:Operand->SV)(m:Mem)(base:Nat):Option (Option Prop×SV×Mem):=
 match wV gv,aw A T G op (lG e op) m with
 |some (c,b),some (p,r)=>match cV 0 r,Ds base r with
  | (_,some _),_=>none
  |_,false=>none
  | (_,none),true=>some (Dr (A.imp (A.want c b want)) (jR (mS A e op) p), .opt (A.want c b want) r,m)
 |_,_=>none
def cF (m:Mem):SV->Bool
 | .own k=>match af m k with
   |some (.krow _ _)=>false
   |_=>true
 | .kid _ _ _=>false
 |_=>true
def lp (T:Tys)(m:Mem)(t u:Nat)(y:SV):SV:=
 bif Nat.beq t u then (match cF m y,aZ A m y with
  |true, .slc n k g=> .slc n k g
  |_,_=> .any)
 else match y with
  | .int k z=>match T u with
    |some tu=>match tu.tag with
     | .int _=> .int k z
     |_=> .any
    |none=> .any
  |_=> .any
def Il (T:Tys)(src dst:Nat)(x:SV):Option (Nat×List UInt8):=
 match T.cv,T src,T dst,x with
 |true,some ts,some td, .str l=>match ts.tag,td.tag with
  | .str, .slice el _ _ true=>some (el,l)
  |_,_=>none
 |_,_,_,_=>none
def uo (T:Tys)(t n:Nat)(parts:Array (Nat×Operand))(e:Operand->SV):Option (Nat×Nat×List (List SV)):=
 match T.bs,T t with
 |true,some ty=>match ty.tag with
  | .slice el k _ _=>match fD e k 0 parts.toList with
    |some ls=>bif Nat.beq n ls.length &&(Nat.ble 1 n && Nat.ble (n*k) 16777216) then some (el,k,ls) else none
    |none=>none
  |_=>none
 |_,_=>none
def Dt (e:Nat)(K:Kids)(q r i n:Nat)(f:Nat->Nat->SV)(key:Nat)(m:Mem):Option (Option Prop×SV×Mem):=
 match K.hl,K.ow with
 |none,none=>some (none, .un,upd (del m r) q (.krow e { K with ns:=A.nset K.ns i n,f:=A.fset K.f i f,fam:=key }))
 |some h,none=>some (some (A.eqn i h), .un,upd (del m r) q (.krow e { K with ns:=A.nset K.ns i n,f:=A.fset K.f i f,fam:=key,hl:=none }))
 |none,some p=>some (some (A.eqn i p), .un,upd (del m r) q (.krow e { K with ns:=A.nset K.ns i n,f:=A.fset K.f i f,fam:=key,ow:=some (A.nadd p 1) }))
 |_,_=>none
def Du (K:Kids)(t:TypeId)(c:List SV)(sr:SV)(b base n i r n':Nat)(f:Nat->Nat->SV)(key:Nat)(m:Mem):Option (Option Prop×SV×Mem):=
 match sr,K.hl,K.ow with
 | .krun q j _,none,none=>bif Nat.beq K.fam j &&(Nat.beq K.n n && !Nat.beq r q) then some (none, .un,upd (upd (del m r) q (.kids { K with ns:=A.nset K.ns i n',f:=A.fset K.f i f,fam:=key })) b (.box t (d8 c base [.krun q key n]))) else none
 | .krun q j _,some h,none=>bif Nat.beq K.fam j &&(Nat.beq K.n n && !Nat.beq r q) then some (some (A.eqn i h), .un,upd (upd (del m r) q (.kids { K with ns:=A.nset K.ns i n',f:=A.fset K.f i f,fam:=key,hl:=none })) b (.box t (d8 c base [.krun q key n]))) else none
 | .mrun q j p _ g,none,none=>bif Nat.beq K.fam j && !Nat.beq r q then some (some (A.eqn i p∧A.eqn K.n p), .un,upd (upd (del m r) q (.kids { K with n:=A.nadd p 1,ns:=A.nset K.ns i n',f:=A.fset K.f i f,fam:=key })) b (.box t (d8 c base [.mrun q key (A.nadd p 1) n g]))) else none
 |_,_,_=>none
def cM:SV->Nat
 | .krun q _ _=>q
 | .mrun q _ _ _ _=>q
 |_=>0
def bA (T:Tys)(G:Pu)(op:Op)(e:Operand->SV)(m:Mem)(key:Nat):Option (Option Prop×SV×Mem):=
 match op with
 | .alloc t=>match T t with
   |some ty=>bif zOk ty.zero then some (none, .ptr key 0,ins m key (.box t ty.zero)) else none
   |none=>none
 | .box t x=>match cellsOf (e x) with
   |some c=>some (none, .ptr key 0,ins m key (.box t c))
   |none=>none
 | .store t p x=>match e p,cellsOf (e x),T t with
   | .ptr k off,some l,some ty=>match af m k with
     |some (.box u c)=>bif Nat.beq (bq l) ty.size && Nat.ble (off+ty.size) (bq c) then some (none, .un,upd m k (.box u (d8 c off l))) else none
     |_=>none
   | .iptr b base n i,some _,some ty=>match e x,af m b with
     | .own r,some (.box u c)=>match jo c base n,af m r with
       |some sr,some (.row e' k' n' f)=>match af m (cM sr) with
        |some (.kids K)=>bif (Nat.beq e' K.e && Nat.beq k' K.k)&& Nat.beq ty.size 1 then Du A K u c sr b base n i r n' f key m else none
        |_=>none
       |_,_=>none
     |_,_=>none
   | .eptr q k i off,some l,some ty=>match af m q with
     |some (.row el k' n f)=>bif Nat.beq k k' &&(Nat.beq (len l) ty.size &&(Nat.ble (off+ty.size) k && bM l)) then some (none, .un,upd m q (.row el k n (A.rset f i off l))) else none
     |some (.krow e0 K)=>match e x with
      | .own r=>match af m r with
        |some (.row e' k' n f)=>bif (Nat.beq e' K.e && Nat.beq k' K.k)&&(Nat.beq k 1 &&(Nat.beq off 0 &&(Nat.beq ty.size 1 && !Nat.beq r q))) then Dt A e0 K q r i n f key m else none
        |_=>none
      |_=>none
     |_=>none
   |_,_,_=>none
 | .call { callee:= .builtin .append,args:=args,argTypes:=ts } =>match args.toList,ts.toList with
   | [x,y], [t,u] =>match T t,lp A T m t u (e y) with
     |some ty, .int _ z=>match ty.tag with
      | .slice el k by_ _=>match e x,T el with
        | .nils,some te=>bif bM te.zero && Nat.beq (len te.zero) k then some (some (A.zeros z by_), .own key,ins m key (.row el k (A.toNat z) fun _ j=>ap te.zero j)) else none
        |_,_=>none
      |_=>none
     |some ty, .slc n' kk g=>match ty.tag with
      | .slice el k by_ _=>bif Nat.beq k kk then (match e x with
        | .nils=>some (some (A.grow 0 n' by_), .own key,ins m key (.row el k n' g))
        | .emp=>some (some (A.grow 0 n' by_), .own key,ins m key (.row el k n' g))
        | .own q=>match af m q with
          |some (.row e' k' n f)=>bif Nat.beq el e' && Nat.beq k k' then some (some (A.grow n n' by_), .own key,ins (del m q) key (.row el k (A.nadd n n') (A.cat n f g))) else none
          |_=>none
        | .part q k2 o b=>match af m q with
          |some (.row e' k' n f)=>bif (Nat.beq el e' && Nat.beq k k')&&(Nat.beq k k2 && Nat.beq o 0) then some (some (A.room b n' n), .part q k 0 (A.nadd b n'),upd m q (.row el k n (A.rcopy f b n' g))) else none
          |_=>none
        | .kid q j i=>match af m q with
          |some (.krow e0 K)=>match K.hl,K.ow,(Nat.beq el K.e && Nat.beq k K.k)&& Nat.beq K.fam j with
           |none,none,true=>some (some (A.grow (K.ns i) n' by_), .own key,ins (upd m q (.krow e0 { K with hl:=some i })) key (.row el k (A.nadd (K.ns i) n') (A.cat (K.ns i) (K.f i) g)))
           |_,_,_=>none
          |_=>none
        | .fkid q j c i=>match af m q with
          |some (.kids K)=>match K.hl,K.ow,(Nat.beq el K.e && Nat.beq k K.k)&&(Nat.beq K.fam j && Nat.beq K.n c) with
           |none,none,true=>some (some (A.grow (K.ns i) n' by_), .own key,ins (upd m q (.kids { K with hl:=some i })) key (.row el k (A.nadd (K.ns i) n') (A.cat (K.ns i) (K.f i) g)))
           |_,_,_=>none
          |_=>none
        |_=>none) else none
      |_=>none
     |_,_=>none
   |_,_=>none
 | .makeSlice t x y=>match e x,e y,T t with
   | .int _ a, .int _ b,some ty=>match ty.tag with
     | .slice el k by_ _=>match T el with
       |some te=>match T.kr el,te.zero with
        |some (e1,k1), [.nils] =>bif Nat.beq k 1 then some (some (A.makes a b by_), .own key,ins m key (.krow el ⟨e1,k1,A.toNat a,fun _=>0,fun _ _ _=> .any,none,key,none⟩)) else none
        |_,_=>bif bM te.zero && Nat.beq (len te.zero) k then some (some (A.makes a b by_), .own key,ins m key (.row el k (A.toNat a) fun _ j=>ap te.zero j)) else none
       |none=>none
     |_=>none
   |_,_,_=>none
 | .buildSlice t 0 parts=>match T t,parts.toList with
   |some ty, [] =>match ty.tag with
    | .slice el k _ _=>some (none, .own key,ins m key (.row el k 0 fun _ _=> .any))
    |_=>none
   |_,_=>none
 | .buildSlice t (n+1) parts=>match uo T t (n+1) parts e with
   |some (el,k,ls)=>some (none, .own key,ins m key (.row el k (n+1) (A.lst ls)))
   |none=>match aw A T G (.buildSlice t (n+1) parts) e m with
    |some (p,r)=>some (p,r,m)
    |none=>none
 | .call { callee:= .value (.func f),args:=args,argTypes:=ts } =>match aw A T G (.call { callee:= .value (.func f),args:=args,argTypes:=ts }) e m with
   |some (p,r)=>match cV key r with
    | (r',some b)=>some (p,r',ins m key b)
    | (_,none)=>some (p,r,m)
   |none=>none
 | .convert src dst x=>match Il T src dst (e x) with
   |some (el,l)=>some (some (A.inb (A.ofNat (A.lenOf l)) 4611686018427387904), .own key,ins m key (.row el 1 (A.lenOf l) (A.bytesOf l)))
   |none=>match aw A T G (.convert src dst x) e m with
    |some (p,r)=>some (p,r,m)
    |none=>none
 |op=>match aw A T G op e m with
  |some (p,r)=>some (p,r,m)
  |none=>none
def fin (o:Oper)(s:St):Option (Option Prop×SV×Mem)->Option (Option Prop×St)
 |some (p,r,m)=>some (p, { s with tmps:=put s.tmps o.dst r,mem:=m })
 |none=>none
def BU (t:Nat):List Oper->Bool
 | [] =>false
 |o::l=>(match o.op with
  | .call { callee:= .value (.func _),args:=args, .. } =>args.toList.any fun x=>match x with
    | .tmp t'=>Nat.beq t' t
    |_=>false
  |_=>false) ||BU t l
def uq (all:List Oper)(o:Oper):Bool:=cJ o.op &&(match o.dst with
 |some d=>BU d all
 |none=>false)
def oe (b:Bool)(key:Nat):Option (Option Prop×SV×Mem)->Option (Option Prop×SV×Mem)
 |some (p,r,m)=>bif b then (match r with
  | .own q=>bif Nat.beq q key then (match af m key with
    |some (.row _ k n f)=>some (p, .slc n k f,del m key)
    |_=>some (p,r,m)) else some (p,r,m)
  |_=>some (p,r,m)) else some (p,r,m)
 |none=>none
def dz (T:Tys)(G:Pu)(all:List Oper)(base i:Nat)(o:Oper)(s:St):Option (Option Prop×St):=
 match o.guard with
 |some (j,want)=>match j5 all j with
  |some d=>fin o s (cW A T G o.op (ap s.tmps d) want (ev T.gl s.tmps) s.mem base)
  |none=>none
 |none=>fin o s (oe (uq all o) (base+i) (bA A T G o.op (ev T.gl s.tmps) s.mem (base+i)))
def hot (e:Operand->SV):Op->Bool
 | .load _ p=>match d9 (e p) with
   | .eptr _ _ _ _=>true
   | .iptr _ _ _ _=>true
   |_=>false
 | .store _ p _=>match e p with
   | .eptr _ _ _ _=>true
   | .iptr _ _ _ _=>true
   |_=>false
 | .call { callee:= .builtin .append,args:=args, .. } =>match args.toList with
   |x::_=>match e x with
    | .part _ _ _ _=>true
    |_=>false
   | [] =>false
 |_=>false
def ur (q:Nat):SV->Bool
 | .ptr k _=>Nat.beq k q
 | .own k=>Nat.beq k q
 | .eptr k _ _ _=>Nat.beq k q
 | .part k _ _ _=>Nat.beq k q
 | .kid k q' _=>Nat.beq k q||Nat.beq q' q
 | .iptr k _ _ _=>Nat.beq k q
 | .krun k q' _=>Nat.beq k q||Nat.beq q' q
 | .mrun k q' _ _ _=>Nat.beq k q||Nat.beq q' q
 | .fkid k q' _ _=>Nat.beq k q||Nat.beq q' q
 |_=>false
def us (q:Nat):SV->Bool
 | .clo _ l=>l.any (ur q)
 |s=>ur q s
def ut (q:Nat):SV->Bool
 | .agg l=>l.any (us q)
 |s=>us q s
def uv (q:Nat):SV->Bool
 | .tup l=>l.any (ut q)
 |s=>ut q s
def nam (q:Nat):SV->Bool
 | .opt _ s=>uv q s
 |s=>uv q s
def kN (t:Nat):List Oper->Bool
 | [] =>true
 |o::l=>(match o.dst with
  |some d=> !Nat.beq d t||gT o.op
  |none=>true)&& kN t l
def fo (e:Operand->SV)(l:List Operand)(t:Nat):Bool:=
 match e (.tmp t) with
 | .ptr k _=>l.all fun x=> !nam k (e x)
 | .un=>true
 | .any=>true
 |_=>false
def j6 (P:Nat->Bool)(t:Nat):List Oper->Bool
 | [] =>true
 |o::l=>(match o.dst with
  |some d=>bif Nat.beq d t then gT o.op|| (match o.op,o.guard with
   | .fieldAddr _ (.tmp q) _,none=>P q
   |_,_=>false) else true
  |none=>true)&& j6 P t l
def adr (e:Operand->SV)(ops:List Operand)(all:List Oper):Nat->Nat->Bool
 |0,t=>kN t all && fo e ops t
 |f+1,t=>j6 (adr e ops all f) t all && fo e ops t
def kO (e:Operand->SV)(all:List Oper)(op:Op)(o:Oper):Bool:=
 match o.op with
 | .store _ (.tmp t) _=>adr e op.operands.toList all 3 t
 | .store _ _ _=>false
 |_=>true
def stQ (e:Operand->SV)(all:List Oper)(op:Op)(o:Oper):Bool:=
 match o.op with
 | .store _ (.tmp t) _=>kN t all && fo e op.operands.toList t
 | .store _ _ _=>false
 |_=>true
def Dv (e:Operand->SV)(all:List Oper)(op:Op):Bool:=hot e op|| (q8 op && !(all.all (stQ e all op)))
def dM (e:Operand->SV)(all:List Oper)(op:Op):Bool:=hot e op|| (q8 op && !(all.all (kO e all op)))
def eX (wl:List Nat)(h:Bool)(x y:Op):Bool:=bif h then (pH x y||eU wl y) else (q8 x && oc y)
def OX (b:Bool)(f:Unit->Bool):Option Prop:=
 match b with
 |true=>some (A.dr f)
 |false=>none
abbrev Wt:=Nat->Nat->Nat->Nat->(Nat->Nat->SV)->List SV->Option (Option Prop×Nat×(Nat->Nat->SV))
structure Xt where
 meth:Nat->String->Option Nat
 wt:Wt
 cv:Bool:=false
 wl:List Nat:= []
 sl:List Nat:= []
 go:List Nat:= []
def wtU (X:Xt)(op:Op)(e:Operand->SV)(m:Mem)(key:Nat):Option (Option Prop×SV×Mem):=
 match op with
 | .call { callee:= .value (.func f),args:=args, .. } =>match bu e args.toList with
   | .own q::rest=>match af m q with
     |some (.row el k n g)=>match X.wt f el k n g (bK A m rest) with
      |some (p,n',g')=>bif !b8 rest && !inW f X.sl then some (p, .own key,ins (del m q) key (.row el k n' g')) else none
      |none=>none
     |_=>none
   | .fkid q j c i::rest=>match af m q with
     |some (.kids K)=>match K.hl,K.ow,Nat.beq K.fam j && Nat.beq K.n c with
      |none,none,true=>match X.wt f K.e K.k (K.ns i) (K.f i) (bK A m rest) with
       |some (p,n',g')=>bif !b8 rest && !inW f X.sl then some (p, .own key,ins (upd m q (.kids { K with hl:=some i })) key (.row K.e K.k n' g')) else none
       |none=>none
      |_,_,_=>none
     |_=>none
   |_=>none
 |_=>none
def df (o:Oper):Bool:=match o.guard with
 |none=>true
 |some _=>false
def j7 (T:Tys)(G:Pu)(X:Xt)(all:List Oper)(base i:Nat)(o:Oper)(s:St):Option (Option Prop×St):=
 bif eU X.wl o.op && df o then fin o s (wtU A X o.op (ev T.gl s.tmps) s.mem (base+i)) else dz A T G all base i o s
def jp (T:Tys)(G:Pu)(X:Xt)(all:List Oper)(base:Nat):Nat->List Oper->St->(St->Prop)->Prop
 |_, [],s,K=>K s
 |i,o::l,s,K=>match j7 A T G X all base i o s with
  |some (p,s')=>match jR (OX A (Dv (ev T.gl s.tmps) all o.op) fun _=>jn (eX X.wl (hot (ev T.gl s.tmps) o.op)) all o i (i+1) l [] || !dM (ev T.gl s.tmps) all o.op) p with
   |none=>jp T G X all base (i+1) l s' K
   |some q=>q∧jp T G X all base (i+1) l s' K
  |none=>False
def sD (q:Nat):SV->Bool
 | .own k=>Nat.beq k q
 | .eptr k _ _ _=>Nat.beq k q
 | .part k _ _ _=>Nat.beq k q
 | .kid k q' _=>Nat.beq k q||Nat.beq q' q
 | .krun k q' _=>Nat.beq k q||Nat.beq q' q
 | .mrun k q' _ _ _=>Nat.beq k q||Nat.beq q' q
 | .fkid k q' _ _=>Nat.beq k q||Nat.beq q' q
 |_=>false
def Fj (q:Nat):SV->Bool
 | .clo _ l=>l.any (sD q)
 |s=>sD q s
def Fk (q:Nat):SV->Bool
 | .agg l=>l.any (Fj q)
 |s=>Fj q s
def Fl (q:Nat):SV->Bool
 | .tup l=>l.any (Fk q)
 |s=>Fk q s
def gC (m:Mem)(q:Nat):SV->SV
 | .own k=>bif Nat.beq k q then aZ A m (.own k) else .own k
 | .part k w lo n=>bif Nat.beq k q then aZ A m (.part k w lo n) else .part k w lo n
 | .kid k j i=>bif Nat.beq k q then aZ A m (.kid k j i) else .kid k j i
 | .fkid k j n i=>bif Nat.beq k q then aZ A m (.fkid k j n i) else .fkid k j n i
 | .krun k j n=>bif Nat.beq k q then aZ A m (.krun k j n) else .krun k j n
 | .mrun k j p n g=>bif Nat.beq k q then .arun n else .mrun k j p n g
 | .eptr k w i o=>bif Nat.beq k q then .any else .eptr k w i o
 | .clo f l=>bif l.any (sD q) then .any else .clo f l
 |s=>s
def jS (m:Mem)(q:Nat):List SV->List SV
 | [] => []
 |s::l=>gC A m q s::jS m q l
def xh (m:Mem)(q:Nat):SV->SV
 | .agg l=> .agg (jS A m q l)
 |s=>gC A m q s
def og (m:Mem)(q:Nat):List SV->List SV
 | [] => []
 |s::l=>xh A m q s::og m q l
def Dw (m:Mem)(q:Nat):SV->SV
 | .tup l=> .tup (og A m q l)
 | .opt c s=>bif Fl q s then .any else .opt c s
 |s=>xh A m q s
def iV (m:Mem)(q:Nat):List SV->List SV
 | [] => []
 |s::l=>Dw A m q s::iV m q l
def bF (m:Mem)(q:Nat):Mem->Mem
 | [] => []
 | (k, .box t c)::r=>(k, .box t (jS A m q c))::bF m q r
 | (k, .row e w n f)::r=>bif Nat.beq k q then bF m q r else (k, .row e w n f)::bF m q r
 | (k, .krow e K)::r=>bif Nat.beq k q then bF m q r else (k, .krow e K)::bF m q r
 | (k, .kids K)::r=>bif Nat.beq k q then bF m q r else (k, .kids K)::bF m q r
 | (k, .kmap t v M)::r=>(k, .kmap t v M)::bF m q r
def uw (m:Mem)(q:Nat):List (List SV)->List (List SV)
 | [] => []
 |fr::l=>iV A m q fr::uw m q l
def frz (q:Nat)(s:St):St:=
 match af s.mem q with
 |some (.row _ _ _ _)=> { next:=s.next,tmps:=iV A s.mem q s.tmps,mem:=bF A s.mem q s.mem,stk:=uw A s.mem q s.stk }
 |some (.krow _ _)=> { next:=s.next,tmps:=iV A s.mem q s.tmps,mem:=bF A s.mem q s.mem,stk:=uw A s.mem q s.stk }
 |some (.kids _)=> { next:=s.next,tmps:=iV A s.mem q s.tmps,mem:=bF A s.mem q s.mem,stk:=uw A s.mem q s.stk }
 |_=>s
def di:List Nat->St->St
 | [],s=>s
 |q::l,s=>di l (frz A q s)
def Fm:SV->List Nat
 | .own k=> [k]
 | .part k _ _ _=> [k]
 | .kid k _ _=> [k]
 | .fkid k _ _ _=> [k]
 | .krun k _ _=> [k]
 | .mrun k _ _ _ _=> [k]
 |_=> []
def kP:List SV->List Nat
 | [] => []
 |s::l=>Fm s++kP l
def kw:List SV->List Nat
 | [] => []
 | .agg l::r=>kP l++kw r
 |s::r=>Fm s++kw r
inductive XR where
 |no
 |step (p:Option Prop) (s:St)
 |call (f:Nat) (args:List SV)
 |all (g:Bool->Prop) (s:Bool->St)
def w4:Operand->Bool
 | .const (.slice none 0 0)=>true
 |_=>false
def Dx (m:Mem):SV->Option Nat
 | .slc n _ _=>some n
 | .nils=>some 0
 | .emp=>some 0
 | .part _ _ _ n=>some n
 | .own q=>match af m q with
   |some (.row _ _ n _)=>some n
   |_=>none
 |_=>none
def rd (T:Tys)(s:St):Callee->List SV->Option (Nat×List SV)
 | .value x,args=>match ev T.gl s.tmps x with
   | .clo f caps=>some (f,eb args caps)
   | .mth f p=>some (f,p::args)
   |_=>none
 |_,_=>none
def mU (q j n:Nat):SV->Bool
 | .fkid q' j' n' _=>Nat.beq q' q &&(Nat.beq j' j && Nat.beq n' n)
 |_=>false
def oh (q j n i:Nat):List SV->Option Prop
 | [] =>none
 | .fkid q' j' n' i'::l=>bif mU q j n (.fkid q' j' n' i') then jR (some (A.eqn i' i)) (oh q j n i l) else oh q j n i l
 |_::l=>oh q j n i l
def Dy (K:Kids)(q j n:Nat):SV->SV
 | .fkid q' j' n' i'=>bif mU q j n (.fkid q' j' n' i') then .slc (K.ns i') K.k (K.f i') else .fkid q' j' n' i'
 |s=>s
def ol (K:Kids)(q j n:Nat):List SV->List SV
 | [] => []
 |s::l=>Dy K q j n s::ol K q j n l
def Fn (vb:Bool):SV->Option Int
 | .bool b=>bif vb then some (A.b2i b) else none
 | .int .i64 n=>bif vb then none else some n
 |_=>none
def xOp (T:Tys)(G:Pu)(X:Xt)(o:Oper)(s:St):XR:=
 match o.guard with
 |some _=> .no
 |none=>match o.op with
  | .makeMap t none=>match T t with
    |some ty=>match ty.tag with
     | .map _ _ vb=> .step none { s with next:=s.next+1,tmps:=put s.tmps o.dst (.own s.next),mem:=ins s.mem s.next (.kmap t vb []) }
     |_=> .no
    |none=> .no
  | .lookup t x k false=>match T t,ev T.gl s.tmps x,ev T.gl s.tmps k with
    |some ty, .own q, .agg [.int .u32 a, .str b] =>match ty.tag,af s.mem q with
     | .map _ _ vb,some (.kmap t' vb' M)=>bif Nat.beq t t' &&(bif vb then vb' else !vb') then .step none { s with tmps:=put s.tmps o.dst (bif vb then .bool (A.i2b (A.mget M a b)) else .int .i64 (A.mget M a b)) } else .no
     |_,_=> .no
    |_,_,_=> .no
  | .mapUpdate t x k v=>match T t,ev T.gl s.tmps x,ev T.gl s.tmps k with
    |some ty, .own q, .agg [.int .u32 a, .str b] =>match ty.tag,af s.mem q,Fn A (match ty.tag with
      | .map _ _ vb=>vb
      |_=>false) (ev T.gl s.tmps v) with
     | .map _ _ vb,some (.kmap t' vb' M),some n=>bif Nat.beq t t' &&(bif vb then vb' else !vb') then .step none { s with tmps:=put s.tmps o.dst .un,mem:=upd s.mem q (.kmap t' vb' (A.mput M a b n)) } else .no
     |_,_,_=> .no
    |_,_,_=> .no
  | .call { callee:= .builtin .len,args:=args,argTypes:=ts } =>match args.toList,ts.toList with
    | [x], [t] =>match T t,ev T.gl s.tmps x with
      |some ty, .own q=>match ty.tag,af s.mem q with
       | .map _ _ _,some (.kmap _ _ M)=> .step none { s with tmps:=put s.tmps o.dst (.int .i64 (A.mlen M)) }
       |_,_=> .no
      |_,_=> .no
    |_,_=> .no
  | .store t p x=>match ev T.gl s.tmps p,T t with
    | .iptr b base n i,some ty=>match ev T.gl s.tmps x,af s.mem b with
      | .nils,some (.box u c)=>match jo c base n with
        |some (.krun q j _)=>match af s.mem q with
         |some (.kids K)=>match K.hl,K.ow,(Nat.beq K.fam j && Nat.beq K.n n)&&(Nat.beq ty.size 1 && !Nat.beq q b) with
          |none,none,true=> .step (oh A q j n i s.tmps) { s with next:=s.next+1,tmps:=put (ol K q j n s.tmps) o.dst .un,mem:=upd (upd s.mem q (.kids { K with ns:=A.nset K.ns i 0,fam:=s.next })) b (.box u (d8 c base [.krun q s.next n])) }
          |_,_,_=> .no
         |_=> .no
        |_=> .no
      |_,_=> .no
    | .eptr q k i off,some ty=>match cellsOf (ev T.gl s.tmps x) with
      |some l=>match di A (kP l) s with
       |s'=>match cellsOf (ev T.gl s'.tmps x),af s'.mem q with
        |some l',some (.row e k' n f)=>bif Nat.beq k k' &&(Nat.beq (len l') ty.size &&(Nat.ble (off+ty.size) k && bM l')) then
          .step none { s' with mem:=upd s'.mem q (.row e k n (A.rset f i off l')),tmps:=put s'.tmps o.dst .un } else .no
        |_,_=> .no
      |none=> .no
    |_,_=> .no
  | .binOp b t x y _=>match w4 y,Dx s.mem (ev T.gl s.tmps x),T t,b with
    |true,some n,some ty, .eql=>match ty.tag with
     | .slice _ _ _ _=> .all (fun b=>A.nilq b n) fun b=> { s with tmps:=put s.tmps o.dst (.bool b) }
     |_=> .no
    |true,some n,some ty, .neq=>match ty.tag with
     | .slice _ _ _ _=> .all (fun b=>A.notq b n) fun b=> { s with tmps:=put s.tmps o.dst (.bool b) }
     |_=> .no
    |_,_,_,_=> .no
  | .call { callee:= .builtin .clear,args:=args,argTypes:=ts } =>match args.toList,ts.toList with
    | [x], [t] =>match T t with
      |some ty=>match ty.tag with
       | .slice el k0 _ _=>match T el,(match ev T.gl s.tmps x with
          | .own q=>match af s.mem q with
            |some (.row _ k n _)=>some (q,k,0,n)
            |_=>none
          | .part q kk lo n=>some (q,kk,lo,n)
          |_=>none) with
         |some te,some (q,k,lo,n)=>match af s.mem q with
          |some (.row e k' n0 f)=>bif (Nat.beq k k' && Nat.beq k k0)&&(Nat.beq e el &&(bM te.zero && Nat.beq (len te.zero) k)) then .step none { s with tmps:=put s.tmps o.dst (.tup []),mem:=upd s.mem q (.row e k' n0 (A.rcopy f lo n fun _ j=>ap te.zero j)) } else .no
          |_=> .no
         |_,_=> .no
       |_=> .no
      |none=> .no
    |_,_=> .no
  | .call { callee:= .builtin .copy,args:=args,argTypes:=ts } =>match args.toList,ts.toList with
    | [x,y], [t,u] =>match T t,bif Nat.beq t u && cF s.mem (ev T.gl s.tmps y) then aZ A s.mem (ev T.gl s.tmps y) else .any with
      |some ty, .slc m k g=>match ty.tag with
       | .slice el k0 _ _=>match (match ev T.gl s.tmps x with
          | .own q=>match af s.mem q with
            |some (.row _ _ n _)=>some (q,0,n)
            |_=>none
          | .part q kk lo n=>bif Nat.beq kk k then some (q,lo,n) else none
          |_=>none) with
         |some (q,lo,n)=>match af s.mem q with
          |some (.row e k' n0 f)=>bif (Nat.beq k k' && Nat.beq k k0)&& Nat.beq e el then .step none { s with tmps:=put s.tmps o.dst (.int .i64 (A.ofNat (A.nmin n m))),mem:=upd s.mem q (.row e k' n0 (A.rcopy f lo (A.nmin n m) g)) } else .no
          |_=> .no
         |none=> .no
       |_=> .no
      |_,_=> .no
    |_,_=> .no
  | .buildSlice t n parts=>match kw (bu (ev T.gl s.tmps) (parts.toList.map Prod.snd)) with
    | [] =>match T t with
      |some ty=>match ty.tag with
       | .slice el k _ true=>match fD (ev T.gl s.tmps) k 0 parts.toList with
         |some ls=>bif Nat.beq n ls.length &&(Nat.ble 1 n && Nat.ble (n*k) 16777216) then .step none { s with next:=s.next+1,tmps:=put s.tmps o.dst (.own s.next),mem:=ins s.mem s.next (.row el k n (A.lst ls)) } else .no
         |none=> .no
       |_=> .no
      |none=> .no
    |ks=>match di A ks s with
     |s'=>match dz A T G [] s'.next 0 o { s' with next:=s'.next+1 } with
      |some (p,s'')=> .step p s''
      |none=> .no
  | .convert src dst x=>match T src with
    |some ty=>match ty.tag with
     | .slice el k _ true=>match ev T.gl s.tmps x with
       | .own q=>match af s.mem q with
         |some (.row e k' n f)=>bif Nat.beq src dst &&(Nat.beq k' k && Nat.beq e el) then .step (some (A.inb 0 n)) { frz A q s with tmps:=put (frz A q s).tmps o.dst (.slc n k' f) } else .no
         |_=> .no
       |_=> .no
     | .str=>match X.cv,T dst,ev T.gl s.tmps x with
       |true,some td, .str l=>match td.tag with
        | .slice el _ _ true=> .step (some (A.inb (A.ofNat (A.lenOf l)) 4611686018427387904)) { s with next:=s.next+1,tmps:=put s.tmps o.dst (.own s.next),mem:=ins s.mem s.next (.row el 1 (A.lenOf l) (A.bytesOf l)) }
        |_=> .no
       |_,_,_=> .no
     |_=> .no
    |none=> .no
  | .call { callee:= .value x,args:=args,argTypes:=ts } =>match rd T s (.value x) (bu (ev T.gl s.tmps) args.toList) with
    |none=> .no
    |some (f,al)=>match G f (bK A s.mem al) with
     |some (p,r)=>match x with
      | .func _=>bif !b8 al||flat r then .no else match di A (kw al) s with
        |s'=>match dz A T G [] s'.next 0 o { s' with next:=s'.next+1 } with
         |some (p,s'')=> .step p s''
         |none=> .no
      |_=> .call f al
     |none=>match al with
      | .own q::rest=>match af s.mem q with
        |some (.row e k n g)=>match X.wt f e k n g (bK A s.mem rest) with
         |some (p,n',g')=>bif !b8 rest then (bif inW f X.sl then .step p { s with next:=s.next+1,tmps:=put s.tmps o.dst (.tup []),mem:=upd s.mem q (.row e k n g') }
          else .step p { s with next:=s.next+1,tmps:=put s.tmps o.dst (.own s.next),mem:=ins (del s.mem q) s.next (.row e k n' g') }) else .no
         |none=> .call f al
        |_=> .call f al
      | .fkid q j c i::rest=>match af s.mem q with
        |some (.kids K)=>match K.hl,K.ow,Nat.beq K.fam j && Nat.beq K.n c with
         |none,none,true=>match X.wt f K.e K.k (K.ns i) (K.f i) (bK A s.mem rest) with
          |some (p,n',g')=>bif !b8 rest && !inW f X.sl then .step p { s with next:=s.next+1,tmps:=put s.tmps o.dst (.own s.next),mem:=ins (upd s.mem q (.kids { K with hl:=some i })) s.next (.row K.e K.k n' g') } else .no
          |none=> .call f al
         |_,_,_=> .call f al
        |_=> .call f al
      |al=> .call f al
  | .call { callee:= .invoke x name,args:=args,argTypes:=ts } =>match ev T.gl s.tmps x with
    | .ifc t p=>match X.meth t name with
      |some f=> .call f (p::bu (ev T.gl s.tmps) args.toList)
      |none=> .no
    |_=> .no
  |_=> .no
abbrev Cl:=Nat->List SV->St->(St->SV->Prop)->Prop
def mf (orig:List SV):List Operand->List SV->List SV
 | [],l=>l
 | .tmp t::r,l=>mf orig r (dL l t (d9 (ap orig t)))
 |_::r,l=>mf orig r l
def lq (T:Tys)(G:Pu)(X:Xt)(C:Cl)(all:List Oper)(o:Oper)(s:St)(R:St->Prop):Prop:=
 match xOp A T G X o s with
 | .step none s'=>R s'
 | .step (some p) s'=>p∧R s'
 | .call f args=>C f args s fun s' r=>R { s' with tmps:=put s'.tmps o.dst r }
 | .all g s'=> ∀ b,g b->R (s' b)
 | .no=>match dz A T G all s.next 0 o { s with next:=s.next+1 } with
   |some (none,s')=>R s'
   |some (some p,s')=>p∧R s'
   |none=>False
def K5:Op->Bool
 | .call { callee:= .value (.tmp _), .. } =>true
 |_=>false
def ux (T:Tys)(G:Pu)(all:List Oper)(base i:Nat)(o:Oper)(s:St):Option (Option Prop×St):=bif K5 o.op then none else dz A T G all base i o s
def cR (T:Tys)(G:Pu)(X:Xt)(C:Cl)(all:List Oper):List Oper->St->(St->Prop)->Prop
 | [],s,K=>K s
 |o::l,s,K=>match o.guard with
  |none=>lq A T G X C all o s fun s'=>cR T G X C all l s' K
  |some (j,want)=>match ux A T G all s.next 0 o { s with next:=s.next+1 } with
   |some (none,s')=>cR T G X C all l s' K
   |some (some p,s')=>p∧cR T G X C all l s' K
   |none=>match j5 all j with
    |some d=>match wV (ap s.tmps d) with
     |some (c,b)=>(A.want c b want=true->match fU A (ev T.gl s.tmps) o.op.operands.toList with
       |none=>lq A T G X C all { o with guard:=none } { s with tmps:=mf s.tmps o.op.operands.toList s.tmps } fun s'=>cR T G X C all l s' K
       |some q=>q∧lq A T G X C all { o with guard:=none } { s with tmps:=mf s.tmps o.op.operands.toList s.tmps } fun s'=>cR T G X C all l s' K)∧
      (A.want c b want=false->cR T G X C all l { s with tmps:=put s.tmps o.dst (.opt false (.bool false)) } K)
     |none=>False
    |none=>False
def om (o:Oper):Bool:=
 match o.guard,o.op with
 |none, .move _|none, .assign _|none, .nilCheck _|none, .load ..|none, .fieldAddr ..|none, .build ..|none, .extract ..|none, .field ..=>true
 |_,_=>false
def uy (T:Tys)(G:Pu)(o:Oper)(s:St):Out:=
 bif om o then (match o.op with
  | .load t p=>match ev T.gl s.tmps p with
    | .ptr k off=>aw A T G (.load t p) (ev T.gl s.tmps) s.mem
    |_=>none
  | .fieldAddr t x i=>match ev T.gl s.tmps x with
    | .ptr k off=>aw A T G (.fieldAddr t x i) (ev T.gl s.tmps) s.mem
    |_=>none
  |op=>aw A T G op (ev T.gl s.tmps) s.mem) else none
def dV (ts:List Nat)(o:Oper):Bool:=o.op.operands.toList.any fun x=>match x with
 | .tmp t=>inW t ts
 |_=>false
def RD (d:Option Nat)(ts:List Nat):List Nat:=
 match d with
 |some d=>d::ts
 |none=>ts
def ed:List Nat->List (Nat×Oper)->List (Nat×Oper)×List (Nat×Oper)
 |_, [] =>([], [])
 |ts,(i,o)::l=>bif om o && !dV ts o then (match ed ts l with
   | (a,b)=>((i,o)::a,b))
  else (match ed (RD o.dst ts) l with
   | (a,b)=>(a,(i,o)::b))
def pL (T:Tys)(G:Pu):List (Nat×Oper)->St->(St->Prop)->Prop
 | [],s,K=>K s
 | (_,o)::l,s,K=>match uy A T G o s with
   |some (none,r)=>pL T G l { s with tmps:=put s.tmps o.dst r } K
   |some (some p,r)=>p∧pL T G l { s with tmps:=put s.tmps o.dst r } K
   |none=>False
def sE (T:Tys)(G:Pu)(s:St):List (Nat×Oper)->Prop
 | [] =>True
 | (_,o)::l=>(match uy A T G o s,o.dst with
   |some (none,r),some d=>A.eqv r (ap s.tmps d)
   |some (some p,r),some d=>p∧A.eqv r (ap s.tmps d)
   |_,_=>False)∧sE T G s l
def gq (i:Nat):List (Nat×Oper)->List (Nat×Oper)
 | [] => []
 | (j,o)::l=>bif Nat.blt i j then (j,o)::gq i l else gq i l
def re (T:Tys)(G:Pu)(X:Xt)(C:Cl)(all:List Oper):Nat->List (Nat×Oper)->List (Nat×Oper)->St->(St->Prop)->Prop
 |0,_,_,_,_=>False
 |n+1,pend,l,s,K=>pL A T G (ed [] l).1 s fun s1=>sE A T G s1 (pend++(ed [] l).1)∧(match (ed [] l).2 with
  | [] =>K s1
  | (i,o)::rest=>lq A T G X C all o s1 fun s2=>re T G X C all n (gq i (pend++(ed [] l).1)) rest s2 K)
def fQ:Nat->List Oper->List (Nat×Oper)
 |_, [] => []
 |i,o::l=>(i,o)::fQ (i+1) l
def Dz (X:Xt):List Oper->Bool
 | [] =>false
 |o::l=>(match o.op with
  | .call { callee:= .value (.func f), .. } =>inW f X.go
  |_=>false) ||Dz X l
def sF (i:Nat):Nat->List Oper->List Nat->List Nat
 |_, [],ws=>ws
 |j,o::l,ws=>bif lm o i ws then sF i (j+1) l (j::ws) else sF i (j+1) l ws
def eL (all:List Oper)(j i:Nat):Bool:=inW j (sF i (i+1) (all.drop (i+1)) [])
def oq (all:List Oper)(i:Nat):List (Nat×Oper)->Bool
 | [] =>true
 | (j,_)::l=>eL all j i && oq all i l
def sG (all:List Oper)(i:Nat):Nat->Bool
 |0=>true
 |m+1=>eL all i m && sG all i m
def mg (all:List Oper):Nat->List (Nat×Oper)->Bool
 |0,_=>false
 |n+1,l=>match (ed [] l).2 with
  | [] =>true
  | (i,o)::rest=>(sG all i i && oq all i rest)&& mg all n rest
def ot (all:List Oper)(i:Nat)(d:Nat):Nat->List Oper->Bool
 |_, [] =>true
 |j,o::l=>(bif Nat.beq i j then !dV [d] o else (!dV [d] o||eL all j i)&&(match o.dst with
  |some d'=> !Nat.beq d' d
  |none=>true))&& ot all i d (j+1) l
def pM (all:List Oper):Nat->List Oper->Bool
 |_, [] =>true
 |i,o::l=>((match o.dst with
  |some d=>ot all i d 0 all
  |none=>true)&&(back o i && df o))&& pM all (i+1) l
def DA (all:List Oper):Bool:=KY all &&(pM all 0 all && mg all (all.length+1) (fQ 0 all))
structure Ks where
 nrm:St->Prop
 ret:St->Prop
 ext:Nat->St->Prop
 gto:Nat->St->Prop
 lbl:St->Prop
inductive Hv where
 |all (b:Bool)
 |past (k:Nat)
instance:Coe Bool Hv:=⟨Hv.all⟩
structure Lp where
 I:Type
 ov:Nat->I->List (Nat×SV)
 mv:Nat->I->List (Nat×Blk)
 mu:I->Nat
 hv:Hv
def Im:List Oper->List Nat
 | [] => []
 |o::l=>match o.dst with
  |some d=>d::Im l
  |none=>Im l
def writes:Code->List Nat
 | .region _ ops _=>Im ops.toList
 | .seq a b=>writes a++writes b
 | .cond _ a b=>writes a++writes b
 | .block _ a=>writes a
 | .loop a=>writes a
 | .scope a=>writes a
 |_=> []
def eY:List Nat->Nat->Bool
 | [],_=>false
 |x::l,n=>Nat.beq x n||eY l n
def uz (ks:List Nat):SV->Bool
 | .own k=>eY ks k
 | .eptr k _ _ _=>eY ks k
 | .part k _ _ _=>eY ks k
 | .kid k q _=>eY ks k||eY ks q
 | .krun k q _=>eY ks k||eY ks q
 | .mrun k q _ _ _=>eY ks k||eY ks q
 | .fkid k q _ _=>eY ks k||eY ks q
 | .clo _ l=>l.any fun s=>match s with
   | .own k=>eY ks k
   | .eptr k _ _ _=>eY ks k
   | .part k _ _ _=>eY ks k
   | .kid k q _=>eY ks k||eY ks q
   | .fkid k q _ _=>eY ks k||eY ks q
   |_=>false
 |_=>false
def Md (ks:List Nat):SV->Bool
 | .agg l=>l.any (uz ks)
 |s=>uz ks s
def Sv (s:SV):SV:=bif aH s then .arun (wid s) else .any
def RE (ks:List Nat)(s:SV):SV:=bif uz ks s then Sv s else s
def RF (ks:List Nat)(s:SV):SV:=
 match s with
 | .tup _| .opt _ _| .rop _ _| .eptr _ _ _ _| .part _ _ _ _| .kid _ _ _| .fkid _ _ _ _| .iptr _ _ _ _=> .any
 |s=>bif Md ks s then .any else s
def DB (ks:List Nat):List SV->List SV
 | [] => []
 |s::l=>RF ks s::DB ks l
def K6 (ks:List Nat):List SV->List SV
 | [] => []
 |s::l=>RE ks s::K6 ks l
def K7 (ks:List Nat):List (List SV)->List (List SV)
 | [] => []
 |fr::l=>DB ks fr::K7 ks l
def DC (ks:List Nat):Mem->Mem
 | [] => []
 | (k, .box t c)::r=>(k, .box t (K6 ks c))::DC ks r
 |x::r=>x::DC ks r
def K8 (ws:List Nat):Nat->List SV->List SV
 |_, [] => []
 |i,s::l=>(bif eY ws i then .any else s)::K8 ws (i+1) l
def uA:Nat->List SV->List SV
 |_, [] => []
 |0,_::l=> .any::uA 0 l
 |k+1,s::l=>s::uA k l
def OY (h:Hv)(ws:List Nat)(l:List SV):List SV:=
 match h with
 | .all b=>bif b then K8 ws 0 l else l
 | .past k=>uA k l
def OZ:List (Nat×SV)->List SV->List SV
 | [],l=>l
 | (i,s)::r,l=>OZ r (dL l i s)
def Sw (m:Mem)(k:Nat)(b:Blk):Mem:=
 match af m k with
 |some _=>upd m k b
 |none=>ins m k b
def K9:List (Nat×Blk)->Mem->Mem
 | [],m=>m
 | (k,b)::r,m=>K9 r (Sw m k b)
def mh:List (Nat×Blk)->List Nat
 | [] => []
 | (k, .row _ _ _ _)::r=>k::mh r
 | (k, .krow _ _)::r=>k::mh r
 | (k, .kids _)::r=>k::mh r
 |_::r=>mh r
abbrev Ren:=List (Nat×Option Nat)
def fR:Ren->Nat->Option (Option Nat)
 | [],_=>none
 | (k,q)::l,n=>bif Nat.beq k n then some q else fR l n
def O0 (s h:SV):Ren:=
 match h,s with
 | .own k, .own q=> [(k,some q)]
 | .own k, .nils=> [(k,none)]
 | .krun k a _, .krun q j _=> [(k,some q),(a,some j)]
 | .krun k a _, .mrun q j _ _ _=> [(k,some q),(a,some j)]
 | .krun k a _, .nrun _=> [(k,none),(a,none)]
 | .mrun k a _ _ _, .mrun q j _ _ _=> [(k,some q),(a,some j)]
 | .mrun k a _ _ _, .run _ _=> [(k,none),(a,none)]
 |_,_=> []
def Io:List SV->List SV->Ren
 |s::l,h::m=>O0 s h++Io l m
 |_,_=> []
def Sx (s h:SV):Ren:=
 match h,s with
 | .agg m, .agg l=>Io l m
 |h,s=>O0 s h
def Ip:List SV->List SV->Ren
 |s::l,h::m=>Sx s h++Ip l m
 |_,_=> []
def DD (m:Mem):Mem->Ren
 | [] => []
 | (k, .box _ c)::r=>match af m k with
   |some (.box _ c')=>Io c' c++DD m r
   |_=>DD m r
 |_::r=>DD m r
def O3:List (List SV)->List (List SV)->Ren
 |s::l,h::m=>Ip s h++O3 l m
 |_,_=> []
def sH:Ren->Ren
 | [] => []
 | (k,q)::l=>match fR (sH l) k with
   |some _=>sH l
   |none=>(k,q)::sH l
def cm (r:Ren)(k:Nat):Option Nat:=
 match fR r k with
 |some q=>q
 |none=>some k
def ou (r:Ren)(m:Mem):Mem->Ren
 | [] => []
 | (k, .krow _ K)::l=>match cm r k with
   |some k'=>match af m k' with
    |some (.krow _ K')=>(K.fam,some K'.fam)::ou r m l
    |_=>ou r m l
   |none=>ou r m l
 | (k, .kids K)::l=>match cm r k with
   |some k'=>match af m k' with
    |some (.kids K')=>(K.fam,some K'.fam)::ou r m l
    |_=>ou r m l
   |none=>ou r m l
 |_::l=>ou r m l
def Fo (s h:St):Ren:=sH (Ip s.tmps h.tmps++(DD s.mem h.mem++O3 s.stk h.stk))
def sI (s h:St):Ren:=sH (Fo s h++ou (Fo s h) s.mem h.mem)
def le0 (r:Ren)(n:Nat)(s h:SV):Prop:=
 match h,s with
 | .any,_=>True
 | .ptr k o, .ptr k' o'=>(k'=k∧o'=o)∧(k<n∧fR r k=none)
 | .own k, .nils=>k<n∧fR r k=some none
 | .own k, .own q=>k<n∧cm r k=some q
 | .part k w lo c, .part q w' lo' c'=>(k<n∧cm r k=some q)∧(w'=w∧(A.eqn lo' lo∧A.eqn c' c))
 | .slc m k f, .slc m' k' f'=>(A.eqn m' m∧k'=k)∧A.eqr m k f' f
 | .slc m _ _, .nils=>A.eqn 0 m
 | .slc m _ _, .emp=>A.eqn 0 m
 | .int k m, .int k' m'=>k'=k∧A.eqi m' m
 | .bool b, .bool b'=>A.eqb b' b
 | .str l, .str l'=>A.eqs l' l
 | .flt b, .flt b'=>A.eqn b' b
 | .cpx a b, .cpx a' b'=>A.eqn a' a∧A.eqn b' b
 | .nilp, .nilp=>True
 | .nils, .nils=>True
 | .emp, .emp=>True
 | .emp, .nils=>True
 | .val v, .val v'=>v'=v
 | .un, .un=>True
 | .ifc t x, .ifc t' x'=>t'=t∧A.eqv x' x
 | .mth t x, .mth t' x'=>t'=t∧A.eqv x' x
 |_,_=>False
def Iq (r:Ren)(n:Nat):List SV->List SV->Prop
 | [], [] =>True
 |s::l,h::m=>le0 A r n s h∧Iq r n l m
 |_,_=>False
def le1 (r:Ren)(n:Nat)(s h:SV):Prop:=
 match h,s with
 | .clo f m, .clo f' l=>f'=f∧Iq A r n l m
 |h,s=>le0 A r n s h
def leW (r:Ren)(n:Nat)(s h:SV):Prop:=
 match h,s with
 | .arun m,s=>wid s=m
 | .run m g, .run m' g'=>m'=m∧A.eqr m 1 g' g
 | .run m g, .nrun m'=>m'=m∧A.eqr m 1 (fun _ _=> .nils) g
 | .nrun m, .nrun m'=>m'=m
 | .krun k a m, .krun q j m'=>m'=m∧((k<n∧cm r k=some q)∧(a<n∧cm r a=some j))
 | .krun k a m, .nrun m'=>m'=m∧((k<n∧fR r k=some none)∧(a<n∧fR r a=some none))
 | .krun k a m, .mrun q j p m' g=>(m'=m∧A.eqn p m)∧((k<n∧cm r k=some q)∧(a<n∧cm r a=some j))
 | .mrun k a p m g, .mrun q j p' m' g'=>((m'=m∧A.eqn p' p)∧A.eqr m 1 g' g)∧((k<n∧cm r k=some q)∧(a<n∧cm r a=some j))
 | .mrun k a p m g, .run m' g'=>((m'=m∧A.eqn 0 p)∧A.eqr m 1 g' g)∧((k<n∧fR r k=some none)∧(a<n∧fR r a=some none))
 |_,_=>False
def leL (r:Ren)(n:Nat):List SV->List SV->Prop
 | [], [] =>True
 |s::l,h::m=>(bif aH s||aH h then leW A r n s h else le1 A r n s h)∧leL r n l m
 |_,_=>False
def le2 (r:Ren)(n:Nat)(s h:SV):Prop:=
 match h,s with
 | .agg m, .agg l=>leL A r n l m
 |h,s=>le1 A r n s h
def leT (r:Ren)(n:Nat):List SV->List SV->Prop
 | [], [] =>True
 |s::l,h::m=>le2 A r n s h∧leT r n l m
 |_,_=>False
def leS (r:Ren)(n:Nat):List (List SV)->List (List SV)->Prop
 | [], [] =>True
 |s::l,h::m=>leT A r n s h∧leS r n l m
 |_,_=>False
def leB (r:Ren)(n key:Nat)(m:Mem)(b:Blk):Prop:=
 match b with
 | .box t c=>fR r key=none∧match af m key with
   |some (.box t' c')=>t'=t∧leL A r n c' c
   |_=>False
 | .row e k q f=>match cm r key with
   |some key'=>match af m key' with
    |some (.row e' k' q' f')=>(e'=e∧k'=k)∧(A.eqn q' q∧A.eqr q k f' f)
    |_=>False
   |none=>A.eqn 0 q
 | .krow e K=>match cm r key with
   |some key'=>match af m key' with
    |some (.krow e' K')=>(e'=e∧(K'.e=K.e∧K'.k=K.k))∧((A.eqn K'.n K.n∧A.eqr K'.n 1 (fun i _=> .slc (K'.ns i) K'.k (K'.f i)) (fun i _=> .slc (K.ns i) K.k (K.f i)))∧
      ((K.fam<n∧cm r K.fam=some K'.fam)∧match K.hl,K'.hl,K.ow,K'.ow with
        |none,none,none,none=>True
        |none,none,some p,some p'=>A.eqn p' p
        |none,none,none,some p'=>A.eqn p' K'.n
        |_,_,_,_=>False))
    |_=>False
   |none=>False
 | .kids K=>match cm r key with
   |some key'=>match af m key' with
    |some (.kids K')=>(K'.e=K.e∧K'.k=K.k)∧((A.eqn K'.n K.n∧A.eqr K'.n 1 (fun i _=> .slc (K'.ns i) K'.k (K'.f i)) (fun i _=> .slc (K.ns i) K.k (K.f i)))∧
      ((K.fam<n∧cm r K.fam=some K'.fam)∧match K.hl,K'.hl,K.ow,K'.ow with
        |none,none,none,none=>True
        |_,_,_,_=>False))
    |_=>False
   |none=>(K.fam<n∧fR r K.fam=some none)∧((K.hl=none∧K.ow=none)∧A.tp fun _=> ∀ i,i<K.n->K.ns i=0)
 | .kmap t vb M=>match cm r key with
   |some key'=>match af m key' with
    |some (.kmap t' vb' M')=>(t'=t∧vb'=vb)∧A.eqm M' M
    |_=>False
   |none=>False
def leM (r:Ren)(n:Nat)(m:Mem):Mem->Prop
 | [] =>True
 | (key,b)::h=>key<n∧(leB A r n key m b∧leM r n m h)
def sJ (r:Ren)(q:Option Nat):Mem->Bool
 | [] =>true
 | (k,_)::l=>(match q,cm r k with
   |some a,some b=> !Nat.beq a b
   |_,_=>true)&& sJ r q l
def w5 (r:Ren):Mem->Bool
 | [] =>true
 | (k,_)::l=>sJ r (cm r k) l && w5 r l
def ltM (k:Nat):Mem->Bool
 | [] =>true
 | (k',_)::l=>Nat.blt k' k && ltM k l
def sK:Mem->Bool
 | [] =>true
 | (k,_)::l=>ltM k l && sK l
def fz1:SV->SV->List Nat
 | .own k, .slc _ _ _=> [k]
 | .krun k _ _, .run _ _=> [k]
 |_,_=> []
def fzL:List SV->List SV->List Nat
 |s::l,h::m=>fz1 s h++fzL l m
 |_,_=> []
def fz2:SV->SV->List Nat
 | .agg l, .agg m=>fzL l m
 |s,h=>fz1 s h
def fzT:List SV->List SV->List Nat
 |s::l,h::m=>fz2 s h++fzT l m
 |_,_=> []
def fzM (s:Mem):Mem->List Nat
 | [] => []
 | (k, .box _ c)::m=>(match af s k with
   |some (.box _ c')=>fzL c' c
   |_=> [])++fzM s m
 |_::m=>fzM s m
def fzH (s h:St):List Nat:=fzT s.tmps h.tmps++fzM s.mem h.mem
def RG (s:St)(ws:List Nat)(L:Lp)(x:L.I):St:=
 let ks:=mh (L.mv s.next x)
 { next:=s.next+8,tmps:=OZ (L.ov s.next x) (DB ks (OY L.hv ws s.tmps)),mem:=K9 (L.mv s.next x) (DC ks s.mem),stk:=K7 ks s.stk }
def RH (s h:St):St:=di A (fzH s h) h
def gU (s:St)(ws:List Nat)(L:Lp)(x:L.I):St:=RH A s (RG s ws L x)
def DE (s h:St):Prop:=
 leT A (sI s h) h.next s.tmps h.tmps∧(leM A (sI s h) h.next s.mem h.mem∧(leS A (sI s h) h.next s.stk h.stk∧(w5 (sI s h) h.mem=true∧sK h.mem=true)))
def uB (s h:St):Prop:=DE A (di A (fzH s h) s) h
def dj (l:Nat):Code->Bool
 | .seq a b=>dj l a||dj l b
 | .label l'=>Nat.beq l' l
 |_=>false
def kx:Code->Option Nat
 | .seq a b=>match kx a with
   |some l=>some l
   |none=>kx b
 | .label l=>some l
 |_=>none
inductive Mode where
 |run
 |after (l:Nat)
 |upto (l:Nat)
def fG (l:Nat):Code->List Nat
 | .seq a b=>bif dj l a then fG l a++writes b else fG l b
 |_=> []
def pN (T:Tys)(G:Pu)(X:Xt)(C:Cl)(b:Bool)(ops:List Oper)(s:St)(K:St->Prop):Prop:=
 match b with
 |true=>A.dr (fun _=>DA ops)∧re A T G X C ops (ops.length+1) [] (fQ 0 ops) s K
 |false=>A.dr (fun _=>xg T X.wl ops)∧jp A T G X ops s.next 0 ops { s with next:=s.next+ops.length } K
def vc (T:Tys)(G:Pu)(X:Xt)(C:Cl):Mode->Code->St->Ks->Prop
 | .after l, .seq a b,s,K=>bif dj l a then vc T G X C (.after l) a s { K with nrm:=fun s'=>vc T G X C .run b s' K } else vc T G X C (.after l) b s K
 | .after l, .label l',s,K=>bif Nat.beq l' l then K.nrm s else False
 | .after _,_,_,_=>False
 | .upto l, .seq a b,s,K=>bif dj l a then vc T G X C (.upto l) a s K else vc T G X C .run a s { K with nrm:=fun s'=>vc T G X C (.upto l) b s' K }
 | .upto l, .label l',s,K=>bif Nat.beq l' l then K.lbl s else False
 | .upto _,_,_,_=>False
 | .run, .skip,s,K=>K.nrm s
 | .run, .label _,s,K=>K.nrm s
 | .run, .region _ ops draw,s,K=>bif draw then pN A T G X C (Dz X ops.toList) ops.toList s K.nrm
    else cR A T G X C ops.toList ops.toList s K.nrm
 | .run, .seq a b,s,K=>vc T G X C .run a s { K with nrm:=fun s'=>vc T G X C .run b s' K }
 | .run, .cond c a b,s,K=>match ev T.gl s.tmps c with
   | .bool t=>(t=true->vc T G X C .run a s K)∧(t=false->vc T G X C .run b s K)
   |_=>False
 | .run, .block id a,s,K=>vc T G X C .run a s { K with ext:=fun i s'=>bif Nat.beq i id then K.nrm s' else K.ext i s' }
 | .run, .exit id,s,K=>K.ext id s
 | .run, .goto l,s,K=>K.gto l s
 | .run, .ret,s,K=>K.ret s
 | .run, .loop a,s,K=> ∃ L:Lp,(∃ x,uB A s (gU A s (writes a) L x))∧ ∀ x,vc T G X C .run a (gU A s (writes a) L x) { K with nrm:=fun s'=> ∃ x',uB A s' (gU A s (writes a) L x')∧L.mu x'<L.mu x }
 | .run, .scope a,s,K=>match kx a with
   |none=>vc T G X C .run a s { K with gto:=fun _ _=>False }
   |some l=>
    let here:St->Prop:=fun s0=> ∃ L:Lp,(∃ x,uB A s0 (gU A s0 (fG l a) L x))∧ ∀ x,vc T G X C (.after l) a (gU A s0 (fG l a) L x)
     { K with gto:=fun l' s'=>bif Nat.beq l' l then ∃ x',uB A s' (gU A s0 (fG l a) L x')∧L.mu x'<L.mu x else False }
    vc T G X C (.upto l) a s { K with gto:=fun l' s'=>bif Nat.beq l' l then here s' else False,lbl:=here }
 | .run,_,_,_=>False
def pO (m:Mem):List SV->Option (List SV×Bool)
 | [] =>some ([],false)
 |s::l=>match pO m l with
  |some (l',b)=>match s with
   | .own k=>match af m k with
     |some (.row e w n f)=>bif b then none else some (.frs e w n f::l',true)
     |_=>none
   |s=>bif bz s||gn s then some (s::l',b) else none
  |none=>none
def mV (m:Mem):SV->Option (SV×Bool)
 | .agg l=>match pO m l with
   |some (l',b)=>some (.agg l',b)
   |none=>none
 | .own k=>match af m k with
   |some (.row e w n f)=>some (.frs e w n f,true)
   |_=>none
 |s=>bif bz s then some (s,false) else none
def mW (m:Mem):List SV->Option (List SV×Bool)
 | [] =>some ([],false)
 |s::l=>match mW m l,mV m s with
  |some (l',b),some (s',b')=>bif b && b' then none else some (s'::l',b||b')
  |_,_=>none
def pP (T:Tys)(s:St):ResultVar->Option SV
 | .tmp t=>some (ap s.tmps t)
 | .cell a t=>match ap s.tmps a,T t with
   | .ptr k off,some ty=>match af s.mem k with
     |some (.box _ c)=>bif Nat.ble (off+ty.size) (bq c) then (bif ty.agg then some (.agg (fm c off ty.size)) else some (od c off)) else none
     |_=>none
   |_,_=>none
def kQ (T:Tys)(s:St):List ResultVar->Option (List SV)
 | [] =>some []
 |r::l=>match pP T s r,kQ T s l with
  |some x,some y=>some (x::y)
  |_,_=>none
def Fp (frozen:Bool)(l:List SV):List Nat:=
 match kw l,frozen with
 |_::ks,false=>ks
 |ks,true=>ks
 | [],_=> []
def vF:SV->List Nat
 | .part k _ _ _=> [k]
 |_=> []
def vG:List SV->List Nat
 | [] => []
 |s::l=>vF s++vG l
def mX:List SV->List Nat
 | [] => []
 | .agg l::r=>vG l++mX r
 |s::r=>vF s++mX r
inductive How where
 |one
 |none
 |fresh (e k:Nat)
def ox (key:Nat):List SV->Option (List SV)
 | [] => .none
 | .nils::l=>some (.own key::l)
 |s::l=>match ox key l with
  |some l'=>some (s::l')
  | .none=> .none
def lH (key:Nat):List SV->Option (List SV)
 | [] => .none
 | .nils::l=>some (.own key::l)
 | .agg q::l=>match ox key q with
   |some q'=>some (.agg q'::l)
   | .none=>match lH key l with
     |some l'=>some (.agg q::l')
     | .none=> .none
 |s::l=>match lH key l with
  |some l'=>some (s::l')
  | .none=> .none
def kz (m:Mem)(l:List SV):Option SV:=
 match l with
 | [x] =>match mV m x with
   |some (y,_)=>some y
   |none=>none
 |l=>match mW m l with
  |some (l',_)=>some (.tup l')
  |none=>none
def xi (T:Tys)(how:How)(s:St)(rs:List ResultVar):Option SV:=
 match kQ T s rs with
 |some l=>match how,kw l with
  | .fresh e k, [] =>match lH s.next l with
    |some l'=>kz (ins s.mem s.next (.row e k 0 fun _ _=> .any)) l'
    |none=>kz s.mem l
  |_,_=>kz s.mem l
 |none=>none
def BV:How->Bool
 | .none=>true
 |_=>false
def an0 (s h:SV):Prop:=
 match h,s with
 | .any, .frs _ _ _ _=>False
 | .any, .agg _=>False
 | .any, .tup _=>False
 | .any,_=>True
 | .slc m k f, .slc m' k' f'=>(A.eqn m' m∧k'=k)∧A.eqr m k f' f
 | .slc m _ _, .nils=>A.eqn 0 m
 | .slc m _ _, .emp=>A.eqn 0 m
 | .frs e k m f, .frs e' k' m' f'=>(e'=e∧k'=k)∧(A.eqn m' m∧A.eqr m k f' f)
 | .int k m, .int k' m'=>k'=k∧A.eqi m' m
 | .bool b, .bool b'=>A.eqb b' b
 | .str l, .str l'=>A.eqs l' l
 | .flt b, .flt b'=>A.eqn b' b
 | .cpx a b, .cpx a' b'=>A.eqn a' a∧A.eqn b' b
 | .nilp, .nilp=>True
 | .nils, .nils=>True
 | .val v, .val v'=>v'=v
 | .clo f [], .clo f' [] =>f'=f
 |_,_=>False
def anW (s h:SV):Prop:=
 match h,s with
 | .arun m,s=>wid s=m∧gn s=true
 | .run m g, .run m' g'=>m'=m∧A.eqr m 1 g' g
 | .run m g, .nrun m'=>m'=m∧A.eqr m 1 (fun _ _=> .nils) g
 | .nrun m, .nrun m'=>m'=m
 |_,_=>False
def anL:List SV->List SV->Prop
 | [], [] =>True
 |s::l,h::m=>(bif aH s||aH h then anW A s h else an0 A s h)∧anL l m
 |_,_=>False
def an2 (s h:SV):Prop:=
 match h,s with
 | .agg m, .agg l=>anL A l m
 |h,s=>an0 A s h
def anT:List SV->List SV->Prop
 | [], [] =>True
 |s::l,h::m=>an2 A s h∧anT l m
 |_,_=>False
def an3 (s h:SV):Prop:=
 match h,s with
 | .tup m, .tup l=>anT A l m
 |h,s=>an2 A s h
def iW (T:Tys)(fn:Func)(how:How)(R:SV)(s:St):Prop:=
 match kQ T s fn.results.toList with
 |some l=>match xi T how (di A (mX l++Fp (BV how) l) s) fn.results.toList with
  |some r=>an3 A r R
  |none=>False
 |none=>False
def kB:SV->Bool
 | .agg l=>zOk l
 |s=>bz s
def kC:List SV->Bool
 | [] =>true
 |s::l=>kB s && kC l
def uns:Nat->List SV
 |0=> []
 |n+1=> .un::uns n
def w6:List SV->SV
 | [x] =>x
 |l=> .tup l
def inl (T:Tys)(G:Pu)(X:Xt)(I:Nat->Option Func):Nat->Cl
 |0=>fun _ _ _ _=>False
 |d+1=>fun f args s K=>match G f (bK A s.mem args) with
  |some (p,r)=>bif flat r then (match p with
    |some p=>p∧K s r
    |none=>K s r) else False
  |none=>match I f with
   |some fn=>match fn.body with
    |some c=>bif Nat.ble (len args) fn.ntmps then
      let fin:St->Prop:=fun s'=>match kQ T s' fn.results.toList,s'.stk with
       |some l,fr::rest=>K { s' with tmps:=fr,stk:=rest } (w6 l)
       |_,_=>False
      vc A T G X (inl T G X I d) .run c { next:=s.next,tmps:=eb args (uns (fn.ntmps - len args)),mem:=s.mem,stk:=s.tmps::s.stk }
       { nrm:=fin,ret:=fin,ext:=fun _ _=>False,gto:=fun _ _=>False,lbl:=fun _=>False }
     else False
    |none=>False
   |none=>False
def w8 (fn:Func)(args:List SV):St:= { next:=0,tmps:=eb args (uns (fn.ntmps - len args)),mem:= [],stk:= [] }
def uC (T:Tys)(G:Pu)(X:Xt)(I:Nat->Option Func)(how:How)(fn:Func)(args:List SV)(R:SV):Prop:=
 match fn.body with
 |some c=>bif kC args && Nat.ble (len args) fn.ntmps then
   vc A T G X (inl A T G X I 12) .run c (w8 fn args) { nrm:=iW A T fn how R,ret:=iW A T fn how R,ext:=fun _ _=>False,gto:=fun _ _=>False,lbl:=fun _=>False } else False
 |none=>False
end
end Go.Vd
