/- The symbolic values, states and the generator of verification conditions. It speaks of no program. -/
import GoSem.Step
set_option linter.unusedVariables false
namespace Go.Vc

/-- What is known of a value. -/
inductive SV : Type where
  | any
  | un
  | int (k : IntKind) (n : Int)
  | bool (b : Bool)
  | str (s : List UInt8)
  | flt (b : Nat)
  | cpx (a b : Nat)
  | nilp
  | ptr (key off : Nat)
  | rop (k : Nat) (f : Nat → SV)
  | slc (n k : Nat) (f : Nat → Nat → SV)
  | nils
  | own (key : Nat)
  | eptr (key k i off : Nat)
  | frs (e k n : Nat) (f : Nat → Nat → SV)
  | agg (l : List SV)
  | tup (l : List SV)
  | opt (c : Bool) (s : SV)
  | val (v : Value)

/-- A block of the call's own: a variable, or a row that is appended to. -/
inductive Blk : Type where
  | box (t : TypeId) (cells : List SV)
  | row (e k n : Nat) (f : Nat → Nat → SV)

abbrev Mem := List (Nat × Blk)

structure St where
  next : Nat
  tmps : List SV
  mem : Mem

/-- The operations on leaves, kept behind a name while a condition is reckoned. -/
structure Ar where
  add : IntKind → Int → Int → Int
  sub : IntKind → Int → Int → Int
  mul : IntKind → Int → Int → Int
  quo : IntKind → Int → Int → Int
  rem : Int → Int → Int
  band : IntKind → Int → Int → Int
  bor : IntKind → Int → Int → Int
  bxor : IntKind → Int → Int → Int
  shl : IntKind → Int → Int → Int
  shr : IntKind → Int → Int → Int
  eq : Int → Int → Bool
  ne : Int → Int → Bool
  lt : Int → Int → Bool
  le : Int → Int → Bool
  conv : IntKind → Int → Int
  not : Bool → Bool
  beq : Bool → Bool → Bool
  bne : Bool → Bool → Bool
  ite : Bool → Bool → Bool → Bool
  want : Bool → Bool → Bool → Bool
  and2 : Bool → Bool → Bool
  sadd : List UInt8 → List UInt8 → List UInt8
  seq : List UInt8 → List UInt8 → Bool
  sne : List UInt8 → List UInt8 → Bool
  slt : List UInt8 → List UInt8 → Bool
  sle : List UInt8 → List UInt8 → Bool
  sgt : List UInt8 → List UInt8 → Bool
  sge : List UInt8 → List UInt8 → Bool
  slen : List UInt8 → Int
  sget : List UInt8 → Int → Int
  scut : List UInt8 → Int → Int → List UInt8
  ofNat : Nat → Int
  toNat : Int → Nat
  nsub : Nat → Nat → Nat
  nadd : Nat → Nat → Nat
  strOf : Nat → (Nat → Nat → SV) → List UInt8
  bytesOf : List UInt8 → Nat → Nat → SV
  lenOf : List UInt8 → Nat
  cat : Nat → (Nat → Nat → SV) → (Nat → Nat → SV) → Nat → Nat → SV
  lst : List (List SV) → Nat → Nat → SV
  -- what must hold
  nz : Int → Prop
  nneg : Int → Prop
  inb : Int → Nat → Prop
  upto : Int → Int → Prop
  slt63 : List UInt8 → List UInt8 → Prop
  grow : Nat → Nat → Nat → Prop
  imp : Bool → Prop → Prop
  impN : Bool → Prop → Prop
  tr : Bool → Prop
  isB : Nat → (Nat → Nat → SV) → Prop
  draw : List Oper → Prop

/-- A type, as far as it is asked. -/
inductive Tag : Type where
  | int (k : IntKind)
  | str
  | bool
  | slice (e k bytes : Nat) (isb : Bool)
  | struct (places : List (Nat × Nat)) (eqs : Bool)
  | array (n e k : Nat)
  | other

structure Ty where
  agg : Bool
  size : Nat
  zero : List SV
  tag : Tag
abbrev Tys := Nat → Option Ty

/-- Contracts of functions that leave the caller's memory alone: what they ask, what they answer. -/
abbrev Pu := Nat → List SV → Option (Option Prop × SV)

def getAt : List SV → Nat → SV
  | [], _ => .un
  | y :: _, 0 => y
  | _ :: l, n + 1 => getAt l n
def setAt : List SV → Nat → SV → List SV
  | [], _, _ => []
  | _ :: l, 0, x => x :: l
  | y :: l, n + 1, x => y :: setAt l n x
def setMany : List SV → Nat → List SV → List SV
  | c, _, [] => c
  | c, o, x :: xs => setMany (setAt c o x) (o + 1) xs
def takeFrom : List SV → Nat → Nat → List SV
  | [], _, _ => []
  | _ :: _, 0, 0 => []
  | x :: l, 0, n + 1 => x :: takeFrom l 0 n
  | _ :: l, o + 1, n => takeFrom l o n
def len : List SV → Nat
  | [] => 0
  | _ :: l => len l + 1
def look : Mem → Nat → Option Blk
  | [], _ => none
  | (k, c) :: m, n => bif Nat.beq k n then some c else look m n
def upd : Mem → Nat → Blk → Mem
  | [], _, _ => []
  | (k, c) :: m, n, c' => bif Nat.beq k n then (k, c') :: m else (k, c) :: upd m n c'
def del : Mem → Nat → Mem
  | [], _ => []
  | (k, c) :: m, n => bif Nat.beq k n then m else (k, c) :: del m n
/-- Put in at the place of its key: the greatest first. -/
def ins : Mem → Nat → Blk → Mem
  | [], n, c => [(n, c)]
  | (k, c) :: m, n, c' => bif Nat.ble k n then (n, c') :: (k, c) :: m else (k, c) :: ins m n c'

/-- The cells of a value that can be stored. -/
def cellsOf : SV → Option (List SV)
  | .agg l => some l
  | .any | .un | .tup _ | .opt _ _ | .frs _ _ _ _ => none
  | .val v => match v with
    | .agg _ | .tuple _ => none
    | _ => some [.val v]
  | x => some [x]

def ofValue : Value → SV
  | .int k n => .int k n
  | .bool b => .bool b
  | .string s => .str s.data.toList
  | .float .f64 b => .flt b
  | .complex .f64 a b => .cpx a b
  | .slice none 0 0 => .nils
  | .pointer none => .nilp
  | v => .val v

def ofCells : List Value → List SV
  | [] => []
  | v :: l => ofValue v :: ofCells l

def oneB : Value → Bool
  | .agg _ | .tuple _ => false
  | _ => true
def onesB : List Value → Bool
  | [] => true
  | v :: l => oneB v && onesB l

def ev (tmps : List SV) : Operand → SV
  | .tmp t => getAt tmps t
  | .const (.agg cs) => bif onesB cs.toList then .agg (ofCells cs.toList) else .any
  | .const v => ofValue v
  | .func f => .val (.func (.func f) #[] #[])
  | .global g => .val (.pointer (some ⟨g, 0, none⟩))
def evAll (e : Operand → SV) : List Operand → List SV
  | [] => []
  | x :: l => e x :: evAll e l
def evOpt (e : Operand → SV) : Option Operand → Option SV
  | none => none
  | some x => some (e x)

def put (tmps : List SV) (d : Option Nat) (x : SV) : List SV :=
  match d with
  | some d => setAt tmps d x
  | none => tmps

/-- The struct's cells, one by one. -/
def cellsFrom (f : Nat → SV) : Nat → Nat → List SV
  | _, 0 => []
  | i, n + 1 => f i :: cellsFrom f (i + 1) n

abbrev Out := Option (Option Prop × SV)

section
variable (A : Ar)

def intOp (op : BinOp) (k : IntKind) (a b : Int) : Out :=
  match op with
  | .add => some (none, .int k (A.add k a b))
  | .sub => some (none, .int k (A.sub k a b))
  | .mul => some (none, .int k (A.mul k a b))
  | .quo => some (some (A.nz b), .int k (A.quo k a b))
  | .rem => some (some (A.nz b), .int k (A.rem a b))
  | .and => some (none, .int k (A.band k a b))
  | .or => some (none, .int k (A.bor k a b))
  | .xor => some (none, .int k (A.bxor k a b))
  | .eql => some (none, .bool (A.eq a b))
  | .neq => some (none, .bool (A.ne a b))
  | .lss => some (none, .bool (A.lt a b))
  | .leq => some (none, .bool (A.le a b))
  | .gtr => some (none, .bool (A.lt b a))
  | .geq => some (none, .bool (A.le b a))
  | _ => none

def strOp (op : BinOp) (a b : List UInt8) : Out :=
  match op with
  | .eql => some (none, .bool (A.seq a b))
  | .neq => some (none, .bool (A.sne a b))
  | .lss => some (none, .bool (A.slt a b))
  | .leq => some (none, .bool (A.sle a b))
  | .gtr => some (none, .bool (A.sgt a b))
  | .geq => some (none, .bool (A.sge a b))
  | .add => some (some (A.slt63 a b), .str (A.sadd a b))
  | _ => none

def kindEq : IntKind → IntKind → Bool
  | .i8, .i8 | .i16, .i16 | .i32, .i32 | .i64, .i64 | .u8, .u8 | .u16, .u16 | .u32, .u32 | .u64, .u64 => true
  | _, _ => false

/-- Cell by cell. -/
def cellsEq : List SV → List SV → Option Bool
  | [], [] => some true
  | .int _ a :: l, .int _ b :: m => match cellsEq l m with
    | some r => some (A.and2 (A.eq a b) r)
    | none => none
  | .bool a :: l, .bool b :: m => match cellsEq l m with
    | some r => some (A.and2 (A.beq a b) r)
    | none => none
  | .str a :: l, .str b :: m => match cellsEq l m with
    | some r => some (A.and2 (A.seq a b) r)
    | none => none
  | _, _ => none

/-- Of one shape, cell by cell. -/
def shapes : List SV → List SV → Bool
  | [], [] => true
  | .int k _ :: l, .int k' _ :: m => kindEq k k' && shapes l m
  | .bool _ :: l, .bool _ :: m => shapes l m
  | .str _ :: l, .str _ :: m => shapes l m
  | _, _ => false

def binOf (op : BinOp) (x y : SV) : Out :=
  match x, y with
  | .int k a, .int k' b => match op with
    | .shl => some (some (A.nneg b), .int k (A.shl k a b))
    | .shr => some (some (A.nneg b), .int k (A.shr k a b))
    | _ => bif kindEq k k' then intOp A op k a b else none
  | .str a, .str b => strOp A op a b
  | _, _ => none

/-- What stands under a guard, read where the guard lets it. -/
def bare : SV → SV
  | .opt _ s => s
  | s => s

/-- What must hold for it to be there. -/
def needs : SV → Option Prop
  | .opt c _ => some (A.tr c)
  | _ => none
def both : Option Prop → Option Prop → Option Prop
  | none, q => q
  | p, none => p
  | some p, some q => some (p ∧ q)
def needsAll (e : Operand → SV) : List Operand → Option Prop
  | [] => none
  | x :: l => both (needs A (e x)) (needsAll e l)
def when (f : Prop → Prop) : Option Prop → Option Prop
  | none => none
  | some p => some (f p)

def pickOf (c a b : SV) : Out :=
  match c, bare a, bare b with
  | .bool c, .bool p, .bool q => some (both (when (A.imp c) (needs A a)) (when (A.impN c) (needs A b)), .bool (A.ite c p q))
  | _, _, _ => none

def convOf (T : Tys) (src dst : Nat) (x : SV) : Out :=
  match T src, T dst, x with
  | some s, some d, .int k n => match s.tag, d.tag with
    | .int _, .int k' => some (none, .int k' (A.conv k' n))
    | _, _ => none
  | some s, some d, .slc n 1 f => match s.tag, d.tag with
    | .slice _ _ _ true, .str => some (some (A.isB n f), .str (A.strOf n f))
    | _, _ => none
  | some s, some d, .str l => match s.tag, d.tag with
    | .str, .str => some (none, .str l)
    | .str, .slice _ _ _ true => some (none, .slc (A.lenOf l) 1 (A.bytesOf l))
    | _, _ => none
  | _, _, _ => none

def sliceOf (x : SV) (lo hi mx : Option SV) : Out :=
  match x with
  | .slc n k f => match lo, hi, mx with
    | none, none, none => some (none, .slc n k f)
    | none, some (.int _ b), none => some (some (A.inb b (A.nadd n 1)), .slc (A.toNat b) k f)
    | some (.int _ a), none, none => some (some (A.inb a (A.nadd n 1)), .slc (A.nsub n (A.toNat a)) k fun i j => f (A.nadd (A.toNat a) i) j)
    | some (.int _ a), some (.int _ b), none => some (some (A.inb b (A.nadd n 1) ∧ A.inb a (A.nadd (A.toNat b) 1)), .slc (A.nsub (A.toNat b) (A.toNat a)) k fun i j => f (A.nadd (A.toNat a) i) j)
    | some (.int _ a), some (.int _ b), some (.int _ c) => some (some (A.inb c (A.nadd n 1) ∧ A.inb b (A.nadd (A.toNat c) 1) ∧ A.inb a (A.nadd (A.toNat b) 1)), .slc (A.nsub (A.toNat b) (A.toNat a)) k fun i j => f (A.nadd (A.toNat a) i) j)
    | _, _, _ => none
  | .str s => match lo, hi, mx with
    | some (.int _ a), none, none => some (some (A.nneg a ∧ A.upto a (A.slen s)), .str (A.scut s a (A.slen s)))
    | none, some (.int _ b), none => some (some (A.nneg b ∧ A.upto b (A.slen s)), .str (A.scut s 0 b))
    | some (.int _ a), some (.int _ b), none => some (some (A.nneg a ∧ A.upto a b ∧ A.upto b (A.slen s)), .str (A.scut s a b))
    | _, _, _ => none
  | _ => none

/-- A row of the call's own, read by one who doesn't write it. -/
def deown (m : Mem) : SV → SV
  | .own k => match look m k with
    | some (.row _ w n f) => .slc n w f
    | _ => .any
  | .nils => .slc 0 1 fun _ _ => .any
  | s => s
def deownL (m : Mem) : List SV → List SV
  | [] => []
  | s :: r => deown m s :: deownL m r
def deownAll (m : Mem) : List SV → List SV
  | [] => []
  | .agg l :: r => .agg (deownL m l) :: deownAll m r
  | s :: r => deown m s :: deownAll m r

def isOwn : SV → Bool
  | .own _ => true
  | _ => false
def hasOwn : List SV → Bool
  | [] => false
  | .agg l :: r => l.any isOwn || hasOwn r
  | s :: r => isOwn s || hasOwn r
/-- It speaks of no memory. -/
def flat1 : SV → Bool
  | .any | .un | .int _ _ | .bool _ | .str _ | .flt _ | .cpx _ _ | .nilp | .nils | .val _ => true
  | _ => false
def flat2 : SV → Bool
  | .agg l => l.all flat1
  | s => flat1 s
def flat : SV → Bool
  | .tup l => l.all flat2
  | s => flat2 s

/-- Parts put into cells. -/
def fillIn (e : Operand → SV) (places : Nat → Option (Nat × Nat)) : List SV → List (Nat × Operand) → Option (List SV)
  | c, [] => some c
  | c, (i, x) :: r => match places i, cellsOf (e x) with
    | some (off, size), some l => bif Nat.beq (len l) size && Nat.ble (off + size) (len c) then fillIn e places (setMany c off l) r else none
    | _, _ => none
def nth : List (Nat × Nat) → Nat → Option (Nat × Nat)
  | [], _ => none
  | x :: _, 0 => some x
  | _ :: l, n + 1 => nth l n
/-- It names nothing of the call's own. -/
def closed1 : SV → Bool
  | .any | .int _ _ | .bool _ | .str _ | .flt _ | .cpx _ _ | .nilp | .nils | .slc _ _ _ | .val _ => true
  | _ => false
def closedL : List SV → Bool
  | [] => true
  | s :: l => closed1 s && closedL l
/-- The cells of the elements of a slice that is written out. -/
def chunks (e : Operand → SV) (k : Nat) : Nat → List (Nat × Operand) → Option (List (List SV))
  | _, [] => some []
  | i, (j, x) :: r => match cellsOf (e x), chunks e k (i + 1) r with
    | some l, some ls => bif Nat.beq i j && (Nat.beq (len l) k && closedL l) then some (l :: ls) else none
    | _, _ => none

/-- An operation that leaves the call's own memory alone. -/
def pureOp (T : Tys) (G : Pu) (op : Op) (e : Operand → SV) (m : Mem) : Out :=
  match op with
  | .move x => some (none, e x)
  | .assign x => some (none, e x)
  | .pick c a b => pickOf A (e c) (e a) (e b)
  | .load t p => match e p, T t with
    | .ptr k off, some ty => match look m k with
      | some (.box _ c) => bif ty.agg
          then (bif Nat.ble (off + ty.size) (len c) then some (none, .agg (takeFrom c off ty.size)) else none)
          else (bif Nat.ble (off + 1) (len c) then some (none, getAt c off) else none)
      | _ => none
    | .rop k f, some ty => bif ty.agg then (bif Nat.ble ty.size k then some (none, .agg (cellsFrom f 0 ty.size)) else none)
        else (bif Nat.ble 1 k then some (none, f 0) else none)
    | .eptr q k i off, some ty => match look m q with
      | some (.row _ k' _ f) => bif Nat.beq k k' && Nat.ble (off + ty.size) k then (bif ty.agg then some (none, .agg (cellsFrom (f i) off ty.size)) else some (none, f i off)) else none
      | _ => none
    | _, _ => none
  | .fieldAddr t x i => match e x, T t with
    | .ptr k off, some ty => match ty.tag with
      | .struct places _ => match nth places i with
        | some (o, s) => bif Nat.ble 1 s then some (none, .ptr k (off + o)) else none
        | none => none
      | _ => none
    | .rop k f, some ty => match ty.tag with
      | .struct places _ => match nth places i with
        | some (o, s) => bif Nat.ble 1 s && Nat.ble (o + s) k then some (none, .rop s fun j => f (o + j)) else none
        | none => none
      | _ => none
    | .eptr q k j off, some ty => match ty.tag with
      | .struct places _ => match nth places i with
        | some (o, s) => bif Nat.ble 1 s then some (none, .eptr q k j (off + o)) else none
        | none => none
      | _ => none
    | _, _ => none
  | .indexAddr t x i => match e x, e i, T t with
    | .slc n k f, .int _ a, some ty => match ty.tag with
      | .slice _ k' _ _ => bif Nat.beq k k' then some (some (A.inb a n), .rop k (f (A.toNat a))) else none
      | _ => none
    | .own q, .int _ a, some ty => match ty.tag, look m q with
      | .slice _ k' _ _, some (.row _ k n _) => bif Nat.beq k k' then some (some (A.inb a n), .eptr q k (A.toNat a) 0) else none
      | _, _ => none
    | _, _, _ => none
  | .index t x i => match e x, e i, T t with
    | .str s, .int _ a, some ty => match ty.tag with
      | .str => some (some (A.inb a (A.lenOf s)), .int .u8 (A.sget s a))
      | _ => none
    | _, _, _ => none
  | .binOp op t x y _ => match e x, e y with
    | .agg a, .agg b => match T t, op, cellsEq A a b with
      | some ty, .eql, some r => match ty.tag with
        | .struct _ true => bif shapes ty.zero a && shapes ty.zero b then some (none, .bool r) else none
        | _ => none
      | some ty, .neq, some r => match ty.tag with
        | .struct _ true => bif shapes ty.zero a && shapes ty.zero b then some (none, .bool (A.not r)) else none
        | _ => none
      | _, _, _ => none
    | .bool a, .bool b => match T t, op with
      | some ty, .eql => match ty.tag with
        | .bool => some (none, .bool (A.beq a b))
        | _ => none
      | some ty, .neq => match ty.tag with
        | .bool => some (none, .bool (A.bne a b))
        | _ => none
      | _, _ => none
    | u, v => binOf A op u v
  | .unOp .not _ x => match e x with
    | .bool b => some (none, .bool (A.not b))
    | _ => none
  | .unOp .neg _ x => match e x with
    | .int k n => some (none, .int k (A.sub k 0 n))
    | _ => none
  | .convert s d x => convOf A T s d (deown m (e x))
  | .extract t i => match e t with
    | .tup l => bif Nat.ble (i + 1) (len l) then some (none, getAt l i) else none
    | _ => none
  | .build t parts => match T t with
    | some ty => match ty.tag with
      | .struct places _ => match fillIn e (nth places) ty.zero parts.toList with
        | some c => some (none, .agg c)
        | none => none
      | _ => none
    | none => none
  | .buildSlice t n parts => match T t with
    | some ty => match ty.tag with
      | .slice _ k _ _ => match chunks e k 0 parts.toList with
        | some ls => bif Nat.beq n ls.length && (Nat.ble 1 n && Nat.ble (n * k) 16777216) then some (none, .slc n k (A.lst ls)) else none
        | none => none
      | _ => none
    | none => none
  | .slice t x lo hi mx => match T t with
    | some ty => match ty.tag with
      | .slice _ k' _ _ => match e x with
        | .slc n k f => bif Nat.beq k k' then sliceOf A (.slc n k f) (evOpt e lo) (evOpt e hi) (evOpt e mx) else none
        | _ => none
      | .str => match e x with
        | .str s => sliceOf A (.str s) (evOpt e lo) (evOpt e hi) (evOpt e mx)
        | _ => none
      | _ => none
    | none => none
  | .call { callee := .value (.func f), args := args, .. } => match G f (deownAll m (evAll e args.toList)) with
    | some (p, r) => bif !hasOwn (evAll e args.toList) || flat r then some (p, r) else none
    | none => none
  | .call { callee := .builtin .len, args := args, argTypes := ts } => match args.toList, ts.toList with
    | [x], [t] => match deown m (e x), T t with
      | .slc n _ _, some ty => match ty.tag with
        | .slice _ _ _ _ => some (none, .int .i64 (A.ofNat n))
        | _ => none
      | .str s, some ty => match ty.tag with
        | .str => some (none, .int .i64 (A.slen s))
        | _ => none
      | _, _ => none
    | _, _ => none
  | _ => none

/-- Whether an operation is carried out, and by what. -/
def truth : SV → Option (Bool × Bool)
  | .bool b => some (true, b)
  | .opt c (.bool b) => some (c, b)
  | _ => none

def dstOf : List Oper → Nat → Option Nat
  | [], _ => none
  | o :: _, 0 => o.dst
  | _ :: l, n + 1 => dstOf l n

/-- A new row that a call hands over becomes the caller's own: the first that is there. -/
def claim1 (key : Nat) : SV → Option (SV × Blk)
  | .frs e k n f => some (.own key, .row e k n f)
  | _ => none
def claimL (key : Nat) : List SV → Option (List SV × Blk)
  | [] => none
  | s :: l => match claim1 key s with
    | some (s', b) => some (s' :: l, b)
    | none => match claimL key l with
      | some (l', b) => some (s :: l', b)
      | none => none
def claim2 (key : Nat) : SV → Option (SV × Blk)
  | .frs e k n f => some (.own key, .row e k n f)
  | .agg l => match claimL key l with
    | some (l', b) => some (.agg l', b)
    | none => none
  | _ => none
def claimT (key : Nat) : List SV → Option (List SV × Blk)
  | [] => none
  | s :: l => match claim2 key s with
    | some (s', b) => some (s' :: l, b)
    | none => match claimT key l with
      | some (l', b) => some (s :: l', b)
      | none => none
def claim (key : Nat) (s : SV) : SV × Option Blk :=
  match s with
  | .tup l => match claimT key l with
    | some (l', b) => (.tup l', some b)
    | none => (s, none)
  | _ => match claim2 key s with
    | some (s', b) => (s', some b)
    | none => (s, none)

def bareE (e : Operand → SV) : Operand → SV := fun x => bare (e x)

/-- The keys that it names are below b. -/
def keys1 (b : Nat) : SV → Bool
  | .ptr k _ => Nat.blt k b
  | .own k => Nat.blt k b
  | .eptr k _ _ _ => Nat.blt k b
  | .agg _ | .tup _ | .opt _ _ => false
  | _ => true
def keys2 (b : Nat) : SV → Bool
  | .agg l => l.all (keys1 b)
  | s => keys1 b s
def keys3 (b : Nat) : SV → Bool
  | .tup l => l.all (keys2 b)
  | s => keys2 b s

/-- What an operation under a guard reads: a pick, of its two, but the one that it takes. -/
def envG (e : Operand → SV) : Op → Operand → SV
  | .pick (.tmp t) _ _ => fun x => match x with
    | .tmp t' => bif Nat.beq t' t then bare (e (.tmp t')) else e (.tmp t')
    | x => e x
  | _ => bareE e
def needG (e : Operand → SV) : Op → Option Prop
  | .pick (.tmp t) _ _ => needs A (e (.tmp t))
  | op => needsAll A e op.operands.toList

/-- An operation under a guard. -/
def coreG (T : Tys) (G : Pu) (op : Op) (gv : SV) (want : Bool) (e : Operand → SV) (m : Mem) (base : Nat) : Option (Option Prop × SV × Mem) :=
  match truth gv, pureOp A T G op (envG e op) m with
  | some (c, b), some (p, r) => match claim 0 r, keys3 base r with
    | (_, some _), _ => none
    | _, false => none
    | (_, none), true => some (when (A.imp (A.want c b want)) (both (needG A e op) p), .opt (A.want c b want) r, m)
  | _, _ => none
/-- An operation under none. -/
def coreU (T : Tys) (G : Pu) (op : Op) (e : Operand → SV) (m : Mem) (key : Nat) : Option (Option Prop × SV × Mem) :=
  match op with
  | .alloc t => match T t with
    | some ty => some (none, .ptr key 0, ins m key (.box t ty.zero))
    | none => none
  | .box t x => match cellsOf (e x) with
    | some c => some (none, .ptr key 0, ins m key (.box t c))
    | none => none
  | .store t p x => match e p, cellsOf (e x), T t with
    | .ptr k off, some l, some ty => match look m k with
      | some (.box u c) => bif Nat.beq (len l) ty.size && Nat.ble (off + ty.size) (len c) then some (none, .un, upd m k (.box u (setMany c off l))) else none
      | _ => none
    | _, _, _ => none
  | .call { callee := .builtin .append, args := args, argTypes := ts } => match args.toList, ts.toList with
    | [x, y], [t, u] => match T t, bif Nat.beq t u then deown m (e y) else .any with
      | some ty, .slc n' kk g => match ty.tag with
        | .slice el k by_ _ => bif Nat.beq k kk then (match e x with
          | .nils => some (some (A.grow 0 n' by_), .own key, ins m key (.row el k n' g))
          | .own q => match look m q with
            | some (.row e' k' n f) => bif Nat.beq el e' && Nat.beq k k' then some (some (A.grow n n' by_), .own key, ins (del m q) key (.row el k (A.nadd n n') (A.cat n f g))) else none
            | _ => none
          | _ => none) else none
        | _ => none
      | _, _ => none
    | _, _ => none
  | .buildSlice t 0 parts => match T t, parts.toList with
    | some ty, [] => match ty.tag with
      | .slice el k _ _ => some (none, .own key, ins m key (.row el k 0 fun _ _ => .any))
      | _ => none
    | _, _ => none
  | .call { callee := .value (.func f), args := args, argTypes := ts } => match pureOp A T G (.call { callee := .value (.func f), args := args, argTypes := ts }) e m with
    | some (p, r) => match claim key r with
      | (r', some b) => some (p, r', ins m key b)
      | (_, none) => some (p, r, m)
    | none => none
  | op => match pureOp A T G op e m with
    | some (p, r) => some (p, r, m)
    | none => none

def fin (o : Oper) (s : St) : Option (Option Prop × SV × Mem) → Option (Option Prop × St)
  | some (p, r, m) => some (p, { s with tmps := put s.tmps o.dst r, mem := m })
  | none => none

/-- One operation, number i of its region. -/
def stepOp (T : Tys) (G : Pu) (all : List Oper) (base i : Nat) (o : Oper) (s : St) : Option (Option Prop × St) :=
  match o.guard with
  | some (j, want) => match dstOf all j with
    | some d => fin o s (coreG A T G o.op (getAt s.tmps d) want (ev s.tmps) s.mem base)
    | none => none
  | none => fin o s (coreU A T G o.op (ev s.tmps) s.mem (base + i))

def vcOps (T : Tys) (G : Pu) (all : List Oper) (base : Nat) : Nat → List Oper → St → (St → Prop) → Prop
  | _, [], s, K => K s
  | i, o :: l, s, K => match stepOp A T G all base i o s with
    | some (none, s') => vcOps T G all base (i + 1) l s' K
    | some (some p, s') => p ∧ vcOps T G all base (i + 1) l s' K
    | none => False

structure Ks where
  nrm : St → Prop
  ret : St → Prop
  ext : Nat → St → Prop
  gto : Nat → St → Prop

/-- A loop, as the proof's writer says it: its head, by what is on hand, and what goes down. -/
structure Lp where
  I : Type
  head : I → St
  mu : I → Nat

/-- Whose row a row of the head is: none's, if there is none yet. -/
abbrev Ren := List (Nat × Option Nat)
def renOf : Ren → Nat → Option (Option Nat)
  | [], _ => none
  | (k, q) :: l, n => bif Nat.beq k n then some q else renOf l n

/-- The head says no more than what is there: cell by cell, slot by slot, block by block. -/
def le1 (r : Ren) (n : Nat) (s h : SV) : Prop :=
  match h with
  | .any => True
  | .ptr k o => s = .ptr k o ∧ k < n ∧ renOf r k = none
  | .own k => k < n ∧ ((s = .nils ∧ renOf r k = some none) ∨ ∃ q, s = .own q ∧ renOf r k = some (some q))
  | .slc m k f => ∃ k' f', s = .slc m k' f' ∧ ((0 < m → k' = k) ∧ ∀ i j, i < m → j < k → f' i j = f i j)
  | .int k m => s = .int k m
  | .bool b => s = .bool b
  | .str l => s = .str l
  | .flt b => s = .flt b
  | .cpx b c => s = .cpx b c
  | .nilp => s = .nilp
  | .nils => s = .nils
  | .val v => s = .val v
  | .un => s = .un
  | _ => False
def leL (r : Ren) (n : Nat) : List SV → List SV → Prop
  | [], [] => True
  | s :: l, h :: m => le1 r n s h ∧ leL r n l m
  | _, _ => False
def le2 (r : Ren) (n : Nat) (s h : SV) : Prop :=
  match h with
  | .agg m => ∃ l, s = .agg l ∧ leL r n l m
  | h => le1 r n s h
def leT (r : Ren) (n : Nat) : List SV → List SV → Prop
  | [], [] => True
  | s :: l, h :: m => le2 r n s h ∧ leT r n l m
  | _, _ => False
def leB (r : Ren) (n key : Nat) (m : Mem) : Blk → Prop
  | .box t c => renOf r key = none ∧ ∃ c', look m key = some (.box t c') ∧ leL r n c' c
  | .row e k q f => match renOf r key with
    | some (some key') => ∃ f', look m key' = some (.row e k q f') ∧ ∀ i j, i < q → j < k → f' i j = f i j
    | some none => q = 0
    | none => False
def leM (r : Ren) (n : Nat) (m : Mem) : Mem → Prop
  | [] => True
  | (key, b) :: h => key < n ∧ leB r n key m b ∧ leM r n m h
/-- No row is two rows' at the head; no key of a caller's is given anew. -/
def renOk (lo : Nat) : Ren → Prop
  | [] => True
  | (k, q) :: l => lo ≤ k ∧ (∀ e ∈ l, e.1 ≠ k ∧ (q = none ∨ e.2 ≠ q)) ∧ renOk lo l
def noDup : Mem → Prop
  | [] => True
  | (k, _) :: l => (∀ e ∈ l, e.1 ≠ k) ∧ noDup l

def leSt (lo : Nat) (r : Ren) (s h : St) : Prop :=
  h.next ≤ s.next ∧ lo ≤ h.next ∧ leT r h.next s.tmps h.tmps ∧ leM r h.next s.mem h.mem ∧ renOk lo r ∧ noDup h.mem

/-- Is the label in it, where a goto finds it? -/
def hasLabel (l : Nat) : Code → Bool
  | .seq a b => hasLabel l a || hasLabel l b
  | .label l' => Nat.beq l' l
  | _ => false
def labelIn : Code → Option Nat
  | .seq a b => match labelIn a with
    | some l => some l
    | none => labelIn b
  | .label l => some l
  | _ => none

/-- The condition of a piece of code; behind a label of it, if one is named. -/
def vc (T : Tys) (G : Pu) (lo : Nat) : Option Nat → Code → St → Ks → Prop
  | some l, .seq a b, s, K => bif hasLabel l a then vc T G lo (some l) a s { K with nrm := fun s' => vc T G lo none b s' K } else vc T G lo (some l) b s K
  | some l, .label l', s, K => bif Nat.beq l' l then K.nrm s else False
  | some _, _, _, _ => False
  | none, .skip, s, K => K.nrm s
  | none, .label _, s, K => K.nrm s
  | none, .region _ ops draw, s, K => (bif draw then A.draw ops.toList else True) ∧ vcOps A T G ops.toList s.next 0 ops.toList { s with next := s.next + ops.toList.length } K.nrm
  | none, .seq a b, s, K => vc T G lo none a s { K with nrm := fun s' => vc T G lo none b s' K }
  | none, .cond c a b, s, K => match ev s.tmps c with
    | .bool t => (t = true → vc T G lo none a s K) ∧ (t = false → vc T G lo none b s K)
    | _ => False
  | none, .block id a, s, K => vc T G lo none a s { K with ext := fun i s' => bif Nat.beq i id then K.nrm s' else K.ext i s' }
  | none, .exit id, s, K => K.ext id s
  | none, .goto l, s, K => K.gto l s
  | none, .ret, s, K => K.ret s
  | none, .loop a, s, K => ∃ L : Lp, (∃ x r, leSt lo r s (L.head x)) ∧ ∀ x, vc T G lo none a (L.head x) { K with nrm := fun s' => ∃ x' r, leSt lo r s' (L.head x') ∧ L.mu x' < L.mu x }
  | none, .scope a, s, K => match labelIn a with
    | none => vc T G lo none a s { K with gto := fun _ _ => False }
    | some l => ∃ L : Lp, vc T G lo none a s { K with gto := fun l' s' => bif Nat.beq l' l then ∃ x r, leSt lo r s' (L.head x) else False } ∧
        ∀ x, vc T G lo (some l) a (L.head x) { K with gto := fun l' s' => bif Nat.beq l' l then ∃ x' r, leSt lo r s' (L.head x') ∧ L.mu x' < L.mu x else False }
  | none, _, _, _ => False

/-! ### A function's answer -/
/-- What is the call's own is its answer's: one row of it at most; of nothing else of the call's own it speaks. -/
def giveL (m : Mem) : List SV → Option (List SV × Bool)
  | [] => some ([], false)
  | s :: l => match giveL m l with
    | some (l', b) => match s with
      | .own k => match look m k with
        | some (.row e w n f) => bif b then none else some (.frs e w n f :: l', true)
        | _ => none
      | s => bif closed1 s then some (s :: l', b) else none
    | none => none
def give2 (m : Mem) : SV → Option (SV × Bool)
  | .agg l => match giveL m l with
    | some (l', b) => some (.agg l', b)
    | none => none
  | .own k => match look m k with
    | some (.row e w n f) => some (.frs e w n f, true)
    | _ => none
  | s => bif closed1 s then some (s, false) else none
def giveT (m : Mem) : List SV → Option (List SV × Bool)
  | [] => some ([], false)
  | s :: l => match giveT m l, give2 m s with
    | some (l', b), some (s', b') => bif b && b' then none else some (s' :: l', b || b')
    | _, _ => none
def resOf (T : Tys) (s : St) : ResultVar → Option SV
  | .tmp t => some (getAt s.tmps t)
  | .cell a t => match getAt s.tmps a, T t with
    | .ptr k off, some ty => match look s.mem k with
      | some (.box _ c) => bif Nat.ble (off + ty.size) (len c) then (bif ty.agg then some (.agg (takeFrom c off ty.size)) else some (getAt c off)) else none
      | _ => none
    | _, _ => none
def resL (T : Tys) (s : St) : List ResultVar → Option (List SV)
  | [] => some []
  | r :: l => match resOf T s r, resL T s l with
    | some x, some y => some (x :: y)
    | _, _ => none
/-- The answer, as its caller gets it. -/
def answer (T : Tys) (s : St) (rs : List ResultVar) : Option SV :=
  match resL T s rs with
  | some [x] => match give2 s.mem x with
    | some (y, _) => some y
    | none => none
  | some l => match giveT s.mem l with
    | some (l', _) => some (.tup l')
    | none => none
  | none => none

def answered (T : Tys) (fn : Func) (R : SV → Prop) (s : St) : Prop :=
  match answer T s fn.results.toList with
  | some r => R r
  | none => False

def closed2 : SV → Bool
  | .agg l => closedL l
  | s => closed1 s
def closedA : List SV → Bool
  | [] => true
  | s :: l => closed2 s && closedA l
def uns : Nat → List SV
  | 0 => []
  | n + 1 => .un :: uns n
def appendS : List SV → List SV → List SV
  | [], m => m
  | s :: l, m => s :: appendS l m
def start (fn : Func) (args : List SV) : St := { next := 0, tmps := appendS args (uns (fn.ntmps - len args)), mem := [] }

def vcFn (T : Tys) (G : Pu) (fn : Func) (args : List SV) (R : SV → Prop) : Prop :=
  match fn.body with
  | some c => bif closedA args && Nat.ble (len args) fn.ntmps then
      vc A T G 0 none c (start fn args) { nrm := answered T fn R, ret := answered T fn R, ext := fun _ _ => False, gto := fun _ _ => False } else False
  | none => False
end
end Go.Vc
