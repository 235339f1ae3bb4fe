/- What a symbolic value says of a value in a world; what a symbolic state says of a state. -/
import Derived.Test.YtckmnmcnelfkjaaGreatDoorVdDefs
import Derived.Below
import Derived.Orders
import Derived.Laws.Cells
import Derived.Laws.Rows
import Derived.Laws.CopyRow
import Derived.Laws.Entries
import Derived.Maps.AppendAt
set_option linter.unusedVariables false
namespace Go.Vd
open Go.RowKit
variable {w w':World} {N:Nat->Prop} {s:SV} {rw:Nat->Prop} {v:Value} {ρ:Nat->Value} {l:List SV} {xs:List Value} {cur:Array Value} {e:TypeId} {g k:Nat} {o:Nat} {x:Blk}
def one (v:Value):Prop:=v.oneCell'=true
def cA (k:Nat):SV->Prop
 | .ptr q _=>q=k
 | .own q=>q=k
 | .eptr q _ _ _=>q=k
 | .part q _ _ _=>q=k
 | .kid q j _=>q=k∨j=k
 | .iptr q _ _ _=>q=k
 | .krun q j _=>q=k∨j=k
 | .mrun q j _ _ _=>q=k∨j=k
 | .fkid q j _ _=>q=k∨j=k
 |_=>False
def eo (k:Nat):SV->Prop
 | .clo _ l=> ∃ s∈l,cA k s
 |s=>cA k s
def eO (k:Nat):SV->Prop
 | .agg l=> ∃ s∈l,eo k s
 |s=>eo k s
def gr (k:Nat):SV->Prop
 | .tup l=> ∃ s∈l,eO k s
 |s=>eO k s
def bT (k:Nat):SV->Prop
 | .opt _ s=>gr k s
 |s=>gr k s
inductive RelF:Value->SV->Prop where
 |any (v:Value):RelF v .any
 |un:RelF undef .un
 |int (k:IntKind) (n:Int):RelF (.int k n) (.int k n)
 |bool (b:Bool):RelF (.bool b) (.bool b)
 |str (s:ByteArray):RelF (.string s) (.str s.data.toList)
 |flt (b:Nat):RelF (.float .f64 b) (.flt b)
 |cpx (a b:Nat):RelF (.complex .f64 a b) (.cpx a b)
 |nilp:RelF (.pointer none) .nilp
 |nils:RelF (.slice none 0 0) .nils
 |emp (a:Option Addr):RelF (.slice a 0 0) .emp
 |clo (f:Nat):RelF (.func (.func f) #[] #[]) (.clo f [])
 |ifc (t:Nat) (v:Value) (s:SV) (h:RelF v s):RelF (.iface t v) (.ifc t s)
 |mth (f:Nat) (v:Value) (s:SV) (h:RelF v s):RelF (.func (.func f) #[v] #[]) (.mth f s)
 |agg (cs:Array Value) (l:List SV) (hl:cs.size=l.length) (h1: ∀ v∈cs.toList,one v)
   (h: ∀(i:Nat) v s,cs[i]? =some v->l[i]? =some s->RelF v s):RelF (.agg cs) (.agg l)
 |val (v:Value):RelF v (.val v)
inductive RelC (w:World) (rw:Nat->Prop):Value->SV->Prop where
 |any (v:Value):RelC w rw v .any
 |int (k:IntKind) (n:Int):RelC w rw (.int k n) (.int k n)
 |bool (b:Bool):RelC w rw (.bool b) (.bool b)
 |str (s:ByteArray):RelC w rw (.string s) (.str s.data.toList)
 |flt (b:Nat):RelC w rw (.float .f64 b) (.flt b)
 |cpx (a b:Nat):RelC w rw (.complex .f64 a b) (.cpx a b)
 |nilp:RelC w rw (.pointer none) .nilp
 |nils:RelC w rw (.slice none 0 0) .nils
 |slc (a:Option Addr) (n c k:Nat) (f:Nat->Nat->SV) (g:Nat->Nat->Value) (hn:n<=c)
   (hc: ∀ i j,i<n->j<k-> ∃ ad,a=some ad∧w.cell? (ad.add (i*k+j))=some (g i j)∧one (g i j)∧ ¬ rw ad.block)
   (ha:0<n-> ∃ ad,a=some ad∧ad.spot=none)
   (hr: ∀ i j,i<n->j<k->RelC w rw (g i j) (f i j)):RelC w rw (.slice a n c) (.slc n k f)
 |val (v:Value):RelC w rw v (.val v)
 |emp (a:Option Addr):RelC w rw (.slice a 0 0) .emp
 |clo (f:Nat):RelC w rw (.func (.func f) #[] #[]) (.clo f [])
 |ifc (t:Nat) (v:Value) (s:SV) (h:RelF v s):RelC w rw (.iface t v) (.ifc t s)
 |mth (f:Nat) (v:Value) (s:SV) (h:RelF v s):RelC w rw (.func (.func f) #[v] #[]) (.mth f s)
def bU (v:Value)(i:Nat):Value:=
 match v with
 | .agg arr=>arr.getD i (.slice none 0 0)
 |_=> .slice none 0 0
def bR (N:Nat->Prop)(l:List SV):Prop:= ∀ s∈l,aH s=true-> ∀ k,cA k s->N k
def Ir (fam key:Value):Option Nat:=
 match fam,key with
 | .agg arr,_=>some arr.size
 |_, .slice _ n _=>some n
 |_,_=>none
inductive Rel (w:World) (ρ:Nat->Value) (rw:Nat->Prop) (N:Nat->Prop):Value->SV->Prop where
 |any (v:Value):Rel w ρ rw N v .any
 |un:Rel w ρ rw N undef .un
 |int (k:IntKind) (n:Int):Rel w ρ rw N (.int k n) (.int k n)
 |bool (b:Bool):Rel w ρ rw N (.bool b) (.bool b)
 |str (s:ByteArray):Rel w ρ rw N (.string s) (.str s.data.toList)
 |flt (b:Nat):Rel w ρ rw N (.float .f64 b) (.flt b)
 |cpx (a b:Nat):Rel w ρ rw N (.complex .f64 a b) (.cpx a b)
 |nilp:Rel w ρ rw N (.pointer none) .nilp
 |nils:Rel w ρ rw N (.slice none 0 0) .nils
 |ptr (key off g:Nat) (hk:N key) (h:ρ key= .pointer (some ⟨g,0,none⟩)):Rel w ρ rw N (.pointer (some ⟨g,off,none⟩)) (.ptr key off)
 |rop (a:Addr) (k:Nat) (f:Nat->SV) (g:Nat->Value) (hs:a.spot=none)
   (hc: ∀ j,j<k->w.cell? (a.add j)=some (g j)∧one (g j)∧ ¬ rw a.block)
   (hr: ∀ j,j<k->RelC w rw (g j) (f j)):Rel w ρ rw N (.pointer (some a)) (.rop k f)
 |slc (a:Option Addr) (n c k:Nat) (f:Nat->Nat->SV) (g:Nat->Nat->Value) (hn:n<=c)
   (hc: ∀ i j,i<n->j<k-> ∃ ad,a=some ad∧w.cell? (ad.add (i*k+j))=some (g i j)∧one (g i j)∧ ¬ rw ad.block)
   (ha:0<n-> ∃ ad,a=some ad∧ad.spot=none)
   (hr: ∀ i j,i<n->j<k->RelC w rw (g i j) (f i j)):Rel w ρ rw N (.slice a n c) (.slc n k f)
 |own (key:Nat) (hk:N key) (h1:one (ρ key)):Rel w ρ rw N (ρ key) (.own key)
 |eptr (key k i off g n c:Nat) (hk:N key) (h:ρ key= .slice (some ⟨g,0,none⟩) n c) (hi:i<n):Rel w ρ rw N (.pointer (some ⟨g,i*k+off,none⟩)) (.eptr key k i off)
 |agg (cs:Array Value) (l:List SV) (hl:cs.size=(aj l).length) (h1: ∀ v∈cs.toList,one v)
   (h: ∀(i:Nat) v s,cs[i]? =some v->(aj l)[i]? =some s->Rel w ρ rw N v s) (hm:bR N l):Rel w ρ rw N (.agg cs) (.agg l)
 |tup (cs:Array Value) (l:List SV) (hl:cs.size=l.length)
   (h: ∀(i:Nat) v s,cs[i]? =some v->l[i]? =some s->Rel w ρ rw N v s):Rel w ρ rw N (.tuple cs) (.tup l)
 |opt (c:Bool) (v:Value) (s:SV) (h:c=true->Rel w ρ rw N v s) (h0:c=false->v=undef) (hm: ∀ k,gr k s->N k):Rel w ρ rw N v (.opt c s)
 |val (v:Value):Rel w ρ rw N v (.val v)
 |emp (a:Option Addr):Rel w ρ rw N (.slice a 0 0) .emp
 |part (key k lo n:Nat) (a:Option Addr) (c:Nat) (hk:N key) (hn:n<=c)
   (h: ∃ a0 n0 c0,ρ key= .slice a0 n0 c0∧lo+n<=n0∧lo+c=c0∧(0<c-> ∃ g,a0=some ⟨g,0,none⟩∧a=some ⟨g,lo*k,none⟩)):Rel w ρ rw N (.slice a n c) (.part key k lo n)
 |kid (key fam i:Nat) (hk:N key) (hf:N fam) (h1:one (bU (ρ fam) i)) (hi: ∀ n,Ir (ρ fam) (ρ key)=some n->i<n):Rel w ρ rw N (bU (ρ fam) i) (.kid key fam i)
 |iptr (key base n i g:Nat) (hk:N key) (h:ρ key= .pointer (some ⟨g,0,none⟩)) (hi:i<n):Rel w ρ rw N (.pointer (some ⟨g,base+i,none⟩)) (.iptr key base n i)
 |fkid (key fam n i:Nat) (hk:N key) (hf:N fam) (hi:i<n) (h1:one (bU (ρ fam) i)):Rel w ρ rw N (bU (ρ fam) i) (.fkid key fam n i)
 |clo (f:Nat) (cs:Array Value) (l:List SV) (hl:cs.size=l.length)
   (h: ∀(i:Nat) v s,cs[i]? =some v->l[i]? =some s->Rel w ρ rw N v s) (hm: ∀ k,(∃ s∈l,cA k s)->N k):Rel w ρ rw N (.func (.func f) #[] cs) (.clo f l)
 |ifc (t:Nat) (v:Value) (s:SV) (h:RelF v s):Rel w ρ rw N (.iface t v) (.ifc t s)
 |mth (f:Nat) (v:Value) (s:SV) (h:RelF v s):Rel w ρ rw N (.func (.func f) #[v] #[]) (.mth f s)
theorem Rel.one1{w:World}{rw N:Nat->Prop}(h:Rel w ρ rw N v s):aH s=false:=by cases h<;>rfl
theorem RelC.one1{w:World}(h:RelC w rw v s):aH s=false:=by cases h<;>rfl
theorem mY(h:aH s=false):ip s= [s] :=by unfold ip;rw [h];rfl
theorem iX(h: ∀ s∈l,aH s=false):aj l=l:=by
 induction l with
 |nil=>rfl
 |cons s l ih=>
  rw [aj,mY (h s (List.mem_cons_self ..)),ih fun s hs=>h s (List.mem_cons_of_mem _ hs)]
  rfl
theorem AN(h:Dp l=true):aj l=l:=iX fun s hs=>by
 have:=List.all_eq_true.1 h s hs
 simpa using this
theorem Rel.agg0{w:World}{ρ:Nat->Value}{rw N:Nat->Prop}(cs:Array Value)(l:List SV)(hl:cs.size=l.length)(h1: ∀ v∈cs.toList,one v)
 (h: ∀(i:Nat) v s,cs[i]? =some v->l[i]? =some s->Rel w ρ rw N v s):Rel w ρ rw N (.agg cs) (.agg l):=by
 have e:aj l=l:=iX fun s hs=>by
  obtain ⟨i,hi,rfl⟩:=List.getElem_of_mem hs
  exact (h i _ _ (Array.getElem?_eq_getElem (by omega)) (gEE hi)).one1
 exact .agg cs l (by rw [e];exact hl) h1 (by rw [e];exact h) fun s hs hr=>by
  obtain ⟨i,hi,rfl⟩:=List.getElem_of_mem hs
  have:=(h i _ _ (Array.getElem?_eq_getElem (by omega)) (gEE hi)).one1
  rw [this] at hr;cases hr
theorem du: ∀ l m:List SV,eb l m=l++m
 | [],_=>rfl
 |s::l,m=>by simp [eb,du l m]
theorem ir: ∀ l m:List SV,aj (l++m)=aj l++aj m
 | [],_=>rfl
 |s::l,m=>by simp [aj,ir l m]
theorem gI(h:bz s=true):aH s=false:=by cases s<;>first|rfl|cases h
theorem cX(h:bM l=true):aj l=l:=iX fun s hs=>by
 induction l with
 |nil=>cases hs
 |cons t l ih=>
  simp only [bM,bAE] at h
  rcases List.mem_cons.1 hs with rfl|hs
  · exact gI h.1
  · exact ih h.2 hs
theorem oy(s:SV):aH (cl s)=false:=by
 unfold cl
 cases h:bz s
 · rfl
 · exact gI h
theorem BW(h:aH s=true)(i:Nat):aH (atR s i)=false:=by
 cases s<;>first| (cases h;done) |rfl|exact oy _| (simp only [atR];cases Nat.blt i _<;>first|rfl|exact oy _)
theorem cN(f:Nat->SV): ∀(n i j:Nat),(bv f i n)[j]? =if j<n then some (f (i+j)) else none
 |0,i,j=>by simp [bv]
 |n+1,i,0=>by simp [bv]
 |n+1,i,j+1=>by
  rw [bv,List.getElem?_cons_succ,cN f n (i+1) j]
  by_cases h:j<n
  · simp [h,show i+1+j=i+(j+1) by omega]
  · simp [h]
theorem iY(f:Nat->SV): ∀(n i:Nat),(bv f i n).length=n
 |0,i=>rfl
 |n+1,i=>by simp [bv,iY f n (i+1)]
theorem cz(s:SV):(ip s).length=wid s:=by
 unfold ip
 cases h:aH s
 · cases s<;>first|rfl|cases h
 · exact iY _ _ _
theorem kD(h:aH s=false):wid s=1:=by rw [<-cz,mY h];rfl
theorem iZ{i:Nat}(h:i<wid s):(ip s)[i]? =some (atR s i):=by
 unfold ip
 cases hr:aH s
 · have:=kD hr
   obtain rfl:i=0:=by omega
   cases s<;>first|rfl|cases hr
 · simp only [cond_true]
   rw [cN,if_pos h,Nat.zero_add]
theorem cO: ∀ l:List SV,bq l=(aj l).length
 | [] =>rfl
 |s::l=>by rw [bq,aj,List.length_append,cz,cO l];omega
theorem pQ: ∀(l:List SV) (o:Nat),od l o=(aj l)[o]?.getD .un
 | [],_=>rfl
 |s::l,o=>by
  have hl:=cz s
  rw [od,aj]
  cases hb:Nat.ble (wid s) o
  · have h:o<wid s:=by
     rcases Nat.lt_or_ge o (wid s) with h|h
     · exact h
     · rw [Nat.ble_eq_true_of_le h] at hb;cases hb
    simp only [cond_false]
    rw [List.getElem?_append_left (by omega),iZ h]
    rfl
  · have h:=Nat.le_of_ble_eq_true hb
    simp only [cond_true]
    rw [List.getElem?_append_right (by omega),pQ l,hl]
theorem lJ{f:Nat->SV}(hf: ∀ i,aH (f i)=false)(a n:Nat):aj (bv f a n)=bv f a n:=iX fun s hs=>by
 obtain ⟨i,hi,rfl⟩:=List.getElem_of_mem hs
 have:=cN f n a i
 rw [gEE hi] at this
 split at this
 · rw [Option.some.inj this];exact hf _
 · cases this
theorem Fq{a m:Nat}(h:a+m<=wid s):aj (cut s a m)=((ip s).drop a).take m:=by
 have hl:=cz s
 unfold cut
 cases hb:Nat.beq a 0 && Nat.beq m (wid s)
 · simp only [cond_false]
   cases hr:aH s
   · have hw:=kD hr
     have:m=0:=by
      rcases Nat.eq_zero_or_pos m with h0|h0
      · exact h0
      · obtain ⟨rfl,rfl⟩:a=0∧m=1:=by omega
        rw [hw] at hb
        cases hb
     subst this
     simp [bv,aj]
   · rw [lJ fun i=>BW hr i]
     apply List.ext_getElem?
     intro i
     rw [cN,List.getElem?_take,List.getElem?_drop]
     split
     · rw [iZ (by omega)]
     · rfl
 · rw [bAE] at hb
   have h1:=nQE hb.1
   have h2:=nQE hb.2
   subst h1
   simp only [cond_true,aj,List.append_nil,List.drop_zero]
   rw [List.take_of_length_le (by omega)]
theorem fW: ∀(l:List SV) (o n:Nat),aj (fm l o n)=((aj l).drop o).take n
 | [],o,n=>by simp [fm,aj]
 |s::l,o,n=>by
  have hl:=cz s
  rw [fm,aj]
  cases hb:Nat.ble (wid s) o
  · have h:o<wid s:=by
     rcases Nat.lt_or_ge o (wid s) with h|h
     · exact h
     · rw [Nat.ble_eq_true_of_le h] at hb;cases hb
    simp only [cond_false]
    rw [List.drop_append_of_le_length (by omega)]
    cases hc:Nat.ble n (wid s - o)
    · have h2:wid s - o<n:=by
       rcases Nat.lt_or_ge (wid s - o) n with h|h
       · exact h
       · rw [Nat.ble_eq_true_of_le h] at hc;cases hc
      simp only [cond_false]
      have e1:((ip s).drop o).length=wid s - o:=by rw [List.length_drop,hl]
      rw [du,ir,Fq (by omega),fW l,List.take_append,e1,List.drop_zero,List.take_of_length_le (l:=(ip s).drop o) (i:=wid s - o) (by omega),List.take_of_length_le (l:=(ip s).drop o) (i:=n) (by omega)]
    · have h2:=Nat.le_of_ble_eq_true hc
      simp only [cond_true]
      rw [Fq (by omega),List.take_append_of_le_length (by rw [List.length_drop];omega)]
  · have h:=Nat.le_of_ble_eq_true hb
    simp only [cond_true]
    rw [fW l,List.drop_append,List.drop_of_length_le (l:=ip s) (by omega),hl,List.nil_append]
theorem BX{s t:SV}{a m:Nat}(h:t∈cut s a m):t=s∨aH t=false:=by
 unfold cut at h
 cases hb:Nat.beq a 0 && Nat.beq m (wid s)<;>rw [hb] at h
 · simp only [cond_false] at h
   cases hr:aH s
   · left
     obtain ⟨i,hi⟩:=List.mem_iff_getElem?.1 h
     rw [cN] at hi
     split at hi
     · rw [<-Option.some.inj hi]
       cases s<;>first|rfl|cases hr
     · cases hi
   · right
     obtain ⟨i,hi⟩:=List.mem_iff_getElem?.1 h
     rw [cN] at hi
     split at hi
     · rw [<-Option.some.inj hi];exact BW hr _
     · cases hi
 · simp only [cond_true,List.mem_singleton] at h
   exact .inl h
theorem oz{t:SV} : ∀ {l:List SV} {o n:Nat},t∈fm l o n->t∈l∨aH t=false
 | [],o,n,h=>by cases h
 |s::l,o,n,h=>by
  rw [fm] at h
  cases hb:Nat.ble (wid s) o<;>rw [hb] at h
  · simp only [cond_false] at h
    cases hc:Nat.ble n (wid s - o)<;>rw [hc] at h
    · simp only [cond_false,du,List.mem_append] at h
      rcases h with h|h
      · exact (BX h).imp_left fun e=>by rw [e];exact List.mem_cons_self ..
      · exact (oz h).imp_left (List.mem_cons_of_mem _)
    · simp only [cond_true] at h
      exact (BX h).imp_left fun e=>by rw [e];exact List.mem_cons_self ..
  · simp only [cond_true] at h
    exact (oz h).imp_left (List.mem_cons_of_mem _)
theorem bR.take(h:bR N l)(o n:Nat):bR N (fm l o n):=fun s hs hr=>by
 rcases oz hs with h1|h1
 · exact h s h1 hr
 · rw [h1] at hr;cases hr
theorem bR.put{c xs:List SV}(h:bR N c)(h':bR N xs)(o:Nat):bR N (d8 c o xs):=fun s hs hr=>by
 unfold d8 at hs
 rw [du,du,List.mem_append,List.mem_append] at hs
 rcases hs with hs|hs|hs
 · exact h.take _ _ s hs hr
 · exact h' s hs hr
 · exact h.take _ _ s hs hr
theorem bR.zero(h:zOk l=true):bR N l:=fun s hs hr k hk=>by
 have:=List.all_eq_true.1 h s hs
 simp only [Bool.or_eq_true] at this
 rcases this with h1|h1
 · rw [gI h1] at hr;cases hr
 · cases s<;>first|exact hk.elim|cases h1
theorem bR.flat(h: ∀ s∈l,aH s=false):bR N l:=fun s hs hr=>by
 rw [h s hs] at hr;cases hr
theorem BZ{c xs:List SV}(h:o+bq xs<=bq c):aj (d8 c o xs)=(aj c).take o++(aj xs++(aj c).drop (o+bq xs)):=by
 unfold d8
 rw [du,du,ir,ir,fW,fW,List.drop_zero]
 congr 2
 apply List.take_of_length_le
 rw [List.length_drop,cO c]
 exact Nat.le_refl _
theorem qp{c xs:List SV}(h:o+bq xs<=bq c):(aj (d8 c o xs)).length=(aj c).length:=by
 rw [BZ h]
 have e1:=cO c
 have e2:=cO xs
 simp only [List.length_append,List.length_take,List.length_drop]
 omega
theorem rf{c xs:List SV}(h:o+bq xs<=bq c)(i:Nat):(aj (d8 c o xs))[i]? =if o<=i∧i<o+bq xs then (aj xs)[i - o]? else (aj c)[i]? :=by
 rw [BZ h]
 have e1:=cO c
 have e2:=cO xs
 have e3:((aj c).take o).length=o:=by rw [List.length_take];omega
 rcases Nat.lt_or_ge i o with hi|hi
 · rw [if_neg (by omega),List.getElem?_append_left (by omega),List.getElem?_take,if_pos hi]
 · rw [List.getElem?_append_right (by omega),e3]
   rcases Nat.lt_or_ge i (o+bq xs) with hj|hj
   · rw [if_pos ⟨hi,hj⟩,List.getElem?_append_left (by omega)]
   · rw [if_neg (by omega),List.getElem?_append_right (by omega),List.getElem?_drop]
     congr 1
     omega
theorem i3: ∀ {c:List SV} {o n:Nat} {s:SV},jo c o n=some s->aH s=true∧(wid s=n∧(o+n<=bq c∧ ∀ i,i<n->(aj c)[o+i]? =some (atR s i)))
 | [],o,n,s,h=>by cases h
 |t::c,o,n,s,h=>by
  have hl:=cz t
  unfold jo at h
  cases ho:Nat.beq o 0<;>simp only [ho,cond_true,cond_false] at h
  · cases hb:Nat.ble (wid t) o<;>simp only [hb,cond_true,cond_false] at h
    · cases h
    · have h1:=Nat.le_of_ble_eq_true hb
      obtain ⟨q1,q2,q3,q4⟩:=i3 h
      refine ⟨q1,q2,by rw [bq];omega,fun i hi=> ?_⟩
      rw [aj,List.getElem?_append_right (by omega),hl,show o+i - wid t=o - wid t+i by omega]
      exact q4 i hi
  · obtain rfl:=nQE ho
    cases hr:aH t && Nat.beq (wid t) n<;>simp only [hr,cond_true,cond_false] at h
    · cases h
    · rw [bAE] at hr
      cases h
      have h2:=nQE hr.2
      refine ⟨hr.1,h2,by rw [bq];omega,fun i hi=> ?_⟩
      rw [aj,Nat.zero_add,List.getElem?_append_left (by omega),iZ (by omega)]
theorem cP(s:SV)(l:List SV)(i:Nat):(aj (s::l))[i]? =if i<wid s then some (atR s i) else (aj l)[i - wid s]? :=by
 have hl:=cz s
 rw [aj]
 split
 · rw [List.getElem?_append_left (by omega),iZ (by assumption)]
 · rw [List.getElem?_append_right (by omega),hl]
theorem oA : ∀ {l:List SV},s∈l->aH s=false->s∈aj l
 |t::l,h,hr=>by
  rw [aj]
  rcases List.mem_cons.1 h with rfl|h
  · rw [mY hr];simp
  · exact List.mem_append_right _ (oA h hr)
def fp (R R':Value->SV->Prop)(s t:SV):Prop:=wid t=wid s∧ ∀ i v,i<wid s->R v (atR s i)->R' v (atR t i)
theorem rg(h:aH s=false)(i:Nat):atR s i=s:=by cases s<;>first| (cases h;done) |rfl
theorem fp.of_not{R R':Value->SV->Prop}{s t:SV}(hs:aH s=false)(ht:aH t=false)(h: ∀ v,R v s->R' v t):fp R R' s t:=
 ⟨by rw [kD hs,kD ht],fun i v _ hv=>by rw [rg hs] at hv;rw [rg ht];exact h v hv⟩
theorem fp.lift{R R':Value->SV->Prop} : ∀ {l m:List SV},l.length=m.length->(∀(j:Nat) s t,l[j]? =some s->m[j]? =some t->fp R R' s t)->
 (aj m).length=(aj l).length∧ ∀ {cs:List Value},(∀(i:Nat) v s,cs[i]? =some v->(aj l)[i]? =some s->R v s)-> ∀(i:Nat) v t,cs[i]? =some v->(aj m)[i]? =some t->R' v t
 | [], [],_,_=>⟨rfl,fun {cs} _ i v t _ h=>by simp [aj] at h⟩
 |s::l,t::m,hl,hh=>by
  obtain ⟨h1,h3⟩:=fp.lift (l:=l) (m:=m) (by simpa using hl) fun j s t hs ht=>hh (j+1) s t (by simpa using hs) (by simpa using ht)
  obtain ⟨e1,e3⟩:=hh 0 s t rfl rfl
  refine ⟨by simp only [aj,List.length_append,cz,e1,h1],fun {cs} hp i v u hv hu=> ?_⟩
  rw [cP,e1] at hu
  split at hu
  · rename_i hi
    simp only [sIE] at hu
    subst hu
    exact e3 i v hi (hp i v _ hv (by rw [cP,if_pos hi]))
  · rename_i hi
    refine h3 (cs:=cs.drop (wid s)) (fun k u t hu ht=> ?_) (i - wid s) v u (by rw [List.getElem?_drop,show wid s+(i - wid s)=i by omega];exact hv) hu
    rw [List.getElem?_drop] at hu
    exact hp _ u t hu (by rw [cP,if_neg (by omega),show wid s+k - wid s=k by omega];exact ht)
 | [],_::_,h,_=>by simp at h
 |_::_, [],h,_=>by simp at h
theorem vH(h:(bz s||gn s)=true)(i:Nat):bz (atR s i)=true:=by
 rw [Bool.or_eq_true] at h
 rcases h with h|h
 · rw [rg (gI h)];exact h
 · cases s<;>first| (cases h;done) |rfl|skip
   simp only [atR,cl]
   rename_i n g
   cases hc:bz (g i 0)
   · rfl
   · exact hc
theorem Is(h:zOk l=true): ∀ t∈aj l,bz t=true:=by
 induction l with
 |nil=>intro t ht;cases ht
 |cons s l ih=>
  intro t ht
  have h':(bz s||gn s)=true∧zOk l=true:=by simpa [zOk] using h
  rw [aj,List.mem_append] at ht
  rcases ht with ht|ht
  · obtain ⟨i,hi⟩:=List.mem_iff_getElem?.1 ht
    have hlt:i<wid s:=by have:=(List.getElem?_eq_some_iff.1 hi).1;rwa [cz] at this
    rw [iZ hlt] at hi
    rw [<-Option.some.inj hi]
    exact vH h'.1 i
  · exact ih h'.2 t ht
theorem qr(h:(bz s||gn s)=true)(hr:aH s=true)(k:Nat): ¬ cA k s:=by
 rw [Bool.or_eq_true] at h
 rcases h with h|h
 · rw [gI h] at hr;cases hr
 · cases s<;>first| (cases h;done) |exact fun h=>h
theorem gV{k lo n c:Nat}{a:Option Addr}(hn:n<=c)(h: ∃ a0 n0 c0,v= .slice a0 n0 c0∧lo+n<=n0∧lo+c=c0∧(0<c-> ∃ g,a0=some ⟨g,0,none⟩∧a=some ⟨g,lo*k,none⟩)):
 0<n-> ∃ g n0 c0,v= .slice (some ⟨g,0,none⟩) n0 c0∧lo+n<=n0∧a=some ⟨g,lo*k,none⟩:=fun h0=>by
 obtain ⟨a0,n0,c0,e,h1,h2,h3⟩:=h
 obtain ⟨g,rfl,e2⟩:=h3 (by omega)
 exact ⟨g,n0,c0,e,h1,e2⟩
structure Keep (rw:Nat->Prop) (w w':World):Prop where
 os:w'.os=w.os
 tape:w'.tape=w.tape
 output:w'.output=w.output
 size:w.heap.size<=w'.heap.size
 block: ∀ b,b<w.heap.size-> ¬ rw b->w'.heap[b]? =w.heap[b]?
theorem Keep.refl(rw:Nat->Prop)(w:World):Keep rw w w:=⟨rfl,rfl,rfl,Nat.le_refl _,fun _ _ _=>rfl⟩
theorem Keep.trans{rw rw':Nat->Prop}{w w' w'':World}(h:Keep rw w w')(h':Keep rw' w' w'')(hr: ∀ b,b<w.heap.size->rw' b->rw b):Keep rw w w'':=
 ⟨h'.os.trans h.os,h'.tape.trans h.tape,h'.output.trans h.output,Nat.le_trans h.size h'.size,
  fun b hb hn=>(h'.block b (Nat.lt_of_lt_of_le hb h.size) (fun e=>hn (hr b hb e))).trans (h.block b hb hn)⟩
theorem Keep.mono{rw rw':Nat->Prop}(h:Keep rw w w')(hr: ∀ b,b<w.heap.size->rw b->rw' b):Keep rw' w w':=
 ⟨h.os,h.tape,h.output,h.size,fun b hb hn=>h.block b hb (fun e=>hn (hr b hb e))⟩
abbrev Ext (w w':World):Prop:=Keep (fun _=>False) w w'
theorem Ext.keep(h:Ext w w')(rw:Nat->Prop):Keep rw w w':=h.mono fun _ _ e=>e.elim
theorem Ext.below(h:Ext w w'):Below w.heap.size w w':=⟨h.os,h.tape,h.output,h.size,fun k hk=>h.block k hk id⟩
theorem Ext.of_below(h:Below w.heap.size w w'):Ext w w':=⟨h.os,h.tape,h.output,h.size,fun k hk _=>h.block k hk⟩
theorem Ext.trans{w w' w'':World}(h:Ext w w')(h':Ext w' w''):Ext w w'':=Keep.trans h h' fun _ _ e=>e
theorem Ext.drew(w:World):Ext w { w with drawn:=w.drawn+1 } :=⟨rfl,rfl,rfl,Nat.le_refl _,fun _ _ _=>rfl⟩
theorem Ext.alloc(w:World)(o:Obj):Ext w (w.alloc o):= .of_below ((Below.refl _ _).alloc (Nat.le_refl _) o)
theorem Keep.cell(h:Keep rw w w'){a:Addr}(hn: ¬ rw a.block)(hc:w.cell? a=some v):w'.cell? a=some v:=by
 rw [World.cell?_of_block (h.block a.block (World.block_lt_of_cell? _ _ hc) hn)];exact hc
theorem b9(a:Addr)(n:Nat):(a.add n).block=a.block:=by unfold Addr.add;split<;>rfl
theorem pR(a:Addr)(i j:Nat):(a.add i).add j=a.add (i+j):=by
 unfold Addr.add
 by_cases hi:i=0<;>by_cases hj:j=0<;>simp [hi,hj,Nat.add_assoc]
theorem RelC.rel{w:World}(h:RelC w rw v s):Rel w ρ rw N v s:=by
 cases h with
 |any v=>exact .any v
 |int k n=>exact .int k n
 |bool b=>exact .bool b
 |str s=>exact .str s
 |flt b=>exact .flt b
 |cpx a b=>exact .cpx a b
 |nilp=>exact .nilp
 |nils=>exact .nils
 |slc a n c k f g hn hc ha hr=>exact .slc a n c k f g hn hc ha hr
 |val v=>exact .val v
 |emp a=>exact .emp a
 |clo f=>exact .clo f #[] [] rfl (fun i v s h=>by simp at h) (fun k h=>by obtain ⟨s,h,_⟩:=h;cases h)
 |ifc t v s h=>exact .ifc t v s h
 |mth f v s h=>exact .mth f v s h
theorem RelC.mono{rw rw':Nat->Prop}(hk:Keep rw w w')(hr: ∀ b,b<w.heap.size->rw' b->rw b)(h:RelC w rw v s):RelC w' rw' v s:=by
 induction h with
 |any v=>exact .any v
 |int k n=>exact .int k n
 |bool b=>exact .bool b
 |str s=>exact .str s
 |flt b=>exact .flt b
 |cpx a b=>exact .cpx a b
 |nilp=>exact .nilp
 |nils=>exact .nils
 |slc a n c k f g hn hc ha hr' ih=>
  refine .slc a n c k f g hn (fun i j hi hj=> ?_) ha ih
  obtain ⟨ad,e,h1,h2,h3⟩:=hc i j hi hj
  have hb:=World.block_lt_of_cell? _ _ h1
  rw [b9] at hb
  exact ⟨ad,e,hk.cell (by rw [b9];exact h3) h1,h2,fun e=>h3 (hr _ hb e)⟩
 |val v=>exact .val v
 |emp a=>exact .emp a
 |clo f=>exact .clo f
 |ifc t v s h=>exact .ifc t v s h
 |mth f v s h=>exact .mth f v s h
inductive Ceq:SV->SV->Prop where
 |refl (s:SV):Ceq s s
 |slc (n k:Nat) (f g:Nat->Nat->SV) (h: ∀ i j,i<n->j<k->Ceq (f i j) (g i j)):Ceq (.slc n k f) (.slc n k g)
 |nils (k:Nat) (f:Nat->Nat->SV):Ceq .nils (.slc 0 k f)
 |emp (k:Nat) (f:Nat->Nat->SV):Ceq .emp (.slc 0 k f)
theorem RelC.ceq{w:World}{s t:SV}(e:Ceq s t): ∀ {v:Value},RelC w rw v s->RelC w rw v t:=by
 induction e with
 |refl s=>exact fun h=>h
 |slc n k f g he ih=>
  intro v h
  cases h with
  |slc a _ c _ _ g2 hn hc ha hr=>exact .slc a n c k g g2 hn hc ha fun i j hi hj=>ih i j hi hj (hr i j hi hj)
 |nils k f=>
  intro v h
  cases h
  exact .slc none 0 0 k f (fun _ _=>undef) (Nat.le_refl _) (fun i j hi=>absurd hi (by omega)) (fun h=>absurd h (by omega)) (fun i j hi=>absurd hi (by omega))
 |emp k f=>
  intro v h
  cases h with
  |emp a=>exact .slc a 0 0 k f (fun _ _=>undef) (Nat.le_refl _) (fun i j hi=>absurd hi (by omega)) (fun h=>absurd h (by omega)) (fun i j hi=>absurd hi (by omega))
theorem Ceq.trans{s t u:SV}(h:Ceq s t):Ceq t u->Ceq s u:=by
 induction h generalizing u with
 |refl s=>exact fun h=>h
 |slc n k f g he ih=>
  intro h
  generalize ht:SV.slc n k g=t at h
  cases h with
  |refl=>subst ht;exact .slc _ _ _ _ he
  |slc n' k' f' g' h'=>cases ht;exact .slc _ _ _ _ fun i j hi hj=>ih i j hi hj (h' i j hi hj)
  |nils=>cases ht
  |emp=>cases ht
 |nils k f=>
  intro h
  generalize ht:SV.slc 0 k f=t at h
  cases h with
  |refl=>subst ht;exact .nils _ _
  |slc n' k' f' g' h'=>cases ht;exact .nils _ _
  |nils=>cases ht
  |emp=>cases ht
 |emp k f=>
  intro h
  generalize ht:SV.slc 0 k f=t at h
  cases h with
  |refl=>subst ht;exact .emp _ _
  |slc n' k' f' g' h'=>cases ht;exact .emp _ _
  |nils=>cases ht
  |emp=>cases ht
theorem Ceq.of_eq{s t:SV}(h:s=t):Ceq s t:=h▸ .refl s
@[simp] theorem Ceq.rfl'  :Ceq s s:= .refl s
@[simp] theorem Ceq.int  {k:IntKind} {n:Int} :Ceq s (.int k n)↔s= .int k n:=⟨fun h=>by cases h;rfl, .of_eq⟩
@[simp] theorem Ceq.bool  {b:Bool} :Ceq s (.bool b)↔s= .bool b:=⟨fun h=>by cases h;rfl, .of_eq⟩
@[simp] theorem Ceq.str  {b:List UInt8} :Ceq s (.str b)↔s= .str b:=⟨fun h=>by cases h;rfl, .of_eq⟩
theorem RelC.ext(hk:Ext w w')(h:RelC w rw v s):RelC w' rw v s:=h.mono (hk.keep rw) fun _ _ e=>e
theorem Rel.mono{w w':World}{ρ ρ':Nat->Value}{rw rw':Nat->Prop}{N N':Nat->Prop}(hN: ∀ k,N k->N' k)(hρ: ∀ k,N k->ρ' k=ρ k)
 (hk:Keep rw w w') (hr: ∀ b,b<w.heap.size->rw' b->rw b) {v:Value} {s:SV} (h:Rel w ρ rw N v s):Rel w' ρ' rw' N' v s:=by
 induction h with
 |any v=>exact .any v
 |un=>exact .un
 |int k n=>exact .int k n
 |bool b=>exact .bool b
 |str s=>exact .str s
 |flt b=>exact .flt b
 |cpx a b=>exact .cpx a b
 |nilp=>exact .nilp
 |nils=>exact .nils
 |ptr key off g hk' h=>exact .ptr key off g (hN _ hk') ((hρ key hk').trans h)
 |rop a k f g hs hc hr'=>
  refine .rop a k f g hs (fun j hj=> ?_) fun j hj=>(hr' j hj).mono hk hr
  obtain ⟨h1,h2,h3⟩:=hc j hj
  have hb:=World.block_lt_of_cell? _ _ h1
  rw [b9] at hb
  exact ⟨hk.cell (by rw [b9];exact h3) h1,h2,fun e=>h3 (hr _ hb e)⟩
 |slc a n c k f g hn hc ha hr'=>
  refine .slc a n c k f g hn (fun i j hi hj=> ?_) ha fun i j hi hj=>(hr' i j hi hj).mono hk hr
  obtain ⟨ad,e,h1,h2,h3⟩:=hc i j hi hj
  have hb:=World.block_lt_of_cell? _ _ h1
  rw [b9] at hb
  exact ⟨ad,e,hk.cell (by rw [b9];exact h3) h1,h2,fun e=>h3 (hr _ hb e)⟩
 |own key hk' h1=>rw [<-hρ key hk'] at h1 ⊢;exact .own key (hN _ hk') h1
 |eptr key k i off g n c hk' h hi=>exact .eptr key k i off g n c (hN _ hk') ((hρ key hk').trans h) hi
 |agg cs l hl h1 h hm ih=>exact .agg cs l hl h1 ih fun s hs hr k hk=>hN k (hm s hs hr k hk)
 |tup cs l hl h ih=>exact .tup cs l hl ih
 |opt c v s h h0 hm ih=>exact .opt c v s ih h0 fun k hk=>hN k (hm k hk)
 |val v=>exact .val v
 |emp a=>exact .emp a
 |part key k lo n a c hk' hn h=>exact .part key k lo n a c (hN _ hk') hn (by rw [hρ key hk'];exact h)
 |kid key fam i hk' hf h1 hi=>rw [<-hρ fam hf] at h1 hi ⊢;rw [<-hρ key hk'] at hi;exact .kid key fam i (hN _ hk') (hN _ hf) h1 hi
 |iptr key base n i g hk' h hi=>exact .iptr key base n i g (hN _ hk') ((hρ key hk').trans h) hi
 |fkid key fam n i hk' hf hi h1=>rw [<-hρ fam hf] at h1 ⊢;exact .fkid key fam n i (hN _ hk') (hN _ hf) hi h1
 |clo f cs l hl h hm ih=>exact .clo f cs l hl ih fun k hk=>hN k (hm k hk)
 |ifc t v s h=>exact .ifc t v s h
 |mth f v s h=>exact .mth f v s h
theorem Rel.ext(hk:Ext w w')(h:Rel w ρ rw N v s):Rel w' ρ rw N v s:=
 h.mono (fun _ h=>h) (fun _ _=>rfl) (hk.keep rw) fun _ _ e=>e
theorem Rel.ceq{w:World}{rw N:Nat->Prop}{s t:SV}(e:Ceq s t)(h:Rel w ρ rw N v s):Rel w ρ rw N v t:=by
 cases e with
 |refl=>exact h
 |slc n k f g he=>
  cases h with
  |slc a _ c _ _ g2 hn hc ha hr=>exact .slc a n c k g g2 hn hc ha fun i j hi hj=>(hr i j hi hj).ceq (he i j hi hj)
 |nils k f=>
  cases h
  exact .slc none 0 0 k f (fun _ _=>undef) (Nat.le_refl _) (fun i j hi=>absurd hi (by omega)) (fun h=>absurd h (by omega)) (fun i j hi=>absurd hi (by omega))
 |emp k f=>
  cases h with
  |emp a=>exact .slc a 0 0 k f (fun _ _=>undef) (Nat.le_refl _) (fun i j hi=>absurd hi (by omega)) (fun h=>absurd h (by omega)) (fun i j hi=>absurd hi (by omega))
theorem bW: ∀(l:List SV) (i:Nat),ap l i=l[i]?.getD .un
 | [],_=>rfl
 |_::_,0=>rfl
 |_::l,n+1=>by simpa [ap] using bW l n
theorem i4: ∀(l:List SV) (i:Nat) (x:SV),dL l i x=l.set i x
 | [],_,_=>rfl
 |_::_,0,_=>rfl
 |_::l,n+1,x=>by simpa [dL] using i4 l n x
theorem dW: ∀ l:List SV,len l=l.length
 | [] =>rfl
 |_::l=>by simp [len,dW l]
theorem lK: ∀(l:List SV) (o n:Nat),fT l o n=(l.drop o).take n
 | [],o,n=>by simp [fT]
 |_::_,0,0=>by simp [fT]
 |x::l,0,n+1=>by simp [fT,lK l 0 n]
 |_::l,o+1,n=>by simp [fT,lK l o n]
theorem jU(f:Nat->SV): ∀(n i j:Nat),(bv f i n)[j]? =if j<n then some (f (i+j)) else none
 |0,i,j=>by simp [bv]
 |n+1,i,0=>by simp [bv]
 |n+1,i,j+1=>by
  rw [bv,List.getElem?_cons_succ,jU f n (i+1) j]
  by_cases h:j<n
  · simp [h,show i+1+j=i+(j+1) by omega]
  · simp [h]
theorem gW(f:Nat->SV): ∀(n i:Nat),(bv f i n).length=n
 |0,i=>rfl
 |n+1,i=>by simp [bv,gW f n (i+1)]
def av:Value->Option Nat
 | .pointer (some a)=>some a.block
 | .slice (some a) _ (_+1)=>some a.block
 | .map (some r)=>some r
 |_=>none
theorem aV{a:Addr}{n c:Nat}(h:0<c):av (.slice (some a) n c)=some a.block:=by
 cases c with
 |zero=>omega
 |succ c=>rfl
theorem fq(a:Option Addr)(n:Nat):av (.slice a n 0)=none:=by cases a<;>rfl
def isC (w:World)(g:Nat)(cur:Array Value)(e:TypeId)(k:Nat):Prop:= ∃ mk:Nat×Nat,w.heap[g]? =some (.cells cur e mk)∧(mk=(0,0)∨mk=(cur.size,cur.size+1)∧k=1)
theorem isC.lt{w:World}(h:isC w g cur e k):g<w.heap.size:=by
 obtain ⟨mk,h,_⟩:=h
 exact (Array.getElem?_eq_some_iff.1 h).1
theorem isC.of{w:World}(h:w.heap[g]? =some (.cells cur e (0,0))):isC w g cur e k:=⟨_,h, .inl rfl⟩
theorem isC.same(h:isC w g cur e k)(hb:w'.heap[g]? =w.heap[g]?):isC w' g cur e k:=by
 obtain ⟨mk,h,hm⟩:=h
 exact ⟨mk,hb.trans h,hm⟩
def bD (w:World)(e:TypeId)(size:Nat)(v:Value)(n:Nat)(xs:List Value):Prop:=
 xs.length=n*size∧
 ((∃ a,v= .slice a 0 0)∧n=0∨
  ∃ g cap cur,v= .slice (some ⟨g,0,none⟩) n cap∧0<cap∧isC w g cur e size∧n<=cap∧cap<=maxLen∧cur.size=cap*size∧cur.toList.take (n*size)=xs)
theorem rh{w:World}{size:Nat}{n:Nat}{b:Nat}(h:w.ownsRow b e size v n xs):bD w e size v n xs:=by
 refine ⟨h.1, ?_⟩
 rcases h.2 with ⟨rfl,rfl⟩ | ⟨g,cap,cur,rfl,_,h3,h4,h5⟩
 · exact .inl ⟨⟨_,rfl⟩,rfl⟩
 · rcases Nat.eq_zero_or_pos cap with h0|h0
   · subst h0
     obtain rfl:n=0:=by omega
     exact .inl ⟨⟨_,rfl⟩,rfl⟩
   · exact .inr ⟨g,cap,cur,rfl,h0, .of h3,h4,h5⟩
def Kids.own (K:Kids)(i:Nat):Prop:=i<K.n∧(K.hl≠some i∧ ∀ p,K.ow=some p->i<p)
def fX (ρ:Nat->Value):Blk->Nat->Prop
 | .krow _ K,g=> ∃ i,K.own i∧av (bU (ρ K.fam) i)=some g
 | .kids K,g=> ∃ i,K.own i∧av (bU (ρ K.fam) i)=some g
 |_,_=>False
def hasB (ρ:Nat->Value)(e:Nat×Blk)(g:Nat):Prop:=av (ρ e.1)=some g∨fX ρ e.2 g
def bB (ρ:Nat->Value)(m:Mem)(b:Nat):Prop:= ∃ e∈m,hasB ρ e b
def ae (F:Nat->Prop)(ρ:Nat->Value)(m:Mem)(b:Nat):Prop:=F b∨bB ρ m b
structure KidsOk (w:World) (ρ:Nat->Value) (rw:Nat->Prop) (N:Nat->Prop) (g0:Option Nat) (xs:List Value) (K:Kids):Prop where
 key:N K.fam
 len:xs.length=K.n
 size: ∀ arr,ρ K.fam= .agg arr->arr.size=K.n
 zero:(∀ arr,ρ K.fam≠ .agg arr)-> ∀ i,i<K.n->(∀ p,K.ow=some p->i<p)->K.ns i=0
 name: ∀ i,K.own i->xs[i]? =some (bU (ρ K.fam) i)
 row: ∀ i,K.own i-> ∃ ys,bD w K.e K.k (bU (ρ K.fam) i) (K.ns i) ys∧(∀ v∈ys,one v)∧ ∀ x j v,x<K.ns i->j<K.k->ys[x*K.k+j]? =some v->RelC w rw v (K.f i x j)
 frz: ∀ i v p,i<K.n->K.hl≠some i->K.ow=some p-> ¬ i<p->xs[i]? =some v->RelC w rw v (.slc (K.ns i) K.k (K.f i))
 apart: ∀ i j,i≠j->K.own i->K.own j-> ∀ g,av (bU (ρ K.fam) i)=some g->av (bU (ρ K.fam) j)≠some g
 outer: ∀ i,K.own i-> ∀ g,av (bU (ρ K.fam) i)=some g->g0≠some g
def iu (vb:Bool)(x:(Int×List UInt8)×Int):Value×Value:=(.agg #[.int .u32 x.1.1, .string ⟨x.1.2.toArray⟩],bif vb then .bool (x.2 !=0) else .int .i64 x.2)
def dv (w:World)(ρ:Nat->Value)(rw:Nat->Prop)(N:Nat->Prop)(key:Nat):Blk->Prop
 | .box t cells=> ∃(g:Nat) (arr:Array Value),ρ key= .pointer (some ⟨g,0,none⟩)∧w.heap[g]? =some (.cells arr t (0,0))∧arr.size=(aj cells).length∧
    (∀ v∈arr.toList,one v)∧(∀(i:Nat) v s,arr[i]? =some v->(aj cells)[i]? =some s->Rel w ρ rw N v s)∧bR N cells
 | .row e k n f=> ∃ xs:List Value,bD w e k (ρ key) n xs∧(∀ v∈xs,one v)∧ ∀ i j v,i<n->j<k->xs[i*k+j]? =some v->RelC w rw v (f i j)
 | .krow e K=> ∃ xs:List Value,bD w e 1 (ρ key) K.n xs∧(∀ v∈xs,one v)∧KidsOk w ρ rw N (av (ρ key)) xs K
 | .kids K=>av (ρ key)=none∧(K.ow=none∧ ∃ xs:List Value,(∀ v∈xs,one v)∧KidsOk w ρ rw N none xs K)
 | .kmap t vb M=> ∃(r:Nat) (es:Array MapEntry) (clock:Nat),ρ key= .map (some r)∧w.heap[r]? =some (.map es clock)∧es.toList.map (fun e=>(e.key,e.val))=M.map (iu vb)
def cf (ρ:Nat->Value)(e e':Nat×Blk):Prop:=e.1≠e'.1∧ ∀ b,hasB ρ e b-> ¬ hasB ρ e' b
structure MemOk (F:Nat->Prop) (w:World) (ρ:Nat->Value) (m:Mem) (N:Nat->Prop):Prop where
 blk: ∀ e∈m,dv w ρ (ae F ρ m) N e.1 e.2
 key: ∀ e∈m,N e.1
 apart:m.Pairwise (cf ρ)
 frg: ∀ b,F b->b<w.heap.size
 sorted:m.Pairwise fun e e'=>e'.1<e.1
theorem bD.lt{w:World}{e k n b:Nat}(h:bD w e k v n xs)(hb:av v=some b):b<w.heap.size:=by
 obtain ⟨_,h⟩:=h
 rcases h with ⟨⟨a,e⟩,_⟩ | ⟨g,cap,cur,e,h0,hg,_⟩
 · rw [e,fq] at hb;cases hb
 · rw [e,aV h0] at hb
   simp at hb
   subst hb
   exact hg.lt
theorem bD.same{e k n:Nat}(h:bD w e k v n xs)(hb: ∀ b,av v=some b->w'.heap[b]? =w.heap[b]?):bD w' e k v n xs:=by
 obtain ⟨hl,h⟩:=h
 refine ⟨hl, ?_⟩
 rcases h with h| ⟨g,cap,cur,e,h0,hg,r⟩
 · exact .inl h
 · exact .inr ⟨g,cap,cur,e,h0,hg.same (hb g (by rw [e,aV h0])),r⟩
theorem dv.lt{w:World}{key b:Nat}(h:dv w ρ rw N key x)(hb:hasB ρ (key,x) b):b<w.heap.size:=by
 rcases hb with hb|hb
 · cases x with
   |box t cells=>
    obtain ⟨g,arr,e,hg,_⟩:=h
    simp only at hb
    rw [e] at hb
    simp [av] at hb
    subst hb
    exact (Array.getElem?_eq_some_iff.1 hg).1
   |row e k n f=>
    obtain ⟨xs,h,_⟩:=h
    exact h.lt hb
   |krow e K=>
    obtain ⟨xs,h,_⟩:=h
    exact h.lt hb
   |kids K=>
    rw [h.1] at hb
    cases hb
   |kmap t vb M=>
    obtain ⟨r,es,clock,e,hg,_⟩:=h
    simp only at hb
    rw [e] at hb
    simp [av] at hb
    subst hb
    exact (Array.getElem?_eq_some_iff.1 hg).1
 · cases x with
   |box t cells=>exact hb.elim
   |row e k n f=>exact hb.elim
   |krow e K=>
    obtain ⟨xs,_,_,h⟩:=h
    obtain ⟨i,hi,hb⟩:=hb
    obtain ⟨ys,h,_⟩:=h.row i hi
    exact h.lt hb
   |kids K=>
    obtain ⟨_,_,xs,_,h⟩:=h
    obtain ⟨i,hi,hb⟩:=hb
    obtain ⟨ys,h,_⟩:=h.row i hi
    exact h.lt hb
   |kmap t vb M=>exact hb.elim
theorem MemOk.lt{F:Nat->Prop}{w:World}{m:Mem}{b:Nat}(h:MemOk F w ρ m N)(hb:ae F ρ m b):b<w.heap.size:=by
 rcases hb with hb| ⟨e,he,hb⟩
 · exact h.frg b hb
 · exact (h.blk e he).lt hb
theorem KidsOk.mono{w w':World}{ρ ρ':Nat->Value}{rw rw':Nat->Prop}{N N':Nat->Prop}{g0:Option Nat}{K:Kids}(h:KidsOk w ρ rw N g0 xs K)
 (hN: ∀ k,N k->N' k) (hρ: ∀ k,N k->ρ' k=ρ k) (hk:Keep rw w w') (hr: ∀ b,b<w.heap.size->rw' b->rw b)
 (hb: ∀ i,K.own i-> ∀ b,av (bU (ρ K.fam) i)=some b->w'.heap[b]? =w.heap[b]?):KidsOk w' ρ' rw' N' g0 xs K:=by
 have e:=hρ K.fam h.key
 refine ⟨hN _ h.key,h.len,by rw [e];exact h.size,by rw [e];exact h.zero,by rw [e];exact h.name,fun i hi=> ?_,fun i v p h1 h2 h3 h4 h5=>(h.frz i v p h1 h2 h3 h4 h5).mono hk hr,by rw [e];exact h.apart,by rw [e];exact h.outer⟩
 rw [e]
 obtain ⟨ys,h1,h2,h3⟩:=h.row i hi
 exact ⟨ys,h1.same (hb i hi),h2,fun x j v hx hj hv=>(h3 x j v hx hj hv).mono hk hr⟩
theorem dv.mono{w w':World}{ρ ρ':Nat->Value}{rw rw':Nat->Prop}{N N':Nat->Prop}{key:Nat}(h:dv w ρ rw N key x)(hkey:N key)
 (hN: ∀ k,N k->N' k) (hρ: ∀ k,N k->ρ' k=ρ k) (hk:Keep rw w w') (hr: ∀ b,b<w.heap.size->rw' b->rw b)
 (hb: ∀ b,hasB ρ (key,x) b->w'.heap[b]? =w.heap[b]?):dv w' ρ' rw' N' key x:=by
 cases x with
 |box t cells=>
  obtain ⟨g,arr,e,hg,hs,h1,hrel,hm⟩:=h
  exact ⟨g,arr,(hρ _ hkey).trans e,(hb g (.inl (by simp only;rw [e];rfl))).trans hg,hs,h1,fun i v s hv hs'=>(hrel i v s hv hs').mono hN hρ hk hr,fun s hs hr k hk=>hN k (hm s hs hr k hk)⟩
 |row e k n f=>
  obtain ⟨xs,h,h1,hrel⟩:=h
  refine ⟨xs, ?_,h1,fun i j v hi hj hv=>(hrel i j v hi hj hv).mono hk hr⟩
  rw [hρ _ hkey]
  exact h.same fun b h=>hb b (.inl h)
 |krow e K=>
  obtain ⟨xs,h,h1,hK⟩:=h
  refine ⟨xs, ?_,h1, ?_⟩
  · rw [hρ _ hkey]
    exact h.same fun b h=>hb b (.inl h)
  · rw [hρ _ hkey]
    exact hK.mono hN hρ hk hr fun i hi b h=>hb b (.inr ⟨i,hi,h⟩)
 |kids K=>
  obtain ⟨h0,ho,xs,h1,hK⟩:=h
  exact ⟨by rw [hρ _ hkey];exact h0,ho,xs,h1,hK.mono hN hρ hk hr fun i hi b h=>hb b (.inr ⟨i,hi,h⟩)⟩
 |kmap t vb M=>
  obtain ⟨r,es,clock,e,hg,hm⟩:=h
  exact ⟨r,es,clock,(hρ _ hkey).trans e,(hb r (.inl (by simp only;rw [e];rfl))).trans hg,hm⟩
theorem Iu{w:World}{ρ ρ':Nat->Value}{key:Nat}(h:dv w ρ rw N key x)(hρ: ∀ k,N k->ρ' k=ρ k)(g:Nat):fX ρ' x g↔fX ρ x g:=by
 cases x with
 |box t cells=>exact Iff.rfl
 |row e k n f=>exact Iff.rfl
 |krow e K=>
  obtain ⟨xs,_,_,h⟩:=h
  simp only [fX,hρ K.fam h.key]
 |kids K=>
  obtain ⟨_,_,xs,_,h⟩:=h
  simp only [fX,hρ K.fam h.key]
 |kmap t vb M=>exact Iff.rfl
theorem MemOk.ext{F:Nat->Prop}{m:Mem}(h:MemOk F w ρ m N)(hk:Ext w w'):MemOk F w' ρ m N:=
 ⟨fun e he=>(h.blk e he).mono (h.key e he) (fun _ h=>h) (fun _ _=>rfl) (hk.keep _) (fun _ _ e=>e) (fun b hb=>hk.block b ((h.blk e he).lt hb) id),h.key,h.apart,fun b hb=>Nat.lt_of_lt_of_le (h.frg b hb) hk.size,h.sorted⟩
end Go.Vd
