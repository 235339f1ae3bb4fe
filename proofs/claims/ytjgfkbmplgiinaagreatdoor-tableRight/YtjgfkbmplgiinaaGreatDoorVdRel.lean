/- What a symbolic value says of a value in a world; what a symbolic state says of a state. -/
import Derived.Test.YtjgfkbmplgiinaaGreatDoorVdDefs
import Derived.Below
import Derived.Orders
import Derived.Laws.Cells
import Derived.Laws.Rows
import Derived.Laws.CopyRow
import Derived.Laws.Entries
import Derived.Maps.AppendAt
set_option linter.unusedVariables false
namespace Go.Vd
open Go.RowKit

def one (v : Value) : Prop := v.oneCell' = true

/-- The keys that a symbolic value names, not those within what it holds. -/
def ment0 (k : Nat) : SV → Prop
  | .ptr q _ => q = k
  | .own q => q = k
  | .eptr q _ _ _ => q = k
  | .part q _ _ _ => q = k
  | .kid q j _ => q = k ∨ j = k
  | _ => False
def ment1 (k : Nat) : SV → Prop
  | .clo _ l => ∃ s ∈ l, ment0 k s
  | s => ment0 k s
def ment2 (k : Nat) : SV → Prop
  | .agg l => ∃ s ∈ l, ment1 k s
  | s => ment1 k s
def ment3 (k : Nat) : SV → Prop
  | .tup l => ∃ s ∈ l, ment2 k s
  | s => ment2 k s
def ment (k : Nat) : SV → Prop
  | .opt _ s => ment3 k s
  | s => ment3 k s

/-- What speaks of no memory. -/
inductive RelF : Value → SV → Prop where
  | any (v : Value) : RelF v .any
  | un : RelF undef .un
  | int (k : IntKind) (n : Int) : RelF (.int k n) (.int k n)
  | bool (b : Bool) : RelF (.bool b) (.bool b)
  | str (s : ByteArray) : RelF (.string s) (.str s.data.toList)
  | flt (b : Nat) : RelF (.float .f64 b) (.flt b)
  | cpx (a b : Nat) : RelF (.complex .f64 a b) (.cpx a b)
  | nilp : RelF (.pointer none) .nilp
  | nils : RelF (.slice none 0 0) .nils
  | emp (a : Option Addr) : RelF (.slice a 0 0) .emp
  | clo (f : Nat) : RelF (.func (.func f) #[] #[]) (.clo f [])
  | ifc (t : Nat) (v : Value) (s : SV) (h : RelF v s) : RelF (.iface t v) (.ifc t s)
  | mth (f : Nat) (v : Value) (s : SV) (h : RelF v s) : RelF (.func (.func f) #[v] #[]) (.mth f s)
  | agg (cs : Array Value) (l : List SV) (hl : cs.size = l.length) (h1 : ∀ v ∈ cs.toList, one v)
      (h : ∀ (i : Nat) v s, cs[i]? = some v → l[i]? = some s → RelF v s) : RelF (.agg cs) (.agg l)
  | val (v : Value) : RelF v (.val v)

/-- What a cell in memory that nobody writes holds: nothing of the call's own. -/
inductive RelC (w : World) (rw : Nat → Prop) : Value → SV → Prop where
  | any (v : Value) : RelC w rw v .any
  | int (k : IntKind) (n : Int) : RelC w rw (.int k n) (.int k n)
  | bool (b : Bool) : RelC w rw (.bool b) (.bool b)
  | str (s : ByteArray) : RelC w rw (.string s) (.str s.data.toList)
  | flt (b : Nat) : RelC w rw (.float .f64 b) (.flt b)
  | cpx (a b : Nat) : RelC w rw (.complex .f64 a b) (.cpx a b)
  | nilp : RelC w rw (.pointer none) .nilp
  | nils : RelC w rw (.slice none 0 0) .nils
  | slc (a : Option Addr) (n c k : Nat) (f : Nat → Nat → SV) (g : Nat → Nat → Value) (hn : n ≤ c)
      (hc : ∀ i j, i < n → j < k → ∃ ad, a = some ad ∧ w.cell? (ad.add (i * k + j)) = some (g i j) ∧ one (g i j) ∧ ¬ rw ad.block)
      (ha : 0 < n → ∃ ad, a = some ad ∧ ad.spot = none)
      (hr : ∀ i j, i < n → j < k → RelC w rw (g i j) (f i j)) : RelC w rw (.slice a n c) (.slc n k f)
  | val (v : Value) : RelC w rw v (.val v)
  | emp (a : Option Addr) : RelC w rw (.slice a 0 0) .emp
  | clo (f : Nat) : RelC w rw (.func (.func f) #[] #[]) (.clo f [])
  | ifc (t : Nat) (v : Value) (s : SV) (h : RelF v s) : RelC w rw (.iface t v) (.ifc t s)
  | mth (f : Nat) (v : Value) (s : SV) (h : RelF v s) : RelC w rw (.func (.func f) #[v] #[]) (.mth f s)

/-- The i-th of the slices that a name stands for: nil, if it stands for none. -/
def kidV (v : Value) (i : Nat) : Value :=
  match v with
  | .agg arr => arr.getD i (.slice none 0 0)
  | _ => .slice none 0 0
/-- How many there are of them, where that is known. -/
def limV (fam key : Value) : Option Nat :=
  match fam, key with
  | .agg arr, _ => some arr.size
  | _, .slice _ n _ => some n
  | _, _ => none
inductive Rel (w : World) (ρ : Nat → Value) (rw : Nat → Prop) (N : Nat → Prop) : Value → SV → Prop where
  | any (v : Value) : Rel w ρ rw N v .any
  | un : Rel w ρ rw N undef .un
  | int (k : IntKind) (n : Int) : Rel w ρ rw N (.int k n) (.int k n)
  | bool (b : Bool) : Rel w ρ rw N (.bool b) (.bool b)
  | str (s : ByteArray) : Rel w ρ rw N (.string s) (.str s.data.toList)
  | flt (b : Nat) : Rel w ρ rw N (.float .f64 b) (.flt b)
  | cpx (a b : Nat) : Rel w ρ rw N (.complex .f64 a b) (.cpx a b)
  | nilp : Rel w ρ rw N (.pointer none) .nilp
  | nils : Rel w ρ rw N (.slice none 0 0) .nils
  | ptr (key off g : Nat) (hk : N key) (h : ρ key = .pointer (some ⟨g, 0, none⟩)) : Rel w ρ rw N (.pointer (some ⟨g, off, none⟩)) (.ptr key off)
  | rop (a : Addr) (k : Nat) (f : Nat → SV) (g : Nat → Value) (hs : a.spot = none)
      (hc : ∀ j, j < k → w.cell? (a.add j) = some (g j) ∧ one (g j) ∧ ¬ rw a.block)
      (hr : ∀ j, j < k → RelC w rw (g j) (f j)) : Rel w ρ rw N (.pointer (some a)) (.rop k f)
  | slc (a : Option Addr) (n c k : Nat) (f : Nat → Nat → SV) (g : Nat → Nat → Value) (hn : n ≤ c)
      (hc : ∀ i j, i < n → j < k → ∃ ad, a = some ad ∧ w.cell? (ad.add (i * k + j)) = some (g i j) ∧ one (g i j) ∧ ¬ rw ad.block)
      (ha : 0 < n → ∃ ad, a = some ad ∧ ad.spot = none)
      (hr : ∀ i j, i < n → j < k → RelC w rw (g i j) (f i j)) : Rel w ρ rw N (.slice a n c) (.slc n k f)
  | own (key : Nat) (hk : N key) (h1 : one (ρ key)) : Rel w ρ rw N (ρ key) (.own key)
  | eptr (key k i off g n c : Nat) (hk : N key) (h : ρ key = .slice (some ⟨g, 0, none⟩) n c) (hi : i < n) : Rel w ρ rw N (.pointer (some ⟨g, i * k + off, none⟩)) (.eptr key k i off)
  | agg (cs : Array Value) (l : List SV) (hl : cs.size = l.length) (h1 : ∀ v ∈ cs.toList, one v)
      (h : ∀ (i : Nat) v s, cs[i]? = some v → l[i]? = some s → Rel w ρ rw N v s) : Rel w ρ rw N (.agg cs) (.agg l)
  | tup (cs : Array Value) (l : List SV) (hl : cs.size = l.length)
      (h : ∀ (i : Nat) v s, cs[i]? = some v → l[i]? = some s → Rel w ρ rw N v s) : Rel w ρ rw N (.tuple cs) (.tup l)
  | opt (c : Bool) (v : Value) (s : SV) (h : c = true → Rel w ρ rw N v s) (h0 : c = false → v = undef) (hm : ∀ k, ment3 k s → N k) : Rel w ρ rw N v (.opt c s)
  | val (v : Value) : Rel w ρ rw N v (.val v)
  | emp (a : Option Addr) : Rel w ρ rw N (.slice a 0 0) .emp
  | part (key k lo n : Nat) (a : Option Addr) (c : Nat) (hk : N key) (hn : n ≤ c)
      (h : ∃ a0 n0 c0, ρ key = .slice a0 n0 c0 ∧ lo + n ≤ n0 ∧ lo + c = c0 ∧ (0 < c → ∃ g, a0 = some ⟨g, 0, none⟩ ∧ a = some ⟨g, lo * k, none⟩)) : Rel w ρ rw N (.slice a n c) (.part key k lo n)
  | kid (key fam i : Nat) (hk : N key) (hf : N fam) (h1 : one (kidV (ρ fam) i)) (hi : ∀ n, limV (ρ fam) (ρ key) = some n → i < n) : Rel w ρ rw N (kidV (ρ fam) i) (.kid key fam i)
  | clo (f : Nat) (cs : Array Value) (l : List SV) (hl : cs.size = l.length)
      (h : ∀ (i : Nat) v s, cs[i]? = some v → l[i]? = some s → Rel w ρ rw N v s) (hm : ∀ k, (∃ s ∈ l, ment0 k s) → N k) : Rel w ρ rw N (.func (.func f) #[] cs) (.clo f l)
  | ifc (t : Nat) (v : Value) (s : SV) (h : RelF v s) : Rel w ρ rw N (.iface t v) (.ifc t s)
  | mth (f : Nat) (v : Value) (s : SV) (h : RelF v s) : Rel w ρ rw N (.func (.func f) #[v] #[]) (.mth f s)

theorem part_old {v : Value} {k lo n c : Nat} {a : Option Addr} (hn : n ≤ c) (h : ∃ a0 n0 c0, v = .slice a0 n0 c0 ∧ lo + n ≤ n0 ∧ lo + c = c0 ∧ (0 < c → ∃ g, a0 = some ⟨g, 0, none⟩ ∧ a = some ⟨g, lo * k, none⟩)) :
    0 < n → ∃ g n0 c0, v = .slice (some ⟨g, 0, none⟩) n0 c0 ∧ lo + n ≤ n0 ∧ a = some ⟨g, lo * k, none⟩ := fun h0 => by
  obtain ⟨a0, n0, c0, e, h1, h2, h3⟩ := h
  obtain ⟨g, rfl, e2⟩ := h3 (by omega)
  exact ⟨g, n0, c0, e, h1, e2⟩

/-- Nothing has turned but blocks of rw, and what is new. -/
structure Keep (rw : Nat → Prop) (w w' : World) : Prop where
  os : w'.os = w.os
  tape : w'.tape = w.tape
  output : w'.output = w.output
  size : w.heap.size ≤ w'.heap.size
  block : ∀ b, b < w.heap.size → ¬ rw b → w'.heap[b]? = w.heap[b]?

theorem Keep.refl (rw : Nat → Prop) (w : World) : Keep rw w w := ⟨rfl, rfl, rfl, Nat.le_refl _, fun _ _ _ => rfl⟩
theorem Keep.trans {rw rw' : Nat → Prop} {w w' w'' : World} (h : Keep rw w w') (h' : Keep rw' w' w'') (hr : ∀ b, b < w.heap.size → rw' b → rw b) : Keep rw w w'' :=
  ⟨h'.os.trans h.os, h'.tape.trans h.tape, h'.output.trans h.output, Nat.le_trans h.size h'.size,
   fun b hb hn => (h'.block b (Nat.lt_of_lt_of_le hb h.size) (fun e => hn (hr b hb e))).trans (h.block b hb hn)⟩
theorem Keep.mono {rw rw' : Nat → Prop} {w w' : World} (h : Keep rw w w') (hr : ∀ b, b < w.heap.size → rw b → rw' b) : Keep rw' w w' :=
  ⟨h.os, h.tape, h.output, h.size, fun b hb hn => h.block b hb (fun e => hn (hr b hb e))⟩

/-- Nothing that was there has turned. -/
abbrev Ext (w w' : World) : Prop := Keep (fun _ => False) w w'
theorem Ext.keep {w w' : World} (h : Ext w w') (rw : Nat → Prop) : Keep rw w w' := h.mono fun _ _ e => e.elim
theorem Ext.below {w w' : World} (h : Ext w w') : Below w.heap.size w w' := ⟨h.os, h.tape, h.output, h.size, fun k hk => h.block k hk id⟩
theorem Ext.of_below {w w' : World} (h : Below w.heap.size w w') : Ext w w' := ⟨h.os, h.tape, h.output, h.size, fun k hk _ => h.block k hk⟩
theorem Ext.trans {w w' w'' : World} (h : Ext w w') (h' : Ext w' w'') : Ext w w'' := Keep.trans h h' fun _ _ e => e
theorem Ext.drew (w : World) : Ext w { w with drawn := w.drawn + 1 } := ⟨rfl, rfl, rfl, Nat.le_refl _, fun _ _ _ => rfl⟩
theorem Ext.alloc (w : World) (o : Obj) : Ext w (w.alloc o) := .of_below ((Below.refl _ _).alloc (Nat.le_refl _) o)

theorem Keep.cell {rw : Nat → Prop} {w w' : World} (h : Keep rw w w') {a : Addr} {v : Value} (hn : ¬ rw a.block) (hc : w.cell? a = some v) : w'.cell? a = some v := by
  rw [World.cell?_of_block (h.block a.block (World.block_lt_of_cell? _ _ hc) hn)]; exact hc

theorem block_add (a : Addr) (n : Nat) : (a.add n).block = a.block := by unfold Addr.add; split <;> rfl
theorem add_add (a : Addr) (i j : Nat) : (a.add i).add j = a.add (i + j) := by
  unfold Addr.add
  by_cases hi : i = 0 <;> by_cases hj : j = 0 <;> simp [hi, hj, Nat.add_assoc]

theorem RelC.rel {w : World} {ρ : Nat → Value} {rw : Nat → Prop} {N : Nat → Prop} {v : Value} {s : SV} (h : RelC w rw v s) : Rel w ρ rw N v s := by
  cases h with
  | any v => exact .any v
  | int k n => exact .int k n
  | bool b => exact .bool b
  | str s => exact .str s
  | flt b => exact .flt b
  | cpx a b => exact .cpx a b
  | nilp => exact .nilp
  | nils => exact .nils
  | slc a n c k f g hn hc ha hr => exact .slc a n c k f g hn hc ha hr
  | val v => exact .val v
  | emp a => exact .emp a
  | clo f => exact .clo f #[] [] rfl (fun i v s h => by simp at h) (fun k h => by obtain ⟨s, h, _⟩ := h; cases h)
  | ifc t v s h => exact .ifc t v s h
  | mth f v s h => exact .mth f v s h

theorem RelC.mono {w w' : World} {rw rw' : Nat → Prop} (hk : Keep rw w w') (hr : ∀ b, b < w.heap.size → rw' b → rw b) {v : Value} {s : SV} (h : RelC w rw v s) : RelC w' rw' v s := by
  induction h with
  | any v => exact .any v
  | int k n => exact .int k n
  | bool b => exact .bool b
  | str s => exact .str s
  | flt b => exact .flt b
  | cpx a b => exact .cpx a b
  | nilp => exact .nilp
  | nils => exact .nils
  | slc a n c k f g hn hc ha hr' ih =>
    refine .slc a n c k f g hn (fun i j hi hj => ?_) ha ih
    obtain ⟨ad, e, h1, h2, h3⟩ := hc i j hi hj
    have hb := World.block_lt_of_cell? _ _ h1
    rw [block_add] at hb
    exact ⟨ad, e, hk.cell (by rw [block_add]; exact h3) h1, h2, fun e => h3 (hr _ hb e)⟩
  | val v => exact .val v
  | emp a => exact .emp a
  | clo f => exact .clo f
  | ifc t v s h => exact .ifc t v s h
  | mth f v s h => exact .mth f v s h
/-- Two cells that say the same, be their rows said otherwise beyond their ends. -/
inductive Ceq : SV → SV → Prop where
  | refl (s : SV) : Ceq s s
  | slc (n k : Nat) (f g : Nat → Nat → SV) (h : ∀ i j, i < n → j < k → Ceq (f i j) (g i j)) : Ceq (.slc n k f) (.slc n k g)
  | nils (k : Nat) (f : Nat → Nat → SV) : Ceq .nils (.slc 0 k f)
  | emp (k : Nat) (f : Nat → Nat → SV) : Ceq .emp (.slc 0 k f)
theorem RelC.ceq {w : World} {rw : Nat → Prop} {s t : SV} (e : Ceq s t) : ∀ {v : Value}, RelC w rw v s → RelC w rw v t := by
  induction e with
  | refl s => exact fun h => h
  | slc n k f g he ih =>
    intro v h
    cases h with
    | slc a _ c _ _ g2 hn hc ha hr => exact .slc a n c k g g2 hn hc ha fun i j hi hj => ih i j hi hj (hr i j hi hj)
  | nils k f =>
    intro v h
    cases h
    exact .slc none 0 0 k f (fun _ _ => undef) (Nat.le_refl _) (fun i j hi => absurd hi (by omega)) (fun h => absurd h (by omega)) (fun i j hi => absurd hi (by omega))
  | emp k f =>
    intro v h
    cases h with
    | emp a => exact .slc a 0 0 k f (fun _ _ => undef) (Nat.le_refl _) (fun i j hi => absurd hi (by omega)) (fun h => absurd h (by omega)) (fun i j hi => absurd hi (by omega))
theorem Ceq.trans {s t u : SV} (h : Ceq s t) : Ceq t u → Ceq s u := by
  induction h generalizing u with
  | refl s => exact fun h => h
  | slc n k f g he ih =>
    intro h
    generalize ht : SV.slc n k g = t at h
    cases h with
    | refl => subst ht; exact .slc _ _ _ _ he
    | slc n' k' f' g' h' => cases ht; exact .slc _ _ _ _ fun i j hi hj => ih i j hi hj (h' i j hi hj)
    | nils => cases ht
    | emp => cases ht
  | nils k f =>
    intro h
    generalize ht : SV.slc 0 k f = t at h
    cases h with
    | refl => subst ht; exact .nils _ _
    | slc n' k' f' g' h' => cases ht; exact .nils _ _
    | nils => cases ht
    | emp => cases ht
  | emp k f =>
    intro h
    generalize ht : SV.slc 0 k f = t at h
    cases h with
    | refl => subst ht; exact .emp _ _
    | slc n' k' f' g' h' => cases ht; exact .emp _ _
    | nils => cases ht
    | emp => cases ht
theorem Ceq.of_eq {s t : SV} (h : s = t) : Ceq s t := h ▸ .refl s
@[simp] theorem Ceq.rfl' {s : SV} : Ceq s s := .refl s
@[simp] theorem Ceq.int {s : SV} {k : IntKind} {n : Int} : Ceq s (.int k n) ↔ s = .int k n := ⟨fun h => by cases h; rfl, .of_eq⟩
@[simp] theorem Ceq.bool {s : SV} {b : Bool} : Ceq s (.bool b) ↔ s = .bool b := ⟨fun h => by cases h; rfl, .of_eq⟩
@[simp] theorem Ceq.str {s : SV} {b : List UInt8} : Ceq s (.str b) ↔ s = .str b := ⟨fun h => by cases h; rfl, .of_eq⟩
theorem RelC.ext {w w' : World} {rw : Nat → Prop} (hk : Ext w w') {v : Value} {s : SV} (h : RelC w rw v s) : RelC w' rw v s := h.mono (hk.keep rw) fun _ _ e => e

theorem Rel.mono {w w' : World} {ρ ρ' : Nat → Value} {rw rw' : Nat → Prop} {N N' : Nat → Prop} (hN : ∀ k, N k → N' k) (hρ : ∀ k, N k → ρ' k = ρ k)
    (hk : Keep rw w w') (hr : ∀ b, b < w.heap.size → rw' b → rw b) {v : Value} {s : SV} (h : Rel w ρ rw N v s) : Rel w' ρ' rw' N' v s := by
  induction h with
  | any v => exact .any v
  | un => exact .un
  | int k n => exact .int k n
  | bool b => exact .bool b
  | str s => exact .str s
  | flt b => exact .flt b
  | cpx a b => exact .cpx a b
  | nilp => exact .nilp
  | nils => exact .nils
  | ptr key off g hk' h => exact .ptr key off g (hN _ hk') ((hρ key hk').trans h)
  | rop a k f g hs hc hr' =>
    refine .rop a k f g hs (fun j hj => ?_) fun j hj => (hr' j hj).mono hk hr
    obtain ⟨h1, h2, h3⟩ := hc j hj
    have hb := World.block_lt_of_cell? _ _ h1
    rw [block_add] at hb
    exact ⟨hk.cell (by rw [block_add]; exact h3) h1, h2, fun e => h3 (hr _ hb e)⟩
  | slc a n c k f g hn hc ha hr' =>
    refine .slc a n c k f g hn (fun i j hi hj => ?_) ha fun i j hi hj => (hr' i j hi hj).mono hk hr
    obtain ⟨ad, e, h1, h2, h3⟩ := hc i j hi hj
    have hb := World.block_lt_of_cell? _ _ h1
    rw [block_add] at hb
    exact ⟨ad, e, hk.cell (by rw [block_add]; exact h3) h1, h2, fun e => h3 (hr _ hb e)⟩
  | own key hk' h1 => rw [← hρ key hk'] at h1 ⊢; exact .own key (hN _ hk') h1
  | eptr key k i off g n c hk' h hi => exact .eptr key k i off g n c (hN _ hk') ((hρ key hk').trans h) hi
  | agg cs l hl h1 h ih => exact .agg cs l hl h1 ih
  | tup cs l hl h ih => exact .tup cs l hl ih
  | opt c v s h h0 hm ih => exact .opt c v s ih h0 fun k hk => hN k (hm k hk)
  | val v => exact .val v
  | emp a => exact .emp a
  | part key k lo n a c hk' hn h => exact .part key k lo n a c (hN _ hk') hn (by rw [hρ key hk']; exact h)
  | kid key fam i hk' hf h1 hi => rw [← hρ fam hf] at h1 hi ⊢; rw [← hρ key hk'] at hi; exact .kid key fam i (hN _ hk') (hN _ hf) h1 hi
  | clo f cs l hl h hm ih => exact .clo f cs l hl ih fun k hk => hN k (hm k hk)
  | ifc t v s h => exact .ifc t v s h
  | mth f v s h => exact .mth f v s h

theorem Rel.ext {w w' : World} {ρ : Nat → Value} {rw : Nat → Prop} {N : Nat → Prop} (hk : Ext w w') {v : Value} {s : SV} (h : Rel w ρ rw N v s) : Rel w' ρ rw N v s :=
  h.mono (fun _ h => h) (fun _ _ => rfl) (hk.keep rw) fun _ _ e => e

theorem Rel.ceq {w : World} {ρ : Nat → Value} {rw N : Nat → Prop} {s t : SV} (e : Ceq s t) {v : Value} (h : Rel w ρ rw N v s) : Rel w ρ rw N v t := by
  cases e with
  | refl => exact h
  | slc n k f g he =>
    cases h with
    | slc a _ c _ _ g2 hn hc ha hr => exact .slc a n c k g g2 hn hc ha fun i j hi hj => (hr i j hi hj).ceq (he i j hi hj)
  | nils k f =>
    cases h
    exact .slc none 0 0 k f (fun _ _ => undef) (Nat.le_refl _) (fun i j hi => absurd hi (by omega)) (fun h => absurd h (by omega)) (fun i j hi => absurd hi (by omega))
  | emp k f =>
    cases h with
    | emp a => exact .slc a 0 0 k f (fun _ _ => undef) (Nat.le_refl _) (fun i j hi => absurd hi (by omega)) (fun h => absurd h (by omega)) (fun i j hi => absurd hi (by omega))
/-! ### Lists -/
theorem getAt_eq : ∀ (l : List SV) (i : Nat), getAt l i = l[i]?.getD .un
  | [], _ => rfl
  | _ :: _, 0 => rfl
  | _ :: l, n + 1 => by simpa [getAt] using getAt_eq l n
theorem setAt_eq : ∀ (l : List SV) (i : Nat) (x : SV), setAt l i x = l.set i x
  | [], _, _ => rfl
  | _ :: _, 0, _ => rfl
  | _ :: l, n + 1, x => by simpa [setAt] using setAt_eq l n x
theorem len_eq : ∀ l : List SV, len l = l.length
  | [] => rfl
  | _ :: l => by simp [len, len_eq l]
theorem takeFrom_eq : ∀ (l : List SV) (o n : Nat), takeFrom l o n = (l.drop o).take n
  | [], o, n => by simp [takeFrom]
  | _ :: _, 0, 0 => by simp [takeFrom]
  | x :: l, 0, n + 1 => by simp [takeFrom, takeFrom_eq l 0 n]
  | _ :: l, o + 1, n => by simp [takeFrom, takeFrom_eq l o n]
theorem setMany_length : ∀ (xs : List SV) (l : List SV) (o : Nat), (setMany l o xs).length = l.length
  | [], l, o => rfl
  | x :: xs, l, o => by simp [setMany, setMany_length xs, setAt_eq]
theorem setMany_get : ∀ (xs l : List SV) (o : Nat), o + xs.length ≤ l.length → ∀ i, (setMany l o xs)[i]? = if o ≤ i ∧ i < o + xs.length then xs[i - o]? else l[i]?
  | [], l, o, h, i => by simp [setMany]; intro h1 h2; omega
  | x :: xs, l, o, h, i => by
    have := setMany_get xs (setAt l o x) (o + 1) (by simp [setAt_eq] at *; omega) i
    rw [setMany, this]
    simp only [setAt_eq, List.getElem?_set, List.length_cons] at *
    by_cases h1 : o + 1 ≤ i ∧ i < o + 1 + xs.length
    · rw [if_pos h1, if_pos (by omega), show i - o = (i - (o + 1)) + 1 by omega, List.getElem?_cons_succ]
    · rw [if_neg h1]
      by_cases h2 : o = i
      · subst h2
        rw [if_pos rfl, if_pos (by omega), if_pos (by omega)]
        simp
      · rw [if_neg h2, if_neg (by omega)]
theorem cellsFrom_get (f : Nat → SV) : ∀ (n i j : Nat), (cellsFrom f i n)[j]? = if j < n then some (f (i + j)) else none
  | 0, i, j => by simp [cellsFrom]
  | n + 1, i, 0 => by simp [cellsFrom]
  | n + 1, i, j + 1 => by
    rw [cellsFrom, List.getElem?_cons_succ, cellsFrom_get f n (i + 1) j]
    by_cases h : j < n
    · simp [h, show i + 1 + j = i + (j + 1) by omega]
    · simp [h]
theorem cellsFrom_length (f : Nat → SV) : ∀ (n i : Nat), (cellsFrom f i n).length = n
  | 0, i => rfl
  | n + 1, i => by simp [cellsFrom, cellsFrom_length f n (i + 1)]

/-! ### Memory -/
def blkNo : Value → Option Nat
  | .pointer (some a) => some a.block
  | .slice (some a) _ (_ + 1) => some a.block
  | _ => none
theorem blkNo_slice {a : Addr} {n c : Nat} (h : 0 < c) : blkNo (.slice (some a) n c) = some a.block := by
  cases c with
  | zero => omega
  | succ c => rfl
theorem blkNo_zero (a : Option Addr) (n : Nat) : blkNo (.slice a n 0) = none := by cases a <;> rfl

/-- A block of cells that can all be written: a mark, if there is one, lies behind them. -/
def isC (w : World) (g : Nat) (cur : Array Value) (e : TypeId) (k : Nat) : Prop := ∃ mk : Nat × Nat, w.heap[g]? = some (.cells cur e mk) ∧ (mk = (0, 0) ∨ mk = (cur.size, cur.size + 1) ∧ k = 1)
theorem isC.lt {w : World} {g k : Nat} {cur : Array Value} {e : TypeId} (h : isC w g cur e k) : g < w.heap.size := by
  obtain ⟨mk, h, _⟩ := h
  exact (Array.getElem?_eq_some_iff.1 h).1
theorem isC.of {w : World} {g k : Nat} {cur : Array Value} {e : TypeId} (h : w.heap[g]? = some (.cells cur e (0, 0))) : isC w g cur e k := ⟨_, h, .inl rfl⟩
theorem isC.same {w w' : World} {g k : Nat} {cur : Array Value} {e : TypeId} (h : isC w g cur e k) (hb : w'.heap[g]? = w.heap[g]?) : isC w' g cur e k := by
  obtain ⟨mk, h, hm⟩ := h
  exact ⟨mk, hb.trans h, hm⟩

/-- A row of the call's own: of no room, or a block of its own. -/
def ownsR (w : World) (e : TypeId) (size : Nat) (v : Value) (n : Nat) (xs : List Value) : Prop :=
  xs.length = n * size ∧
  ((∃ a, v = .slice a 0 0) ∧ n = 0 ∨
   ∃ g cap cur, v = .slice (some ⟨g, 0, none⟩) n cap ∧ 0 < cap ∧ isC w g cur e size ∧ n ≤ cap ∧ cap ≤ maxLen ∧ cur.size = cap * size ∧ cur.toList.take (n * size) = xs)
theorem ownsR_of {w : World} {e : TypeId} {size : Nat} {v : Value} {n : Nat} {xs : List Value} {b : Nat} (h : w.ownsRow b e size v n xs) : ownsR w e size v n xs := by
  refine ⟨h.1, ?_⟩
  rcases h.2 with ⟨rfl, rfl⟩ | ⟨g, cap, cur, rfl, _, h3, h4, h5⟩
  · exact .inl ⟨⟨_, rfl⟩, rfl⟩
  · rcases Nat.eq_zero_or_pos cap with h0 | h0
    · subst h0
      obtain rfl : n = 0 := by omega
      exact .inl ⟨⟨_, rfl⟩, rfl⟩
    · exact .inr ⟨g, cap, cur, rfl, h0, .of h3, h4, h5⟩

/-- Is row i of these the call's own? -/
def Kids.own (K : Kids) (i : Nat) : Prop := i < K.n ∧ (K.hl ≠ some i ∧ ∀ p, K.ow = some p → i < p)
/-- The blocks of the rows within a row. -/
def kidB (ρ : Nat → Value) : Blk → Nat → Prop
  | .krow _ K, g => ∃ i, K.own i ∧ blkNo (kidV (ρ K.fam) i) = some g
  | _, _ => False
/-- The blocks of an entry. -/
def hasB (ρ : Nat → Value) (e : Nat × Blk) (g : Nat) : Prop := blkNo (ρ e.1) = some g ∨ kidB ρ e.2 g
/-- The blocks of the call's own. -/
def ownOf (ρ : Nat → Value) (m : Mem) (b : Nat) : Prop := ∃ e ∈ m, hasB ρ e b
/-- These, and those of its callers'. -/
def rwOf (F : Nat → Prop) (ρ : Nat → Value) (m : Mem) (b : Nat) : Prop := F b ∨ ownOf ρ m b

/-- The slices in the cells xs of the block g0 are these rows. -/
structure KidsOk (w : World) (ρ : Nat → Value) (rw : Nat → Prop) (N : Nat → Prop) (g0 : Option Nat) (xs : List Value) (K : Kids) : Prop where
  key : N K.fam
  len : xs.length = K.n
  size : ∀ arr, ρ K.fam = .agg arr → arr.size = K.n
  zero : (∀ arr, ρ K.fam ≠ .agg arr) → ∀ i, i < K.n → (∀ p, K.ow = some p → i < p) → K.ns i = 0
  name : ∀ i, K.own i → xs[i]? = some (kidV (ρ K.fam) i)
  row : ∀ i, K.own i → ∃ ys, ownsR w K.e K.k (kidV (ρ K.fam) i) (K.ns i) ys ∧ (∀ v ∈ ys, one v) ∧ ∀ x j v, x < K.ns i → j < K.k → ys[x * K.k + j]? = some v → RelC w rw v (K.f i x j)
  frz : ∀ i v p, i < K.n → K.hl ≠ some i → K.ow = some p → ¬ i < p → xs[i]? = some v → RelC w rw v (.slc (K.ns i) K.k (K.f i))
  apart : ∀ i j, i ≠ j → K.own i → K.own j → ∀ g, blkNo (kidV (ρ K.fam) i) = some g → blkNo (kidV (ρ K.fam) j) ≠ some g
  outer : ∀ i, K.own i → ∀ g, blkNo (kidV (ρ K.fam) i) = some g → g0 ≠ some g

def BlkOk (w : World) (ρ : Nat → Value) (rw : Nat → Prop) (N : Nat → Prop) (key : Nat) : Blk → Prop
  | .box t cells => ∃ (g : Nat) (arr : Array Value), ρ key = .pointer (some ⟨g, 0, none⟩) ∧ w.heap[g]? = some (.cells arr t (0, 0)) ∧ arr.size = cells.length ∧
      (∀ v ∈ arr.toList, one v) ∧ ∀ (i : Nat) v s, arr[i]? = some v → cells[i]? = some s → Rel w ρ rw N v s
  | .row e k n f => ∃ xs : List Value, ownsR w e k (ρ key) n xs ∧ (∀ v ∈ xs, one v) ∧ ∀ i j v, i < n → j < k → xs[i * k + j]? = some v → RelC w rw v (f i j)
  | .krow e K => ∃ xs : List Value, ownsR w e 1 (ρ key) K.n xs ∧ (∀ v ∈ xs, one v) ∧ KidsOk w ρ rw N (blkNo (ρ key)) xs K

def Apart (ρ : Nat → Value) (e e' : Nat × Blk) : Prop := e.1 ≠ e'.1 ∧ ∀ b, hasB ρ e b → ¬ hasB ρ e' b

structure MemOk (F : Nat → Prop) (w : World) (ρ : Nat → Value) (m : Mem) (N : Nat → Prop) : Prop where
  blk : ∀ e ∈ m, BlkOk w ρ (rwOf F ρ m) N e.1 e.2
  key : ∀ e ∈ m, N e.1
  apart : m.Pairwise (Apart ρ)
  frg : ∀ b, F b → b < w.heap.size
  sorted : m.Pairwise fun e e' => e'.1 < e.1

theorem ownsR.lt {w : World} {e k n b : Nat} {v : Value} {xs : List Value} (h : ownsR w e k v n xs) (hb : blkNo v = some b) : b < w.heap.size := by
  obtain ⟨_, h⟩ := h
  rcases h with ⟨⟨a, e⟩, _⟩ | ⟨g, cap, cur, e, h0, hg, _⟩
  · rw [e, blkNo_zero] at hb; cases hb
  · rw [e, blkNo_slice h0] at hb
    simp at hb
    subst hb
    exact hg.lt
theorem ownsR.same {w w' : World} {e k n : Nat} {v : Value} {xs : List Value} (h : ownsR w e k v n xs) (hb : ∀ b, blkNo v = some b → w'.heap[b]? = w.heap[b]?) : ownsR w' e k v n xs := by
  obtain ⟨hl, h⟩ := h
  refine ⟨hl, ?_⟩
  rcases h with h | ⟨g, cap, cur, e, h0, hg, r⟩
  · exact .inl h
  · exact .inr ⟨g, cap, cur, e, h0, hg.same (hb g (by rw [e, blkNo_slice h0])), r⟩
theorem BlkOk.lt {w : World} {ρ : Nat → Value} {rw : Nat → Prop} {N : Nat → Prop} {key b : Nat} {x : Blk} (h : BlkOk w ρ rw N key x) (hb : hasB ρ (key, x) b) : b < w.heap.size := by
  rcases hb with hb | hb
  · cases x with
    | box t cells =>
      obtain ⟨g, arr, e, hg, _⟩ := h
      simp only at hb
      rw [e] at hb
      simp [blkNo] at hb
      subst hb
      exact (Array.getElem?_eq_some_iff.1 hg).1
    | row e k n f =>
      obtain ⟨xs, h, _⟩ := h
      exact h.lt hb
    | krow e K =>
      obtain ⟨xs, h, _⟩ := h
      exact h.lt hb
  · cases x with
    | box t cells => exact hb.elim
    | row e k n f => exact hb.elim
    | krow e K =>
      obtain ⟨xs, _, _, h⟩ := h
      obtain ⟨i, hi, hb⟩ := hb
      obtain ⟨ys, h, _⟩ := h.row i hi
      exact h.lt hb

theorem MemOk.lt {F : Nat → Prop} {w : World} {ρ : Nat → Value} {m : Mem} {N : Nat → Prop} {b : Nat} (h : MemOk F w ρ m N) (hb : rwOf F ρ m b) : b < w.heap.size := by
  rcases hb with hb | ⟨e, he, hb⟩
  · exact h.frg b hb
  · exact (h.blk e he).lt hb

theorem KidsOk.mono {w w' : World} {ρ ρ' : Nat → Value} {rw rw' : Nat → Prop} {N N' : Nat → Prop} {g0 : Option Nat} {xs : List Value} {K : Kids} (h : KidsOk w ρ rw N g0 xs K)
    (hN : ∀ k, N k → N' k) (hρ : ∀ k, N k → ρ' k = ρ k) (hk : Keep rw w w') (hr : ∀ b, b < w.heap.size → rw' b → rw b)
    (hb : ∀ i, K.own i → ∀ b, blkNo (kidV (ρ K.fam) i) = some b → w'.heap[b]? = w.heap[b]?) : KidsOk w' ρ' rw' N' g0 xs K := by
  have e := hρ K.fam h.key
  refine ⟨hN _ h.key, h.len, by rw [e]; exact h.size, by rw [e]; exact h.zero, by rw [e]; exact h.name, fun i hi => ?_, fun i v p h1 h2 h3 h4 h5 => (h.frz i v p h1 h2 h3 h4 h5).mono hk hr, by rw [e]; exact h.apart, by rw [e]; exact h.outer⟩
  rw [e]
  obtain ⟨ys, h1, h2, h3⟩ := h.row i hi
  exact ⟨ys, h1.same (hb i hi), h2, fun x j v hx hj hv => (h3 x j v hx hj hv).mono hk hr⟩
/-- A block stays what it is, if its own memory does. -/
theorem BlkOk.mono {w w' : World} {ρ ρ' : Nat → Value} {rw rw' : Nat → Prop} {N N' : Nat → Prop} {key : Nat} {x : Blk} (h : BlkOk w ρ rw N key x) (hkey : N key)
    (hN : ∀ k, N k → N' k) (hρ : ∀ k, N k → ρ' k = ρ k) (hk : Keep rw w w') (hr : ∀ b, b < w.heap.size → rw' b → rw b)
    (hb : ∀ b, hasB ρ (key, x) b → w'.heap[b]? = w.heap[b]?) : BlkOk w' ρ' rw' N' key x := by
  cases x with
  | box t cells =>
    obtain ⟨g, arr, e, hg, hs, h1, hrel⟩ := h
    exact ⟨g, arr, (hρ _ hkey).trans e, (hb g (.inl (by simp only; rw [e]; rfl))).trans hg, hs, h1, fun i v s hv hs' => (hrel i v s hv hs').mono hN hρ hk hr⟩
  | row e k n f =>
    obtain ⟨xs, h, h1, hrel⟩ := h
    refine ⟨xs, ?_, h1, fun i j v hi hj hv => (hrel i j v hi hj hv).mono hk hr⟩
    rw [hρ _ hkey]
    exact h.same fun b h => hb b (.inl h)
  | krow e K =>
    obtain ⟨xs, h, h1, hK⟩ := h
    refine ⟨xs, ?_, h1, ?_⟩
    · rw [hρ _ hkey]
      exact h.same fun b h => hb b (.inl h)
    · rw [hρ _ hkey]
      exact hK.mono hN hρ hk hr fun i hi b h => hb b (.inr ⟨i, hi, h⟩)
theorem kidB_old {w : World} {ρ ρ' : Nat → Value} {rw : Nat → Prop} {N : Nat → Prop} {key : Nat} {x : Blk} (h : BlkOk w ρ rw N key x) (hρ : ∀ k, N k → ρ' k = ρ k) (g : Nat) : kidB ρ' x g ↔ kidB ρ x g := by
  cases x with
  | box t cells => exact Iff.rfl
  | row e k n f => exact Iff.rfl
  | krow e K =>
    obtain ⟨xs, _, _, h⟩ := h
    simp only [kidB, hρ K.fam h.key]
theorem MemOk.ext {F : Nat → Prop} {w w' : World} {ρ : Nat → Value} {m : Mem} {N : Nat → Prop} (h : MemOk F w ρ m N) (hk : Ext w w') : MemOk F w' ρ m N :=
  ⟨fun e he => (h.blk e he).mono (h.key e he) (fun _ h => h) (fun _ _ => rfl) (hk.keep _) (fun _ _ e => e) (fun b hb => hk.block b ((h.blk e he).lt hb) id), h.key, h.apart, fun b hb => Nat.lt_of_lt_of_le (h.frg b hb) hk.size, h.sorted⟩

end Go.Vd

