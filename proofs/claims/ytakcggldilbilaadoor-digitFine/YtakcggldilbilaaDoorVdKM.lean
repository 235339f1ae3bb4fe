/- Keys, as numbers and lists of bytes say them. -/
import Derived.Test.YtakcggldilbilaaDoorVdDM
import Derived.Test.YtakcggldilbilaaDoorVdLib
set_option linter.unusedVariables false
set_option linter.unusedSimpArgs false
namespace Go.Vd
def ordI (a b : Int) : Int := if a < b then -1 else if b < a then 1 else 0
def ordS (a b : List UInt8) : Int := if a < b then -1 else if b < a then 1 else 0
theorem bytesLess_eq : ∀ (x y : List UInt8), Op.bytesLess x y = decide (x < y)
  | _, [] => by simp [Op.bytesLess]
  | [], _ :: _ => by simp [Op.bytesLess]
  | a :: x, b :: y => by simp only [Op.bytesLess, bytesLess_eq x y, List.cons_lt_cons_iff]; rw [Bool.eq_iff_iff]; simp
theorem triS (a b : List UInt8) : (a < b ∧ a ≠ b ∧ ordS a b = -1) ∨ (a = b ∧ ordS a b = 0) ∨ (b < a ∧ a ≠ b ∧ ordS a b = 1) := by
  unfold ordS
  by_cases h : a < b
  · exact .inl ⟨h, fun e => List.lt_irrefl _ (e ▸ h), if_pos h⟩
  · rw [if_neg h]
    rcases List.le_iff_lt_or_eq.1 (List.not_lt.1 h) with h1 | h1
    · exact .inr (.inr ⟨h1, fun e => List.lt_irrefl _ (e ▸ h1), if_pos h1⟩)
    · subst h1; exact .inr (.inl ⟨rfl, if_neg h⟩)
/-- The first that isn't 0. -/
def orL : List Int → Int
  | [] => 0
  | x :: l => if x = 0 then orL l else x
theorem orL_zero : ∀ {L : List Int} {i : Nat}, (∀ x ∈ L.take i, x = 0) → i < L.length → orL L = if L.getD i 0 = 0 then orL (L.drop (i + 1)) else L.getD i 0
  | [], i, _, h => by simp at h
  | x :: l, 0, _, _ => by simp [orL]
  | x :: l, i + 1, h, hi => by
    have hx : x = 0 := h x (by simp)
    have := orL_zero (L := l) (i := i) (fun y hy => h y (by simp [hy])) (by simpa using hi)
    simpa [orL, hx] using this
theorem orL_all : ∀ {L : List Int}, (∀ x ∈ L, x = 0) → orL L = 0
  | [], _ => rfl
  | x :: l, h => by simp [orL, h x (by simp), orL_all (L := l) fun y hy => h y (by simp [hy])]
def ordK (s : Int) (r : List UInt8) (s' : Int) (r' : List UInt8) : Int := if ordI s s' = 0 then ordS r r' else ordI s s'
theorem ordK_or (s : Int) (r : List UInt8) (s' : Int) (r' : List UInt8) : orL [ordI s s', ordS r r'] = ordK s r s' r' := by
  simp only [orL, ordK]
  split
  · split
    · rename_i h; exact h.symm
    · rfl
  · rfl
theorem ordK_eq (s : Int) (r : List UInt8) (s' : Int) (r' : List UInt8) : ordK s r s' r' = if s = s' ∧ r = r' then 0 else if s < s' ∨ (s = s' ∧ r < r') then -1 else 1 := by
  unfold ordK
  rcases Int.lt_trichotomy s s' with h | h | h
  · have e : ordI s s' = -1 := if_pos h
    rw [e, if_neg (by omega), if_neg (fun h' => by omega), if_pos (.inl h)]
  · have e : ordI s s' = 0 := by rw [h]; simp [ordI]
    rw [e, if_pos rfl]
    rcases triS r r' with ⟨h1, n, e1⟩ | ⟨n, e1⟩ | ⟨h1, n, e1⟩ <;> rw [e1]
    · rw [if_neg (fun h' => n h'.2), if_pos (.inr ⟨h, h1⟩)]
    · rw [if_pos ⟨h, n⟩]
    · rw [if_neg (fun h' => n h'.2), if_neg]
      rintro (h' | h')
      · omega
      · exact List.lt_irrefl _ (List.lt_trans h1 h'.2)
  · have e : ordI s s' = 1 := by unfold ordI; rw [if_neg (by omega), if_pos h]
    rw [e, if_neg (by omega), if_neg (fun h' => by omega), if_neg (fun h' => by omega)]
/-! ### Signs -/
def okB (b : UInt8) : Bool := decide (32 ≤ b.toNat) && decide (b.toNat ≤ 126)
def inS (k : Int) (b : UInt8) : Bool := if k = 1 ∨ k = 3 then isDb b else okB b
def signs (k : Int) (r : List UInt8) : Bool := r.all (inS k)
def keyOk (s : Int) (r : List UInt8) : Bool := decide (s ≤ 999999) && (decide (r.length = 12) && r.all okB)
theorem all_take {p : UInt8 → Bool} {r : List UInt8} {i : Nat} (h : i < r.length) : (r.take (i + 1)).all p = ((r.take i).all p && p (r.getD i 0)) := by
  rw [← take_snoc (d := 0) h]; simp
theorem all_false {p : UInt8 → Bool} {r : List UInt8} {i : Nat} (h : i < r.length) (hp : p (r.getD i 0) = false) : r.all p = false := by
  rw [List.all_eq_false]
  refine ⟨r.getD i 0, ?_, by rw [hp]; simp⟩
  rw [List.getD_eq_getElem?_getD, List.getElem?_eq_getElem h]
  exact List.getElem_mem h
/-! ### Shards -/
def fnv1 (h : Nat) (b : UInt8) : Nat := (h ^^^ b.toNat) * 16777619 % 4294967296
def fnv (L : List UInt8) : Nat := L.foldl fnv1 2166136261
theorem foldl_snoc {α β : Type} (f : α → β → α) (a : α) (L : List β) (b : β) : (L ++ [b]).foldl f a = f (L.foldl f a) b := by simp
theorem fnv_snoc (L : List UInt8) (b : UInt8) : fnv (L ++ [b]) = fnv1 (fnv L) b := foldl_snoc fnv1 _ L b
theorem fnv_lt (L : List UInt8) : fnv L < 4294967296 := by
  induction L using snoc_ind with
  | h0 => show 2166136261 < 4294967296; omega
  | h1 L b ih => rw [fnv_snoc]; exact Nat.mod_lt _ (by omega)
theorem xor_lt {h : Nat} (b : UInt8) (hh : h < 4294967296) : h ^^^ b.toNat < 4294967296 := Nat.xor_lt_two_pow (n := 32) hh (by have := b.toNat_lt; omega)
theorem xor32 {h : Nat} (b : UInt8) (hh : h < 4294967296) : bits .xor .u32 (h : Int) (b.toNat : Int) = ((h ^^^ b.toNat : Nat) : Int) := by
  show IntKind.u32.wrap ((BitVec.ofInt 32 (h : Int) ^^^ BitVec.ofInt 32 (b.toNat : Int)).toNat : Int) = _
  have hb := b.toNat_lt
  have h1 : (BitVec.ofInt 32 (h : Int)).toNat = h := by rw [BitVec.toNat_ofInt]; omega
  have h2 : (BitVec.ofInt 32 (b.toNat : Int)).toNat = b.toNat := by rw [BitVec.toNat_ofInt]; omega
  rw [BitVec.toNat_xor, h1, h2, IntKind.wrap_u32]
  have := xor_lt b hh
  omega
theorem xor64 {h : Nat} (b : UInt8) (hh : h < 4294967296) : bits .xor .u64 (h : Int) (b.toNat : Int) = ((h ^^^ b.toNat : Nat) : Int) := by
  show IntKind.u64.wrap ((BitVec.ofInt 64 (h : Int) ^^^ BitVec.ofInt 64 (b.toNat : Int)).toNat : Int) = _
  have hb := b.toNat_lt
  have h1 : (BitVec.ofInt 64 (h : Int)).toNat = h := by rw [BitVec.toNat_ofInt]; omega
  have h2 : (BitVec.ofInt 64 (b.toNat : Int)).toNat = b.toNat := by rw [BitVec.toNat_ofInt]; omega
  rw [BitVec.toNat_xor, h1, h2, IntKind.wrap_u64]
  have := xor_lt b hh
  omega
/-- What the program mixes. -/
def mixI (h b : Int) : Int := IntKind.u32.wrap (bits .xor .u32 h (IntKind.u32.wrap b) * 16777619)
theorem mixI_fnv (L : List UInt8) (b : UInt8) : mixI (fnv L) (b.toNat : Int) = (fnv (L ++ [b]) : Int) := by
  unfold mixI
  have hb := b.toNat_lt
  have hw : IntKind.u32.wrap (b.toNat : Int) = b.toNat := by rw [IntKind.wrap_u32]; omega
  rw [hw, xor32 b (fnv_lt L), fnv_snoc, fnv1, IntKind.wrap_u32]
  omega
def shardN (s : Nat) (r : List UInt8) (m : Int) : Int := if keyOk s r && (decide (1 ≤ m) && decide (m ≤ 16)) then ((fnv (decs 6 s ++ r) % m.toNat : Nat) : Int) else -1
theorem decs_cons : ∀ (n v : Nat), decs (n + 1) v = UInt8.ofNat (48 + v / 10 ^ n % 10) :: decs n v
  | 0, v => by simp [decs]
  | n + 1, v => by
    rw [decs, decs_cons n (v / 10)]
    rw [Nat.div_div_eq_div_mul, show 10 * 10 ^ n = 10 ^ (n + 1) by rw [Nat.pow_succ]; omega]
    rfl
/-- Digit j of six. -/
theorem decs_getD {s j : Nat} (h : j < 6) : (decs 6 s).getD j 0 = UInt8.ofNat (48 + s / 10 ^ (5 - j) % 10) := by
  rw [decs_cons 5, decs_cons 4, decs_cons 3, decs_cons 2, decs_cons 1, decs_cons 0]
  match j, h with
  | 0, _ => rfl
  | 1, _ => rfl
  | 2, _ => rfl
  | 3, _ => rfl
  | 4, _ => rfl
  | 5, _ => rfl
end Go.Vd
