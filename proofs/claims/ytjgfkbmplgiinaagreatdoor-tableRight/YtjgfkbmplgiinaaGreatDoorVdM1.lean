/- The types of the seat, as the generator asks for them (printed by mktys.py). -/
import Derived.Test.YtjgfkbmplgiinaaGreatDoorVdEq
import Derived.Lib.ItoaNum
import Derived.Test.YtjgfkbmplgiinaaGreatDoorProg
import Derived.Test.YtjgfkbmplgiinaaGreatDoorVdSimp
import Derived.Test.YtjgfkbmplgiinaaGreatDoorVdLib
import Derived.RangeFuncNested
import Derived.RangeFuncBound
import Derived.RangeFuncCalls
import Derived.RangeFuncLeaves
import Derived.Shelf.Abstract
import Derived.Shelf.RegionOpen
import Derived.WalkKit
import Derived.OwnWalkIn
import Derived.TacticsInMore
import Derived.LoopNIn
import Derived.LoopIn
import Derived.Laws.RangeString
import Derived.Laws.RangeAny
import Derived.LoopTactic
set_option linter.unusedVariables false
set_option maxRecDepth 100000
namespace Go.Vd
open Go.Proofs

def ty2 : Ty := ⟨false, 1, [.int .i64 0], .int .i64⟩  -- int64
theorem ty2_ok : TyOk Tryz.prog 2 ty2 := .mk' (.int .i64) [.int .i64 0] (by kernel_rfl) Tryz.underlying2 (by decide) rfl (fun _ => rfl) rfl rfl rfl rfl
def ty3 : Ty := ⟨false, 1, [.int .i64 0], .int .i64⟩  -- int
theorem ty3_ok : TyOk Tryz.prog 3 ty3 := .mk' (.int .i64) [.int .i64 0] (by kernel_rfl) Tryz.underlying3 (by decide) rfl (fun _ => rfl) rfl rfl rfl rfl
def ty4 : Ty := ⟨false, 1, [.bool false], .bool⟩  -- bool
theorem ty4_ok : TyOk Tryz.prog 4 ty4 := .mk' .bool [.bool false] (by kernel_rfl) Tryz.underlying4 (by decide) rfl (fun _ => rfl) rfl rfl rfl rfl
def ty5 : Ty := ⟨false, 1, [.int .u8 0], .int .u8⟩  -- uint8
theorem ty5_ok : TyOk Tryz.prog 5 ty5 := .mk' (.int .u8) [.int .u8 0] (by kernel_rfl) Tryz.underlying5 (by decide) rfl (fun _ => rfl) rfl rfl rfl rfl
def ty9 : Ty := ⟨false, 1, [.str []], .str⟩  -- string
theorem ty9_ok : TyOk Tryz.prog 9 ty9 := .mk' .string [.string ⟨#[]⟩] (by kernel_rfl) Tryz.underlying9 (by decide) rfl (fun _ => rfl) rfl rfl rfl rfl
def ty21 : Ty := ⟨false, 1, [.int .i32 0], .int .i32⟩  -- int32
theorem ty21_ok : TyOk Tryz.prog 21 ty21 := .mk' (.int .i32) [.int .i32 0] (by kernel_rfl) Tryz.underlying21 (by decide) rfl (fun _ => rfl) rfl rfl rfl rfl
def ty22 : Ty := ⟨false, 1, [.nils], .slice 40 1 24 false⟩  -- [][]api.Entry
theorem ty22_ok : TyOk Tryz.prog 22 ty22 := .mk' (.slice 40) [.slice none 0 0] (by kernel_rfl) Tryz.underlying22 (by decide) rfl (fun _ => rfl) rfl rfl rfl ⟨rfl, by decide, (fun h => by cases h), tag_slice (by kernel_rfl)⟩
def ty24 : Ty := ⟨true, 2, [.int .i64 0, .nils], .struct [(0, 1), (1, 1)] false⟩  -- api.Table
theorem ty24_ok : TyOk Tryz.prog 24 ty24 := .mk' _ [.int .i64 0, .slice none 0 0] (by kernel_rfl) Tryz.underlying24 (by decide) rfl (fun h => by cases h) rfl rfl rfl ⟨(fun h => by cases h), tag_struct (by kernel_rfl)⟩
def ty25 : Ty := ⟨false, 1, [.int .u32 0], .int .u32⟩  -- uint32
theorem ty25_ok : TyOk Tryz.prog 25 ty25 := .mk' (.int .u32) [.int .u32 0] (by kernel_rfl) Tryz.underlying25 (by decide) rfl (fun _ => rfl) rfl rfl rfl rfl
def ty27 : Ty := ⟨true, 2, [.int .u32 0, .str []], .struct [(0, 1), (1, 1)] true⟩  -- api.Key
theorem ty27_ok : TyOk Tryz.prog 27 ty27 := .mk' _ [.int .u32 0, .string ⟨#[]⟩] (by kernel_rfl) Tryz.underlying27 (by decide) rfl (fun h => by cases h) rfl rfl rfl ⟨(fun _ => eqOk_plain (by kernel_rfl) Tryz.underlying27 (by kernel_rfl) (.int (by decide) rfl Tryz.underlying25 (.str (by decide) rfl Tryz.underlying9 .nil))), tag_struct (by kernel_rfl)⟩
def ty28 : Ty := ⟨false, 1, [.int .u64 0], .int .u64⟩  -- uint64
theorem ty28_ok : TyOk Tryz.prog 28 ty28 := .mk' (.int .u64) [.int .u64 0] (by kernel_rfl) Tryz.underlying28 (by decide) rfl (fun _ => rfl) rfl rfl rfl rfl
def ty30 : Ty := ⟨true, 8, [.int .u32 0, .str [], .int .i64 0, .str [], .int .u64 0, .str [], .int .i64 0, .int .i64 0], .struct [(0, 2), (2, 1), (3, 1), (4, 1), (5, 1), (6, 1), (7, 1)] true⟩  -- api.Entry
theorem ty30_ok : TyOk Tryz.prog 30 ty30 := .mk' _ [.int .u32 0, .string ⟨#[]⟩, .int .i64 0, .string ⟨#[]⟩, .int .u64 0, .string ⟨#[]⟩, .int .i64 0, .int .i64 0] (by kernel_rfl) Tryz.underlying30 (by decide) rfl (fun h => by cases h) rfl rfl rfl ⟨(fun _ => eqOk_plain2 (by kernel_rfl) Tryz.underlying30 (by kernel_rfl) (Plain2.sub (z := [.int .u32 0, .str []]) (z' := [.int .i64 0, .str [], .int .u64 0, .str [], .int .i64 0, .int .i64 0]) (by decide) rfl Tryz.underlying27 (by kernel_rfl) (by kernel_rfl) (.int (by decide) rfl Tryz.underlying25 (.str (by decide) rfl Tryz.underlying9 .nil)) (.int (by decide) rfl Tryz.underlying3 (.str (by decide) rfl Tryz.underlying9 (.int (by decide) rfl Tryz.underlying28 (.str (by decide) rfl Tryz.underlying9 (.int (by decide) rfl Tryz.underlying3 (.int (by decide) rfl Tryz.underlying3 .nil)))))))), tag_struct (by kernel_rfl)⟩
def ty35 : Ty := ⟨false, 1, [.int .i64 0], .int .i64⟩  -- api.Errno
theorem ty35_ok : TyOk Tryz.prog 35 ty35 := .mk' (.int .i64) [.int .i64 0] (by kernel_rfl) Tryz.underlying35 (by decide) rfl (fun _ => rfl) rfl rfl rfl rfl
def ty40 : Ty := ⟨false, 1, [.nils], .slice 30 8 88 false⟩  -- []api.Entry
theorem ty40_ok : TyOk Tryz.prog 40 ty40 := .mk' (.slice 30) [.slice none 0 0] (by kernel_rfl) Tryz.underlying40 (by decide) rfl (fun _ => rfl) rfl rfl rfl ⟨rfl, by decide, (fun h => by cases h), tag_slice (by kernel_rfl)⟩
def ty78 : Ty := ⟨false, 1, [.int .u64 0], .int .u64⟩  -- uint
theorem ty78_ok : TyOk Tryz.prog 78 ty78 := .mk' (.int .u64) [.int .u64 0] (by kernel_rfl) Tryz.underlying78 (by decide) rfl (fun _ => rfl) rfl rfl rfl rfl
def ty84 : Ty := ⟨false, 1, [.val .nilFunc], .other⟩  -- func(string) bool
theorem ty84_ok : TyOk Tryz.prog 84 ty84 := .mk' _ [.nilFunc] (by kernel_rfl) Tryz.underlying84 (by decide) rfl (fun _ => rfl) rfl rfl rfl trivial
def ty104 : Ty := ⟨false, 1, [.nils], .slice 3 1 8 false⟩  -- []int
theorem ty104_ok : TyOk Tryz.prog 104 ty104 := .mk' (.slice 3) [.slice none 0 0] (by kernel_rfl) Tryz.underlying104 (by decide) rfl (fun _ => rfl) rfl rfl rfl ⟨rfl, by decide, (fun h => by cases h), tag_slice (by kernel_rfl)⟩
def ty111 : Ty := ⟨true, 3, [.int .i64 0, .int .i64 0, .int .i64 0], .struct [(0, 1), (1, 1), (2, 1)] true⟩  -- api.Def
theorem ty111_ok : TyOk Tryz.prog 111 ty111 := .mk' _ [.int .i64 0, .int .i64 0, .int .i64 0] (by kernel_rfl) Tryz.underlying111 (by decide) rfl (fun h => by cases h) rfl rfl rfl ⟨(fun _ => eqOk_plain (by kernel_rfl) Tryz.underlying111 (by kernel_rfl) (.int (by decide) rfl Tryz.underlying3 (.int (by decide) rfl Tryz.underlying3 (.int (by decide) rfl Tryz.underlying3 .nil)))), tag_struct (by kernel_rfl)⟩
def ty114 : Ty := ⟨false, 1, [.nils], .slice 5 1 1 true⟩  -- []uint8
theorem ty114_ok : TyOk Tryz.prog 114 ty114 := .mk' (.slice 5) [.slice none 0 0] (by kernel_rfl) Tryz.underlying114 (by decide) rfl (fun _ => rfl) rfl rfl rfl ⟨rfl, by decide, (fun _ => Tryz.underlying5), tag_slice (by kernel_rfl)⟩
def ty126 : Ty := ⟨false, 1, [.val .nilIface], .other⟩  -- field.form
theorem ty126_ok : TyOk Tryz.prog 126 ty126 := .mk' _ [.nilIface] (by kernel_rfl) Tryz.underlying126 (by decide) rfl (fun _ => rfl) rfl rfl rfl trivial
def ty133 : Ty := ⟨true, 45, [.int .i64 0, .int .i64 0, .int .i64 0, .int .i64 0, .int .i64 0, .int .i64 0, .int .i64 0, .int .i64 0, .int .i64 0, .int .i64 0, .int .i64 0, .int .i64 0, .int .i64 0, .int .i64 0, .int .i64 0, .int .i64 0, .int .i64 0, .int .i64 0, .int .i64 0, .int .i64 0, .int .i64 0, .int .i64 0, .int .i64 0, .int .i64 0, .int .i64 0, .int .i64 0, .int .i64 0, .int .i64 0, .int .i64 0, .int .i64 0, .int .i64 0, .int .i64 0, .int .i64 0, .int .i64 0, .int .i64 0, .int .i64 0, .int .i64 0, .int .i64 0, .int .i64 0, .int .i64 0, .int .i64 0, .int .i64 0, .int .i64 0, .int .i64 0, .int .i64 0], .array 15 111 3⟩  -- [15]api.Def
theorem ty133_ok : TyOk Tryz.prog 133 ty133 := .mk' (.array 15 111) [.int .i64 0, .int .i64 0, .int .i64 0, .int .i64 0, .int .i64 0, .int .i64 0, .int .i64 0, .int .i64 0, .int .i64 0, .int .i64 0, .int .i64 0, .int .i64 0, .int .i64 0, .int .i64 0, .int .i64 0, .int .i64 0, .int .i64 0, .int .i64 0, .int .i64 0, .int .i64 0, .int .i64 0, .int .i64 0, .int .i64 0, .int .i64 0, .int .i64 0, .int .i64 0, .int .i64 0, .int .i64 0, .int .i64 0, .int .i64 0, .int .i64 0, .int .i64 0, .int .i64 0, .int .i64 0, .int .i64 0, .int .i64 0, .int .i64 0, .int .i64 0, .int .i64 0, .int .i64 0, .int .i64 0, .int .i64 0, .int .i64 0, .int .i64 0, .int .i64 0] (by kernel_rfl) Tryz.underlying133 (by decide) rfl (fun h => by cases h) rfl rfl rfl ⟨rfl, tag_array (by kernel_rfl)⟩
def ty135 : Ty := ⟨true, 2, [.int .i64 0, .val .nilFunc], .struct [(0, 1), (1, 1)] false⟩  -- field.fixed
theorem ty135_ok : TyOk Tryz.prog 135 ty135 := .mk' _ [.int .i64 0, .nilFunc] (by kernel_rfl) Tryz.underlying135 (by decide) rfl (fun h => by cases h) rfl rfl rfl ⟨(fun h => by cases h), tag_struct (by kernel_rfl)⟩
def ty137 : Ty := ⟨true, 3, [.int .i64 0, .int .i64 0, .val .nilFunc], .struct [(0, 1), (1, 1), (2, 1)] false⟩  -- field.long
theorem ty137_ok : TyOk Tryz.prog 137 ty137 := .mk' _ [.int .i64 0, .int .i64 0, .nilFunc] (by kernel_rfl) Tryz.underlying137 (by decide) rfl (fun h => by cases h) rfl rfl rfl ⟨(fun h => by cases h), tag_struct (by kernel_rfl)⟩
def seatTy : Nat → Option Ty := fun n => match n with
  | 2 => some ty2
  | 3 => some ty3
  | 4 => some ty4
  | 5 => some ty5
  | 9 => some ty9
  | 21 => some ty21
  | 22 => some ty22
  | 24 => some ty24
  | 25 => some ty25
  | 27 => some ty27
  | 28 => some ty28
  | 30 => some ty30
  | 35 => some ty35
  | 40 => some ty40
  | 78 => some ty78
  | 84 => some ty84
  | 104 => some ty104
  | 111 => some ty111
  | 114 => some ty114
  | 126 => some ty126
  | 133 => some ty133
  | 135 => some ty135
  | 137 => some ty137
  | _ => none
/-- What stands in the package variables that are known: fields, kinds and sizes; types. -/
def knownL : List Int := [2, 3, 19, 3, 1, 6, 4, 1, 12, 7, 1, 10, 11, 1, 6, 12, 1, 6, 37, 2, 12, 38, 2, 6, 39, 2, 2, 41, 2, 8, 44, 4, 25, 48, 5, 999, 49, 1, 3, 90, 1, 42, 120, 5, 999]
def gl0 : Nat → SV := fun g => match g with
  | 0 => .rop 45 fun j => .int .i64 (knownL.getD j 0)
  | g => .val (.pointer (some ⟨g, 0, none⟩))
def seatFl : Nat → Nat → Option Nat := fun t i => match t, i with
  | 24, 0 => some 3
  | 24, 1 => some 22
  | 27, 0 => some 25
  | 27, 1 => some 9
  | 30, 0 => some 27
  | 30, 1 => some 3
  | 30, 2 => some 9
  | 30, 3 => some 28
  | 30, 4 => some 9
  | 30, 5 => some 3
  | 30, 6 => some 3
  | 111, 0 => some 3
  | 111, 1 => some 3
  | 111, 2 => some 3
  | 135, 0 => some 3
  | 135, 1 => some 84
  | 137, 0 => some 3
  | 137, 1 => some 3
  | 137, 2 => some 84
  | _, _ => none
def seatT : Tys := { ty := seatTy, gl := gl0, fl := seatFl }
theorem seatTy_ok : ∀ t ty, seatTy t = some ty → TyOk Tryz.prog t ty := by
  intro t ty h
  unfold seatTy at h
  split at h <;> cases h
  · exact ty2_ok
  · exact ty3_ok
  · exact ty4_ok
  · exact ty5_ok
  · exact ty9_ok
  · exact ty21_ok
  · exact ty22_ok
  · exact ty24_ok
  · exact ty25_ok
  · exact ty27_ok
  · exact ty28_ok
  · exact ty30_ok
  · exact ty35_ok
  · exact ty40_ok
  · exact ty78_ok
  · exact ty84_ok
  · exact ty104_ok
  · exact ty111_ok
  · exact ty114_ok
  · exact ty126_ok
  · exact ty133_ok
  · exact ty135_ok
  · exact ty137_ok
theorem seatFl_ok : ∀ t i u, seatFl t i = some u → ∃ (fs : Array Field) (f : Field), Tryz.prog.underlying t = some (.struct fs) ∧ fs[i]? = some f ∧ f.type = u := by
  intro t i u h
  unfold seatFl at h
  split at h <;> cases h
  · exact ⟨_, _, Tryz.underlying24, rfl, rfl⟩
  · exact ⟨_, _, Tryz.underlying24, rfl, rfl⟩
  · exact ⟨_, _, Tryz.underlying27, rfl, rfl⟩
  · exact ⟨_, _, Tryz.underlying27, rfl, rfl⟩
  · exact ⟨_, _, Tryz.underlying30, rfl, rfl⟩
  · exact ⟨_, _, Tryz.underlying30, rfl, rfl⟩
  · exact ⟨_, _, Tryz.underlying30, rfl, rfl⟩
  · exact ⟨_, _, Tryz.underlying30, rfl, rfl⟩
  · exact ⟨_, _, Tryz.underlying30, rfl, rfl⟩
  · exact ⟨_, _, Tryz.underlying30, rfl, rfl⟩
  · exact ⟨_, _, Tryz.underlying30, rfl, rfl⟩
  · exact ⟨_, _, Tryz.underlying111, rfl, rfl⟩
  · exact ⟨_, _, Tryz.underlying111, rfl, rfl⟩
  · exact ⟨_, _, Tryz.underlying111, rfl, rfl⟩
  · exact ⟨_, _, Tryz.underlying135, rfl, rfl⟩
  · exact ⟨_, _, Tryz.underlying135, rfl, rfl⟩
  · exact ⟨_, _, Tryz.underlying137, rfl, rfl⟩
  · exact ⟨_, _, Tryz.underlying137, rfl, rfl⟩
  · exact ⟨_, _, Tryz.underlying137, rfl, rfl⟩
theorem seatT_ok : TysOk Tryz.prog seatT := ⟨seatTy_ok, seatFl_ok⟩
theorem mixed : Tryz.prog.follows .mixedOrders = true := by kernel_rfl
end Go.Vd

set_option linter.unusedVariables false
set_option linter.unusedSimpArgs false
namespace Go.Vd
def isDb (b : UInt8) : Bool := decide (48 ≤ b.toNat) && decide (b.toNat ≤ 57)
def isD (L : List UInt8) : Bool := !L.isEmpty && L.all isDb
theorem isDb_iff {b : UInt8} : isDb b = true ↔ 48 ≤ b.toNat ∧ b.toNat ≤ 57 := by simp [isDb]
theorem isD_iff {L : List UInt8} : isD L = true ↔ L ≠ [] ∧ ∀ b ∈ L, isDb b = true := by
  simp [isD, List.all_eq_true]
def dig (b : UInt8) : Nat := b.toNat - 48
/-- The last n digits of a number. -/
def decs : Nat → Nat → List UInt8
  | 0, _ => []
  | n + 1, v => decs n (v / 10) ++ [UInt8.ofNat (48 + v % 10)]
theorem decs_len : ∀ n v, (decs n v).length = n
  | 0, _ => rfl
  | n + 1, v => by simp [decs, decs_len n]
theorem snoc_ind {P : List UInt8 → Prop} (h0 : P []) (h1 : ∀ L b, P L → P (L ++ [b])) (L : List UInt8) : P L := by
  have : ∀ n, ∀ L : List UInt8, L.length = n → P L := by
    intro n
    induction n with
    | zero => intro L h; rw [List.length_eq_zero_iff.1 h]; exact h0
    | succ n ih =>
      intro L h
      have hne : L ≠ [] := by intro e; rw [e] at h; simp at h
      rw [← List.dropLast_concat_getLast hne]
      exact h1 _ _ (ih _ (by rw [List.length_dropLast]; omega))
  exact this _ L rfl
/-! ### Luhn's sum -/
def lW (d : Nat) (t : Bool) : Nat := if t then (if 4 < d then 2 * d - 9 else 2 * d) else d
/-- From the end. -/
def lSum : List UInt8 → Bool → Nat
  | [], _ => 0
  | b :: R, t => lW (dig b) t + lSum R (!t)
def odd : Nat → Bool
  | 0 => false
  | n + 1 => !odd n
theorem lSum_snoc : ∀ (R : List UInt8) (b : UInt8) (t : Bool), lSum (R ++ [b]) t = lSum R t + lW (dig b) (t ^^ odd R.length)
  | [], b, t => by simp [lSum, odd]
  | c :: R, b, t => by
    simp only [List.cons_append, lSum, lSum_snoc R b, List.length_cons, odd]
    cases t <;> simp <;> omega
theorem odd_mod : ∀ n, odd n = decide (n % 2 = 1)
  | 0 => rfl
  | n + 1 => by
    rw [odd, odd_mod n]
    rcases Nat.mod_two_eq_zero_or_one n with h | h
    · rw [h]; simp; omega
    · rw [h]; simp; omega
def lFine (L : List UInt8) : Bool := isD L && decide (lSum L.reverse false % 10 = 0)
theorem rev_getD {L : List UInt8} {k : Nat} (hk : k < L.length) : L.reverse.getD (L.length - 1 - k) 0 = L.getD k 0 := by
  rw [List.getD_eq_getElem?_getD, List.getD_eq_getElem?_getD, List.getElem?_reverse (by omega)]
  congr 2
  omega
end Go.Vd

set_option linter.unusedVariables false
set_option linter.unusedSimpArgs false
namespace Go.Vd
def ordI (a b : Int) : Int := if a < b then -1 else if b < a then 1 else 0
def ordS (a b : List UInt8) : Int := if a < b then -1 else if b < a then 1 else 0
theorem bytesLess_eq : ∀ (x y : List UInt8), Op.bytesLess x y = decide (x < y)
  | _, [] => by simp [Op.bytesLess]
  | [], _ :: _ => by simp [Op.bytesLess]
  | a :: x, b :: y => by simp only [Op.bytesLess, bytesLess_eq x y, List.cons_lt_cons_iff]; rw [Bool.eq_iff_iff]; simp
theorem triS (a b : List UInt8) : (a < b ∧ a ≠ b ∧ ordS a b = -1) ∨ (a = b ∧ ordS a b = 0) ∨ (b < a ∧ a ≠ b ∧ ordS a b = 1) := by
  unfold ordS
  by_cases h : a < b
  · exact .inl ⟨h, fun e => List.lt_irrefl _ (e ▸ h), if_pos h⟩
  · rw [if_neg h]
    rcases List.le_iff_lt_or_eq.1 (List.not_lt.1 h) with h1 | h1
    · exact .inr (.inr ⟨h1, fun e => List.lt_irrefl _ (e ▸ h1), if_pos h1⟩)
    · subst h1; exact .inr (.inl ⟨rfl, if_neg h⟩)
/-- The first that isn't 0. -/
def orL : List Int → Int
  | [] => 0
  | x :: l => if x = 0 then orL l else x
theorem orL_zero : ∀ {L : List Int} {i : Nat}, (∀ x ∈ L.take i, x = 0) → i < L.length → orL L = if L.getD i 0 = 0 then orL (L.drop (i + 1)) else L.getD i 0
  | [], i, _, h => by simp at h
  | x :: l, 0, _, _ => by simp [orL]
  | x :: l, i + 1, h, hi => by
    have hx : x = 0 := h x (by simp)
    have := orL_zero (L := l) (i := i) (fun y hy => h y (by simp [hy])) (by simpa using hi)
    simpa [orL, hx] using this
theorem orL_all : ∀ {L : List Int}, (∀ x ∈ L, x = 0) → orL L = 0
  | [], _ => rfl
  | x :: l, h => by simp [orL, h x (by simp), orL_all (L := l) fun y hy => h y (by simp [hy])]
def ordK (s : Int) (r : List UInt8) (s' : Int) (r' : List UInt8) : Int := if ordI s s' = 0 then ordS r r' else ordI s s'
theorem ordK_or (s : Int) (r : List UInt8) (s' : Int) (r' : List UInt8) : orL [ordI s s', ordS r r'] = ordK s r s' r' := by
  simp only [orL, ordK]
  split
  · split
    · rename_i h; exact h.symm
    · rfl
  · rfl
theorem ordK_eq (s : Int) (r : List UInt8) (s' : Int) (r' : List UInt8) : ordK s r s' r' = if s = s' ∧ r = r' then 0 else if s < s' ∨ (s = s' ∧ r < r') then -1 else 1 := by
  unfold ordK
  rcases Int.lt_trichotomy s s' with h | h | h
  · have e : ordI s s' = -1 := if_pos h
    rw [e, if_neg (by omega), if_neg (fun h' => by omega), if_pos (.inl h)]
  · have e : ordI s s' = 0 := by rw [h]; simp [ordI]
    rw [e, if_pos rfl]
    rcases triS r r' with ⟨h1, n, e1⟩ | ⟨n, e1⟩ | ⟨h1, n, e1⟩ <;> rw [e1]
    · rw [if_neg (fun h' => n h'.2), if_pos (.inr ⟨h, h1⟩)]
    · rw [if_pos ⟨h, n⟩]
    · rw [if_neg (fun h' => n h'.2), if_neg]
      rintro (h' | h')
      · omega
      · exact List.lt_irrefl _ (List.lt_trans h1 h'.2)
  · have e : ordI s s' = 1 := by unfold ordI; rw [if_neg (by omega), if_pos h]
    rw [e, if_neg (by omega), if_neg (fun h' => by omega), if_neg (fun h' => by omega)]
/-! ### Signs -/
def okB (b : UInt8) : Bool := decide (32 ≤ b.toNat) && decide (b.toNat ≤ 126)
def inS (k : Int) (b : UInt8) : Bool := if k = 1 ∨ k = 3 then isDb b else okB b
def signs (k : Int) (r : List UInt8) : Bool := r.all (inS k)
def keyOk (s : Int) (r : List UInt8) : Bool := decide (s ≤ 999999) && (decide (r.length = 12) && r.all okB)
theorem all_take {p : UInt8 → Bool} {r : List UInt8} {i : Nat} (h : i < r.length) : (r.take (i + 1)).all p = ((r.take i).all p && p (r.getD i 0)) := by
  rw [← take_snoc (d := 0) h]; simp
theorem all_false {p : UInt8 → Bool} {r : List UInt8} {i : Nat} (h : i < r.length) (hp : p (r.getD i 0) = false) : r.all p = false := by
  rw [List.all_eq_false]
  refine ⟨r.getD i 0, ?_, by rw [hp]; simp⟩
  rw [List.getD_eq_getElem?_getD, List.getElem?_eq_getElem h]
  exact List.getElem_mem h
/-! ### Shards -/
def fnv1 (h : Nat) (b : UInt8) : Nat := (h ^^^ b.toNat) * 16777619 % 4294967296
def fnv (L : List UInt8) : Nat := L.foldl fnv1 2166136261
theorem foldl_snoc {α β : Type} (f : α → β → α) (a : α) (L : List β) (b : β) : (L ++ [b]).foldl f a = f (L.foldl f a) b := by simp
theorem fnv_snoc (L : List UInt8) (b : UInt8) : fnv (L ++ [b]) = fnv1 (fnv L) b := foldl_snoc fnv1 _ L b
theorem fnv_lt (L : List UInt8) : fnv L < 4294967296 := by
  induction L using snoc_ind with
  | h0 => show 2166136261 < 4294967296; omega
  | h1 L b ih => rw [fnv_snoc]; exact Nat.mod_lt _ (by omega)
theorem xor_lt {h : Nat} (b : UInt8) (hh : h < 4294967296) : h ^^^ b.toNat < 4294967296 := Nat.xor_lt_two_pow (n := 32) hh (by have := b.toNat_lt; omega)
theorem xor32 {h : Nat} (b : UInt8) (hh : h < 4294967296) : bits .xor .u32 (h : Int) (b.toNat : Int) = ((h ^^^ b.toNat : Nat) : Int) := by
  show IntKind.u32.wrap ((BitVec.ofInt 32 (h : Int) ^^^ BitVec.ofInt 32 (b.toNat : Int)).toNat : Int) = _
  have hb := b.toNat_lt
  have h1 : (BitVec.ofInt 32 (h : Int)).toNat = h := by rw [BitVec.toNat_ofInt]; omega
  have h2 : (BitVec.ofInt 32 (b.toNat : Int)).toNat = b.toNat := by rw [BitVec.toNat_ofInt]; omega
  rw [BitVec.toNat_xor, h1, h2, IntKind.wrap_u32]
  have := xor_lt b hh
  omega
theorem xor64 {h : Nat} (b : UInt8) (hh : h < 4294967296) : bits .xor .u64 (h : Int) (b.toNat : Int) = ((h ^^^ b.toNat : Nat) : Int) := by
  show IntKind.u64.wrap ((BitVec.ofInt 64 (h : Int) ^^^ BitVec.ofInt 64 (b.toNat : Int)).toNat : Int) = _
  have hb := b.toNat_lt
  have h1 : (BitVec.ofInt 64 (h : Int)).toNat = h := by rw [BitVec.toNat_ofInt]; omega
  have h2 : (BitVec.ofInt 64 (b.toNat : Int)).toNat = b.toNat := by rw [BitVec.toNat_ofInt]; omega
  rw [BitVec.toNat_xor, h1, h2, IntKind.wrap_u64]
  have := xor_lt b hh
  omega
/-- What the program mixes. -/
def mixI (h b : Int) : Int := IntKind.u32.wrap (bits .xor .u32 h (IntKind.u32.wrap b) * 16777619)
theorem mixI_fnv (L : List UInt8) (b : UInt8) : mixI (fnv L) (b.toNat : Int) = (fnv (L ++ [b]) : Int) := by
  unfold mixI
  have hb := b.toNat_lt
  have hw : IntKind.u32.wrap (b.toNat : Int) = b.toNat := by rw [IntKind.wrap_u32]; omega
  rw [hw, xor32 b (fnv_lt L), fnv_snoc, fnv1, IntKind.wrap_u32]
  omega
theorem decs_cons : ∀ (n v : Nat), decs (n + 1) v = UInt8.ofNat (48 + v / 10 ^ n % 10) :: decs n v
  | 0, v => by simp [decs]
  | n + 1, v => by
    rw [decs, decs_cons n (v / 10)]
    rw [Nat.div_div_eq_div_mul, show 10 * 10 ^ n = 10 ^ (n + 1) by rw [Nat.pow_succ]; omega]
    rfl
/-- Digit j of six. -/
theorem decs_getD {s j : Nat} (h : j < 6) : (decs 6 s).getD j 0 = UInt8.ofNat (48 + s / 10 ^ (5 - j) % 10) := by
  rw [decs_cons 5, decs_cons 4, decs_cons 3, decs_cons 2, decs_cons 1, decs_cons 0]
  match j, h with
  | 0, _ => rfl
  | 1, _ => rfl
  | 2, _ => rfl
  | 3, _ => rfl
  | 4, _ => rfl
  | 5, _ => rfl
end Go.Vd

set_option linter.unusedVariables false
set_option linter.unusedSimpArgs false
set_option maxRecDepth 100000
set_option maxHeartbeats 2000000
namespace Go.Vd
open Go.Proofs
theorem gD' (r : List UInt8) (i : Nat) : r[i]?.getD 0 = r.getD i 0 := (List.getD_eq_getElem?_getD ..).symm
theorem isD_all {L : List UInt8} (h : ¬L = []) : isD L = L.all isDb := by
  rw [Bool.eq_iff_iff, isD_iff, List.all_eq_true]
  exact ⟨fun h' => h'.2, fun h' => ⟨h, h'⟩⟩
theorem isDb_no {b : UInt8} (h : b.toNat < 48 ∨ 57 < b.toNat) : isDb b = false := by
  rw [Bool.eq_false_iff]; intro h'; have := isDb_iff.1 h'; omega
theorem isDb_yes {b : UInt8} (h : 48 ≤ b.toNat ∧ b.toNat ≤ 57) : isDb b = true := isDb_iff.2 h
attribute [local irreducible] vc
theorem good_gIs (L : List UInt8) (hL : L.length ≤ 1000000) : GoodP Tryz.prog gl0 84 [.str L] (.bool (std.tb fun _ => isD L)) := by
  refine fn_sound' (T := seatT) (G := noC) (X := noX) seatT_ok noC_ok noX_ok noI_ok mixed Tryz.func84 (.one) (fun A => [.str L]) (fun A => .bool (A.tb fun _ => isD L)) fun A hA => ?_
  cbv
  repeat' (first | with_reducible exact True.intro | with_reducible exact dr_ok hA (by kernel_rfl) | with_reducible refine And.intro ?_ ?_ | (intro hc; cbv))
  · subst hA; simp [-List.getD_eq_getElem?_getD, sS, strOf_lit, lstOf_lit inj_eB, lstOf_lit inj_eZ, lstOf_lit inj_eBs, lstOf_lit inj_eS] at *
    simp [hc, isD]
  refine ⟨⟨{i : Nat // i ≤ L.length ∧ (L.take i).all isDb = true}, fun b i => [(3, .int .i64 (i.1 : Nat))], fun b i => [], fun i => L.length - i.1, true⟩, ⟨⟨0, by omega, by simp⟩, ?_⟩, ?_⟩
  · cbv
    subst hA
    simp [-List.getD_eq_getElem?_getD, sS]
  · have hne : ¬L = [] := by subst hA; simpa [sS] using hc
    rintro ⟨i, hi, hz⟩
    clear hc
    cbv
    repeat' (first | with_reducible exact True.intro | with_reducible exact dr_ok hA (by kernel_rfl) | with_reducible refine And.intro ?_ ?_ | (intro hc; cbv))
    all_goals first
      | (fail_if_success (refine Exists.intro ?_ ?_)
         subst hA
         simp [-List.getD_eq_getElem?_getD, sS, gD'] at *
         done)
      | (fail_if_success (refine Exists.intro ?_ ?_)
         subst hA
         simp [-List.getD_eq_getElem?_getD, sS, gD'] at *
         first
           | omega
           | (constructor <;> omega)
           | (have hlt : i < L.length := by omega
              rw [isD_all hne, all_false hlt (isDb_no (by omega))]; done)
           | (rw [isD_all hne, List.all_eq_true]
              rw [List.take_of_length_le (by omega)] at hz
              exact hz)
           | trace_state)
      | (have hlt : i < L.length := by clear hz; subst hA; simp [sS] at *; omega
         have hx : isDb (L.getD i 0) = true := by
           clear hz
           subst hA
           simp [-List.getD_eq_getElem?_getD, sS, gD'] at *
           exact isDb_yes (by omega)
         refine ⟨⟨i + 1, by omega, by rw [all_take hlt, hz, hx]; rfl⟩, ?_, show L.length - (i + 1) < L.length - i by omega⟩
         cbv
         subst hA
         simp [sS]
         exact w64 (by omega))
      | trace_state
theorem good_rIs (L : List UInt8) (hL : L.length ≤ 1000000) : GoodP Tryz.prog gl0 91 [.str L] (.bool (std.tb fun _ => isD L)) := by
  refine fn_sound' (T := seatT) (G := noC) (X := noX) seatT_ok noC_ok noX_ok noI_ok mixed Tryz.func91 (.one) (fun A => [.str L]) (fun A => .bool (A.tb fun _ => isD L)) fun A hA => ?_
  cbv
  repeat' (first | with_reducible exact True.intro | with_reducible exact dr_ok hA (by kernel_rfl) | with_reducible refine And.intro ?_ ?_ | (intro hc; cbv))
  refine ⟨⟨{i : Nat // i ≤ L.length ∧ (L.take i).all isDb = true}, fun b i => [(3, .int .i64 (i.1 : Nat))], fun b i => [], fun i => L.length - i.1, true⟩, ⟨⟨0, by omega, by simp⟩, ?_⟩, ?_⟩
  · cbv
    subst hA
    simp [-List.getD_eq_getElem?_getD, sS]
  · rintro ⟨i, hi, hz⟩
    cbv
    repeat' (first | with_reducible exact True.intro | with_reducible exact dr_ok hA (by kernel_rfl) | with_reducible refine And.intro ?_ ?_ | (intro hc; cbv))
    all_goals first
      | (fail_if_success (refine Exists.intro ?_ ?_)
         subst hA
         simp [-List.getD_eq_getElem?_getD, sS, gD'] at *
         done)
      | (fail_if_success (refine Exists.intro ?_ ?_)
         subst hA
         simp [-List.getD_eq_getElem?_getD, sS, gD'] at *
         first
           | omega
           | (constructor <;> omega)
           | (have hlt : i < L.length := by omega
              have hne : ¬L = [] := fun e => by rw [e] at hlt; simp at hlt
              rw [isD_all hne, all_false hlt (isDb_no (by omega))]; done)
           | (rw [List.take_of_length_le (by omega)] at hz
              by_cases hne : L = []
              · subst hne; rfl
              · rw [isD_all hne, List.all_eq_true.2 hz]
                have := List.length_pos_iff.2 hne
                simp; omega)
           | trace_state)
      | (have hlt : i < L.length := by clear hz; subst hA; simp [sS] at *; omega
         have hx : isDb (L.getD i 0) = true := by
           clear hz
           subst hA
           simp [-List.getD_eq_getElem?_getD, sS, gD'] at *
           exact isDb_yes (by omega)
         refine ⟨⟨i + 1, by omega, by rw [all_take hlt, hz, hx]; rfl⟩, ?_, show L.length - (i + 1) < L.length - i by omega⟩
         cbv
         subst hA
         simp [sS]
         exact w64 (by omega))
      | trace_state
theorem getD_dig {L : List UInt8} (h : isD L = true) {i : Nat} (hi : i < L.length) : 48 ≤ (L.getD i 0).toNat ∧ (L.getD i 0).toNat ≤ 57 := by
  apply isDb_iff.1
  apply (isD_iff.1 h).2
  rw [List.getD_eq_getElem?_getD, List.getElem?_eq_getElem hi]
  exact List.getElem_mem hi
noncomputable def c_gIs : Ct := fun A args => match args with
  | [.str L] => some (some (A.tp fun _ => L.length ≤ 1000000), .bool (A.tb fun _ => isD L))
  | _ => none
noncomputable def c_rIs : Ct := fun A args => match args with
  | [.str L] => some (some (A.tp fun _ => L.length ≤ 1000000), .bool (A.tb fun _ => isD L))
  | _ => none
noncomputable def gg1 : Ar → Pu := addC 84 c_gIs (addC 91 c_rIs (noC))
theorem gg1_ok : PuOk Tryz.prog gl0 (gg1 std) := by
  refine addC_ok (addC_ok (noC_ok) ⟨_, Tryz.func91, rfl, by decide⟩ ?_) ⟨_, Tryz.func84, rfl, by decide⟩ ?_
  · intro args p r h hp
    unfold c_rIs at h
    split at h <;> cases h
    exact good_rIs _ hp
  · intro args p r h hp
    unfold c_gIs at h
    split at h <;> cases h
    exact good_gIs _ hp
end Go.Vd

set_option linter.unusedVariables false
set_option linter.unusedSimpArgs false
namespace Go.Proofs
open Go.RowKit Go.Shelf
attribute [local go_sem] Oper.semAt_some

theorem fe_take {L : List UInt8} {k : Nat} (h : k < L.length) : L.reverse.take k ++ [L.getD (L.length - 1 - k) 0] = L.reverse.take (k + 1) := by
  rw [← Vd.rev_getD (by omega), show L.length - 1 - (L.length - 1 - k) = k by omega]
  exact Vd.take_snoc (by rw [List.length_reverse]; exact h)

/-- The box is as it was. -/
def KBs (Bs : Nat) (A B : World) : Prop := ∀ v, A.cell? ⟨Bs, 0, none⟩ = some v → B.cell? ⟨Bs, 0, none⟩ = some v
theorem ba_get {L : List UInt8} {i : Nat} (h : i < (ByteArray.mk L.toArray).size) : (ByteArray.mk L.toArray)[i]'h = L.getD i 0 := by
  have h1 : i < L.length := by simpa [ByteArray.size] using h
  rw [List.getD_eq_getElem?_getD, List.getElem?_eq_getElem h1]
  rfl

set_option maxRecDepth 100000 in
set_option maxHeartbeats 2000000 in
theorem fromEnd1_in (F : Fence) (n : Nat) (h76 : F.fn 106) (hro : F.round = none) (hn : 1 ≤ n) (l Bs : Nat) (L : List UInt8) (hL : L.length ≤ 1000000) (J Jx : List UInt8 → World → Prop)
    (hY : ∀ pre x W, J pre W → pre.length < L.length → YieldAt F (n - 1) Tryz.prog l #[.int .u8 (x.toNat : Int)] W fun e W' =>
      (e = .returned (.bool true) ∧ J (pre ++ [x]) W' ∧ KBs Bs W W') ∨ (e = .returned (.bool false) ∧ Jx (pre ++ [x]) W'))
    (W : World) (hBs : W.cell? ⟨Bs, 0, none⟩ = some (.string ⟨L.toArray⟩)) (h0 : J [] W) :
    CallsIn F n Tryz.prog 106 #[.func (.yield l) #[] #[], .pointer (some ⟨Bs, 0, none⟩)] W fun e W' => (∃ v, e = .returned v) ∧
      ((∃ ys, ys = L.reverse ∧ J ys W') ∨ (∃ pre, pre <+: L.reverse ∧ Jx pre W')) := by
  refine callsIn_of_wp Tryz.func106 rfl h76 ?_ hro
  simp only [Tryz.ntmps106, List.size_toArray, List.length_cons, List.length_nil, Nat.reduceAdd, Nat.reduceSub, Array.replicate_succ, Array.replicate_zero, List.push_toArray, List.append_toArray, List.nil_append, List.cons_append]
  gi_wp2
  gi_loopw [3] (fun i wr => ∃ k : Nat, k ≤ L.length ∧ i = .int .i64 ((L.length : Int) - 1 - k) ∧ J (L.reverse.take k) wr ∧ wr.cell? ⟨Bs, 0, none⟩ = some (.string ⟨L.toArray⟩))
    (fun i _ => (intOf i + 1).toNat)
  case atStart => exact ⟨0, Nat.zero_le _, by simp, h0, hBs⟩
  case round =>
    obtain ⟨k, hk, rfl, hJs, hs⟩ := hrel
    by_cases hlt : k < L.length
    · have hx : L.length - 1 - k < (ByteArray.mk L.toArray).size := by simp [ByteArray.size]; omega
      obtain ⟨fn, tmps, assign, body, hy, hR⟩ := hY _ ((ByteArray.mk L.toArray)[L.length - 1 - k]'hx) wr hJs (by rw [List.length_take]; simp; omega)
      have h1 : (0 : Int) ≤ (L.length : Int) - 1 - k := by omega
      have ht : L.reverse.take k ++ [(ByteArray.mk L.toArray)[L.length - 1 - k]'hx] = L.reverse.take (k + 1) := by rw [ba_get]; exact fe_take hlt
      gi_wp2
      refine hR.mono ?_
      rintro e W3 (⟨rfl, hJ3, hk3⟩ | ⟨rfl, hJx3⟩)
      · rw [ht] at hJ3
        gi_wp2
        go_roundw
        case rel => exact ⟨k + 1, by omega, by first | rfl | (congr 1; omega) | (simp; omega), hJ3, hk3 _ hs⟩
        case measure => simp [intOf]; omega
      · rw [ht] at hJx3
        gi_wp2
        refine bodyPost_ret (results_none rfl _ _ _) rfl ?_
        exact ⟨⟨_, rfl⟩, .inr ⟨_, ⟨L.reverse.drop (k + 1), List.take_append_drop _ _⟩, hJx3⟩⟩
    · obtain rfl : k = L.length := by omega
      gi_wp2
      have hJf : J L.reverse wr := by rw [List.take_of_length_le (by simp)] at hJs; exact hJs
      go_end0
      exact ⟨⟨_, rfl⟩, .inl ⟨_, rfl, hJf⟩⟩

/-- A new box: what it holds; it stays so beside a newer one. -/
theorem box_new (W : World) (v : Value) (t : TypeId) : (W.alloc (.cells #[v] t)).cell? ⟨W.heap.size, 0, none⟩ = some v ∧ (W.alloc (.cells #[v] t)).frozen? ⟨W.heap.size, 0, none⟩ = false := ⟨by simp, by simp⟩
theorem box_old {W : World} {a : Addr} {v : Value} (o : Obj) (h : W.cell? a = some v) : (W.alloc o).cell? a = some v := cell_kept h (World.grownBy_alloc W o none) (fun r e => by cases e)
theorem box_soft {W : World} {a : Addr} {v : Value} (o : Obj) (h : W.cell? a = some v) (hf : W.frozen? a = false) : (W.alloc o).frozen? a = false := (frozen_kept h (World.grownBy_alloc W o none) (fun r e => by cases e)).trans hf

set_option maxHeartbeats 1000000 in
theorem fromEnd_in (F : Fence) (n : Nat) (h58 : F.fn 99) (hro : F.round = none) (s : ByteArray) (w : World) :
    CallsIn F n Tryz.prog 99 #[.string s] w fun e w' => e = .returned (.func (.func 106) #[] #[.pointer (some ⟨w.heap.size, 0, none⟩)]) ∧ w' = w.alloc (.cells #[.string s] 9) := by
  refine callsIn_of_wp Tryz.func99 rfl h58 ?_ hro
  simp only [Tryz.ntmps99, List.size_toArray, List.length_cons, List.length_nil, Nat.reduceAdd, Nat.reduceSub, Array.replicate_succ, Array.replicate_zero, List.push_toArray, List.append_toArray, List.nil_append, List.cons_append]
  gi_wp2
  go_ret
  exact ⟨rfl, rfl⟩

theorem fromEnd_stops (F : Fence) (n : Nat) (h76 : F.fn 106) (hro : F.round = none) (hn : 1 ≤ n) (Bs : Nat) (L : List UInt8) (hL : L.length ≤ 1000000) (w : World) (hBs : Bs < w.heap.size) (hc : w.cell? ⟨Bs, 0, none⟩ = some (.string ⟨L.toArray⟩)) :
    SeqStopsK F n Tryz.prog 106 #[.pointer (some ⟨Bs, 0, none⟩)] (fun x : UInt8 => #[Value.int .u8 (x.toNat : Int)]) (KBs Bs) (fun ys => ys = L.reverse) (fun pre => pre <+: L.reverse) L.length w := fun l J Jx W hW _ _ hY h0 => by
  have hc' := (hW.cell (p := ⟨Bs, 0, none⟩) hBs).trans hc
  exact fromEnd1_in F n h76 hro hn l Bs L hL J Jx hY W hc' h0

set_option maxHeartbeats 1000000 in
theorem weight_in (F : Fence) (n : Nat) (h59 : F.fn 100) (hro : F.round = none) (d : Nat) (hd : d < 256) (t : Bool) (w : World) :
    CallsIn F n Tryz.prog 100 #[.int .i64 (d : Int), .bool t] w fun e w' => e = .returned (.int .i64 (Vd.lW d t : Int)) ∧ w' = w := by
  refine callsIn_of_wp Tryz.func100 rfl h59 ?_ hro
  simp only [Tryz.ntmps100, List.size_toArray, List.length_cons, List.length_nil, Nat.reduceAdd, Nat.reduceSub, Array.replicate_succ, Array.replicate_zero, List.push_toArray, List.append_toArray, List.nil_append, List.cons_append]
  have e1 : Vd.lW d false = d := rfl
  cases t
  · gi_wp2
    go_ret
    exact ⟨by rw [e1]; rfl, rfl⟩
  · by_cases h : 4 < d
    · have e2 : ((Vd.lW d true : Nat) : Int) = 2 * (d : Int) - 9 := by
        have e3 : Vd.lW d true + 9 = 2 * d := by (simp only [Vd.lW, if_true]; rw [if_pos (by omega)]; omega)
        omega
      gi_wp2
      go_ret
      exact ⟨by rw [e2]; rfl, rfl⟩
    · have e2 : ((Vd.lW d true : Nat) : Int) = 2 * (d : Int) := by
        have e3 : Vd.lW d true = 2 * d := by (simp only [Vd.lW, if_true]; rw [if_neg (by omega)])
        omega
      gi_wp2
      go_ret
      exact ⟨by rw [e2]; rfl, rfl⟩

/-- The weight of whatever byte. -/
def dig8 (b : UInt8) : Nat := (b.toNat + 208) % 256
def lSum8 : List UInt8 → Bool → Nat
  | [], _ => 0
  | b :: R, t => Vd.lW (dig8 b) t + lSum8 R (!t)
theorem lSum8_snoc : ∀ (R : List UInt8) (b : UInt8) (t : Bool), lSum8 (R ++ [b]) t = lSum8 R t + Vd.lW (dig8 b) (t ^^ Vd.odd R.length)
  | [], b, t => by simp [lSum8, Vd.odd]
  | c :: R, b, t => by
    simp only [List.cons_append, lSum8, lSum8_snoc R b, List.length_cons, Vd.odd]
    cases t <;> simp <;> omega
theorem lW_le (d : Nat) (t : Bool) (h : d < 256) : Vd.lW d t ≤ 510 := by
  unfold Vd.lW; cases t <;> simp <;> (try split) <;> omega
theorem lSum8_le : ∀ (R : List UInt8) (t : Bool), lSum8 R t ≤ 510 * R.length
  | [], _ => by simp [lSum8]
  | b :: R, t => by
    have h1 := lSum8_le R (!t)
    have h2 := lW_le (dig8 b) t (Nat.mod_lt _ (by omega))
    simp only [lSum8, List.length_cons]
    omega
theorem lSum8_eq : ∀ (R : List UInt8) (t : Bool), (∀ b ∈ R, Vd.isDb b = true) → lSum8 R t = Vd.lSum R t
  | [], _, _ => rfl
  | b :: R, t, h => by
    have hb := Vd.isDb_iff.1 (h b (by simp))
    have e : dig8 b = Vd.dig b := by unfold dig8 Vd.dig; omega
    simp only [lSum8, Vd.lSum, e, lSum8_eq R (!t) fun c hc => h c (by simp [hc])]

theorem sum_end {t : Bool} {w W : World} {pre : List UInt8} {x : UInt8} {v0 v1 u0 u1 : Value} (hc0 : W.cell? ⟨w.heap.size, 0, none⟩ = some u0) (hf0 : W.frozen? ⟨w.heap.size, 0, none⟩ = false) (hc1 : W.cell? ⟨w.heap.size + 1, 0, none⟩ = some u1) (hf1 : W.frozen? ⟨w.heap.size + 1, 0, none⟩ = false)
    (hB : Below w.heap.size w W) (W' : World) (hW' : W' = ((W.setCell ⟨w.heap.size + 1, 0, none⟩ v1).setCell ⟨w.heap.size, 0, none⟩ v0).drew) :
    KeepsOthers W W' ∧ KBs (w.heap.size + 1 + 1) W W' ∧ ((W'.cell? ⟨w.heap.size, 0, none⟩ = some v0 ∧ W'.frozen? ⟨w.heap.size, 0, none⟩ = false) ∧ (W'.cell? ⟨w.heap.size + 1, 0, none⟩ = some v1 ∧ W'.frozen? ⟨w.heap.size + 1, 0, none⟩ = false)) ∧ Below w.heap.size w W' := by
  subst hW'
  have hne : (⟨w.heap.size, 0, none⟩ : Addr) ≠ ⟨w.heap.size + 1, 0, none⟩ := fun e => by injection e; omega
  have hn0 : (⟨w.heap.size, 0, none⟩ : Addr) ≠ ⟨w.heap.size + 1 + 1, 0, none⟩ := fun e => by injection e; omega
  have hn1 : (⟨w.heap.size + 1, 0, none⟩ : Addr) ≠ ⟨w.heap.size + 1 + 1, 0, none⟩ := fun e => by injection e; omega
  have hk : (W.setCell ⟨w.heap.size + 1, 0, none⟩ v1).cell? ⟨w.heap.size, 0, none⟩ = some u0 := by rw [World.cell?_setCell_other _ _ _ _ (Ne.symm hne)]; exact hc0
  refine ⟨((KeepsOthers.setCell _ _ _).trans (KeepsOthers.setCell _ _ _)).trans (KeepsOthers.drew _), fun v hv => ?_, ⟨⟨?_, ?_⟩, ?_, ?_⟩, ?_⟩
  · rw [World.cell?_drew, World.cell?_setCell_other _ _ _ _ hn0, World.cell?_setCell_other _ _ _ _ hn1]; exact hv
  · rw [World.cell?_drew]; exact World.cell?_setCell_same _ _ _ hk
  · rw [frozen_drew_own, World.frozen?_setCell, World.frozen?_setCell]; exact hf0
  · rw [World.cell?_drew, World.cell?_setCell_other _ _ _ _ hne]; exact World.cell?_setCell_same _ _ _ hc1
  · rw [frozen_drew_own, World.frozen?_setCell, World.frozen?_setCell]; exact hf1
  · exact ((hB.setCell (p := ⟨w.heap.size + 1, 0, none⟩) (by simp) _).setCell (p := ⟨w.heap.size, 0, none⟩) (Nat.le_refl _) _).drew

set_option maxRecDepth 100000 in
set_option maxHeartbeats 4000000 in
theorem sum_in (F : Fence) (n : Nat) (h38 : F.fn 85) (h58 : F.fn 99) (h76 : F.fn 106) (h59 : F.fn 100) (hro : F.round = none) (hn : 3 ≤ n) (L : List UInt8) (hL : L.length ≤ 1000000) (t : Bool) (w : World) :
    CallsIn F n Tryz.prog 85 #[.string ⟨L.toArray⟩, .bool t] w fun e w' => e = .returned (.int .i64 (lSum8 L.reverse t : Int)) ∧ Below w.heap.size w w' := by
  have h1 : 1 ≤ n := by omega
  refine callsIn_of_wp_marks Tryz.func85 rfl h38 ?_ hro
  simp only [Tryz.ntmps85, List.size_toArray, List.length_cons, List.length_nil, Nat.reduceAdd, Nat.reduceSub, Array.replicate_succ, Array.replicate_zero, List.push_toArray, List.append_toArray, List.nil_append, List.cons_append]
  gi_wp2_with (gi_at_call 99; refine (fromEnd_in F (n - 1) h58 hro _ _).mono ?_; rintro e w' ⟨rfl, rfl⟩)
  have c0 := box_new w (.bool t) 4
  have c1 := box_new (w.alloc (.cells #[.bool t] 4)) (.int .i64 0) 3
  have c2 := box_new ((w.alloc (.cells #[.bool t] 4)).alloc (.cells #[.int .i64 0] 3)) (.string ⟨L.toArray⟩) 9
  simp only [World.size_alloc] at c1 c2
  have hB0 : Below w.heap.size w (((w.alloc (.cells #[.bool t] 4)).alloc (.cells #[.int .i64 0] 3)).alloc (.cells #[.string ⟨L.toArray⟩] 9)) := (((Below.refl _ w).alloc (Nat.le_refl _) _).alloc (by simp) _).alloc (by simp; omega) _
  refine wpIn_rangeFunc_ownF hro h1 (gf := 106) (lb := #[.pointer (some ⟨w.heap.size + 1 + 1, 0, none⟩)]) rfl h76 (enters_of Tryz.func106 (by kernel_rfl) rfl)
    (fromEnd_stops F (n - 1) h76 hro (by omega) (w.heap.size + 1 + 1) L hL _ (by simp) c2.1) (fun h k v hv => k v (h v hv)) (fun W l o o' _ h0 hc _ v hv => cell_kept hv (grownBy_putObj' _ l o') (fun r e => by cases e; exact ⟨_, h0, hc⟩)) (Below.refl _ _) (fun _ => rfl)
    (fun pre W => ((W.cell? ⟨w.heap.size, 0, none⟩ = some (.bool (t ^^ Vd.odd pre.length)) ∧ W.frozen? ⟨w.heap.size, 0, none⟩ = false) ∧ (W.cell? ⟨w.heap.size + 1, 0, none⟩ = some (.int .i64 (lSum8 pre t : Int)) ∧ W.frozen? ⟨w.heap.size + 1, 0, none⟩ = false)) ∧ Below w.heap.size w W)
    (fun _ _ _ => False)
    (OwnFrom.and (Own.from (fun s A B row hs hg hr => ⟨⟨cell_kept hs.1.1 hg hr, (frozen_kept hs.1.1 hg hr).trans hs.1.2⟩, cell_kept hs.2.1 hg hr, (frozen_kept hs.2.1 hg hr).trans hs.2.2⟩) _) (ownFrom_below (Nat.le_refl _) (by simp; omega)))
    (fun _ _ _ _ _ hs _ _ => hs)
    ⟨⟨⟨by rw [show (t ^^ Vd.odd ([] : List UInt8).length) = t by simp [Vd.odd]]; exact box_old _ (box_old _ c0.1), box_soft _ (box_old _ c0.1) (box_soft _ c0.1 c0.2)⟩, box_old _ c1.1, box_soft _ c1.1 c1.2⟩, hB0⟩
    (fun x => { tmps := #[.string ⟨L.toArray⟩, .bool t, undef, .pointer (some ⟨w.heap.size, 0, none⟩), .int .i64 0, .pointer (some ⟨w.heap.size + 1, 0, none⟩), .int .u8 (x.toNat : Int), .string ⟨L.toArray⟩, .func (.func 106) #[] #[.pointer (some ⟨w.heap.size + 1 + 1, 0, none⟩)], .int .u8 (x.toNat : Int), undef, undef, undef, undef, undef, undef, undef, undef, undef, undef], defers := [] }) ?assign ?body ?done ?stop
  case assign =>
    intro l x W K hK
    gi_wp2
    exact hK
  case body =>
    rintro l pre x W ⟨⟨⟨hc0, hf0⟩, hc1, hf1⟩, hB⟩ hlen
    have hd : 1 ≤ n - 1 - 1 := by omega
    have hmx : Tryz.prog.follows .mixedOrders = true := by kernel_rfl
    have hle := lSum8_le pre t
    have hd8 : dig8 x < 256 := Nat.mod_lt _ (by omega)
    have hlw := lW_le (dig8 x) (t ^^ Vd.odd pre.length) hd8
    have hsum : wrap64 ((lSum8 pre t : Int) + (Vd.lW (dig8 x) (t ^^ Vd.odd pre.length) : Int)) = (lSum8 (pre ++ [x]) t : Int) := by
      rw [lSum8_snoc]
      unfold wrap64
      omega
    have hodd : (!(t ^^ Vd.odd pre.length)) = (t ^^ Vd.odd (pre ++ [x]).length) := by
      rw [List.length_append, List.length_singleton, Vd.odd]
      cases t <;> simp
    have hw8 : IntKind.i64.wrap (IntKind.u8.wrap ((x.toNat : Int) - 48)) = (dig8 x : Int) := by
      have hx := x.toNat_lt
      rw [IntKind.wrap_u8, IntKind.wrap_i64]
      unfold dig8
      omega
    gi_wp2
    gi_region_with_o (gi_at_call 100; refine (CallsIn.inRound l (weight_in F _ h59 hro (dig8 x) hd8 _ _)).mono ?_; rintro e w' ⟨rfl, rfl⟩)
    all_goals gi_wp2
    all_goals (try go_bits)
    all_goals (have he : ((lSum8 pre t : Int) + (Vd.lW (dig8 x) (t ^^ Vd.odd pre.length) : Int)) = (lSum8 (pre ++ [x]) t : Int) := by rw [lSum8_snoc]; omega)
    all_goals (have hbt : (t ^^ Vd.odd (pre.length + 1)) = (t ^^ Vd.odd (pre ++ [x]).length) := by simp)
    all_goals (try rw [hsum])
    all_goals (try rw [he])
    all_goals (try rw [hodd])
    all_goals (try rw [hbt])
    all_goals (exact sum_end (t := t) (pre := pre) (x := x) hc0 hf0 hc1 hf1 hB _ rfl)
  case done =>
    rintro D ys W hD rfl ⟨⟨_, hc1, _⟩, hB⟩ hK
    gi_wp2
    refine ⟨by simp, .inl ⟨_, _, rfl, run_takeDeferred hK, ?_⟩⟩
    exact ⟨_, results_tmp rfl _ _ _, rfl, hB.trans (belowK_b (w := w) (Nat.le_refl _) W D _ _ (by simp at hD; omega) hK rfl rfl)⟩
  case stop =>
    rintro D c pre W _ _ h _
    exact h.elim
end Go.Proofs

set_option linter.unusedVariables false
set_option linter.unusedSimpArgs false
set_option maxRecDepth 100000
set_option maxHeartbeats 2000000
namespace Go.Vd
open Go.Proofs
theorem good_gSum (L : List UInt8) (t : Bool) (hp : L.length ≤ 1000000 ∧ isD L = true) : GoodP Tryz.prog gl0 85 [.str L, .bool t] (.int .i64 (std.ti fun _ => (lSum L.reverse t : Int))) := by
  intro w ρ rw N vs hfr hrw hg hargs
  match vs, hargs with
  | [v1, v2], ⟨r1, r2, _⟩ =>
    generalize hs1 : SV.str L = s1 at r1
    generalize hs2 : SV.bool t = s2 at r2
    cases r1 with
    | str s =>
      cases r2 with
      | bool b =>
        cases hs1
        cases hs2
        have h0 := callsIn_wide.1 (sum_in Fence.wide 3 trivial trivial trivial trivial rfl (by omega) s.data.toList hp.1 t w)
        have e0 : (⟨s.data.toList.toArray⟩ : ByteArray) = s := by cases s; simp
        rw [e0] at h0
        refine h0.mono fun e w' hq => ?_
        obtain ⟨rfl, hb⟩ := hq
        refine ⟨_, rfl, Ext.of_below hb, fun key _ => ?_⟩
        have e1 : lSum8 s.data.toList.reverse t = lSum s.data.toList.reverse t := lSum8_eq _ _ (fun b hb => (isD_iff.1 hp.2).2 b (by simpa using hb))
        rw [e1]
        exact Rel.int _ _
      | _ => cases hs2
    | _ => cases hs1
noncomputable def c_gSum : Ct := fun A args => match args with
  | [.str L, .bool t] => some (some (A.tp fun _ => L.length ≤ 1000000 ∧ isD L = true), .int .i64 (A.ti fun _ => (lSum L.reverse t : Int)))
  | _ => none
noncomputable def gg2 : Ar → Pu := addC 85 c_gSum (gg1)
theorem gg2_ok : PuOk Tryz.prog gl0 (gg2 std) := by
  refine addC_ok (gg1_ok) ⟨_, Tryz.func85, rfl, by decide⟩ ?_
  · intro args p r h hp
    unfold c_gSum at h
    split at h <;> cases h
    exact good_gSum _ _ hp
theorem tm10 (n : Nat) : ((n : Int).tmod 10 == 0) = decide (n % 10 = 0) := by
  rw [Bool.eq_iff_iff, beq_iff_eq, decide_eq_true_eq, Int.tmod_eq_emod_of_nonneg (by omega)]
  omega
attribute [local irreducible] vc
theorem good_gFine (L : List UInt8) (hL : L.length ≤ 100000) : GoodP Tryz.prog gl0 59 [.str L] (.bool (std.tb fun _ => lFine L)) := by
  refine fn_sound' (T := seatT) (G := gg2) (X := noX) seatT_ok gg2_ok noX_ok noI_ok mixed Tryz.func59 (.one) (fun A => [.str L]) (fun A => .bool (A.tb fun _ => lFine L)) fun A hA => ?_
  cbv
  repeat' (first | with_reducible exact True.intro | with_reducible exact dr_ok hA (by kernel_rfl) | with_reducible refine And.intro ?_ ?_ | (intro hc; cbv))
  all_goals (subst hA; simp [sS, lFine] at *)
  all_goals first
    | omega
    | exact fun h => ⟨h, by omega, h⟩
    | rw [tm10]
    | trace_state
theorem isD_bound {L : List UInt8} (h : isD L = true) : lSum L.reverse false ≤ 510 * L.length := by
  have h1 := lSum8_le L.reverse false
  rw [lSum8_eq _ _ (fun b hb => (isD_iff.1 h).2 b (by simpa using hb)), List.length_reverse] at h1
  exact h1
theorem rf_step {L : List UInt8} {i : Nat} (hi : i < L.length) : lSum (L.drop i).reverse false = lSum (L.drop (i + 1)).reverse false + lW (dig (L.getD i 0)) (odd (L.length - i - 1)) := by
  have e : L.drop i = L.getD i 0 :: L.drop (i + 1) := by
    rw [List.getD_eq_getElem?_getD, List.getElem?_eq_getElem hi]
    exact List.drop_eq_getElem_cons hi
  rw [e, List.reverse_cons, lSum_snoc, List.length_reverse, List.length_drop, Bool.false_xor, show L.length - (i + 1) = L.length - i - 1 by omega]
theorem lW_0 (b : Nat) : lW b false = b := rfl
theorem lW_1 {b : Nat} (h : b ≤ 4) : lW b true = 2 * b := by simp only [lW, if_true]; rw [if_neg (by omega)]
theorem lW_2 {b : Nat} (h : 4 < b) : lW b true = 2 * b - 9 := by simp only [lW, if_true]; rw [if_pos h]
theorem odd_t {n : Nat} (h : n % 2 = 1) : odd n = true := by rw [odd_mod, h]; rfl
theorem odd_f {n : Nat} (h : n % 2 = 0) : odd n = false := by rw [odd_mod, h]; rfl
theorem par {len i : Nat} (hlt : i < len) (hL : len ≤ 100000) : ((IntKind.i64.wrap ((len : Int) - i)).tmod 2 = 0 → odd (len - i - 1) = true) ∧ (¬(IntKind.i64.wrap ((len : Int) - i)).tmod 2 = 0 → odd (len - i - 1) = false) := by
  rw [w64 (by omega), Int.tmod_eq_emod_of_nonneg (by omega)]
  exact ⟨fun h => odd_t (by omega), fun h => odd_f (by omega)⟩
theorem dw {b : Nat} (h : 48 ≤ b ∧ b ≤ 57) : IntKind.i64.wrap (IntKind.i64.wrap (b : Int) - 48) = ((b - 48 : Nat) : Int) := by
  rw [w64 (n := (b : Int)) (by omega), w64 (by omega)]
  omega
theorem fin_0 {b n n' len i i' : Nat} (hd : 48 ≤ b ∧ b ≤ 57) (hlt : i < len) (hL : len ≤ 100000) (hi' : i' = i + 1) (hn' : n' = n + lW (b - 48) (odd (len - i - 1))) (hb : n' ≤ 510 * len) (hc : ¬(IntKind.i64.wrap ((len : Int) - i)).tmod 2 = 0) :
    IntKind.i64.wrap ((n : Int) + IntKind.i64.wrap (IntKind.i64.wrap (b : Int) - 48)) = (n' : Int) ∧ IntKind.i64.wrap ((i : Int) + 1) = (i' : Int) := by
  rw [(par hlt hL).2 hc, lW_0] at hn'
  rw [dw hd, w64 (by omega), w64 (by omega)]
  omega
theorem fin_1 {b n n' len i i' : Nat} (hd : 48 ≤ b ∧ b ≤ 57) (hlt : i < len) (hL : len ≤ 100000) (hi' : i' = i + 1) (hn' : n' = n + lW (b - 48) (odd (len - i - 1))) (hb : n' ≤ 510 * len) (c2 : (IntKind.i64.wrap ((len : Int) - i)).tmod 2 = 0) (hc : IntKind.i64.wrap (2 * IntKind.i64.wrap (IntKind.i64.wrap (b : Int) - 48)) ≤ 9) :
    IntKind.i64.wrap ((n : Int) + IntKind.i64.wrap (2 * IntKind.i64.wrap (IntKind.i64.wrap (b : Int) - 48))) = (n' : Int) ∧ IntKind.i64.wrap ((i : Int) + 1) = (i' : Int) := by
  have e : IntKind.i64.wrap (2 * ((b - 48 : Nat) : Int)) = ((2 * (b - 48) : Nat) : Int) := by rw [w64 (by omega)]; omega
  rw [dw hd, e] at hc
  rw [(par hlt hL).1 c2, lW_1 (by omega)] at hn'
  rw [dw hd, e, w64 (by omega), w64 (by omega)]
  omega
theorem fin_2 {b n n' len i i' : Nat} (hd : 48 ≤ b ∧ b ≤ 57) (hlt : i < len) (hL : len ≤ 100000) (hi' : i' = i + 1) (hn' : n' = n + lW (b - 48) (odd (len - i - 1))) (hb : n' ≤ 510 * len) (c2 : (IntKind.i64.wrap ((len : Int) - i)).tmod 2 = 0) (hc : 9 < IntKind.i64.wrap (2 * IntKind.i64.wrap (IntKind.i64.wrap (b : Int) - 48))) :
    IntKind.i64.wrap ((n : Int) + IntKind.i64.wrap (IntKind.i64.wrap (2 * IntKind.i64.wrap (IntKind.i64.wrap (b : Int) - 48)) - 9)) = (n' : Int) ∧ IntKind.i64.wrap ((i : Int) + 1) = (i' : Int) := by
  have e : IntKind.i64.wrap (2 * ((b - 48 : Nat) : Int)) = ((2 * (b - 48) : Nat) : Int) := by rw [w64 (by omega)]; omega
  rw [dw hd, e] at hc
  rw [(par hlt hL).1 c2, lW_2 (by omega)] at hn'
  rw [dw hd, e, w64 (n := ((2 * (b - 48) : Nat) : Int) - 9) (by omega), w64 (by omega), w64 (by omega)]
  omega
theorem good_rFine (L : List UInt8) (hL : L.length ≤ 100000) : GoodP Tryz.prog gl0 65 [.str L] (.bool (std.tb fun _ => lFine L)) := by
  refine fn_sound' (T := seatT) (G := gg2) (X := noX) seatT_ok gg2_ok noX_ok noI_ok mixed Tryz.func65 (.one) (fun A => [.str L]) (fun A => .bool (A.tb fun _ => lFine L)) fun A hA => ?_
  cbv
  repeat' (first | with_reducible exact True.intro | with_reducible exact dr_ok hA (by kernel_rfl) | with_reducible refine And.intro ?_ ?_ | (intro hc; cbv))
  rotate_right
  · have hk : isD L = true := by
      subst hA
      simp [sS] at hc
      exact hc
    clear hc
    have hbd := isD_bound hk
    refine ⟨⟨{p : Nat × Nat // p.1 ≤ L.length ∧ p.2 + lSum (L.drop p.1).reverse false = lSum L.reverse false}, fun b p => [(3, .int .i64 (p.1.2 : Nat)), (4, .int .i64 (p.1.1 : Nat)), (5, .any)], fun b p => [], fun p => L.length - p.1.1, true⟩, ⟨⟨(0, 0), by omega, by simp⟩, ?_⟩, ?_⟩
    · cbv
      subst hA
      simp [-List.getD_eq_getElem?_getD, sS]
    · rintro ⟨⟨i, n⟩, hi, hn⟩
      simp only at hi hn
      cbv
      repeat' (first | with_reducible exact True.intro | with_reducible exact dr_ok hA (by kernel_rfl) | with_reducible refine And.intro ?_ ?_ | (intro hc; cbv))
      all_goals first
        | (fail_if_success (refine Exists.intro ?_ ?_)
           subst hA
           simp [-List.getD_eq_getElem?_getD, sS, gD'] at *
           done)
        | (fail_if_success (refine Exists.intro ?_ ?_)
           subst hA
           simp [-List.getD_eq_getElem?_getD, sS, gD'] at *
           omega)
        | (fail_if_success (refine Exists.intro ?_ ?_)
           have hie : i = L.length := by (clear hn; subst hA; simp [sS] at *; omega)
           rw [hie, List.drop_length] at hn
           subst hA
           simp only [sS, Int.ofNat_eq_natCast]
           have hn2 : n = lSum L.reverse false := hn
           rw [hn2]
           simp [lFine, hk, tm10])
        | skip
      all_goals
          (have hlt : i < L.length := by clear hn; subst hA; simp [sS] at *; omega
           have hd := getD_dig hk hlt
           have hs := rf_step hlt
           obtain ⟨d', hd'⟩ : ∃ d', d' = lW (dig (L.getD i 0)) (odd (L.length - i - 1)) := ⟨_, rfl⟩
           obtain ⟨i', hi'⟩ : ∃ i', i' = i + 1 := ⟨_, rfl⟩
           obtain ⟨n', hn'⟩ : ∃ n', n' = n + d' := ⟨_, rfl⟩
           have hnn : n' + lSum (L.drop i').reverse false = lSum L.reverse false := by rw [hi']; omega
           refine ⟨⟨(i', n'), by omega, hnn⟩, ?_, show L.length - i' < L.length - i by omega⟩
           have hb : n' ≤ 510 * L.length := by omega
           have hg : dig (L.getD i 0) = (L.getD i 0).toNat - 48 := rfl
           cbv
           clear hn hnn hs hk hbd
           subst hA
           simp [-List.getD_eq_getElem?_getD, sS, gD'] at hc
           simp [-List.getD_eq_getElem?_getD, sS, gD']
           rw [hd'] at hn'
           rw [hg] at hn'
           first
             | with_reducible exact fin_0 hd hlt hL hi' hn' hb hc
             | (rename_i c2
                simp [-List.getD_eq_getElem?_getD, sS, gD'] at c2
                first | with_reducible exact fin_1 hd hlt hL hi' hn' hb c2 hc | with_reducible exact fin_2 hd hlt hL hi' hn' hb c2 hc))
  all_goals (subst hA; simp [sS, lFine] at *)
  all_goals first
    | omega
    | (intro h; rw [hc] at h; cases h)
    | trace_state
end Go.Vd

set_option linter.unusedVariables false
set_option linter.unusedSimpArgs false
set_option maxRecDepth 100000
set_option maxHeartbeats 4000000
namespace Go.Vd
open Go.Proofs
noncomputable def c_gFine : Ct := fun A args => match args with
  | [.str L] => some (some (A.tp fun _ => L.length ≤ 100000), .bool (A.tb fun _ => lFine L))
  | _ => none
noncomputable def c_rFine : Ct := fun A args => match args with
  | [.str L] => some (some (A.tp fun _ => L.length ≤ 100000), .bool (A.tb fun _ => lFine L))
  | _ => none
noncomputable def ggL : Ar → Pu := addC 59 c_gFine (addC 65 c_rFine (gg2))
theorem ggL_ok : PuOk Tryz.prog gl0 (ggL std) := by
  refine addC_ok (addC_ok (gg2_ok) ⟨_, Tryz.func65, rfl, by decide⟩ ?_) ⟨_, Tryz.func59, rfl, by decide⟩ ?_
  · intro args p r h hp
    unfold c_rFine at h
    split at h <;> cases h
    exact good_rFine _ hp
  · intro args p r h hp
    unfold c_gFine at h
    split at h <;> cases h
    exact good_gFine _ hp
end Go.Vd

set_option linter.unusedVariables false
set_option linter.unusedSimpArgs false
set_option maxRecDepth 100000
set_option maxHeartbeats 4000000
namespace Go.Vd
open Go.Proofs
theorem gD {L : List UInt8} {i : Nat} : L[i]?.getD 0 = L.getD i 0 := (List.getD_eq_getElem?_getD ..).symm
def FL : List Int := [2, 3, 19, 3, 1, 6, 4, 1, 12, 7, 1, 10, 11, 1, 6, 12, 1, 6, 37, 2, 12, 38, 2, 6, 39, 2, 2, 41, 2, 8, 44, 4, 25, 48, 5, 999, 49, 1, 3, 90, 1, 42, 120, 5, 999]
def dFind : List Int → Int → Option (Int × Int)
  | a :: b :: c :: r, n => if a = n then some (b, c) else dFind r n
  | _, _ => none
def dOk (n : Int) : Bool := (dFind FL n).isSome
def dKd (n : Int) : Int := ((dFind FL n).getD (0, 0)).1
def dSz (n : Int) : Int := ((dFind FL n).getD (0, 0)).2
theorem drop3 {L : List Int} {i : Nat} (h : i + 2 < L.length) : L.drop i = L.getD i 0 :: L.getD (i + 1) 0 :: L.getD (i + 2) 0 :: L.drop (i + 3) := by
  have e : ∀ {j : Nat} (hj : j < L.length), L[j] = L.getD j 0 := fun hj => by rw [List.getD_eq_getElem?_getD, List.getElem?_eq_getElem hj]; rfl
  rw [List.drop_eq_getElem_cons (by omega), List.drop_eq_getElem_cons (by omega), List.drop_eq_getElem_cons h, e, e, e]
theorem FL_len : FL.length = 45 := rfl
theorem all2_map : ∀ L : List Int, All2 (fun c x => ∀ j, j < 1 → Ceq (getAt c j) (getAt (eZ std fun _ => x) j)) (L.map fun z => [SV.int .i64 z]) L
  | [] => trivial
  | x :: l => ⟨cell_eZ x, all2_map l⟩
theorem FL_rep : Reps eZ 0 1 45 (lstS (FL.map fun z => [SV.int .i64 z])) FL := Reps.lst (all2_map FL)
attribute [local irreducible] vc
theorem good_rFields  : GoodP Tryz.prog gl0 104 [] (rowS eZ 0 1 std fun _ => FL) := by
  refine fn_sound' (T := seatT) (G := noC) (X := noX) seatT_ok noC_ok noX_ok noI_ok mixed Tryz.func104 (.none) (fun A => []) (fun A => rowS eZ 0 1 A fun _ => FL) fun A hA => ?_
  cbv
  repeat' (first | with_reducible exact True.intro | with_reducible exact dr_ok hA (by kernel_rfl) | with_reducible refine And.intro ?_ ?_ | (intro hc; cbv))
  all_goals (subst hA; simp only [sS])
  · rfl
  · exact FL_rep.eqr
noncomputable def c_rFields : Ct := fun A args => match args with
  | [] => some (none, rowS eZ 0 1 A fun _ => FL)
  | _ => none
noncomputable def gh1 : Ar → Pu := addC 104 c_rFields (ggL)
theorem gh1_ok : PuOk Tryz.prog gl0 (gh1 std) := by
  refine addC_ok (ggL_ok) ⟨_, Tryz.func104, rfl, by decide⟩ ?_
  · intro args p r h hp
    unfold c_rFields at h
    split at h <;> cases h
    exact good_rFields
theorem good_rDef (n : Int) : GoodP Tryz.prog gl0 92 [.int .i64 n] (.tup [.agg [.int .i64 (std.ti fun _ => if dOk n then n else 0), .int .i64 (std.ti fun _ => dKd n), .int .i64 (std.ti fun _ => dSz n)], .bool (std.tb fun _ => dOk n)]) := by
  refine fn_sound' (T := seatT) (G := gh1) (X := noX) seatT_ok gh1_ok noX_ok noI_ok mixed Tryz.func92 (.one) (fun A => [.int .i64 n]) (fun A => .tup [.agg [.int .i64 (A.ti fun _ => if dOk n then n else 0), .int .i64 (A.ti fun _ => dKd n), .int .i64 (A.ti fun _ => dSz n)], .bool (A.tb fun _ => dOk n)]) fun A hA => ?_
  cbv
  repeat' (first | with_reducible exact True.intro | with_reducible exact dr_ok hA (by kernel_rfl) | with_reducible refine And.intro ?_ ?_ | (intro hc; cbv))
  refine ⟨⟨{p : Nat × Nat // p.1 ≤ 15 ∧ p.2 = 3 * p.1 ∧ dFind FL n = dFind (FL.drop p.2) n}, fun b p => [(5, .int .i64 (p.1.2 : Nat))], fun b p => [], fun p => 15 - p.1.1, true⟩, ⟨⟨(0, 0), by omega, rfl, rfl⟩, ?_⟩, ?_⟩
  · cbv
    subst hA
    simp [-List.getD_eq_getElem?_getD, sS]
  · rintro ⟨⟨j, i⟩, hj, hi, hd⟩
    simp only at hj hi hd
    have hL := FL_len
    cbv
    repeat' (first | with_reducible exact True.intro | with_reducible exact dr_ok hA (by kernel_rfl) | with_reducible refine And.intro ?_ ?_ | (intro hc; cbv))
    all_goals first
      | (fail_if_success (refine Exists.intro ?_ ?_)
         subst hA
         simp [-List.getD_eq_getElem?_getD, sS, hL] at *
         first
           | omega
           | (rw [w64 (by omega)]; omega)
           | (constructor <;> (rw [w64 (by omega)]; omega))
           | (have hq : FL.getD i 0 = n := by assumption
              rw [drop3 (by rw [FL_len]; omega)] at hd
              simp only [dFind, if_pos hq] at hd
              have e1 : (IntKind.i64.wrap ((i : Int) + 1)).toNat = i + 1 := by rw [w64 (by omega)]; omega
              have e2 : (IntKind.i64.wrap ((i : Int) + 2)).toNat = i + 2 := by rw [w64 (by omega)]; omega
              simp [-List.getD_eq_getElem?_getD, dOk, dKd, dSz, hd, hq, e1, e2]; done)
           | (have hie : i = 45 := by omega
              rw [hie] at hd
              have hn : dFind (FL.drop 45) n = none := rfl
              rw [hn] at hd
              simp [dOk, dKd, dSz, hd]; done)
           | trace_state)
      | (have hlt : i < 45 := by clear hd; subst hA; simp [sS, hL] at *; omega
         have h0 : ¬FL.getD i 0 = n := by subst hA; simpa [-List.getD_eq_getElem?_getD, sS] using hc
         obtain ⟨i', hi'⟩ : ∃ i', i' = i + 3 := ⟨_, rfl⟩
         rw [drop3 (by rw [hL]; omega)] at hd
         simp only [dFind, if_neg h0] at hd
         refine ⟨⟨(j + 1, i'), by omega, by omega, by rw [hi', hd]⟩, ?_, show 15 - (j + 1) < 15 - j by omega⟩
         cbv
         subst hA
         simp [sS]
         exact (w64 (by omega)).trans (by omega))
      | trace_state
theorem good_rSigns (k : Int) (r : List UInt8) (hr : r.length ≤ 1000000) : GoodP Tryz.prog gl0 93 [.int .i64 k, .str r] (.bool (std.tb fun _ => signs k r)) := by
  refine fn_sound' (T := seatT) (G := gh1) (X := noX) seatT_ok gh1_ok noX_ok noI_ok mixed Tryz.func93 (.one) (fun A => [.int .i64 k, .str r]) (fun A => .bool (A.tb fun _ => signs k r)) fun A hA => ?_
  cbv
  repeat' (first | with_reducible exact True.intro | with_reducible exact dr_ok hA (by kernel_rfl) | with_reducible refine And.intro ?_ ?_ | (intro hc; cbv))
  refine ⟨⟨{i : Nat // i ≤ r.length ∧ (r.take i).all (inS k) = true}, fun b i => [(5, .int .i64 (i.1 : Nat))], fun b i => [], fun i => r.length - i.1, true⟩, ⟨⟨0, by omega, by simp⟩, ?_⟩, ?_⟩
  · cbv
    subst hA
    simp [-List.getD_eq_getElem?_getD, sS]
  · rintro ⟨i, hi, hz⟩
    cbv
    repeat' (first | with_reducible exact True.intro | with_reducible exact dr_ok hA (by kernel_rfl) | with_reducible refine And.intro ?_ ?_ | (intro hc; cbv))
    all_goals first
      | (fail_if_success (refine Exists.intro ?_ ?_)
         subst hA
         simp [-List.getD_eq_getElem?_getD, sS, gD] at *
         done)
      | (fail_if_success (refine Exists.intro ?_ ?_)
         subst hA
         simp [-List.getD_eq_getElem?_getD, sS, gD] at *
         first
           | omega
           | (constructor <;> omega)
           | (intros; (first | omega | (refine ⟨by omega, ?_⟩; omega)))
           | (have hlt : i < r.length := by omega
              have hx : inS k (r.getD i 0) = false := by (unfold inS; split <;> simp [-List.getD_eq_getElem?_getD, isDb, okB] <;> omega)
              rw [signs, all_false hlt hx]; done)
           | (have hie : i = r.length := by omega
              subst hie
              rw [signs, List.all_eq_true]; simpa using hz)
           | trace_state)
      | (have hlt : i < r.length := by clear hz; subst hA; simp [sS] at *; omega
         have hx : inS k (r.getD i 0) = true := by
           clear hz
           subst hA
           simp [-List.getD_eq_getElem?_getD, sS, gD] at *
           unfold inS
           split <;> simp [-List.getD_eq_getElem?_getD, isDb, okB] <;> omega
         refine ⟨⟨i + 1, by omega, by rw [all_take hlt, hz, hx]; rfl⟩, ?_, show r.length - (i + 1) < r.length - i by omega⟩
         cbv
         subst hA
         simp [sS]
         exact w64 (by omega))
      | trace_state

theorem lt15 {i : Nat} (h : i < 15) : i = 0 ∨ i = 1 ∨ i = 2 ∨ i = 3 ∨ i = 4 ∨ i = 5 ∨ i = 6 ∨ i = 7 ∨ i = 8 ∨ i = 9 ∨ i = 10 ∨ i = 11 ∨ i = 12 ∨ i = 13 ∨ i = 14 := by omega
theorem good_gDef (n : Int) : GoodP Tryz.prog gl0 101 [.int .i64 n] (.tup [.agg [.int .i64 (std.ti fun _ => if dOk n then n else 0), .int .i64 (std.ti fun _ => dKd n), .int .i64 (std.ti fun _ => dSz n)], .bool (std.tb fun _ => dOk n)]) := by
  refine fn_sound' (T := seatT) (G := noC) (X := noX) seatT_ok noC_ok noX_ok noI_ok mixed Tryz.func101 (.one) (fun A => [.int .i64 n]) (fun A => .tup [.agg [.int .i64 (A.ti fun _ => if dOk n then n else 0), .int .i64 (A.ti fun _ => dKd n), .int .i64 (A.ti fun _ => dSz n)], .bool (A.tb fun _ => dOk n)]) fun A hA => ?_
  cbv
  repeat' (first | with_reducible exact True.intro | with_reducible exact dr_ok hA (by kernel_rfl) | with_reducible refine And.intro ?_ ?_ | (intro hc; cbv))
  refine ⟨⟨{i : Nat // i ≤ 15 ∧ dFind FL n = dFind (FL.drop (3 * i)) n}, fun b i => [(7, .int .i64 (i.1 : Nat))], fun b i => [], fun i => 15 - i.1, true⟩, ⟨⟨0, by omega, rfl⟩, ?_⟩, ?_⟩
  · cbv
    subst hA
    simp [-List.getD_eq_getElem?_getD, sS]
  · rintro ⟨i, hi, hd⟩
    cbv
    repeat' (first | with_reducible exact True.intro | with_reducible exact dr_ok hA (by kernel_rfl) | with_reducible refine And.intro ?_ ?_ | (intro hc; cbv))
    all_goals first
      | (fail_if_success (refine Exists.intro ?_ ?_)
         subst hA
         have hlt : i < 15 := by (clear hd; simp [sS] at *; omega)
         rcases lt15 hlt with h | h | h | h | h | h | h | h | h | h | h | h | h | h | h <;> subst h <;> first
           | (simp [sS, getAt, isI_int]; done)
           | (simp [sS, getAt] at hc ⊢; subst hc; decide)
           | trace_state)
      | (fail_if_success (refine Exists.intro ?_ ?_)
         subst hA
         have hie : i = 15 := by (simp [sS] at *; omega)
         rw [hie, show dFind (FL.drop (3 * 15)) n = none from rfl] at hd
         simp [sS, dOk, dKd, dSz, hd]; done)
      | (have hlt : i < 15 := by (clear hd; subst hA; simp [sS] at *; omega)
         obtain ⟨i', hi'⟩ : ∃ i', i' = i + 1 := ⟨_, rfl⟩
         refine ⟨⟨i', by omega, ?_⟩, ?_, show 15 - i' < 15 - i by omega⟩
         · subst hA hi'
           rw [hd]
           rcases lt15 hlt with h | h | h | h | h | h | h | h | h | h | h | h | h | h | h <;> subst h <;> simp [sS, getAt] at hc <;> simp [FL, dFind, hc]
         · cbv
           subst hA
           simp [sS]
           exact (w64 (by omega)).trans (by omega))
      | trace_state
end Go.Vd

set_option linter.unusedVariables false
set_option linter.unusedSimpArgs false
namespace Go.Proofs
open Go.RowKit
theorem ba_byte {s : ByteArray} {i : Nat} (h : i < s.size) : s[i]'h = s.data.toList.getD i 0 := by
  rw [List.getD_eq_getElem?_getD, List.getElem?_eq_getElem (by simpa using h)]
  simp
  rfl
set_option maxRecDepth 100000 in
set_option maxHeartbeats 2000000 in
theorem isText_walk (s : ByteArray) (w : World) :
    Calls Tryz.prog 107 #[.string s] w fun e w' => e = .returned (.bool (s.data.toList.all Vd.okB)) ∧ ∃ pos, w' = w.iter s pos := by
  have hsz : s.data.toList.length = s.size := by simp
  go_enter Tryz.func107, Tryz.ntmps107
  go_wp2
  go_loopw [4] (fun _ w' => ∃ pos : Nat, w' = w.iter s pos ∧ pos ≤ s.size ∧ (s.data.toList.take pos).all Vd.okB = true) (fun _ w' => s.size - w'.iterPos w.heap.size)
  case atStart => exact ⟨0, rfl, by omega, by simp⟩
  case round =>
    obtain ⟨pos, rfl, hle, hall⟩ := hrel
    by_cases hp : pos < s.size
    · by_cases ha : (s[pos]'hp).toNat < 128
      · have hp' : pos < s.data.size := hp
        have hnx : ∀ ty, (Instr.next (.pointer (some ⟨w.heap.size, 0, none⟩)) true ty).run Tryz.prog (w.iter s pos) = .ok (.tuple #[.bool true, .int .i64 pos, .int .i32 ((s.data[pos]'hp').toNat : Int)]) (w.iter s (pos + 1)) := fun ty => run_next_ascii w s pos ty hp ha
        have hb : s.data[pos]'hp' = s.data.toList.getD pos 0 := ba_byte hp
        have hok : Vd.okB (s.data[pos]'hp') = true ↔ 32 ≤ (s.data[pos]'hp').toNat ∧ (s.data[pos]'hp').toNat ≤ 126 := by simp [Vd.okB]
        have hno : Vd.okB (s.data[pos]'hp') = false → s.data.toList.all Vd.okB = false := fun h => Vd.all_false (i := pos) (by omega) (by rw [← hb]; exact h)
        by_cases h1 : (((s.data[pos]'hp').toNat : Nat) : Int) < 32
        · have hf := hno (by cases h : Vd.okB (s.data[pos]'hp'); rfl; have := hok.1 h; omega)
          clear hok hno hb
          go_wp2
          go_ret
          exact ⟨by first | rfl | (rw [hf]; rfl), _, rfl⟩
        · by_cases h2 : (126 : Int) < (((s.data[pos]'hp').toNat : Nat) : Int)
          · have hf := hno (by cases h : Vd.okB (s.data[pos]'hp'); rfl; have := hok.1 h; omega)
            clear hok hno hb
            go_wp2
            go_ret
            exact ⟨by first | rfl | (rw [hf]; rfl), _, rfl⟩
          · have hy : (s.data.toList.take (pos + 1)).all Vd.okB = true := by
              rw [Vd.all_take (by omega), hall, ← hb, hok.2 (by omega)]
              rfl
            clear hok hno hb
            go_wp2
            go_roundw
            case rel => exact ⟨pos + 1, rfl, by omega, hy⟩
            case measure =>
              simp
              omega
      · have hd := decode_high s pos hp (by omega)
        have hnx : ∀ ty, (Instr.next (.pointer (some ⟨w.heap.size, 0, none⟩)) true ty).run Tryz.prog (w.iter s pos) = _ := fun ty => run_next_any w s pos ty hp
        have hb := ba_byte hp
        have hno : s.data.toList.all Vd.okB = false := Vd.all_false (i := pos) (by omega) (by
          rw [← hb]
          simp [Vd.okB]
          omega)
        generalize (Utf8.decode s pos).1 = r at *
        have h1 : ¬ ((r : Nat) : Int) < 32 := by omega
        have h2 : (126 : Int) < ((r : Nat) : Int) := by omega
        go_wp2
        go_ret
        exact ⟨by first | rfl | (rw [hno]; rfl), _, rfl⟩
    · have hnx : ∀ ty, (Instr.next (.pointer (some ⟨w.heap.size, 0, none⟩)) true ty).run Tryz.prog (w.iter s pos) = _ := fun ty => run_next_end w s pos ty hp
      go_wp2
      go_ret
      rw [List.take_of_length_le (by omega)] at hall
      exact ⟨by first | rfl | (rw [hall]; rfl), _, rfl⟩
end Go.Proofs
namespace Go.Vd
open Go.Proofs
theorem good_isText (L : List UInt8) : GoodP Tryz.prog gl0 107 [.str L] (.bool (std.tb fun _ => L.all okB)) := by
  intro w ρ rw N vs hfr hrw hg hargs
  match vs, hargs with
  | [v1], ⟨r1, _⟩ =>
    generalize hs1 : SV.str L = s1 at r1
    cases r1 with
    | str s =>
      cases hs1
      refine (isText_walk s w).mono fun e w' hq => ?_
      obtain ⟨rfl, pos, rfl⟩ := hq
      refine ⟨_, rfl, Ext.alloc _ _, fun key _ => ?_⟩
      exact Rel.bool _
    | _ => cases hs1
end Go.Vd

set_option linter.unusedVariables false
set_option linter.unusedSimpArgs false
set_option maxRecDepth 100000
set_option maxHeartbeats 4000000
namespace Go.Vd
open Go.Proofs
noncomputable def iF : Nat → Option Func := addI 102 Tryz.f102 (addI 124 Tryz.f124 (addI 125 Tryz.f125 (addI 126 Tryz.f126 (addI 127 Tryz.f127 noI))))
theorem iF_ok : InOk Tryz.prog iF := addI_ok (addI_ok (addI_ok (addI_ok (addI_ok noI_ok Tryz.func127 (by kernel_rfl)) Tryz.func126 (by kernel_rfl)) Tryz.func125 (by kernel_rfl)) Tryz.func124 (by kernel_rfl)) Tryz.func102 (by kernel_rfl)
def xFm : Nat → String → Option Nat
  | 135, "paydesk/field.right" => some 125
  | 135, "paydesk/field.ahead" => some 124
  | 137, "paydesk/field.right" => some 127
  | 137, "paydesk/field.ahead" => some 126
  | _, _ => none
def xF : Ar → Xt := fun _ => { meth := xFm, wt := fun _ _ _ _ _ _ => none }
theorem xF_ok : XtOk Tryz.prog gl0 (xF std) := ⟨fun t name f h => by
  have h : xFm t name = some f := h
  unfold xFm at h
  split at h <;> cases h <;> exact fun v args w => by kernel_rfl, fun f e k n g rest p n2 g2 h => by cases h⟩
def isT (L : List UInt8) : Bool := L.all okB
noncomputable def c_isText : Ct := fun A args => match args with
  | [.str L] => some (none, .bool (A.tb fun _ => isT L))
  | _ => none
noncomputable def c_gDef : Ct := fun A args => match args with
  | [.int .i64 n] => some (none, .tup [.agg [.int .i64 (A.ti fun _ => if dOk n then n else 0), .int .i64 (A.ti fun _ => dKd n), .int .i64 (A.ti fun _ => dSz n)], .bool (A.tb fun _ => dOk n)])
  | _ => none
noncomputable def c_rDef : Ct := fun A args => match args with
  | [.int .i64 n] => some (none, .tup [.agg [.int .i64 (A.ti fun _ => if dOk n then n else 0), .int .i64 (A.ti fun _ => dKd n), .int .i64 (A.ti fun _ => dSz n)], .bool (A.tb fun _ => dOk n)])
  | _ => none
noncomputable def c_rSigns : Ct := fun A args => match args with
  | [.int .i64 k, .str r] => some (some (A.tp fun _ => r.length ≤ 1000000), .bool (A.tb fun _ => signs k r))
  | _ => none
noncomputable def gh2 : Ar → Pu := addC 107 c_isText (addC 101 c_gDef (addC 92 c_rDef (addC 93 c_rSigns (gh1))))
theorem gh2_ok : PuOk Tryz.prog gl0 (gh2 std) := by
  refine addC_ok (addC_ok (addC_ok (addC_ok (gh1_ok) ⟨_, Tryz.func93, rfl, by decide⟩ ?_) ⟨_, Tryz.func92, rfl, by decide⟩ ?_) ⟨_, Tryz.func101, rfl, by decide⟩ ?_) ⟨_, Tryz.func107, rfl, by decide⟩ ?_
  · intro args p r h hp
    unfold c_rSigns at h
    split at h <;> cases h
    exact good_rSigns _ _ hp
  · intro args p r h hp
    unfold c_rDef at h
    split at h <;> cases h
    exact good_rDef _
  · intro args p r h hp
    unfold c_gDef at h
    split at h <;> cases h
    exact good_gDef _
  · intro args p r h hp
    unfold c_isText at h
    split at h <;> cases h
    exact good_isText _
def rr (n : Int) (s : List UInt8) : Bool := if dOk n = true ∧ ¬s = [] ∧ (s.length : Int) ≤ dSz n ∧ (dKd n < 3 → dSz n ≤ s.length) then signs (dKd n) s else false
theorem dFind_mem : ∀ (L : List Int) (n : Int) (p : Int × Int), dFind L n = some p → ∃ j, L.getD (3 * j) 0 = n ∧ L.getD (3 * j + 1) 0 = p.1 ∧ L.getD (3 * j + 2) 0 = p.2 ∧ 3 * j + 2 < L.length
  | a :: b :: c :: r, n, p, h => by
    simp only [dFind] at h
    split at h
    · rename_i he
      cases h
      exact ⟨0, he, rfl, rfl, by simp⟩
    · obtain ⟨j, h1, h2, h3, h4⟩ := dFind_mem r n p h
      refine ⟨j + 1, ?_, ?_, ?_, by simp only [List.length_cons]; omega⟩
      · rw [show 3 * (j + 1) = 3 * j + 1 + 1 + 1 by omega]; simpa using h1
      · rw [show 3 * (j + 1) + 1 = 3 * j + 1 + 1 + 1 + 1 by omega]; simpa using h2
      · rw [show 3 * (j + 1) + 2 = 3 * j + 2 + 1 + 1 + 1 by omega]; simpa using h3
  | [], _, _, h => by cases h
  | [_], _, _, h => by cases h
  | [_, _], _, _, h => by cases h
/-- Kinds and sizes that are known. -/
theorem dOk_b {n : Int} (h : dOk n = true) : 1 ≤ dKd n ∧ dKd n ≤ 5 ∧ 1 ≤ dSz n ∧ dSz n ≤ 999 ∧ 2 ≤ n ∧ n ≤ 120 ∧ (dKd n < 5 → dSz n ≤ 99) := by
  unfold dOk at h
  obtain ⟨p, hp⟩ := Option.isSome_iff_exists.1 h
  obtain ⟨j, h1, h2, h3, h4⟩ := dFind_mem FL n p hp
  have hk : dKd n = p.1 := by unfold dKd; rw [hp]; rfl
  have hs : dSz n = p.2 := by unfold dSz; rw [hp]; rfl
  rw [hk, hs, ← h2, ← h3, ← h1]
  have hj : j < 15 := by rw [FL_len] at h4; omega
  rcases lt15 hj with h | h | h | h | h | h | h | h | h | h | h | h | h | h | h <;> subst h <;> decide
theorem isD_ne {s : List UInt8} (h : ¬s = []) : isD s = s.all isDb := by
  unfold isD
  cases s with
  | nil => exact absurd rfl h
  | cons b s => rfl
theorem signsD {k : Int} (h : k = 1 ∨ k = 3) (s : List UInt8) : signs k s = s.all isDb := by
  unfold signs
  have : inS k = isDb := by funext b; unfold inS; rw [if_pos h]
  rw [this]
theorem signsT {k : Int} (h : ¬(k = 1 ∨ k = 3)) (s : List UInt8) : signs k s = s.all okB := by
  unfold signs
  have : inS k = okB := by funext b; unfold inS; rw [if_neg h]
  rw [this]
theorem len_ne {s : List UInt8} {z : Int} (hz : 1 ≤ z) (h : (s.length : Int) = z) : ¬s = [] := fun e => by rw [e] at h; simp at h; omega
theorem rr_fix {n : Int} {s : List UInt8} (h : dOk n = true) (hk : dKd n < 3) : rr n s = (decide ((s.length : Int) = dSz n) && signs (dKd n) s) := by
  have hb := dOk_b h
  unfold rr
  by_cases hl : (s.length : Int) = dSz n
  · rw [if_pos ⟨h, len_ne hb.2.2.1 hl, by omega, fun _ => by omega⟩]; simp [hl]
  · rw [if_neg (fun e => hl (by have := e.2.2.2 hk; have := e.2.2.1; omega))]; simp [hl]
theorem rr_long {n : Int} {s : List UInt8} (h : dOk n = true) (hk : ¬dKd n < 3) : rr n s = ((decide (1 ≤ (s.length : Int)) && decide ((s.length : Int) ≤ dSz n)) && signs (dKd n) s) := by
  unfold rr
  by_cases hl : 1 ≤ (s.length : Int) ∧ (s.length : Int) ≤ dSz n
  · rw [if_pos ⟨h, fun e => by rw [e] at hl; simp at hl, hl.2, fun hc => absurd hc hk⟩]; simp [hl]
  · rw [if_neg (fun e => hl ⟨by have := List.length_pos_iff.2 e.2.1; omega, e.2.2.1⟩)]
    by_cases h1 : 1 ≤ (s.length : Int)
    · have h2 : ¬(s.length : Int) ≤ dSz n := fun e => hl ⟨h1, e⟩
      simp [h2]
    · simp [h1]
theorem rr_no {n : Int} {s : List UInt8} (h : dOk n = false) : rr n s = false := by
  unfold rr
  rw [h, if_neg (fun e => by cases e.1)]
theorem rr_1 {n : Int} {s : List UInt8} (h : dOk n = true) (hk : dKd n = 1) (hl : (s.length : Int) = dSz n) : isD s = rr n s := by
  rw [rr_fix h (by omega), signsD (.inl hk), isD_ne (len_ne (dOk_b h).2.2.1 hl)]; simp [hl]
theorem rr_2 {n : Int} {s : List UInt8} (h : dOk n = true) (hk : dKd n = 2) (hl : (s.length : Int) = dSz n) : isT s = rr n s := by
  unfold isT
  rw [rr_fix h (by omega), signsT (by omega)]; simp [hl]
theorem rr_f {n : Int} {s : List UInt8} (h : dOk n = true) (hk : dKd n < 3) (hl : ¬(s.length : Int) = dSz n) : rr n s = false := by
  rw [rr_fix h hk]; simp [hl]
theorem rr_3 {n : Int} {s : List UInt8} (h : dOk n = true) (hk : dKd n = 3) (hl : 1 ≤ (s.length : Int) ∧ (s.length : Int) ≤ dSz n) : isD s = rr n s := by
  rw [rr_long h (by omega), signsD (.inr hk), isD_ne (fun e => by rw [e] at hl; simp at hl)]; simp [hl]
theorem rr_4 {n : Int} {s : List UInt8} (h : dOk n = true) (hk : 3 < dKd n) (hl : 1 ≤ (s.length : Int) ∧ (s.length : Int) ≤ dSz n) : isT s = rr n s := by
  unfold isT
  rw [rr_long h (by omega), signsT (by omega)]; simp [hl]
theorem rr_l {n : Int} {s : List UInt8} (h : dOk n = true) (hk : 3 ≤ dKd n) (hl : 1 ≤ (s.length : Int) → dSz n < (s.length : Int)) : rr n s = false := by
  rw [rr_long h (by omega)]
  by_cases h1 : 1 ≤ (s.length : Int)
  · have := hl h1
    have h2 : ¬(s.length : Int) ≤ dSz n := by omega
    simp [h2]
  · simp [h1]
attribute [local irreducible] vc
theorem good_gRight (n : Int) (L : List UInt8) (hL : L.length ≤ 1000000) : GoodP Tryz.prog gl0 86 [.int .i64 n, .str L] (.bool (std.tb fun _ => rr n L)) := by
  refine fn_sound' (T := seatT) (G := gh2) (X := xF) seatT_ok gh2_ok xF_ok iF_ok mixed Tryz.func86 (.one) (fun A => [.int .i64 n, .str L]) (fun A => .bool (A.tb fun _ => rr n L)) fun A hA => ?_
  cbv
  repeat' (first | with_reducible exact True.intro | with_reducible exact dr_ok hA (by kernel_rfl) | with_reducible refine And.intro ?_ ?_ | (intro hc; cbv))
  all_goals (subst hA; simp [std_add, std_sub, std_mul, std_quo, std_rem, std_band, std_bor, std_bxor, std_shl, std_shr, std_eq, std_ne, std_lt, std_le, std_conv, std_not, std_beq, std_bne, std_ite, std_want, std_and2, std_sadd, std_seq, std_sne, std_slt, std_sle, std_sgt, std_sge, std_slen, std_sget, std_scut, std_ofNat, std_toNat, std_nsub, std_nadd, std_lenOf, std_nz, std_nneg, std_inb, std_upto, std_slt63, std_grow, std_imp, std_impN, std_tr, std_tb, std_ti, std_ts, std_tn, std_tp, std_nmin, std_nset, std_fset, std_makes, std_room, std_zeros, std_nilq, std_notq, std_eqi, std_eqn, std_eqb, std_eqs, std_eqv, std_cat, std_lst, std_rset, std_rcopy, std_shift, std_eqr, std_strOf, std_bytesOf, std_isB, std_zOf, zOf_int, std_isI, isI_int, std_getL, std_nmul, std_sOf, sOf_str, std_isS, isS_str, std_fadd, std_fsub, std_fav, std_fsv, std_feq, std_fne, std_flt, std_fle, std_fgt, std_fge, std_fOf, std_fTo, std_fTv] at *)
  all_goals first
    | assumption
    | omega
    | exact rr_no (by assumption)
    | (exfalso; simp_all; done)
    | (have h : dOk n = true := by assumption
       have hb := dOk_b h
       first
         | exact rr_f h (by omega) (by assumption)
         | exact rr_l h (by omega) (by assumption)
         | (rw [← rr_1 h (by omega) (by assumption)]; simp [*]; done)
         | (rw [← rr_2 h (by omega) (by assumption)]; simp [*]; done)
         | (rw [← rr_3 h (by omega) (by assumption)]; simp [*]; done)
         | (rw [← rr_4 h (by omega) (by assumption)]; simp [*]; done))
    | trace_state
end Go.Vd

set_option linter.unusedVariables false
set_option linter.unusedSimpArgs false
set_option maxRecDepth 100000
set_option maxHeartbeats 4000000
namespace Go.Vd
open Go.Proofs
noncomputable def c_mgRight : Ct := fun A args => match args with
  | [.int .i64 n, .str r] => some (some (A.tp fun _ => r.length ≤ 1000000), .bool (A.tb fun _ => rr n r))
  | _ => none
noncomputable def gm1 : Ar → Pu := addC 86 c_mgRight (gh2)
theorem gm1_ok : PuOk Tryz.prog gl0 (gm1 std) := by
  refine addC_ok (gh2_ok) ⟨_, Tryz.func86, rfl, by decide⟩ ?_
  · intro args p r h hp
    unfold c_mgRight at h
    split at h <;> cases h
    exact good_gRight _ _ hp
end Go.Vd

