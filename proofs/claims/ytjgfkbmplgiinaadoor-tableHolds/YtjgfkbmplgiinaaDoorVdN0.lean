/- The types of the seat, as the generator asks for them (printed by mktys.py). -/
import Derived.Test.YtjgfkbmplgiinaaDoorVdEq
import Derived.Lib.ItoaNum
import Derived.Test.YtjgfkbmplgiinaaDoorProg
import Derived.Test.YtjgfkbmplgiinaaDoorVdSimp
import Derived.Test.YtjgfkbmplgiinaaDoorVdLib
import Derived.RangeFuncNested
import Derived.RangeFuncBound
import Derived.RangeFuncCalls
import Derived.RangeFuncLeaves
import Derived.Shelf.Abstract
import Derived.Shelf.RegionOpen
import Derived.WalkKit
import Derived.OwnWalkIn
import Derived.TacticsInMore
import Derived.LoopNIn
import Derived.LoopIn
import Derived.Laws.RangeString
import Derived.Laws.RangeAny
import Derived.LoopTactic
set_option linter.unusedVariables false
set_option maxRecDepth 100000
namespace Go.Vd
open Go.Proofs

def ty2 : Ty := ⟨false, 1, [.int .i64 0], .int .i64⟩  -- int64
theorem ty2_ok : TyOk Tryd.prog 2 ty2 := .mk' (.int .i64) [.int .i64 0] (by kernel_rfl) Tryd.underlying2 (by decide) rfl (fun _ => rfl) rfl rfl rfl rfl
def ty3 : Ty := ⟨false, 1, [.int .i64 0], .int .i64⟩  -- int
theorem ty3_ok : TyOk Tryd.prog 3 ty3 := .mk' (.int .i64) [.int .i64 0] (by kernel_rfl) Tryd.underlying3 (by decide) rfl (fun _ => rfl) rfl rfl rfl rfl
def ty4 : Ty := ⟨false, 1, [.bool false], .bool⟩  -- bool
theorem ty4_ok : TyOk Tryd.prog 4 ty4 := .mk' .bool [.bool false] (by kernel_rfl) Tryd.underlying4 (by decide) rfl (fun _ => rfl) rfl rfl rfl rfl
def ty5 : Ty := ⟨false, 1, [.int .u8 0], .int .u8⟩  -- uint8
theorem ty5_ok : TyOk Tryd.prog 5 ty5 := .mk' (.int .u8) [.int .u8 0] (by kernel_rfl) Tryd.underlying5 (by decide) rfl (fun _ => rfl) rfl rfl rfl rfl
def ty9 : Ty := ⟨false, 1, [.str []], .str⟩  -- string
theorem ty9_ok : TyOk Tryd.prog 9 ty9 := .mk' .string [.string ⟨#[]⟩] (by kernel_rfl) Tryd.underlying9 (by decide) rfl (fun _ => rfl) rfl rfl rfl rfl
def ty21 : Ty := ⟨false, 1, [.int .i32 0], .int .i32⟩  -- int32
theorem ty21_ok : TyOk Tryd.prog 21 ty21 := .mk' (.int .i32) [.int .i32 0] (by kernel_rfl) Tryd.underlying21 (by decide) rfl (fun _ => rfl) rfl rfl rfl rfl
def ty22 : Ty := ⟨false, 1, [.nils], .slice 37 8 88 false⟩  -- []api.Entry
theorem ty22_ok : TyOk Tryd.prog 22 ty22 := .mk' (.slice 37) [.slice none 0 0] (by kernel_rfl) Tryd.underlying22 (by decide) rfl (fun _ => rfl) rfl rfl rfl ⟨rfl, by decide, (fun h => by cases h), tag_slice (by kernel_rfl)⟩
def ty25 : Ty := ⟨false, 1, [.nils], .slice 22 1 24 false⟩  -- [][]api.Entry
theorem ty25_ok : TyOk Tryd.prog 25 ty25 := .mk' (.slice 22) [.slice none 0 0] (by kernel_rfl) Tryd.underlying25 (by decide) rfl (fun _ => rfl) rfl rfl rfl ⟨rfl, by decide, (fun h => by cases h), tag_slice (by kernel_rfl)⟩
def ty27 : Ty := ⟨true, 2, [.int .i64 0, .nils], .struct [(0, 1), (1, 1)] false⟩  -- api.Table
theorem ty27_ok : TyOk Tryd.prog 27 ty27 := .mk' _ [.int .i64 0, .slice none 0 0] (by kernel_rfl) Tryd.underlying27 (by decide) rfl (fun h => by cases h) rfl rfl rfl ⟨(fun h => by cases h), tag_struct (by kernel_rfl)⟩
def ty28 : Ty := ⟨false, 1, [.int .i64 0], .int .i64⟩  -- api.Errno
theorem ty28_ok : TyOk Tryd.prog 28 ty28 := .mk' (.int .i64) [.int .i64 0] (by kernel_rfl) Tryd.underlying28 (by decide) rfl (fun _ => rfl) rfl rfl rfl rfl
def ty32 : Ty := ⟨false, 1, [.int .u32 0], .int .u32⟩  -- uint32
theorem ty32_ok : TyOk Tryd.prog 32 ty32 := .mk' (.int .u32) [.int .u32 0] (by kernel_rfl) Tryd.underlying32 (by decide) rfl (fun _ => rfl) rfl rfl rfl rfl
def ty34 : Ty := ⟨true, 2, [.int .u32 0, .str []], .struct [(0, 1), (1, 1)] true⟩  -- api.Key
theorem ty34_ok : TyOk Tryd.prog 34 ty34 := .mk' _ [.int .u32 0, .string ⟨#[]⟩] (by kernel_rfl) Tryd.underlying34 (by decide) rfl (fun h => by cases h) rfl rfl rfl ⟨(fun _ => eqOk_plain (by kernel_rfl) Tryd.underlying34 (by kernel_rfl) (.int (by decide) rfl Tryd.underlying32 (.str (by decide) rfl Tryd.underlying9 .nil))), tag_struct (by kernel_rfl)⟩
def ty35 : Ty := ⟨false, 1, [.int .u64 0], .int .u64⟩  -- uint64
theorem ty35_ok : TyOk Tryd.prog 35 ty35 := .mk' (.int .u64) [.int .u64 0] (by kernel_rfl) Tryd.underlying35 (by decide) rfl (fun _ => rfl) rfl rfl rfl rfl
def ty37 : Ty := ⟨true, 8, [.int .u32 0, .str [], .int .i64 0, .str [], .int .u64 0, .str [], .int .i64 0, .int .i64 0], .struct [(0, 2), (2, 1), (3, 1), (4, 1), (5, 1), (6, 1), (7, 1)] true⟩  -- api.Entry
theorem ty37_ok : TyOk Tryd.prog 37 ty37 := .mk' _ [.int .u32 0, .string ⟨#[]⟩, .int .i64 0, .string ⟨#[]⟩, .int .u64 0, .string ⟨#[]⟩, .int .i64 0, .int .i64 0] (by kernel_rfl) Tryd.underlying37 (by decide) rfl (fun h => by cases h) rfl rfl rfl ⟨(fun _ => eqOk_plain2 (by kernel_rfl) Tryd.underlying37 (by kernel_rfl) (Plain2.sub (z := [.int .u32 0, .str []]) (z' := [.int .i64 0, .str [], .int .u64 0, .str [], .int .i64 0, .int .i64 0]) (by decide) rfl Tryd.underlying34 (by kernel_rfl) (by kernel_rfl) (.int (by decide) rfl Tryd.underlying32 (.str (by decide) rfl Tryd.underlying9 .nil)) (.int (by decide) rfl Tryd.underlying3 (.str (by decide) rfl Tryd.underlying9 (.int (by decide) rfl Tryd.underlying35 (.str (by decide) rfl Tryd.underlying9 (.int (by decide) rfl Tryd.underlying3 (.int (by decide) rfl Tryd.underlying3 .nil)))))))), tag_struct (by kernel_rfl)⟩
def ty61 : Ty := ⟨false, 1, [.val .nilFunc], .other⟩  -- func(string) bool
theorem ty61_ok : TyOk Tryd.prog 61 ty61 := .mk' _ [.nilFunc] (by kernel_rfl) Tryd.underlying61 (by decide) rfl (fun _ => rfl) rfl rfl rfl trivial
def ty68 : Ty := ⟨false, 1, [.int .u64 0], .int .u64⟩  -- uint
theorem ty68_ok : TyOk Tryd.prog 68 ty68 := .mk' (.int .u64) [.int .u64 0] (by kernel_rfl) Tryd.underlying68 (by decide) rfl (fun _ => rfl) rfl rfl rfl rfl
def ty92 : Ty := ⟨false, 1, [.nils], .slice 3 1 8 false⟩  -- []int
theorem ty92_ok : TyOk Tryd.prog 92 ty92 := .mk' (.slice 3) [.slice none 0 0] (by kernel_rfl) Tryd.underlying92 (by decide) rfl (fun _ => rfl) rfl rfl rfl ⟨rfl, by decide, (fun h => by cases h), tag_slice (by kernel_rfl)⟩
def ty102 : Ty := ⟨true, 3, [.int .i64 0, .int .i64 0, .int .i64 0], .struct [(0, 1), (1, 1), (2, 1)] true⟩  -- api.Def
theorem ty102_ok : TyOk Tryd.prog 102 ty102 := .mk' _ [.int .i64 0, .int .i64 0, .int .i64 0] (by kernel_rfl) Tryd.underlying102 (by decide) rfl (fun h => by cases h) rfl rfl rfl ⟨(fun _ => eqOk_plain (by kernel_rfl) Tryd.underlying102 (by kernel_rfl) (.int (by decide) rfl Tryd.underlying3 (.int (by decide) rfl Tryd.underlying3 (.int (by decide) rfl Tryd.underlying3 .nil)))), tag_struct (by kernel_rfl)⟩
def ty106 : Ty := ⟨false, 1, [.val .nilIface], .other⟩  -- field.form
theorem ty106_ok : TyOk Tryd.prog 106 ty106 := .mk' _ [.nilIface] (by kernel_rfl) Tryd.underlying106 (by decide) rfl (fun _ => rfl) rfl rfl rfl trivial
def ty115 : Ty := ⟨true, 45, [.int .i64 0, .int .i64 0, .int .i64 0, .int .i64 0, .int .i64 0, .int .i64 0, .int .i64 0, .int .i64 0, .int .i64 0, .int .i64 0, .int .i64 0, .int .i64 0, .int .i64 0, .int .i64 0, .int .i64 0, .int .i64 0, .int .i64 0, .int .i64 0, .int .i64 0, .int .i64 0, .int .i64 0, .int .i64 0, .int .i64 0, .int .i64 0, .int .i64 0, .int .i64 0, .int .i64 0, .int .i64 0, .int .i64 0, .int .i64 0, .int .i64 0, .int .i64 0, .int .i64 0, .int .i64 0, .int .i64 0, .int .i64 0, .int .i64 0, .int .i64 0, .int .i64 0, .int .i64 0, .int .i64 0, .int .i64 0, .int .i64 0, .int .i64 0, .int .i64 0], .array 15 102 3⟩  -- [15]api.Def
theorem ty115_ok : TyOk Tryd.prog 115 ty115 := .mk' (.array 15 102) [.int .i64 0, .int .i64 0, .int .i64 0, .int .i64 0, .int .i64 0, .int .i64 0, .int .i64 0, .int .i64 0, .int .i64 0, .int .i64 0, .int .i64 0, .int .i64 0, .int .i64 0, .int .i64 0, .int .i64 0, .int .i64 0, .int .i64 0, .int .i64 0, .int .i64 0, .int .i64 0, .int .i64 0, .int .i64 0, .int .i64 0, .int .i64 0, .int .i64 0, .int .i64 0, .int .i64 0, .int .i64 0, .int .i64 0, .int .i64 0, .int .i64 0, .int .i64 0, .int .i64 0, .int .i64 0, .int .i64 0, .int .i64 0, .int .i64 0, .int .i64 0, .int .i64 0, .int .i64 0, .int .i64 0, .int .i64 0, .int .i64 0, .int .i64 0, .int .i64 0] (by kernel_rfl) Tryd.underlying115 (by decide) rfl (fun h => by cases h) rfl rfl rfl ⟨rfl, tag_array (by kernel_rfl)⟩
def ty117 : Ty := ⟨true, 2, [.int .i64 0, .val .nilFunc], .struct [(0, 1), (1, 1)] false⟩  -- field.fixed
theorem ty117_ok : TyOk Tryd.prog 117 ty117 := .mk' _ [.int .i64 0, .nilFunc] (by kernel_rfl) Tryd.underlying117 (by decide) rfl (fun h => by cases h) rfl rfl rfl ⟨(fun h => by cases h), tag_struct (by kernel_rfl)⟩
def ty119 : Ty := ⟨true, 3, [.int .i64 0, .int .i64 0, .val .nilFunc], .struct [(0, 1), (1, 1), (2, 1)] false⟩  -- field.long
theorem ty119_ok : TyOk Tryd.prog 119 ty119 := .mk' _ [.int .i64 0, .int .i64 0, .nilFunc] (by kernel_rfl) Tryd.underlying119 (by decide) rfl (fun h => by cases h) rfl rfl rfl ⟨(fun h => by cases h), tag_struct (by kernel_rfl)⟩
def seatTy : Nat → Option Ty := fun n => match n with
  | 2 => some ty2
  | 3 => some ty3
  | 4 => some ty4
  | 5 => some ty5
  | 9 => some ty9
  | 21 => some ty21
  | 22 => some ty22
  | 25 => some ty25
  | 27 => some ty27
  | 28 => some ty28
  | 32 => some ty32
  | 34 => some ty34
  | 35 => some ty35
  | 37 => some ty37
  | 61 => some ty61
  | 68 => some ty68
  | 92 => some ty92
  | 102 => some ty102
  | 106 => some ty106
  | 115 => some ty115
  | 117 => some ty117
  | 119 => some ty119
  | _ => none
/-- What stands in the package variables that are known: fields, kinds and sizes; types. -/
def knownL : List Int := [2, 3, 19, 3, 1, 6, 4, 1, 12, 7, 1, 10, 11, 1, 6, 12, 1, 6, 37, 2, 12, 38, 2, 6, 39, 2, 2, 41, 2, 8, 44, 4, 25, 48, 5, 999, 49, 1, 3, 90, 1, 42, 120, 5, 999]
def typesL : List (List UInt8) := [[48, 49, 48, 48], [48, 49, 49, 48], [48, 52, 48, 48], [48, 52, 49, 48], [48, 52, 50, 48], [48, 52, 50, 49], [48, 52, 51, 48]]
def gl0 : Nat → SV := fun g => match g with
  | 0 => .rop 45 fun j => .int .i64 (knownL.getD j 0)
  | g => .val (.pointer (some ⟨g, 0, none⟩))
def seatFl : Nat → Nat → Option Nat := fun t i => match t, i with
  | 27, 0 => some 3
  | 27, 1 => some 25
  | 34, 0 => some 32
  | 34, 1 => some 9
  | 37, 0 => some 34
  | 37, 1 => some 3
  | 37, 2 => some 9
  | 37, 3 => some 35
  | 37, 4 => some 9
  | 37, 5 => some 3
  | 37, 6 => some 3
  | 102, 0 => some 3
  | 102, 1 => some 3
  | 102, 2 => some 3
  | 117, 0 => some 3
  | 117, 1 => some 61
  | 119, 0 => some 3
  | 119, 1 => some 3
  | 119, 2 => some 61
  | _, _ => none
def seatT : Tys := { ty := seatTy, gl := gl0, fl := seatFl }
theorem seatTy_ok : ∀ t ty, seatTy t = some ty → TyOk Tryd.prog t ty := by
  intro t ty h
  unfold seatTy at h
  split at h <;> cases h
  · exact ty2_ok
  · exact ty3_ok
  · exact ty4_ok
  · exact ty5_ok
  · exact ty9_ok
  · exact ty21_ok
  · exact ty22_ok
  · exact ty25_ok
  · exact ty27_ok
  · exact ty28_ok
  · exact ty32_ok
  · exact ty34_ok
  · exact ty35_ok
  · exact ty37_ok
  · exact ty61_ok
  · exact ty68_ok
  · exact ty92_ok
  · exact ty102_ok
  · exact ty106_ok
  · exact ty115_ok
  · exact ty117_ok
  · exact ty119_ok
theorem seatFl_ok : ∀ t i u, seatFl t i = some u → ∃ (fs : Array Field) (f : Field), Tryd.prog.underlying t = some (.struct fs) ∧ fs[i]? = some f ∧ f.type = u := by
  intro t i u h
  unfold seatFl at h
  split at h <;> cases h
  · exact ⟨_, _, Tryd.underlying27, rfl, rfl⟩
  · exact ⟨_, _, Tryd.underlying27, rfl, rfl⟩
  · exact ⟨_, _, Tryd.underlying34, rfl, rfl⟩
  · exact ⟨_, _, Tryd.underlying34, rfl, rfl⟩
  · exact ⟨_, _, Tryd.underlying37, rfl, rfl⟩
  · exact ⟨_, _, Tryd.underlying37, rfl, rfl⟩
  · exact ⟨_, _, Tryd.underlying37, rfl, rfl⟩
  · exact ⟨_, _, Tryd.underlying37, rfl, rfl⟩
  · exact ⟨_, _, Tryd.underlying37, rfl, rfl⟩
  · exact ⟨_, _, Tryd.underlying37, rfl, rfl⟩
  · exact ⟨_, _, Tryd.underlying37, rfl, rfl⟩
  · exact ⟨_, _, Tryd.underlying102, rfl, rfl⟩
  · exact ⟨_, _, Tryd.underlying102, rfl, rfl⟩
  · exact ⟨_, _, Tryd.underlying102, rfl, rfl⟩
  · exact ⟨_, _, Tryd.underlying117, rfl, rfl⟩
  · exact ⟨_, _, Tryd.underlying117, rfl, rfl⟩
  · exact ⟨_, _, Tryd.underlying119, rfl, rfl⟩
  · exact ⟨_, _, Tryd.underlying119, rfl, rfl⟩
  · exact ⟨_, _, Tryd.underlying119, rfl, rfl⟩
theorem seatT_ok : TysOk Tryd.prog seatT := ⟨seatTy_ok, seatFl_ok⟩
theorem mixed : Tryd.prog.follows .mixedOrders = true := by kernel_rfl
end Go.Vd

set_option linter.unusedVariables false
set_option linter.unusedSimpArgs false
namespace Go.Vd
def isDb (b : UInt8) : Bool := decide (48 ≤ b.toNat) && decide (b.toNat ≤ 57)
def isD (L : List UInt8) : Bool := !L.isEmpty && L.all isDb
theorem isDb_iff {b : UInt8} : isDb b = true ↔ 48 ≤ b.toNat ∧ b.toNat ≤ 57 := by simp [isDb]
theorem isD_iff {L : List UInt8} : isD L = true ↔ L ≠ [] ∧ ∀ b ∈ L, isDb b = true := by
  simp [isD, List.all_eq_true]
def dig (b : UInt8) : Nat := b.toNat - 48
/-- The number that digits are. -/
def dVal (L : List UInt8) : Nat := L.foldl (fun v b => 10 * v + dig b) 0
theorem dVal_snoc (L : List UInt8) (b : UInt8) : dVal (L ++ [b]) = 10 * dVal L + dig b := by simp [dVal]
theorem dVal_nil : dVal [] = 0 := rfl
/-- The last n digits of a number. -/
def decs : Nat → Nat → List UInt8
  | 0, _ => []
  | n + 1, v => decs n (v / 10) ++ [UInt8.ofNat (48 + v % 10)]
theorem decs_len : ∀ n v, (decs n v).length = n
  | 0, _ => rfl
  | n + 1, v => by simp [decs, decs_len n]
theorem dig_of {k : Nat} (h : k < 10) : (UInt8.ofNat (48 + k)).toNat = 48 + k := by rw [UInt8.toNat_ofNat']; omega
theorem dig_lt {b : UInt8} (h : isDb b = true) : dig b < 10 := by have := isDb_iff.1 h; unfold dig; omega
theorem of_dig {b : UInt8} (h : isDb b = true) : UInt8.ofNat (48 + dig b) = b := by
  have h1 := isDb_iff.1 h
  apply UInt8.toNat_inj.1
  rw [UInt8.toNat_ofNat']
  unfold dig
  omega
theorem decs_dig : ∀ n v, ∀ b ∈ decs n v, isDb b = true
  | 0, _, b, h => by simp [decs] at h
  | n + 1, v, b, h => by
    simp only [decs, List.mem_append, List.mem_singleton] at h
    rcases h with h | h
    · exact decs_dig n _ b h
    · subst h
      rw [isDb_iff, dig_of (Nat.mod_lt _ (by omega))]
      have := Nat.mod_lt v (show 0 < 10 by omega)
      omega
theorem decs_is {n v : Nat} (h : 1 ≤ n) : isD (decs n v) = true := by
  rw [isD_iff]
  refine ⟨fun e => ?_, decs_dig n v⟩
  have := decs_len n v
  rw [e] at this
  simp at this
  omega
theorem dVal_decs : ∀ n v, dVal (decs n v) = v % 10 ^ n
  | 0, v => by rw [Nat.pow_zero, Nat.mod_one]; rfl
  | n + 1, v => by
    rw [decs, dVal_snoc, dVal_decs n]
    have h1 : dig (UInt8.ofNat (48 + v % 10)) = v % 10 := by unfold dig; rw [dig_of (Nat.mod_lt _ (by omega))]; omega
    rw [h1, Nat.pow_succ, Nat.mul_comm (10 ^ n) 10, Nat.mod_mul]
    omega
theorem snoc_ind {P : List UInt8 → Prop} (h0 : P []) (h1 : ∀ L b, P L → P (L ++ [b])) (L : List UInt8) : P L := by
  have : ∀ n, ∀ L : List UInt8, L.length = n → P L := by
    intro n
    induction n with
    | zero => intro L h; rw [List.length_eq_zero_iff.1 h]; exact h0
    | succ n ih =>
      intro L h
      have hne : L ≠ [] := by intro e; rw [e] at h; simp at h
      rw [← List.dropLast_concat_getLast hne]
      exact h1 _ _ (ih _ (by rw [List.length_dropLast]; omega))
  exact this _ L rfl
theorem dVal_lt (L : List UInt8) (h : ∀ b ∈ L, isDb b = true) : dVal L < 10 ^ L.length := by
  induction L using snoc_ind with
  | h0 => simp [dVal]
  | h1 L b ih =>
    have h1 := ih fun c hc => h c (by simp [hc])
    have h2 := dig_lt (h b (by simp))
    rw [dVal_snoc, List.length_append, List.length_singleton, Nat.pow_succ]
    omega
theorem decs_dVal (L : List UInt8) (h : ∀ b ∈ L, isDb b = true) : decs L.length (dVal L) = L := by
  induction L using snoc_ind with
  | h0 => rfl
  | h1 L b ih =>
    have h2 := dig_lt (h b (by simp))
    rw [List.length_append, List.length_singleton, decs, dVal_snoc]
    have e1 : (10 * dVal L + dig b) / 10 = dVal L := by omega
    have e2 : (10 * dVal L + dig b) % 10 = dig b := by omega
    rw [e1, e2, ih fun c hc => h c (by simp [hc]), of_dig (h b (by simp))]
theorem p19 {n : Nat} (h : n ≤ 19) : 10 ^ n ≤ 10000000000000000000 := Nat.pow_le_pow_right (n := 10) (by omega) h
/-- The greater number's digits come behind. -/
theorem decs_lt {n : Nat} : ∀ {v w : Nat}, v < 10 ^ n → w < 10 ^ n → (decs n v < decs n w ↔ v < w) := by
  have hcons : ∀ (n v : Nat), v < 10 ^ (n + 1) → ∃ d t, d < 10 ∧ t < 10 ^ n ∧ v = d * 10 ^ n + t ∧ decs (n + 1) v = UInt8.ofNat (48 + d) :: decs n t := by
    intro n
    induction n with
    | zero =>
      intro v h
      refine ⟨v, 0, by omega, by simp, by simp, ?_⟩
      simp only [decs, List.nil_append]
      rw [Nat.mod_eq_of_lt (by omega)]
    | succ n ih =>
      intro v h
      obtain ⟨d, t, hd, ht, hv, e⟩ := ih (v / 10) (by rw [Nat.pow_succ] at h; omega)
      refine ⟨d, t * 10 + v % 10, hd, by rw [Nat.pow_succ]; omega, ?_, ?_⟩
      · have h1 : d * 10 ^ (n + 1) = d * 10 ^ n * 10 := by rw [Nat.pow_succ, Nat.mul_assoc]
        omega
      · rw [decs, e, decs]
        have e1 : (t * 10 + v % 10) / 10 = t := by omega
        have e2 : (t * 10 + v % 10) % 10 = v % 10 := by omega
        rw [e1, e2]
        rfl
  induction n with
  | zero => intro v w hv hw; simp [decs]; simp at hv hw; omega
  | succ n ih =>
    intro v w hv hw
    obtain ⟨d, t, hd, ht, rfl, e⟩ := hcons n v hv
    obtain ⟨d', t', hd', ht', rfl, e'⟩ := hcons n w hw
    have k1 : UInt8.ofNat (48 + d) < UInt8.ofNat (48 + d') ↔ d < d' := by rw [UInt8.lt_iff_toNat_lt, dig_of hd, dig_of hd']; omega
    have k2 : UInt8.ofNat (48 + d) = UInt8.ofNat (48 + d') ↔ d = d' := by rw [← UInt8.toNat_inj, dig_of hd, dig_of hd']; omega
    rw [e, e', List.cons_lt_cons_iff, ih ht ht', k1, k2]
    have hm : ∀ a b : Nat, a < b → (a + 1) * 10 ^ n ≤ b * 10 ^ n := fun a b h => Nat.mul_le_mul_right _ h
    constructor
    · rintro (h | ⟨h, h2⟩)
      · have := hm d d' h; rw [Nat.succ_mul] at this; omega
      · subst h; omega
    · intro h
      rcases Nat.lt_trichotomy d d' with h1 | h1 | h1
      · exact .inl h1
      · subst h1; exact .inr ⟨rfl, by omega⟩
      · have := hm d' d h1; rw [Nat.succ_mul] at this; omega
/-! ### Luhn's sum -/
def lW (d : Nat) (t : Bool) : Nat := if t then (if 4 < d then 2 * d - 9 else 2 * d) else d
/-- From the end. -/
def lSum : List UInt8 → Bool → Nat
  | [], _ => 0
  | b :: R, t => lW (dig b) t + lSum R (!t)
def odd : Nat → Bool
  | 0 => false
  | n + 1 => !odd n
theorem lSum_snoc : ∀ (R : List UInt8) (b : UInt8) (t : Bool), lSum (R ++ [b]) t = lSum R t + lW (dig b) (t ^^ odd R.length)
  | [], b, t => by simp [lSum, odd]
  | c :: R, b, t => by
    simp only [List.cons_append, lSum, lSum_snoc R b, List.length_cons, odd]
    cases t <;> simp <;> omega
theorem odd_mod : ∀ n, odd n = decide (n % 2 = 1)
  | 0 => rfl
  | n + 1 => by
    rw [odd, odd_mod n]
    rcases Nat.mod_two_eq_zero_or_one n with h | h
    · rw [h]; simp; omega
    · rw [h]; simp; omega
def lFine (L : List UInt8) : Bool := isD L && decide (lSum L.reverse false % 10 = 0)
def lCheck (L : List UInt8) : Nat := (10 - lSum L.reverse true % 10) % 10
def dC (k : Nat) : UInt8 := UInt8.ofNat (48 + k)
theorem isD_snoc {L : List UInt8} {k : Nat} (h : isD L = true) (hk : k < 10) : isD (L ++ [dC k]) = true := by
  rw [isD_iff] at h ⊢
  refine ⟨by simp, fun b hb => ?_⟩
  simp only [List.mem_append, List.mem_singleton] at hb
  rcases hb with hb | hb
  · exact h.2 b hb
  · subst hb; rw [isDb_iff, dC, dig_of hk]; omega
theorem dig_dC {k : Nat} (h : k < 10) : dig (dC k) = k := by unfold dig dC; rw [dig_of h]; omega
theorem lFine_snoc {L : List UInt8} {k : Nat} (h : isD L = true) (hk : k < 10) : lFine (L ++ [dC k]) = decide (k = lCheck L) := by
  unfold lFine lCheck
  rw [isD_snoc h hk, Bool.true_and, List.reverse_append]
  simp only [List.reverse_singleton, List.singleton_append, lSum, lW, dig_dC hk, Bool.not_false]
  simp
  omega
theorem lW_lt {d : Nat} {t : Bool} (h : d < 10) : lW d t < 10 := by
  unfold lW; cases t <;> simp <;> (try split) <;> omega
theorem lW_inj {d e : Nat} {t : Bool} (h : d < 10) (h' : e < 10) (hl : lW d t = lW e t) : d = e := by
  revert hl
  unfold lW
  cases t
  · simp
  · simp only [if_true]
    split <;> split <;> omega
/-- One digit turned. -/
theorem lSum_set : ∀ (R : List UInt8) (k : Nat) (x : UInt8) (t : Bool), (∀ b ∈ R, isDb b = true) → isDb x = true → k < R.length → (lSum (R.set k x) t % 10 = lSum R t % 10 ↔ x = R.getD k 0)
  | [], k, x, t, _, _, hk => by simp at hk
  | b :: R, 0, x, t, hR, hx, _ => by
    have h1 := dig_lt (hR b (by simp))
    have h2 := dig_lt hx
    have h3 := lW_lt (t := t) h1
    have h4 := lW_lt (t := t) h2
    simp only [List.set_cons_zero, lSum, List.getD_cons_zero]
    constructor
    · intro h
      have : lW (dig x) t = lW (dig b) t := by omega
      have := lW_inj h2 h1 this
      rw [← of_dig hx, ← of_dig (hR b (by simp)), this]
    · intro h; rw [h]
  | b :: R, k + 1, x, t, hR, hx, hk => by
    have ih := lSum_set R k x (!t) (fun c hc => hR c (by simp [hc])) hx (by simpa using hk)
    simp only [List.set_cons_succ, lSum, List.getD_cons_succ]
    rw [← ih]
    omega
theorem isD_set {L : List UInt8} {k : Nat} {x : UInt8} (h : isD L = true) (hx : isDb x = true) : isD (L.set k x) = true := by
  rw [isD_iff] at h ⊢
  refine ⟨by simpa using h.1, fun b hb => ?_⟩
  rcases List.mem_or_eq_of_mem_set hb with hb | hb
  · exact h.2 b hb
  · rw [hb]; exact hx
theorem rev_set : ∀ {L : List UInt8} {k : Nat} {x : UInt8}, k < L.length → (L.set k x).reverse = L.reverse.set (L.length - 1 - k) x := by
  intro L k x hk
  apply List.ext_getElem (by simp)
  intro i h1 h2
  simp at h1 h2
  rw [List.getElem_reverse, List.getElem_set, List.getElem_set, List.getElem_reverse]
  simp only [List.length_set]
  by_cases e : k = L.length - 1 - i
  · rw [if_pos e, if_pos (by omega)]
  · rw [if_neg e, if_neg (by omega)]
theorem rev_getD {L : List UInt8} {k : Nat} (hk : k < L.length) : L.reverse.getD (L.length - 1 - k) 0 = L.getD k 0 := by
  rw [List.getD_eq_getElem?_getD, List.getD_eq_getElem?_getD, List.getElem?_reverse (by omega)]
  congr 2
  omega
theorem lFine_set {L : List UInt8} {k : Nat} {x : UInt8} (h : lFine L = true) (hx : isDb x = true) (hk : k < L.length) : lFine (L.set k x) = decide (x = L.getD k 0) := by
  simp only [lFine, Bool.and_eq_true, decide_eq_true_eq] at h
  have hi := isD_iff.1 h.1
  unfold lFine
  rw [isD_set h.1 hx, Bool.true_and, rev_set hk]
  have := lSum_set L.reverse (L.length - 1 - k) x false (fun b hb => hi.2 b (by simpa using hb)) hx (by simp; omega)
  rw [h.2, rev_getD hk] at this
  simp only [this]
end Go.Vd

set_option linter.unusedVariables false
set_option linter.unusedSimpArgs false
namespace Go.Vd
def ordI (a b : Int) : Int := if a < b then -1 else if b < a then 1 else 0
def ordS (a b : List UInt8) : Int := if a < b then -1 else if b < a then 1 else 0
theorem bytesLess_eq : ∀ (x y : List UInt8), Op.bytesLess x y = decide (x < y)
  | _, [] => by simp [Op.bytesLess]
  | [], _ :: _ => by simp [Op.bytesLess]
  | a :: x, b :: y => by simp only [Op.bytesLess, bytesLess_eq x y, List.cons_lt_cons_iff]; rw [Bool.eq_iff_iff]; simp
theorem triS (a b : List UInt8) : (a < b ∧ a ≠ b ∧ ordS a b = -1) ∨ (a = b ∧ ordS a b = 0) ∨ (b < a ∧ a ≠ b ∧ ordS a b = 1) := by
  unfold ordS
  by_cases h : a < b
  · exact .inl ⟨h, fun e => List.lt_irrefl _ (e ▸ h), if_pos h⟩
  · rw [if_neg h]
    rcases List.le_iff_lt_or_eq.1 (List.not_lt.1 h) with h1 | h1
    · exact .inr (.inr ⟨h1, fun e => List.lt_irrefl _ (e ▸ h1), if_pos h1⟩)
    · subst h1; exact .inr (.inl ⟨rfl, if_neg h⟩)
/-- The first that isn't 0. -/
def orL : List Int → Int
  | [] => 0
  | x :: l => if x = 0 then orL l else x
theorem orL_zero : ∀ {L : List Int} {i : Nat}, (∀ x ∈ L.take i, x = 0) → i < L.length → orL L = if L.getD i 0 = 0 then orL (L.drop (i + 1)) else L.getD i 0
  | [], i, _, h => by simp at h
  | x :: l, 0, _, _ => by simp [orL]
  | x :: l, i + 1, h, hi => by
    have hx : x = 0 := h x (by simp)
    have := orL_zero (L := l) (i := i) (fun y hy => h y (by simp [hy])) (by simpa using hi)
    simpa [orL, hx] using this
theorem orL_all : ∀ {L : List Int}, (∀ x ∈ L, x = 0) → orL L = 0
  | [], _ => rfl
  | x :: l, h => by simp [orL, h x (by simp), orL_all (L := l) fun y hy => h y (by simp [hy])]
def ordK (s : Int) (r : List UInt8) (s' : Int) (r' : List UInt8) : Int := if ordI s s' = 0 then ordS r r' else ordI s s'
theorem ordK_or (s : Int) (r : List UInt8) (s' : Int) (r' : List UInt8) : orL [ordI s s', ordS r r'] = ordK s r s' r' := by
  simp only [orL, ordK]
  split
  · split
    · rename_i h; exact h.symm
    · rfl
  · rfl
theorem ordK_eq (s : Int) (r : List UInt8) (s' : Int) (r' : List UInt8) : ordK s r s' r' = if s = s' ∧ r = r' then 0 else if s < s' ∨ (s = s' ∧ r < r') then -1 else 1 := by
  unfold ordK
  rcases Int.lt_trichotomy s s' with h | h | h
  · have e : ordI s s' = -1 := if_pos h
    rw [e, if_neg (by omega), if_neg (fun h' => by omega), if_pos (.inl h)]
  · have e : ordI s s' = 0 := by rw [h]; simp [ordI]
    rw [e, if_pos rfl]
    rcases triS r r' with ⟨h1, n, e1⟩ | ⟨n, e1⟩ | ⟨h1, n, e1⟩ <;> rw [e1]
    · rw [if_neg (fun h' => n h'.2), if_pos (.inr ⟨h, h1⟩)]
    · rw [if_pos ⟨h, n⟩]
    · rw [if_neg (fun h' => n h'.2), if_neg]
      rintro (h' | h')
      · omega
      · exact List.lt_irrefl _ (List.lt_trans h1 h'.2)
  · have e : ordI s s' = 1 := by unfold ordI; rw [if_neg (by omega), if_pos h]
    rw [e, if_neg (by omega), if_neg (fun h' => by omega), if_neg (fun h' => by omega)]
/-! ### Signs -/
def okB (b : UInt8) : Bool := decide (32 ≤ b.toNat) && decide (b.toNat ≤ 126)
def inS (k : Int) (b : UInt8) : Bool := if k = 1 ∨ k = 3 then isDb b else okB b
def signs (k : Int) (r : List UInt8) : Bool := r.all (inS k)
def keyOk (s : Int) (r : List UInt8) : Bool := decide (s ≤ 999999) && (decide (r.length = 12) && r.all okB)
theorem all_take {p : UInt8 → Bool} {r : List UInt8} {i : Nat} (h : i < r.length) : (r.take (i + 1)).all p = ((r.take i).all p && p (r.getD i 0)) := by
  rw [← take_snoc (d := 0) h]; simp
theorem all_false {p : UInt8 → Bool} {r : List UInt8} {i : Nat} (h : i < r.length) (hp : p (r.getD i 0) = false) : r.all p = false := by
  rw [List.all_eq_false]
  refine ⟨r.getD i 0, ?_, by rw [hp]; simp⟩
  rw [List.getD_eq_getElem?_getD, List.getElem?_eq_getElem h]
  exact List.getElem_mem h
/-! ### Shards -/
def fnv1 (h : Nat) (b : UInt8) : Nat := (h ^^^ b.toNat) * 16777619 % 4294967296
def fnv (L : List UInt8) : Nat := L.foldl fnv1 2166136261
theorem foldl_snoc {α β : Type} (f : α → β → α) (a : α) (L : List β) (b : β) : (L ++ [b]).foldl f a = f (L.foldl f a) b := by simp
theorem fnv_snoc (L : List UInt8) (b : UInt8) : fnv (L ++ [b]) = fnv1 (fnv L) b := foldl_snoc fnv1 _ L b
theorem fnv_lt (L : List UInt8) : fnv L < 4294967296 := by
  induction L using snoc_ind with
  | h0 => show 2166136261 < 4294967296; omega
  | h1 L b ih => rw [fnv_snoc]; exact Nat.mod_lt _ (by omega)
theorem xor_lt {h : Nat} (b : UInt8) (hh : h < 4294967296) : h ^^^ b.toNat < 4294967296 := Nat.xor_lt_two_pow (n := 32) hh (by have := b.toNat_lt; omega)
theorem xor32 {h : Nat} (b : UInt8) (hh : h < 4294967296) : bits .xor .u32 (h : Int) (b.toNat : Int) = ((h ^^^ b.toNat : Nat) : Int) := by
  show IntKind.u32.wrap ((BitVec.ofInt 32 (h : Int) ^^^ BitVec.ofInt 32 (b.toNat : Int)).toNat : Int) = _
  have hb := b.toNat_lt
  have h1 : (BitVec.ofInt 32 (h : Int)).toNat = h := by rw [BitVec.toNat_ofInt]; omega
  have h2 : (BitVec.ofInt 32 (b.toNat : Int)).toNat = b.toNat := by rw [BitVec.toNat_ofInt]; omega
  rw [BitVec.toNat_xor, h1, h2, IntKind.wrap_u32]
  have := xor_lt b hh
  omega
theorem xor64 {h : Nat} (b : UInt8) (hh : h < 4294967296) : bits .xor .u64 (h : Int) (b.toNat : Int) = ((h ^^^ b.toNat : Nat) : Int) := by
  show IntKind.u64.wrap ((BitVec.ofInt 64 (h : Int) ^^^ BitVec.ofInt 64 (b.toNat : Int)).toNat : Int) = _
  have hb := b.toNat_lt
  have h1 : (BitVec.ofInt 64 (h : Int)).toNat = h := by rw [BitVec.toNat_ofInt]; omega
  have h2 : (BitVec.ofInt 64 (b.toNat : Int)).toNat = b.toNat := by rw [BitVec.toNat_ofInt]; omega
  rw [BitVec.toNat_xor, h1, h2, IntKind.wrap_u64]
  have := xor_lt b hh
  omega
/-- What the program mixes. -/
def mixI (h b : Int) : Int := IntKind.u32.wrap (bits .xor .u32 h (IntKind.u32.wrap b) * 16777619)
theorem mixI_fnv (L : List UInt8) (b : UInt8) : mixI (fnv L) (b.toNat : Int) = (fnv (L ++ [b]) : Int) := by
  unfold mixI
  have hb := b.toNat_lt
  have hw : IntKind.u32.wrap (b.toNat : Int) = b.toNat := by rw [IntKind.wrap_u32]; omega
  rw [hw, xor32 b (fnv_lt L), fnv_snoc, fnv1, IntKind.wrap_u32]
  omega
def shardN (s : Nat) (r : List UInt8) (m : Int) : Int := if keyOk s r && (decide (1 ≤ m) && decide (m ≤ 16)) then ((fnv (decs 6 s ++ r) % m.toNat : Nat) : Int) else -1
theorem decs_cons : ∀ (n v : Nat), decs (n + 1) v = UInt8.ofNat (48 + v / 10 ^ n % 10) :: decs n v
  | 0, v => by simp [decs]
  | n + 1, v => by
    rw [decs, decs_cons n (v / 10)]
    rw [Nat.div_div_eq_div_mul, show 10 * 10 ^ n = 10 ^ (n + 1) by rw [Nat.pow_succ]; omega]
    rfl
/-- Digit j of six. -/
theorem decs_getD {s j : Nat} (h : j < 6) : (decs 6 s).getD j 0 = UInt8.ofNat (48 + s / 10 ^ (5 - j) % 10) := by
  rw [decs_cons 5, decs_cons 4, decs_cons 3, decs_cons 2, decs_cons 1, decs_cons 0]
  match j, h with
  | 0, _ => rfl
  | 1, _ => rfl
  | 2, _ => rfl
  | 3, _ => rfl
  | 4, _ => rfl
  | 5, _ => rfl
end Go.Vd

set_option linter.unusedVariables false
set_option linter.unusedSimpArgs false
set_option maxRecDepth 100000
set_option maxHeartbeats 2000000
namespace Go.Vd
open Go.Proofs
theorem gD' (r : List UInt8) (i : Nat) : r[i]?.getD 0 = r.getD i 0 := (List.getD_eq_getElem?_getD ..).symm
theorem isD_all {L : List UInt8} (h : ¬L = []) : isD L = L.all isDb := by
  rw [Bool.eq_iff_iff, isD_iff, List.all_eq_true]
  exact ⟨fun h' => h'.2, fun h' => ⟨h, h'⟩⟩
theorem isDb_no {b : UInt8} (h : b.toNat < 48 ∨ 57 < b.toNat) : isDb b = false := by
  rw [Bool.eq_false_iff]; intro h'; have := isDb_iff.1 h'; omega
theorem isDb_yes {b : UInt8} (h : 48 ≤ b.toNat ∧ b.toNat ≤ 57) : isDb b = true := isDb_iff.2 h
attribute [local irreducible] vc
theorem good_gIs (L : List UInt8) (hL : L.length ≤ 1000000) : GoodP Tryd.prog gl0 50 [.str L] (.bool (std.tb fun _ => isD L)) := by
  refine fn_sound' (T := seatT) (G := noC) (X := noX) seatT_ok noC_ok noX_ok noI_ok mixed Tryd.func50 (.one) (fun A => [.str L]) (fun A => .bool (A.tb fun _ => isD L)) fun A hA => ?_
  cbv
  repeat' (first | with_reducible exact True.intro | with_reducible exact dr_ok hA (by kernel_rfl) | with_reducible refine And.intro ?_ ?_ | (intro hc; cbv))
  · subst hA; simp [-List.getD_eq_getElem?_getD, sS, strOf_lit, lstOf_lit inj_eB, lstOf_lit inj_eZ, lstOf_lit inj_eBs, lstOf_lit inj_eS] at *
    simp [hc, isD]
  refine ⟨⟨{i : Nat // i ≤ L.length ∧ (L.take i).all isDb = true}, fun b i => [(3, .int .i64 (i.1 : Nat))], fun b i => [], fun i => L.length - i.1, true⟩, ⟨⟨0, by omega, by simp⟩, ?_⟩, ?_⟩
  · cbv
    subst hA
    simp [-List.getD_eq_getElem?_getD, sS]
  · have hne : ¬L = [] := by subst hA; simpa [sS] using hc
    rintro ⟨i, hi, hz⟩
    clear hc
    cbv
    repeat' (first | with_reducible exact True.intro | with_reducible exact dr_ok hA (by kernel_rfl) | with_reducible refine And.intro ?_ ?_ | (intro hc; cbv))
    all_goals first
      | (fail_if_success (refine Exists.intro ?_ ?_)
         subst hA
         simp [-List.getD_eq_getElem?_getD, sS, gD'] at *
         done)
      | (fail_if_success (refine Exists.intro ?_ ?_)
         subst hA
         simp [-List.getD_eq_getElem?_getD, sS, gD'] at *
         first
           | omega
           | (constructor <;> omega)
           | (have hlt : i < L.length := by omega
              rw [isD_all hne, all_false hlt (isDb_no (by omega))]; done)
           | (rw [isD_all hne, List.all_eq_true]
              rw [List.take_of_length_le (by omega)] at hz
              exact hz)
           | trace_state)
      | (have hlt : i < L.length := by clear hz; subst hA; simp [sS] at *; omega
         have hx : isDb (L.getD i 0) = true := by
           clear hz
           subst hA
           simp [-List.getD_eq_getElem?_getD, sS, gD'] at *
           exact isDb_yes (by omega)
         refine ⟨⟨i + 1, by omega, by rw [all_take hlt, hz, hx]; rfl⟩, ?_, show L.length - (i + 1) < L.length - i by omega⟩
         cbv
         subst hA
         simp [sS]
         exact w64 (by omega))
      | trace_state
theorem good_gWeight (d : Nat) (t : Bool) (hd : d < 10) : GoodP Tryd.prog gl0 73 [.int .i64 (d : Nat), .bool t] (.int .i64 (std.ti fun _ => (lW d t : Int))) := by
  refine fn_sound' (T := seatT) (G := noC) (X := noX) seatT_ok noC_ok noX_ok noI_ok mixed Tryd.func73 (.one) (fun A => [.int .i64 (d : Nat), .bool t]) (fun A => .int .i64 (A.ti fun _ => (lW d t : Int))) fun A hA => ?_
  cbv
  repeat' (first | with_reducible exact True.intro | with_reducible exact dr_ok hA (by kernel_rfl) | with_reducible refine And.intro ?_ ?_ | (intro hc; cbv))
  all_goals (subst hA; simp [sS] at *)
  all_goals (subst_vars)
  · rfl
  · have e : lW d true + 9 = 2 * d := by (simp only [lW, if_true]; rw [if_pos (by omega)]; omega)
    rw [w64 (n := 2 * (d : Int)) (by omega), w64 (by omega)]
    show 2 * (d : Int) - 9 = ((lW d true : Nat) : Int)
    omega
  · have e : lW d true = 2 * d := by (simp only [lW, if_true]; rw [if_neg (by omega)])
    rw [w64 (by omega), e]
    rfl
def gErr (L : List UInt8) : Int := if L = [] then 2 else if 19 < L.length then 4 else if isD L = true then 0 else 3
def gVal (L : List UInt8) : Nat := if L = [] then 0 else if 19 < L.length then 0 else if isD L = true then dVal L else 0
theorem gE0 {L : List UInt8} (h : L = []) : gErr L = 2 ∧ gVal L = 0 := ⟨if_pos h, if_pos h⟩
theorem gE1 {L : List UInt8} (h : ¬L = []) (h1 : 19 < L.length) : gErr L = 4 ∧ gVal L = 0 := by
  unfold gErr gVal; rw [if_neg h, if_pos h1, if_neg h, if_pos h1]; exact ⟨rfl, rfl⟩
theorem gE2 {L : List UInt8} (h : ¬L = []) (h1 : ¬19 < L.length) (h2 : isD L = false) : gErr L = 3 ∧ gVal L = 0 := by
  unfold gErr gVal; rw [if_neg h, if_neg h1, h2, if_neg h, if_neg h1]; exact ⟨rfl, rfl⟩
theorem gE3 {L : List UInt8} (h1 : ¬19 < L.length) (h2 : isD L = true) : gErr L = 0 ∧ gVal L = dVal L := by
  have h := (isD_iff.1 h2).1
  unfold gErr gVal; rw [if_neg h, if_neg h1, if_pos h2, if_neg h, if_neg h1, if_pos h2]; exact ⟨rfl, rfl⟩
theorem dVal_bound {L : List UInt8} (h : isD L = true) (h1 : ¬19 < L.length) {i : Nat} (hi : i < L.length) : dVal (L.take i) < 1000000000000000000 := by
  have h2 := dVal_lt (L.take i) (fun b hb => (isD_iff.1 h).2 b (List.mem_of_mem_take hb))
  rw [List.length_take] at h2
  exact Nat.lt_of_lt_of_le h2 (Nat.le_trans (Nat.pow_le_pow_right (by omega : 0 < 10) (by omega : min i L.length ≤ 18)) (by decide))
theorem getD_dig {L : List UInt8} (h : isD L = true) {i : Nat} (hi : i < L.length) : 48 ≤ (L.getD i 0).toNat ∧ (L.getD i 0).toNat ≤ 57 := by
  apply isDb_iff.1
  apply (isD_iff.1 h).2
  rw [List.getD_eq_getElem?_getD, List.getElem?_eq_getElem hi]
  exact List.getElem_mem hi
theorem wU64' {n : Int} (h : 0 ≤ n ∧ n < 18446744073709551616) : IntKind.u64.wrap n = n := by rw [IntKind.wrap_u64]; omega
theorem wU8' {n : Int} (h : 0 ≤ n ∧ n < 256) : IntKind.u8.wrap n = n := by rw [IntKind.wrap_u8]; omega
theorem dVal_take {L : List UInt8} {i : Nat} (hi : i < L.length) : dVal (L.take (i + 1)) = 10 * dVal (L.take i) + dig (L.getD i 0) := by
  rw [← take_snoc (d := 0) hi, dVal_snoc]
noncomputable def c_gIs : Ct := fun A args => match args with
  | [.str L] => some (some (A.tp fun _ => L.length ≤ 1000000), .bool (A.tb fun _ => isD L))
  | _ => none
noncomputable def gg1 : Ar → Pu := addC 50 c_gIs (noC)
theorem gg1_ok : PuOk Tryd.prog gl0 (gg1 std) := by
  refine addC_ok (noC_ok) ⟨_, Tryd.func50, rfl, by decide⟩ ?_
  · intro args p r h hp
    unfold c_gIs at h
    split at h <;> cases h
    exact good_gIs _ hp
theorem rstep {v b : Nat} (hv : v < 1000000000000000000) (hb : 48 ≤ b ∧ b ≤ 57) : IntKind.u64.wrap (IntKind.u64.wrap (IntKind.u64.wrap (10 * (v : Int)) + IntKind.u64.wrap (b : Int)) - 48) = ((10 * v + (b - 48) : Nat) : Int) := by
  rw [wU64' (n := 10 * (v : Int)) (by omega), wU64' (n := (b : Int)) (by omega), wU64' (n := 10 * (v : Int) + (b : Int)) (by omega), wU64' (by omega)]
  omega
end Go.Vd

set_option linter.unusedVariables false
set_option linter.unusedSimpArgs false
namespace Go.Proofs
open Go.RowKit Go.Shelf
attribute [local go_sem] Oper.semAt_some

theorem fe_take {L : List UInt8} {k : Nat} (h : k < L.length) : L.reverse.take k ++ [L.getD (L.length - 1 - k) 0] = L.reverse.take (k + 1) := by
  rw [← Vd.rev_getD (by omega), show L.length - 1 - (L.length - 1 - k) = k by omega]
  exact Vd.take_snoc (by rw [List.length_reverse]; exact h)

/-- The box is as it was. -/
def KBs (Bs : Nat) (A B : World) : Prop := ∀ v, A.cell? ⟨Bs, 0, none⟩ = some v → B.cell? ⟨Bs, 0, none⟩ = some v
theorem ba_get {L : List UInt8} {i : Nat} (h : i < (ByteArray.mk L.toArray).size) : (ByteArray.mk L.toArray)[i]'h = L.getD i 0 := by
  have h1 : i < L.length := by simpa [ByteArray.size] using h
  rw [List.getD_eq_getElem?_getD, List.getElem?_eq_getElem h1]
  rfl

set_option maxRecDepth 100000 in
set_option maxHeartbeats 2000000 in
theorem fromEnd1_in (F : Fence) (n : Nat) (h76 : F.fn 82) (hro : F.round = none) (hn : 1 ≤ n) (l Bs : Nat) (L : List UInt8) (hL : L.length ≤ 1000000) (J Jx : List UInt8 → World → Prop)
    (hY : ∀ pre x W, J pre W → pre.length < L.length → YieldAt F (n - 1) Tryd.prog l #[.int .u8 (x.toNat : Int)] W fun e W' =>
      (e = .returned (.bool true) ∧ J (pre ++ [x]) W' ∧ KBs Bs W W') ∨ (e = .returned (.bool false) ∧ Jx (pre ++ [x]) W'))
    (W : World) (hBs : W.cell? ⟨Bs, 0, none⟩ = some (.string ⟨L.toArray⟩)) (h0 : J [] W) :
    CallsIn F n Tryd.prog 82 #[.func (.yield l) #[] #[], .pointer (some ⟨Bs, 0, none⟩)] W fun e W' => (∃ v, e = .returned v) ∧
      ((∃ ys, ys = L.reverse ∧ J ys W') ∨ (∃ pre, pre <+: L.reverse ∧ Jx pre W')) := by
  refine callsIn_of_wp Tryd.func82 rfl h76 ?_ hro
  simp only [Tryd.ntmps82, List.size_toArray, List.length_cons, List.length_nil, Nat.reduceAdd, Nat.reduceSub, Array.replicate_succ, Array.replicate_zero, List.push_toArray, List.append_toArray, List.nil_append, List.cons_append]
  gi_wp2
  gi_loopw [3] (fun i wr => ∃ k : Nat, k ≤ L.length ∧ i = .int .i64 ((L.length : Int) - 1 - k) ∧ J (L.reverse.take k) wr ∧ wr.cell? ⟨Bs, 0, none⟩ = some (.string ⟨L.toArray⟩))
    (fun i _ => (intOf i + 1).toNat)
  case atStart => exact ⟨0, Nat.zero_le _, by simp, h0, hBs⟩
  case round =>
    obtain ⟨k, hk, rfl, hJs, hs⟩ := hrel
    by_cases hlt : k < L.length
    · have hx : L.length - 1 - k < (ByteArray.mk L.toArray).size := by simp [ByteArray.size]; omega
      obtain ⟨fn, tmps, assign, body, hy, hR⟩ := hY _ ((ByteArray.mk L.toArray)[L.length - 1 - k]'hx) wr hJs (by rw [List.length_take]; simp; omega)
      have h1 : (0 : Int) ≤ (L.length : Int) - 1 - k := by omega
      have ht : L.reverse.take k ++ [(ByteArray.mk L.toArray)[L.length - 1 - k]'hx] = L.reverse.take (k + 1) := by rw [ba_get]; exact fe_take hlt
      gi_wp2
      refine hR.mono ?_
      rintro e W3 (⟨rfl, hJ3, hk3⟩ | ⟨rfl, hJx3⟩)
      · rw [ht] at hJ3
        gi_wp2
        go_roundw
        case rel => exact ⟨k + 1, by omega, by first | rfl | (congr 1; omega) | (simp; omega), hJ3, hk3 _ hs⟩
        case measure => simp [intOf]; omega
      · rw [ht] at hJx3
        gi_wp2
        refine bodyPost_ret (results_none rfl _ _ _) rfl ?_
        exact ⟨⟨_, rfl⟩, .inr ⟨_, ⟨L.reverse.drop (k + 1), List.take_append_drop _ _⟩, hJx3⟩⟩
    · obtain rfl : k = L.length := by omega
      gi_wp2
      have hJf : J L.reverse wr := by rw [List.take_of_length_le (by simp)] at hJs; exact hJs
      go_end0
      exact ⟨⟨_, rfl⟩, .inl ⟨_, rfl, hJf⟩⟩

/-- A new box: what it holds; it stays so beside a newer one. -/
theorem box_new (W : World) (v : Value) (t : TypeId) : (W.alloc (.cells #[v] t)).cell? ⟨W.heap.size, 0, none⟩ = some v ∧ (W.alloc (.cells #[v] t)).frozen? ⟨W.heap.size, 0, none⟩ = false := ⟨by simp, by simp⟩
theorem box_old {W : World} {a : Addr} {v : Value} (o : Obj) (h : W.cell? a = some v) : (W.alloc o).cell? a = some v := cell_kept h (World.grownBy_alloc W o none) (fun r e => by cases e)
theorem box_soft {W : World} {a : Addr} {v : Value} (o : Obj) (h : W.cell? a = some v) (hf : W.frozen? a = false) : (W.alloc o).frozen? a = false := (frozen_kept h (World.grownBy_alloc W o none) (fun r e => by cases e)).trans hf

set_option maxHeartbeats 1000000 in
theorem fromEnd_in (F : Fence) (n : Nat) (h58 : F.fn 72) (hro : F.round = none) (s : ByteArray) (w : World) :
    CallsIn F n Tryd.prog 72 #[.string s] w fun e w' => e = .returned (.func (.func 82) #[] #[.pointer (some ⟨w.heap.size, 0, none⟩)]) ∧ w' = w.alloc (.cells #[.string s] 9) := by
  refine callsIn_of_wp Tryd.func72 rfl h58 ?_ hro
  simp only [Tryd.ntmps72, List.size_toArray, List.length_cons, List.length_nil, Nat.reduceAdd, Nat.reduceSub, Array.replicate_succ, Array.replicate_zero, List.push_toArray, List.append_toArray, List.nil_append, List.cons_append]
  gi_wp2
  go_ret
  exact ⟨rfl, rfl⟩

theorem fromEnd_stops (F : Fence) (n : Nat) (h76 : F.fn 82) (hro : F.round = none) (hn : 1 ≤ n) (Bs : Nat) (L : List UInt8) (hL : L.length ≤ 1000000) (w : World) (hBs : Bs < w.heap.size) (hc : w.cell? ⟨Bs, 0, none⟩ = some (.string ⟨L.toArray⟩)) :
    SeqStopsK F n Tryd.prog 82 #[.pointer (some ⟨Bs, 0, none⟩)] (fun x : UInt8 => #[Value.int .u8 (x.toNat : Int)]) (KBs Bs) (fun ys => ys = L.reverse) (fun pre => pre <+: L.reverse) L.length w := fun l J Jx W hW _ _ hY h0 => by
  have hc' := (hW.cell (p := ⟨Bs, 0, none⟩) hBs).trans hc
  exact fromEnd1_in F n h76 hro hn l Bs L hL J Jx hY W hc' h0

set_option maxHeartbeats 1000000 in
theorem weight_in (F : Fence) (n : Nat) (h59 : F.fn 73) (hro : F.round = none) (d : Nat) (hd : d < 256) (t : Bool) (w : World) :
    CallsIn F n Tryd.prog 73 #[.int .i64 (d : Int), .bool t] w fun e w' => e = .returned (.int .i64 (Vd.lW d t : Int)) ∧ w' = w := by
  refine callsIn_of_wp Tryd.func73 rfl h59 ?_ hro
  simp only [Tryd.ntmps73, List.size_toArray, List.length_cons, List.length_nil, Nat.reduceAdd, Nat.reduceSub, Array.replicate_succ, Array.replicate_zero, List.push_toArray, List.append_toArray, List.nil_append, List.cons_append]
  have e1 : Vd.lW d false = d := rfl
  cases t
  · gi_wp2
    go_ret
    exact ⟨by rw [e1]; rfl, rfl⟩
  · by_cases h : 4 < d
    · have e2 : ((Vd.lW d true : Nat) : Int) = 2 * (d : Int) - 9 := by
        have e3 : Vd.lW d true + 9 = 2 * d := by (simp only [Vd.lW, if_true]; rw [if_pos (by omega)]; omega)
        omega
      gi_wp2
      go_ret
      exact ⟨by rw [e2]; rfl, rfl⟩
    · have e2 : ((Vd.lW d true : Nat) : Int) = 2 * (d : Int) := by
        have e3 : Vd.lW d true = 2 * d := by (simp only [Vd.lW, if_true]; rw [if_neg (by omega)])
        omega
      gi_wp2
      go_ret
      exact ⟨by rw [e2]; rfl, rfl⟩

/-- The weight of whatever byte. -/
def dig8 (b : UInt8) : Nat := (b.toNat + 208) % 256
def lSum8 : List UInt8 → Bool → Nat
  | [], _ => 0
  | b :: R, t => Vd.lW (dig8 b) t + lSum8 R (!t)
theorem lSum8_snoc : ∀ (R : List UInt8) (b : UInt8) (t : Bool), lSum8 (R ++ [b]) t = lSum8 R t + Vd.lW (dig8 b) (t ^^ Vd.odd R.length)
  | [], b, t => by simp [lSum8, Vd.odd]
  | c :: R, b, t => by
    simp only [List.cons_append, lSum8, lSum8_snoc R b, List.length_cons, Vd.odd]
    cases t <;> simp <;> omega
theorem lW_le (d : Nat) (t : Bool) (h : d < 256) : Vd.lW d t ≤ 510 := by
  unfold Vd.lW; cases t <;> simp <;> (try split) <;> omega
theorem lSum8_le : ∀ (R : List UInt8) (t : Bool), lSum8 R t ≤ 510 * R.length
  | [], _ => by simp [lSum8]
  | b :: R, t => by
    have h1 := lSum8_le R (!t)
    have h2 := lW_le (dig8 b) t (Nat.mod_lt _ (by omega))
    simp only [lSum8, List.length_cons]
    omega
theorem lSum8_eq : ∀ (R : List UInt8) (t : Bool), (∀ b ∈ R, Vd.isDb b = true) → lSum8 R t = Vd.lSum R t
  | [], _, _ => rfl
  | b :: R, t, h => by
    have hb := Vd.isDb_iff.1 (h b (by simp))
    have e : dig8 b = Vd.dig b := by unfold dig8 Vd.dig; omega
    simp only [lSum8, Vd.lSum, e, lSum8_eq R (!t) fun c hc => h c (by simp [hc])]

theorem sum_end {t : Bool} {w W : World} {pre : List UInt8} {x : UInt8} {v0 v1 u0 u1 : Value} (hc0 : W.cell? ⟨w.heap.size, 0, none⟩ = some u0) (hf0 : W.frozen? ⟨w.heap.size, 0, none⟩ = false) (hc1 : W.cell? ⟨w.heap.size + 1, 0, none⟩ = some u1) (hf1 : W.frozen? ⟨w.heap.size + 1, 0, none⟩ = false)
    (hB : Below w.heap.size w W) (W' : World) (hW' : W' = ((W.setCell ⟨w.heap.size + 1, 0, none⟩ v1).setCell ⟨w.heap.size, 0, none⟩ v0).drew) :
    KeepsOthers W W' ∧ KBs (w.heap.size + 1 + 1) W W' ∧ ((W'.cell? ⟨w.heap.size, 0, none⟩ = some v0 ∧ W'.frozen? ⟨w.heap.size, 0, none⟩ = false) ∧ (W'.cell? ⟨w.heap.size + 1, 0, none⟩ = some v1 ∧ W'.frozen? ⟨w.heap.size + 1, 0, none⟩ = false)) ∧ Below w.heap.size w W' := by
  subst hW'
  have hne : (⟨w.heap.size, 0, none⟩ : Addr) ≠ ⟨w.heap.size + 1, 0, none⟩ := fun e => by injection e; omega
  have hn0 : (⟨w.heap.size, 0, none⟩ : Addr) ≠ ⟨w.heap.size + 1 + 1, 0, none⟩ := fun e => by injection e; omega
  have hn1 : (⟨w.heap.size + 1, 0, none⟩ : Addr) ≠ ⟨w.heap.size + 1 + 1, 0, none⟩ := fun e => by injection e; omega
  have hk : (W.setCell ⟨w.heap.size + 1, 0, none⟩ v1).cell? ⟨w.heap.size, 0, none⟩ = some u0 := by rw [World.cell?_setCell_other _ _ _ _ (Ne.symm hne)]; exact hc0
  refine ⟨((KeepsOthers.setCell _ _ _).trans (KeepsOthers.setCell _ _ _)).trans (KeepsOthers.drew _), fun v hv => ?_, ⟨⟨?_, ?_⟩, ?_, ?_⟩, ?_⟩
  · rw [World.cell?_drew, World.cell?_setCell_other _ _ _ _ hn0, World.cell?_setCell_other _ _ _ _ hn1]; exact hv
  · rw [World.cell?_drew]; exact World.cell?_setCell_same _ _ _ hk
  · rw [frozen_drew_own, World.frozen?_setCell, World.frozen?_setCell]; exact hf0
  · rw [World.cell?_drew, World.cell?_setCell_other _ _ _ _ hne]; exact World.cell?_setCell_same _ _ _ hc1
  · rw [frozen_drew_own, World.frozen?_setCell, World.frozen?_setCell]; exact hf1
  · exact ((hB.setCell (p := ⟨w.heap.size + 1, 0, none⟩) (by simp) _).setCell (p := ⟨w.heap.size, 0, none⟩) (Nat.le_refl _) _).drew

set_option maxRecDepth 100000 in
set_option maxHeartbeats 4000000 in
theorem sum_in (F : Fence) (n : Nat) (h38 : F.fn 51) (h58 : F.fn 72) (h76 : F.fn 82) (h59 : F.fn 73) (hro : F.round = none) (hn : 3 ≤ n) (L : List UInt8) (hL : L.length ≤ 1000000) (t : Bool) (w : World) :
    CallsIn F n Tryd.prog 51 #[.string ⟨L.toArray⟩, .bool t] w fun e w' => e = .returned (.int .i64 (lSum8 L.reverse t : Int)) ∧ Below w.heap.size w w' := by
  have h1 : 1 ≤ n := by omega
  refine callsIn_of_wp_marks Tryd.func51 rfl h38 ?_ hro
  simp only [Tryd.ntmps51, List.size_toArray, List.length_cons, List.length_nil, Nat.reduceAdd, Nat.reduceSub, Array.replicate_succ, Array.replicate_zero, List.push_toArray, List.append_toArray, List.nil_append, List.cons_append]
  gi_wp2_with (gi_at_call 72; refine (fromEnd_in F (n - 1) h58 hro _ _).mono ?_; rintro e w' ⟨rfl, rfl⟩)
  have c0 := box_new w (.bool t) 4
  have c1 := box_new (w.alloc (.cells #[.bool t] 4)) (.int .i64 0) 3
  have c2 := box_new ((w.alloc (.cells #[.bool t] 4)).alloc (.cells #[.int .i64 0] 3)) (.string ⟨L.toArray⟩) 9
  simp only [World.size_alloc] at c1 c2
  have hB0 : Below w.heap.size w (((w.alloc (.cells #[.bool t] 4)).alloc (.cells #[.int .i64 0] 3)).alloc (.cells #[.string ⟨L.toArray⟩] 9)) := (((Below.refl _ w).alloc (Nat.le_refl _) _).alloc (by simp) _).alloc (by simp; omega) _
  refine wpIn_rangeFunc_ownF hro h1 (gf := 82) (lb := #[.pointer (some ⟨w.heap.size + 1 + 1, 0, none⟩)]) rfl h76 (enters_of Tryd.func82 (by kernel_rfl) rfl)
    (fromEnd_stops F (n - 1) h76 hro (by omega) (w.heap.size + 1 + 1) L hL _ (by simp) c2.1) (fun h k v hv => k v (h v hv)) (fun W l o o' _ h0 hc _ v hv => cell_kept hv (grownBy_putObj' _ l o') (fun r e => by cases e; exact ⟨_, h0, hc⟩)) (Below.refl _ _) (fun _ => rfl)
    (fun pre W => ((W.cell? ⟨w.heap.size, 0, none⟩ = some (.bool (t ^^ Vd.odd pre.length)) ∧ W.frozen? ⟨w.heap.size, 0, none⟩ = false) ∧ (W.cell? ⟨w.heap.size + 1, 0, none⟩ = some (.int .i64 (lSum8 pre t : Int)) ∧ W.frozen? ⟨w.heap.size + 1, 0, none⟩ = false)) ∧ Below w.heap.size w W)
    (fun _ _ _ => False)
    (OwnFrom.and (Own.from (fun s A B row hs hg hr => ⟨⟨cell_kept hs.1.1 hg hr, (frozen_kept hs.1.1 hg hr).trans hs.1.2⟩, cell_kept hs.2.1 hg hr, (frozen_kept hs.2.1 hg hr).trans hs.2.2⟩) _) (ownFrom_below (Nat.le_refl _) (by simp; omega)))
    (fun _ _ _ _ _ hs _ _ => hs)
    ⟨⟨⟨by rw [show (t ^^ Vd.odd ([] : List UInt8).length) = t by simp [Vd.odd]]; exact box_old _ (box_old _ c0.1), box_soft _ (box_old _ c0.1) (box_soft _ c0.1 c0.2)⟩, box_old _ c1.1, box_soft _ c1.1 c1.2⟩, hB0⟩
    (fun x => { tmps := #[.string ⟨L.toArray⟩, .bool t, undef, .pointer (some ⟨w.heap.size, 0, none⟩), .int .i64 0, .pointer (some ⟨w.heap.size + 1, 0, none⟩), .int .u8 (x.toNat : Int), .string ⟨L.toArray⟩, .func (.func 82) #[] #[.pointer (some ⟨w.heap.size + 1 + 1, 0, none⟩)], .int .u8 (x.toNat : Int), undef, undef, undef, undef, undef, undef, undef, undef, undef, undef], defers := [] }) ?assign ?body ?done ?stop
  case assign =>
    intro l x W K hK
    gi_wp2
    exact hK
  case body =>
    rintro l pre x W ⟨⟨⟨hc0, hf0⟩, hc1, hf1⟩, hB⟩ hlen
    have hd : 1 ≤ n - 1 - 1 := by omega
    have hmx : Tryd.prog.follows .mixedOrders = true := by kernel_rfl
    have hle := lSum8_le pre t
    have hd8 : dig8 x < 256 := Nat.mod_lt _ (by omega)
    have hlw := lW_le (dig8 x) (t ^^ Vd.odd pre.length) hd8
    have hsum : wrap64 ((lSum8 pre t : Int) + (Vd.lW (dig8 x) (t ^^ Vd.odd pre.length) : Int)) = (lSum8 (pre ++ [x]) t : Int) := by
      rw [lSum8_snoc]
      unfold wrap64
      omega
    have hodd : (!(t ^^ Vd.odd pre.length)) = (t ^^ Vd.odd (pre ++ [x]).length) := by
      rw [List.length_append, List.length_singleton, Vd.odd]
      cases t <;> simp
    have hw8 : IntKind.i64.wrap (IntKind.u8.wrap ((x.toNat : Int) - 48)) = (dig8 x : Int) := by
      have hx := x.toNat_lt
      rw [IntKind.wrap_u8, IntKind.wrap_i64]
      unfold dig8
      omega
    gi_wp2
    gi_region_with_o (gi_at_call 73; refine (CallsIn.inRound l (weight_in F _ h59 hro (dig8 x) hd8 _ _)).mono ?_; rintro e w' ⟨rfl, rfl⟩)
    all_goals gi_wp2
    all_goals (try go_bits)
    all_goals (have he : ((lSum8 pre t : Int) + (Vd.lW (dig8 x) (t ^^ Vd.odd pre.length) : Int)) = (lSum8 (pre ++ [x]) t : Int) := by rw [lSum8_snoc]; omega)
    all_goals (have hbt : (t ^^ Vd.odd (pre.length + 1)) = (t ^^ Vd.odd (pre ++ [x]).length) := by simp)
    all_goals (try rw [hsum])
    all_goals (try rw [he])
    all_goals (try rw [hodd])
    all_goals (try rw [hbt])
    all_goals (exact sum_end (t := t) (pre := pre) (x := x) hc0 hf0 hc1 hf1 hB _ rfl)
  case done =>
    rintro D ys W hD rfl ⟨⟨_, hc1, _⟩, hB⟩ hK
    gi_wp2
    refine ⟨by simp, .inl ⟨_, _, rfl, run_takeDeferred hK, ?_⟩⟩
    exact ⟨_, results_tmp rfl _ _ _, rfl, hB.trans (belowK_b (w := w) (Nat.le_refl _) W D _ _ (by simp at hD; omega) hK rfl rfl)⟩
  case stop =>
    rintro D c pre W _ _ h _
    exact h.elim
end Go.Proofs

set_option linter.unusedVariables false
set_option linter.unusedSimpArgs false
set_option maxRecDepth 100000
set_option maxHeartbeats 2000000
namespace Go.Vd
open Go.Proofs
theorem good_gSum (L : List UInt8) (t : Bool) (hp : L.length ≤ 1000000 ∧ isD L = true) : GoodP Tryd.prog gl0 51 [.str L, .bool t] (.int .i64 (std.ti fun _ => (lSum L.reverse t : Int))) := by
  intro w ρ rw N vs hfr hrw hg hargs
  match vs, hargs with
  | [v1, v2], ⟨r1, r2, _⟩ =>
    generalize hs1 : SV.str L = s1 at r1
    generalize hs2 : SV.bool t = s2 at r2
    cases r1 with
    | str s =>
      cases r2 with
      | bool b =>
        cases hs1
        cases hs2
        have h0 := callsIn_wide.1 (sum_in Fence.wide 3 trivial trivial trivial trivial rfl (by omega) s.data.toList hp.1 t w)
        have e0 : (⟨s.data.toList.toArray⟩ : ByteArray) = s := by cases s; simp
        rw [e0] at h0
        refine h0.mono fun e w' hq => ?_
        obtain ⟨rfl, hb⟩ := hq
        refine ⟨_, rfl, Ext.of_below hb, fun key _ => ?_⟩
        have e1 : lSum8 s.data.toList.reverse t = lSum s.data.toList.reverse t := lSum8_eq _ _ (fun b hb => (isD_iff.1 hp.2).2 b (by simpa using hb))
        rw [e1]
        exact Rel.int _ _
      | _ => cases hs2
    | _ => cases hs1
noncomputable def c_gSum : Ct := fun A args => match args with
  | [.str L, .bool t] => some (some (A.tp fun _ => L.length ≤ 1000000 ∧ isD L = true), .int .i64 (A.ti fun _ => (lSum L.reverse t : Int)))
  | _ => none
noncomputable def gg2 : Ar → Pu := addC 51 c_gSum (gg1)
theorem gg2_ok : PuOk Tryd.prog gl0 (gg2 std) := by
  refine addC_ok (gg1_ok) ⟨_, Tryd.func51, rfl, by decide⟩ ?_
  · intro args p r h hp
    unfold c_gSum at h
    split at h <;> cases h
    exact good_gSum _ _ hp
theorem tm10 (n : Nat) : ((n : Int).tmod 10 == 0) = decide (n % 10 = 0) := by
  rw [Bool.eq_iff_iff, beq_iff_eq, decide_eq_true_eq, Int.tmod_eq_emod_of_nonneg (by omega)]
  omega
attribute [local irreducible] vc
theorem good_gFine (L : List UInt8) (hL : L.length ≤ 100000) : GoodP Tryd.prog gl0 30 [.str L] (.bool (std.tb fun _ => lFine L)) := by
  refine fn_sound' (T := seatT) (G := gg2) (X := noX) seatT_ok gg2_ok noX_ok noI_ok mixed Tryd.func30 (.one) (fun A => [.str L]) (fun A => .bool (A.tb fun _ => lFine L)) fun A hA => ?_
  cbv
  repeat' (first | with_reducible exact True.intro | with_reducible exact dr_ok hA (by kernel_rfl) | with_reducible refine And.intro ?_ ?_ | (intro hc; cbv))
  all_goals (subst hA; simp [sS, lFine] at *)
  all_goals first
    | omega
    | exact fun h => ⟨h, by omega, h⟩
    | rw [tm10]
    | trace_state
theorem isD_bound {L : List UInt8} (h : isD L = true) : lSum L.reverse false ≤ 510 * L.length := by
  have h1 := lSum8_le L.reverse false
  rw [lSum8_eq _ _ (fun b hb => (isD_iff.1 h).2 b (by simpa using hb)), List.length_reverse] at h1
  exact h1
theorem rf_step {L : List UInt8} {i : Nat} (hi : i < L.length) : lSum (L.drop i).reverse false = lSum (L.drop (i + 1)).reverse false + lW (dig (L.getD i 0)) (odd (L.length - i - 1)) := by
  have e : L.drop i = L.getD i 0 :: L.drop (i + 1) := by
    rw [List.getD_eq_getElem?_getD, List.getElem?_eq_getElem hi]
    exact List.drop_eq_getElem_cons hi
  rw [e, List.reverse_cons, lSum_snoc, List.length_reverse, List.length_drop, Bool.false_xor, show L.length - (i + 1) = L.length - i - 1 by omega]
theorem lW_0 (b : Nat) : lW b false = b := rfl
theorem lW_1 {b : Nat} (h : b ≤ 4) : lW b true = 2 * b := by simp only [lW, if_true]; rw [if_neg (by omega)]
theorem lW_2 {b : Nat} (h : 4 < b) : lW b true = 2 * b - 9 := by simp only [lW, if_true]; rw [if_pos h]
theorem odd_t {n : Nat} (h : n % 2 = 1) : odd n = true := by rw [odd_mod, h]; rfl
theorem odd_f {n : Nat} (h : n % 2 = 0) : odd n = false := by rw [odd_mod, h]; rfl
theorem par {len i : Nat} (hlt : i < len) (hL : len ≤ 100000) : ((IntKind.i64.wrap ((len : Int) - i)).tmod 2 = 0 → odd (len - i - 1) = true) ∧ (¬(IntKind.i64.wrap ((len : Int) - i)).tmod 2 = 0 → odd (len - i - 1) = false) := by
  rw [w64 (by omega), Int.tmod_eq_emod_of_nonneg (by omega)]
  exact ⟨fun h => odd_t (by omega), fun h => odd_f (by omega)⟩
theorem dw {b : Nat} (h : 48 ≤ b ∧ b ≤ 57) : IntKind.i64.wrap (IntKind.i64.wrap (b : Int) - 48) = ((b - 48 : Nat) : Int) := by
  rw [w64 (n := (b : Int)) (by omega), w64 (by omega)]
  omega
theorem fin_0 {b n n' len i i' : Nat} (hd : 48 ≤ b ∧ b ≤ 57) (hlt : i < len) (hL : len ≤ 100000) (hi' : i' = i + 1) (hn' : n' = n + lW (b - 48) (odd (len - i - 1))) (hb : n' ≤ 510 * len) (hc : ¬(IntKind.i64.wrap ((len : Int) - i)).tmod 2 = 0) :
    IntKind.i64.wrap ((n : Int) + IntKind.i64.wrap (IntKind.i64.wrap (b : Int) - 48)) = (n' : Int) ∧ IntKind.i64.wrap ((i : Int) + 1) = (i' : Int) := by
  rw [(par hlt hL).2 hc, lW_0] at hn'
  rw [dw hd, w64 (by omega), w64 (by omega)]
  omega
theorem fin_1 {b n n' len i i' : Nat} (hd : 48 ≤ b ∧ b ≤ 57) (hlt : i < len) (hL : len ≤ 100000) (hi' : i' = i + 1) (hn' : n' = n + lW (b - 48) (odd (len - i - 1))) (hb : n' ≤ 510 * len) (c2 : (IntKind.i64.wrap ((len : Int) - i)).tmod 2 = 0) (hc : IntKind.i64.wrap (2 * IntKind.i64.wrap (IntKind.i64.wrap (b : Int) - 48)) ≤ 9) :
    IntKind.i64.wrap ((n : Int) + IntKind.i64.wrap (2 * IntKind.i64.wrap (IntKind.i64.wrap (b : Int) - 48))) = (n' : Int) ∧ IntKind.i64.wrap ((i : Int) + 1) = (i' : Int) := by
  have e : IntKind.i64.wrap (2 * ((b - 48 : Nat) : Int)) = ((2 * (b - 48) : Nat) : Int) := by rw [w64 (by omega)]; omega
  rw [dw hd, e] at hc
  rw [(par hlt hL).1 c2, lW_1 (by omega)] at hn'
  rw [dw hd, e, w64 (by omega), w64 (by omega)]
  omega
theorem fin_2 {b n n' len i i' : Nat} (hd : 48 ≤ b ∧ b ≤ 57) (hlt : i < len) (hL : len ≤ 100000) (hi' : i' = i + 1) (hn' : n' = n + lW (b - 48) (odd (len - i - 1))) (hb : n' ≤ 510 * len) (c2 : (IntKind.i64.wrap ((len : Int) - i)).tmod 2 = 0) (hc : 9 < IntKind.i64.wrap (2 * IntKind.i64.wrap (IntKind.i64.wrap (b : Int) - 48))) :
    IntKind.i64.wrap ((n : Int) + IntKind.i64.wrap (IntKind.i64.wrap (2 * IntKind.i64.wrap (IntKind.i64.wrap (b : Int) - 48)) - 9)) = (n' : Int) ∧ IntKind.i64.wrap ((i : Int) + 1) = (i' : Int) := by
  have e : IntKind.i64.wrap (2 * ((b - 48 : Nat) : Int)) = ((2 * (b - 48) : Nat) : Int) := by rw [w64 (by omega)]; omega
  rw [dw hd, e] at hc
  rw [(par hlt hL).1 c2, lW_2 (by omega)] at hn'
  rw [dw hd, e, w64 (n := ((2 * (b - 48) : Nat) : Int) - 9) (by omega), w64 (by omega), w64 (by omega)]
  omega
end Go.Vd

set_option linter.unusedVariables false
set_option linter.unusedSimpArgs false
set_option maxRecDepth 100000
set_option maxHeartbeats 4000000
namespace Go.Vd
open Go.Proofs
noncomputable def c_gFine : Ct := fun A args => match args with
  | [.str L] => some (some (A.tp fun _ => L.length ≤ 100000), .bool (A.tb fun _ => lFine L))
  | _ => none
noncomputable def ggL : Ar → Pu := addC 30 c_gFine (gg2)
theorem ggL_ok : PuOk Tryd.prog gl0 (ggL std) := by
  refine addC_ok (gg2_ok) ⟨_, Tryd.func30, rfl, by decide⟩ ?_
  · intro args p r h hp
    unfold c_gFine at h
    split at h <;> cases h
    exact good_gFine _ hp
end Go.Vd

set_option linter.unusedVariables false
set_option linter.unusedSimpArgs false
set_option maxRecDepth 100000
set_option maxHeartbeats 4000000
namespace Go.Vd
open Go.Proofs
theorem gD {L : List UInt8} {i : Nat} : L[i]?.getD 0 = L.getD i 0 := (List.getD_eq_getElem?_getD ..).symm
def FL : List Int := [2, 3, 19, 3, 1, 6, 4, 1, 12, 7, 1, 10, 11, 1, 6, 12, 1, 6, 37, 2, 12, 38, 2, 6, 39, 2, 2, 41, 2, 8, 44, 4, 25, 48, 5, 999, 49, 1, 3, 90, 1, 42, 120, 5, 999]
def dFind : List Int → Int → Option (Int × Int)
  | a :: b :: c :: r, n => if a = n then some (b, c) else dFind r n
  | _, _ => none
def dOk (n : Int) : Bool := (dFind FL n).isSome
def dKd (n : Int) : Int := ((dFind FL n).getD (0, 0)).1
def dSz (n : Int) : Int := ((dFind FL n).getD (0, 0)).2
theorem drop3 {L : List Int} {i : Nat} (h : i + 2 < L.length) : L.drop i = L.getD i 0 :: L.getD (i + 1) 0 :: L.getD (i + 2) 0 :: L.drop (i + 3) := by
  have e : ∀ {j : Nat} (hj : j < L.length), L[j] = L.getD j 0 := fun hj => by rw [List.getD_eq_getElem?_getD, List.getElem?_eq_getElem hj]; rfl
  rw [List.drop_eq_getElem_cons (by omega), List.drop_eq_getElem_cons (by omega), List.drop_eq_getElem_cons h, e, e, e]
theorem FL_len : FL.length = 45 := rfl
theorem all2_map : ∀ L : List Int, All2 (fun c x => ∀ j, j < 1 → Ceq (getAt c j) (getAt (eZ std fun _ => x) j)) (L.map fun z => [SV.int .i64 z]) L
  | [] => trivial
  | x :: l => ⟨cell_eZ x, all2_map l⟩
theorem FL_rep : Reps eZ 0 1 45 (lstS (FL.map fun z => [SV.int .i64 z])) FL := Reps.lst (all2_map FL)
noncomputable def gh1 : Ar → Pu := ggL
theorem gh1_ok : PuOk Tryd.prog gl0 (gh1 std) := by
  refine ggL_ok

theorem lt15 {i : Nat} (h : i < 15) : i = 0 ∨ i = 1 ∨ i = 2 ∨ i = 3 ∨ i = 4 ∨ i = 5 ∨ i = 6 ∨ i = 7 ∨ i = 8 ∨ i = 9 ∨ i = 10 ∨ i = 11 ∨ i = 12 ∨ i = 13 ∨ i = 14 := by omega
attribute [local irreducible] vc
theorem good_gDef (n : Int) : GoodP Tryd.prog gl0 74 [.int .i64 n] (.tup [.agg [.int .i64 (std.ti fun _ => if dOk n then n else 0), .int .i64 (std.ti fun _ => dKd n), .int .i64 (std.ti fun _ => dSz n)], .bool (std.tb fun _ => dOk n)]) := by
  refine fn_sound' (T := seatT) (G := noC) (X := noX) seatT_ok noC_ok noX_ok noI_ok mixed Tryd.func74 (.one) (fun A => [.int .i64 n]) (fun A => .tup [.agg [.int .i64 (A.ti fun _ => if dOk n then n else 0), .int .i64 (A.ti fun _ => dKd n), .int .i64 (A.ti fun _ => dSz n)], .bool (A.tb fun _ => dOk n)]) fun A hA => ?_
  cbv
  repeat' (first | with_reducible exact True.intro | with_reducible exact dr_ok hA (by kernel_rfl) | with_reducible refine And.intro ?_ ?_ | (intro hc; cbv))
  refine ⟨⟨{i : Nat // i ≤ 15 ∧ dFind FL n = dFind (FL.drop (3 * i)) n}, fun b i => [(7, .int .i64 (i.1 : Nat))], fun b i => [], fun i => 15 - i.1, true⟩, ⟨⟨0, by omega, rfl⟩, ?_⟩, ?_⟩
  · cbv
    subst hA
    simp [-List.getD_eq_getElem?_getD, sS]
  · rintro ⟨i, hi, hd⟩
    cbv
    repeat' (first | with_reducible exact True.intro | with_reducible exact dr_ok hA (by kernel_rfl) | with_reducible refine And.intro ?_ ?_ | (intro hc; cbv))
    all_goals first
      | (fail_if_success (refine Exists.intro ?_ ?_)
         subst hA
         have hlt : i < 15 := by (clear hd; simp [sS] at *; omega)
         rcases lt15 hlt with h | h | h | h | h | h | h | h | h | h | h | h | h | h | h <;> subst h <;> first
           | (simp [sS, getAt, isI_int]; done)
           | (simp [sS, getAt] at hc ⊢; subst hc; decide)
           | trace_state)
      | (fail_if_success (refine Exists.intro ?_ ?_)
         subst hA
         have hie : i = 15 := by (simp [sS] at *; omega)
         rw [hie, show dFind (FL.drop (3 * 15)) n = none from rfl] at hd
         simp [sS, dOk, dKd, dSz, hd]; done)
      | (have hlt : i < 15 := by (clear hd; subst hA; simp [sS] at *; omega)
         obtain ⟨i', hi'⟩ : ∃ i', i' = i + 1 := ⟨_, rfl⟩
         refine ⟨⟨i', by omega, ?_⟩, ?_, show 15 - i' < 15 - i by omega⟩
         · subst hA hi'
           rw [hd]
           rcases lt15 hlt with h | h | h | h | h | h | h | h | h | h | h | h | h | h | h <;> subst h <;> simp [sS, getAt] at hc <;> simp [FL, dFind, hc]
         · cbv
           subst hA
           simp [sS]
           exact (w64 (by omega)).trans (by omega))
      | trace_state
end Go.Vd

set_option linter.unusedVariables false
set_option linter.unusedSimpArgs false
namespace Go.Proofs
open Go.RowKit
theorem ba_byte {s : ByteArray} {i : Nat} (h : i < s.size) : s[i]'h = s.data.toList.getD i 0 := by
  rw [List.getD_eq_getElem?_getD, List.getElem?_eq_getElem (by simpa using h)]
  simp
  rfl
set_option maxRecDepth 100000 in
set_option maxHeartbeats 2000000 in
theorem isText_walk (s : ByteArray) (w : World) :
    Calls Tryd.prog 83 #[.string s] w fun e w' => e = .returned (.bool (s.data.toList.all Vd.okB)) ∧ ∃ pos, w' = w.iter s pos := by
  have hsz : s.data.toList.length = s.size := by simp
  go_enter Tryd.func83, Tryd.ntmps83
  go_wp2
  go_loopw [4] (fun _ w' => ∃ pos : Nat, w' = w.iter s pos ∧ pos ≤ s.size ∧ (s.data.toList.take pos).all Vd.okB = true) (fun _ w' => s.size - w'.iterPos w.heap.size)
  case atStart => exact ⟨0, rfl, by omega, by simp⟩
  case round =>
    obtain ⟨pos, rfl, hle, hall⟩ := hrel
    by_cases hp : pos < s.size
    · by_cases ha : (s[pos]'hp).toNat < 128
      · have hp' : pos < s.data.size := hp
        have hnx : ∀ ty, (Instr.next (.pointer (some ⟨w.heap.size, 0, none⟩)) true ty).run Tryd.prog (w.iter s pos) = .ok (.tuple #[.bool true, .int .i64 pos, .int .i32 ((s.data[pos]'hp').toNat : Int)]) (w.iter s (pos + 1)) := fun ty => run_next_ascii w s pos ty hp ha
        have hb : s.data[pos]'hp' = s.data.toList.getD pos 0 := ba_byte hp
        have hok : Vd.okB (s.data[pos]'hp') = true ↔ 32 ≤ (s.data[pos]'hp').toNat ∧ (s.data[pos]'hp').toNat ≤ 126 := by simp [Vd.okB]
        have hno : Vd.okB (s.data[pos]'hp') = false → s.data.toList.all Vd.okB = false := fun h => Vd.all_false (i := pos) (by omega) (by rw [← hb]; exact h)
        by_cases h1 : (((s.data[pos]'hp').toNat : Nat) : Int) < 32
        · have hf := hno (by cases h : Vd.okB (s.data[pos]'hp'); rfl; have := hok.1 h; omega)
          clear hok hno hb
          go_wp2
          go_ret
          exact ⟨by first | rfl | (rw [hf]; rfl), _, rfl⟩
        · by_cases h2 : (126 : Int) < (((s.data[pos]'hp').toNat : Nat) : Int)
          · have hf := hno (by cases h : Vd.okB (s.data[pos]'hp'); rfl; have := hok.1 h; omega)
            clear hok hno hb
            go_wp2
            go_ret
            exact ⟨by first | rfl | (rw [hf]; rfl), _, rfl⟩
          · have hy : (s.data.toList.take (pos + 1)).all Vd.okB = true := by
              rw [Vd.all_take (by omega), hall, ← hb, hok.2 (by omega)]
              rfl
            clear hok hno hb
            go_wp2
            go_roundw
            case rel => exact ⟨pos + 1, rfl, by omega, hy⟩
            case measure =>
              simp
              omega
      · have hd := decode_high s pos hp (by omega)
        have hnx : ∀ ty, (Instr.next (.pointer (some ⟨w.heap.size, 0, none⟩)) true ty).run Tryd.prog (w.iter s pos) = _ := fun ty => run_next_any w s pos ty hp
        have hb := ba_byte hp
        have hno : s.data.toList.all Vd.okB = false := Vd.all_false (i := pos) (by omega) (by
          rw [← hb]
          simp [Vd.okB]
          omega)
        generalize (Utf8.decode s pos).1 = r at *
        have h1 : ¬ ((r : Nat) : Int) < 32 := by omega
        have h2 : (126 : Int) < ((r : Nat) : Int) := by omega
        go_wp2
        go_ret
        exact ⟨by first | rfl | (rw [hno]; rfl), _, rfl⟩
    · have hnx : ∀ ty, (Instr.next (.pointer (some ⟨w.heap.size, 0, none⟩)) true ty).run Tryd.prog (w.iter s pos) = _ := fun ty => run_next_end w s pos ty hp
      go_wp2
      go_ret
      rw [List.take_of_length_le (by omega)] at hall
      exact ⟨by first | rfl | (rw [hall]; rfl), _, rfl⟩
end Go.Proofs
namespace Go.Vd
open Go.Proofs
theorem good_isText (L : List UInt8) : GoodP Tryd.prog gl0 83 [.str L] (.bool (std.tb fun _ => L.all okB)) := by
  intro w ρ rw N vs hfr hrw hg hargs
  match vs, hargs with
  | [v1], ⟨r1, _⟩ =>
    generalize hs1 : SV.str L = s1 at r1
    cases r1 with
    | str s =>
      cases hs1
      refine (isText_walk s w).mono fun e w' hq => ?_
      obtain ⟨rfl, pos, rfl⟩ := hq
      refine ⟨_, rfl, Ext.alloc _ _, fun key _ => ?_⟩
      exact Rel.bool _
    | _ => cases hs1
end Go.Vd

set_option linter.unusedVariables false
set_option linter.unusedSimpArgs false
set_option maxRecDepth 100000
set_option maxHeartbeats 4000000
namespace Go.Vd
open Go.Proofs
noncomputable def iF : Nat → Option Func := addI 75 Tryd.f75 (addI 101 Tryd.f101 (addI 102 Tryd.f102 (addI 103 Tryd.f103 (addI 104 Tryd.f104 noI))))
theorem iF_ok : InOk Tryd.prog iF := addI_ok (addI_ok (addI_ok (addI_ok (addI_ok noI_ok Tryd.func104 (by kernel_rfl)) Tryd.func103 (by kernel_rfl)) Tryd.func102 (by kernel_rfl)) Tryd.func101 (by kernel_rfl)) Tryd.func75 (by kernel_rfl)
def xFm : Nat → String → Option Nat
  | 117, "paydesk/field.right" => some 102
  | 117, "paydesk/field.ahead" => some 101
  | 119, "paydesk/field.right" => some 104
  | 119, "paydesk/field.ahead" => some 103
  | _, _ => none
def xF : Ar → Xt := fun _ => { meth := xFm, wt := fun _ _ _ _ _ _ => none }
theorem xF_ok : XtOk Tryd.prog gl0 (xF std) := ⟨fun t name f h => by
  have h : xFm t name = some f := h
  unfold xFm at h
  split at h <;> cases h <;> exact fun v args w => by kernel_rfl, fun f e k n g rest p n2 g2 h => by cases h⟩
def isT (L : List UInt8) : Bool := L.all okB
noncomputable def c_isText : Ct := fun A args => match args with
  | [.str L] => some (none, .bool (A.tb fun _ => isT L))
  | _ => none
noncomputable def c_gDef : Ct := fun A args => match args with
  | [.int .i64 n] => some (none, .tup [.agg [.int .i64 (A.ti fun _ => if dOk n then n else 0), .int .i64 (A.ti fun _ => dKd n), .int .i64 (A.ti fun _ => dSz n)], .bool (A.tb fun _ => dOk n)])
  | _ => none
noncomputable def gh2 : Ar → Pu := addC 83 c_isText (addC 74 c_gDef (gh1))
theorem gh2_ok : PuOk Tryd.prog gl0 (gh2 std) := by
  refine addC_ok (addC_ok (gh1_ok) ⟨_, Tryd.func74, rfl, by decide⟩ ?_) ⟨_, Tryd.func83, rfl, by decide⟩ ?_
  · intro args p r h hp
    unfold c_gDef at h
    split at h <;> cases h
    exact good_gDef _
  · intro args p r h hp
    unfold c_isText at h
    split at h <;> cases h
    exact good_isText _
def rr (n : Int) (s : List UInt8) : Bool := if dOk n = true ∧ ¬s = [] ∧ (s.length : Int) ≤ dSz n ∧ (dKd n < 3 → dSz n ≤ s.length) then signs (dKd n) s else false
theorem dFind_mem : ∀ (L : List Int) (n : Int) (p : Int × Int), dFind L n = some p → ∃ j, L.getD (3 * j) 0 = n ∧ L.getD (3 * j + 1) 0 = p.1 ∧ L.getD (3 * j + 2) 0 = p.2 ∧ 3 * j + 2 < L.length
  | a :: b :: c :: r, n, p, h => by
    simp only [dFind] at h
    split at h
    · rename_i he
      cases h
      exact ⟨0, he, rfl, rfl, by simp⟩
    · obtain ⟨j, h1, h2, h3, h4⟩ := dFind_mem r n p h
      refine ⟨j + 1, ?_, ?_, ?_, by simp only [List.length_cons]; omega⟩
      · rw [show 3 * (j + 1) = 3 * j + 1 + 1 + 1 by omega]; simpa using h1
      · rw [show 3 * (j + 1) + 1 = 3 * j + 1 + 1 + 1 + 1 by omega]; simpa using h2
      · rw [show 3 * (j + 1) + 2 = 3 * j + 2 + 1 + 1 + 1 by omega]; simpa using h3
  | [], _, _, h => by cases h
  | [_], _, _, h => by cases h
  | [_, _], _, _, h => by cases h
/-- Kinds and sizes that are known. -/
theorem dOk_b {n : Int} (h : dOk n = true) : 1 ≤ dKd n ∧ dKd n ≤ 5 ∧ 1 ≤ dSz n ∧ dSz n ≤ 999 ∧ 2 ≤ n ∧ n ≤ 120 ∧ (dKd n < 5 → dSz n ≤ 99) := by
  unfold dOk at h
  obtain ⟨p, hp⟩ := Option.isSome_iff_exists.1 h
  obtain ⟨j, h1, h2, h3, h4⟩ := dFind_mem FL n p hp
  have hk : dKd n = p.1 := by unfold dKd; rw [hp]; rfl
  have hs : dSz n = p.2 := by unfold dSz; rw [hp]; rfl
  rw [hk, hs, ← h2, ← h3, ← h1]
  have hj : j < 15 := by rw [FL_len] at h4; omega
  rcases lt15 hj with h | h | h | h | h | h | h | h | h | h | h | h | h | h | h <;> subst h <;> decide
theorem dOk_no {n : Int} (h : dOk n = false) : dKd n = 0 ∧ dSz n = 0 := by
  unfold dOk at h
  cases hf : dFind FL n with
  | none => unfold dKd dSz; rw [hf]; exact ⟨rfl, rfl⟩
  | some p => rw [hf] at h; cases h
theorem isD_ne {s : List UInt8} (h : ¬s = []) : isD s = s.all isDb := by
  unfold isD
  cases s with
  | nil => exact absurd rfl h
  | cons b s => rfl
theorem signsD {k : Int} (h : k = 1 ∨ k = 3) (s : List UInt8) : signs k s = s.all isDb := by
  unfold signs
  have : inS k = isDb := by funext b; unfold inS; rw [if_pos h]
  rw [this]
theorem signsT {k : Int} (h : ¬(k = 1 ∨ k = 3)) (s : List UInt8) : signs k s = s.all okB := by
  unfold signs
  have : inS k = okB := by funext b; unfold inS; rw [if_neg h]
  rw [this]
theorem len_ne {s : List UInt8} {z : Int} (hz : 1 ≤ z) (h : (s.length : Int) = z) : ¬s = [] := fun e => by rw [e] at h; simp at h; omega
theorem rr_fix {n : Int} {s : List UInt8} (h : dOk n = true) (hk : dKd n < 3) : rr n s = (decide ((s.length : Int) = dSz n) && signs (dKd n) s) := by
  have hb := dOk_b h
  unfold rr
  by_cases hl : (s.length : Int) = dSz n
  · rw [if_pos ⟨h, len_ne hb.2.2.1 hl, by omega, fun _ => by omega⟩]; simp [hl]
  · rw [if_neg (fun e => hl (by have := e.2.2.2 hk; have := e.2.2.1; omega))]; simp [hl]
theorem rr_long {n : Int} {s : List UInt8} (h : dOk n = true) (hk : ¬dKd n < 3) : rr n s = ((decide (1 ≤ (s.length : Int)) && decide ((s.length : Int) ≤ dSz n)) && signs (dKd n) s) := by
  unfold rr
  by_cases hl : 1 ≤ (s.length : Int) ∧ (s.length : Int) ≤ dSz n
  · rw [if_pos ⟨h, fun e => by rw [e] at hl; simp at hl, hl.2, fun hc => absurd hc hk⟩]; simp [hl]
  · rw [if_neg (fun e => hl ⟨by have := List.length_pos_iff.2 e.2.1; omega, e.2.2.1⟩)]
    by_cases h1 : 1 ≤ (s.length : Int)
    · have h2 : ¬(s.length : Int) ≤ dSz n := fun e => hl ⟨h1, e⟩
      simp [h2]
    · simp [h1]
theorem rr_no {n : Int} {s : List UInt8} (h : dOk n = false) : rr n s = false := by
  unfold rr
  rw [h, if_neg (fun e => by cases e.1)]
theorem rr_1 {n : Int} {s : List UInt8} (h : dOk n = true) (hk : dKd n = 1) (hl : (s.length : Int) = dSz n) : isD s = rr n s := by
  rw [rr_fix h (by omega), signsD (.inl hk), isD_ne (len_ne (dOk_b h).2.2.1 hl)]; simp [hl]
theorem rr_2 {n : Int} {s : List UInt8} (h : dOk n = true) (hk : dKd n = 2) (hl : (s.length : Int) = dSz n) : isT s = rr n s := by
  unfold isT
  rw [rr_fix h (by omega), signsT (by omega)]; simp [hl]
theorem rr_f {n : Int} {s : List UInt8} (h : dOk n = true) (hk : dKd n < 3) (hl : ¬(s.length : Int) = dSz n) : rr n s = false := by
  rw [rr_fix h hk]; simp [hl]
theorem rr_3 {n : Int} {s : List UInt8} (h : dOk n = true) (hk : dKd n = 3) (hl : 1 ≤ (s.length : Int) ∧ (s.length : Int) ≤ dSz n) : isD s = rr n s := by
  rw [rr_long h (by omega), signsD (.inr hk), isD_ne (fun e => by rw [e] at hl; simp at hl)]; simp [hl]
theorem rr_4 {n : Int} {s : List UInt8} (h : dOk n = true) (hk : 3 < dKd n) (hl : 1 ≤ (s.length : Int) ∧ (s.length : Int) ≤ dSz n) : isT s = rr n s := by
  unfold isT
  rw [rr_long h (by omega), signsT (by omega)]; simp [hl]
theorem rr_l {n : Int} {s : List UInt8} (h : dOk n = true) (hk : 3 ≤ dKd n) (hl : 1 ≤ (s.length : Int) → dSz n < (s.length : Int)) : rr n s = false := by
  rw [rr_long h (by omega)]
  by_cases h1 : 1 ≤ (s.length : Int)
  · have := hl h1
    have h2 : ¬(s.length : Int) ≤ dSz n := by omega
    simp [h2]
  · simp [h1]
theorem rr_of1 {n : Int} {s : List UInt8} (h : dOk n = true) (hk : dKd n = 1) : rr n s = true ↔ (s.length : Int) = dSz n ∧ isD s = true := by
  by_cases hl : (s.length : Int) = dSz n
  · rw [← rr_1 h hk hl]; simp [hl]
  · rw [rr_f h (by omega) hl]; simp [hl]
theorem rr_of2 {n : Int} {s : List UInt8} (h : dOk n = true) (hk : dKd n = 2) : rr n s = true ↔ (s.length : Int) = dSz n ∧ isT s = true := by
  by_cases hl : (s.length : Int) = dSz n
  · rw [← rr_2 h hk hl]; simp [hl]
  · rw [rr_f h (by omega) hl]; simp [hl]
theorem rr_of3 {n : Int} {s : List UInt8} (h : dOk n = true) (hk : dKd n = 3) : rr n s = true ↔ (1 ≤ (s.length : Int) ∧ (s.length : Int) ≤ dSz n) ∧ isD s = true := by
  by_cases hl : 1 ≤ (s.length : Int) ∧ (s.length : Int) ≤ dSz n
  · rw [← rr_3 h hk hl]; exact ⟨fun h => ⟨hl, h⟩, fun h => h.2⟩
  · rw [rr_l h (by omega) (fun h1 => by omega)]; exact ⟨fun h => (by cases h), fun h => absurd h.1 hl⟩
theorem rr_of4 {n : Int} {s : List UInt8} (h : dOk n = true) (hk : 3 < dKd n) : rr n s = true ↔ (1 ≤ (s.length : Int) ∧ (s.length : Int) ≤ dSz n) ∧ isT s = true := by
  by_cases hl : 1 ≤ (s.length : Int) ∧ (s.length : Int) ≤ dSz n
  · rw [← rr_4 h hk hl]; exact ⟨fun h => ⟨hl, h⟩, fun h => h.2⟩
  · rw [rr_l h (by omega) (fun h1 => by omega)]; exact ⟨fun h => (by cases h), fun h => absurd h.1 hl⟩
theorem rr_f1 {n : Int} {s : List UInt8} (h : dOk n = true) (hk : dKd n = 1) (hc : ¬(s.length : Int) = dSz n ∨ isD s = false) : rr n s = false := by
  cases hr : rr n s
  · rfl
  · have := (rr_of1 h hk).1 hr
    rcases hc with hc | hc
    · exact absurd this.1 hc
    · rw [hc] at this; cases this.2
theorem rr_f2 {n : Int} {s : List UInt8} (h : dOk n = true) (hk : dKd n = 2) (hc : ¬(s.length : Int) = dSz n ∨ isT s = false) : rr n s = false := by
  cases hr : rr n s
  · rfl
  · have := (rr_of2 h hk).1 hr
    rcases hc with hc | hc
    · exact absurd this.1 hc
    · rw [hc] at this; cases this.2
theorem rr_f3 {n : Int} {s : List UInt8} (h : dOk n = true) (hk : dKd n = 3) (hc : ((s.length : Int) < 1 ∨ dSz n < (s.length : Int)) ∨ isD s = false) : rr n s = false := by
  cases hr : rr n s
  · rfl
  · have := (rr_of3 h hk).1 hr
    rcases hc with hc | hc
    · omega
    · rw [hc] at this; cases this.2
theorem rr_f4 {n : Int} {s : List UInt8} (h : dOk n = true) (hk : 3 < dKd n) (hc : ((s.length : Int) < 1 ∨ dSz n < (s.length : Int)) ∨ isT s = false) : rr n s = false := by
  cases hr : rr n s
  · rfl
  · have := (rr_of4 h hk).1 hr
    rcases hc with hc | hc
    · omega
    · rw [hc] at this; cases this.2
attribute [local irreducible] vc
theorem good_gRight (n : Int) (L : List UInt8) (hL : L.length ≤ 1000000) : GoodP Tryd.prog gl0 52 [.int .i64 n, .str L] (.bool (std.tb fun _ => rr n L)) := by
  refine fn_sound' (T := seatT) (G := gh2) (X := xF) seatT_ok gh2_ok xF_ok iF_ok mixed Tryd.func52 (.one) (fun A => [.int .i64 n, .str L]) (fun A => .bool (A.tb fun _ => rr n L)) fun A hA => ?_
  cbv
  repeat' (first | with_reducible exact True.intro | with_reducible exact dr_ok hA (by kernel_rfl) | with_reducible refine And.intro ?_ ?_ | (intro hc; cbv))
  all_goals (subst hA; simp [std_add, std_sub, std_mul, std_quo, std_rem, std_band, std_bor, std_bxor, std_shl, std_shr, std_eq, std_ne, std_lt, std_le, std_conv, std_not, std_beq, std_bne, std_ite, std_want, std_and2, std_sadd, std_seq, std_sne, std_slt, std_sle, std_sgt, std_sge, std_slen, std_sget, std_scut, std_ofNat, std_toNat, std_nsub, std_nadd, std_lenOf, std_nz, std_nneg, std_inb, std_upto, std_slt63, std_grow, std_imp, std_impN, std_tr, std_tb, std_ti, std_ts, std_tn, std_tp, std_nmin, std_makes, std_room, std_zeros, std_nilq, std_notq, std_eqi, std_eqn, std_eqb, std_eqs, std_eqv, std_cat, std_lst, std_rset, std_rcopy, std_shift, std_eqr, std_strOf, std_bytesOf, std_isB, std_zOf, zOf_int, std_isI, isI_int, std_getL, std_nmul, std_sOf, sOf_str, std_isS, isS_str, std_fadd, std_fsub, std_fav, std_fsv, std_feq, std_fne, std_flt, std_fle, std_fgt, std_fge, std_fOf, std_fTo, std_fTv] at *)
  all_goals first
    | assumption
    | omega
    | exact rr_no (by assumption)
    | (exfalso; simp_all; done)
    | (have h : dOk n = true := by assumption
       have hb := dOk_b h
       first
         | exact rr_f h (by omega) (by assumption)
         | exact rr_l h (by omega) (by assumption)
         | (rw [← rr_1 h (by omega) (by assumption)]; simp [*]; done)
         | (rw [← rr_2 h (by omega) (by assumption)]; simp [*]; done)
         | (rw [← rr_3 h (by omega) (by assumption)]; simp [*]; done)
         | (rw [← rr_4 h (by omega) (by assumption)]; simp [*]; done))
    | trace_state
end Go.Vd

set_option linter.unusedVariables false
set_option linter.unusedSimpArgs false
set_option maxRecDepth 100000
set_option maxHeartbeats 4000000
namespace Go.Vd
open Go.Proofs
noncomputable def c_mgRight : Ct := fun A args => match args with
  | [.int .i64 n, .str r] => some (some (A.tp fun _ => r.length ≤ 1000000), .bool (A.tb fun _ => rr n r))
  | _ => none
noncomputable def gm1 : Ar → Pu := addC 52 c_mgRight (gh2)
theorem gm1_ok : PuOk Tryd.prog gl0 (gm1 std) := by
  refine addC_ok (gh2_ok) ⟨_, Tryd.func52, rfl, by decide⟩ ?_
  · intro args p r h hp
    unfold c_mgRight at h
    split at h <;> cases h
    exact good_gRight _ _ hp
end Go.Vd

set_option linter.unusedVariables false
set_option linter.unusedSimpArgs false
set_option maxRecDepth 100000
set_option maxHeartbeats 4000000
namespace Go.Vd
open Go.Proofs
def sKey (A : Ar) (s : Int) (r : List UInt8) : SV := .agg [.int .u32 s, .str r]
attribute [local irreducible] vc
theorem good_nan32 (a : Int) : GoodP Tryd.prog gl0 66 [.int .u32 a] (.bool false) := by
  refine fn_sound' (T := seatT) (G := noC) (X := noX) seatT_ok noC_ok noX_ok noI_ok mixed Tryd.func66 (.one) (fun A => [.int .u32 a]) (fun A => .bool false) fun A hA => ?_
  cbv
  repeat' (first | with_reducible exact True.intro | with_reducible exact dr_ok hA (by kernel_rfl) | with_reducible refine And.intro ?_ ?_ | (intro hc; cbv))
  all_goals (subst hA; simp [-List.getD_eq_getElem?_getD, sS])
theorem good_nanS (a : List UInt8) : GoodP Tryd.prog gl0 67 [.str a] (.bool false) := by
  refine fn_sound' (T := seatT) (G := noC) (X := noX) seatT_ok noC_ok noX_ok noI_ok mixed Tryd.func67 (.one) (fun A => [.str a]) (fun A => .bool false) fun A hA => ?_
  cbv
  repeat' (first | with_reducible exact True.intro | with_reducible exact dr_ok hA (by kernel_rfl) | with_reducible refine And.intro ?_ ?_ | (intro hc; cbv))
  all_goals (subst hA; simp [-List.getD_eq_getElem?_getD, sS])
noncomputable def c_nan32 : Ct := fun A args => match args with
  | [.int .u32 a] => some (none, .bool false)
  | _ => none
noncomputable def c_nanS : Ct := fun A args => match args with
  | [.str a] => some (none, .bool false)
  | _ => none
noncomputable def gk1 : Ar → Pu := addC 66 c_nan32 (addC 67 c_nanS (gm1))
theorem gk1_ok : PuOk Tryd.prog gl0 (gk1 std) := by
  refine addC_ok (addC_ok (gm1_ok) ⟨_, Tryd.func67, rfl, by decide⟩ ?_) ⟨_, Tryd.func66, rfl, by decide⟩ ?_
  · intro args p r h hp
    unfold c_nanS at h
    split at h <;> cases h
    exact good_nanS _
  · intro args p r h hp
    unfold c_nan32 at h
    split at h <;> cases h
    exact good_nan32 _
theorem good_cmp32 (a b : Int) : GoodP Tryd.prog gl0 43 [.int .u32 a, .int .u32 b] (.int .i64 (std.ti fun _ => ordI a b)) := by
  refine fn_sound' (T := seatT) (G := gk1) (X := noX) seatT_ok gk1_ok noX_ok noI_ok mixed Tryd.func43 (.one) (fun A => [.int .u32 a, .int .u32 b]) (fun A => .int .i64 (A.ti fun _ => ordI a b)) fun A hA => ?_
  cbv
  repeat' (first | with_reducible exact True.intro | with_reducible exact dr_ok hA (by kernel_rfl) | with_reducible refine And.intro ?_ ?_ | (intro hc; cbv))
  all_goals (subst hA; simp [sS] at *)
  all_goals (unfold ordI)
  all_goals first
    | (rw [if_pos (by assumption)]; done)
    | (rw [if_neg (by omega), if_pos (by omega)]; done)
    | (rw [if_neg (by omega), if_neg (by omega)]; done)
    | trace_state
theorem good_cmpS (a b : List UInt8) : GoodP Tryd.prog gl0 44 [.str a, .str b] (.int .i64 (std.ti fun _ => ordS a b)) := by
  refine fn_sound' (T := seatT) (G := gk1) (X := noX) seatT_ok gk1_ok noX_ok noI_ok mixed Tryd.func44 (.one) (fun A => [.str a, .str b]) (fun A => .int .i64 (A.ti fun _ => ordS a b)) fun A hA => ?_
  cbv
  repeat' (first | with_reducible exact True.intro | with_reducible exact dr_ok hA (by kernel_rfl) | with_reducible refine And.intro ?_ ?_ | (intro hc; cbv))
  all_goals (subst hA; simp only [sS, bytesLess_eq] at *)
  all_goals (try simp only [decide_eq_true_eq, decide_eq_false_iff_not, Bool.not_eq_false', Bool.not_eq_true', Bool.or_eq_true, Bool.or_eq_false_iff, beq_iff_eq, beq_eq_false_iff_ne] at *)
  all_goals first
    | (simp at *; done)
    | (rcases triS a b with ⟨h1, n, e⟩ | ⟨n, e⟩ | ⟨h1, n, e⟩ <;> (first | (rw [e]; done) | exact absurd h1 (by assumption) | (exfalso; subst n; simp_all [List.lt_irrefl]; done) | (exfalso; simp_all; done) | (exfalso; exact List.lt_irrefl _ (List.lt_trans h1 (by assumption))) | (exfalso; (rcases (by assumption : a < b ∨ a = b) with h4 | h4); (exact List.lt_irrefl _ (List.lt_trans h1 h4)); exact n h4)))
    | trace_state
theorem good_cOr (L : List Int) (hL : L.length ≤ 1000) : GoodP Tryd.prog gl0 42 [rowS eZ 0 1 std fun _ => L] (.int .i64 (std.ti fun _ => orL L)) := by
  refine fn_sound' (T := seatT) (G := noC) (X := noX) seatT_ok noC_ok noX_ok noI_ok mixed Tryd.func42 (.one) (fun A => [rowS eZ 0 1 A fun _ => L]) (fun A => .int .i64 (A.ti fun _ => orL L)) fun A hA => ?_
  cbv
  repeat' (first | with_reducible exact True.intro | with_reducible exact dr_ok hA (by kernel_rfl) | with_reducible refine And.intro ?_ ?_ | (intro hc; cbv))
  refine ⟨⟨{i : Nat // i ≤ L.length ∧ ∀ x ∈ L.take i, x = 0}, fun b i => [(8, .int .i64 (i.1 : Nat))], fun b i => [], fun i => L.length - i.1, true⟩, ⟨⟨0, by omega, by simp⟩, ?_⟩, ?_⟩
  · cbv
    subst hA
    simp [-List.getD_eq_getElem?_getD, sS]
  · rintro ⟨i, hi, hz⟩
    cbv
    repeat' (first | with_reducible exact True.intro | with_reducible exact dr_ok hA (by kernel_rfl) | with_reducible refine And.intro ?_ ?_ | (intro hc; cbv))
    rotate_right 2
    · have hlt : i < L.length := by subst hA; simp [sS] at *; omega
      have h0 : L.getD i 0 = 0 := by subst hA; simpa [-List.getD_eq_getElem?_getD, sS] using hc
      refine ⟨⟨i + 1, by omega, fun x hx => ?_⟩, ?_, show L.length - (i + 1) < L.length - i by omega⟩
      · rw [← take_snoc (d := 0) hlt] at hx
        rcases List.mem_append.1 hx with hx | hx
        · exact hz x hx
        · rw [List.mem_singleton.1 hx]; exact h0
      · cbv
        subst hA
        simp [sS]
        exact w64 (by omega)
    · have hie : i = L.length := by subst hA; simp [sS] at *; omega
      subst hie
      rw [List.take_length] at hz
      subst hA
      simp [sS, orL_all hz]
    · subst hA; simp [sS] at *; omega
    · have hlt : i < L.length := by subst hA; simp [sS] at *; omega
      have h0 : ¬L.getD i 0 = 0 := by subst hA; simpa [-List.getD_eq_getElem?_getD, sS] using hc
      have h1 := orL_zero hz hlt
      rw [if_neg h0] at h1
      subst hA
      simp [-List.getD_eq_getElem?_getD, sS, h1]
def orInts (A : Ar) (L : Unit → List Int) : SV := rowS eZ 0 1 A L
noncomputable def c_cmp32 : Ct := fun A args => match args with
  | [.int .u32 a, .int .u32 b] => some (none, .int .i64 (A.ti fun _ => ordI a b))
  | _ => none
noncomputable def c_cmpS : Ct := fun A args => match args with
  | [.str a, .str b] => some (none, .int .i64 (A.ti fun _ => ordS a b))
  | _ => none
noncomputable def c_cOr : Ct := fun A args => match args with
  | [.slc n 1 f] => some (some (A.tp fun _ => isRow eZ 0 1 n f ∧ n ≤ 1000), .int .i64 (A.ti fun _ => orL (lstOf eZ 0 1 n f)))
  | _ => none
noncomputable def gk2 : Ar → Pu := addC 43 c_cmp32 (addC 44 c_cmpS (addC 42 c_cOr (gk1)))
theorem gk2_ok : PuOk Tryd.prog gl0 (gk2 std) := by
  refine addC_ok (addC_ok (addC_ok (gk1_ok) ⟨_, Tryd.func42, rfl, by decide⟩ ?_) ⟨_, Tryd.func44, rfl, by decide⟩ ?_) ⟨_, Tryd.func43, rfl, by decide⟩ ?_
  · intro args p r h hp
    unfold c_cOr at h
    split at h <;> cases h
    exact good_sv (good_cOr _ (by rw [lstOf_length hp.1]; exact hp.2)) ⟨hp.1.sv, trivial⟩
  · intro args p r h hp
    unfold c_cmpS at h
    split at h <;> cases h
    exact good_cmpS _ _
  · intro args p r h hp
    unfold c_cmp32 at h
    split at h <;> cases h
    exact good_cmp32 _ _
theorem q2 (x y : Int) : Reps eZ 0 1 2 (lstS [[SV.int .i64 x], [SV.int .i64 y]]) [x, y] := Reps.lst (l := [_, _]) (L := [x, y]) ⟨cell_eZ x, cell_eZ y, trivial⟩
theorem good_kOrder (s t : Int) (r q : List UInt8) : GoodP Tryd.prog gl0 24 [sKey std s r, sKey std t q] (.int .i64 (std.ti fun _ => ordK s r t q)) := by
  refine fn_sound' (T := seatT) (G := gk2) (X := noX) seatT_ok gk2_ok noX_ok noI_ok mixed Tryd.func24 (.one) (fun A => [sKey A s r, sKey A t q]) (fun A => .int .i64 (A.ti fun _ => ordK s r t q)) fun A hA => ?_
  cbv
  repeat' (first | with_reducible exact True.intro | with_reducible exact dr_ok hA (by kernel_rfl) | with_reducible refine And.intro ?_ ?_ | (intro hc; cbv))
  all_goals (subst hA; simp only [sS])
  · exact ⟨⟨_, q2 _ _⟩, by omega⟩
  · rw [lstOf_eq inj_eZ (q2 _ _), ordK_or]
theorem good_kMix (h b : Int) : GoodP Tryd.prog gl0 53 [.int .u32 h, .int .u8 b] (.int .u32 (std.ti fun _ => mixI h b)) := by
  refine fn_sound' (T := seatT) (G := noC) (X := noX) seatT_ok noC_ok noX_ok noI_ok mixed Tryd.func53 (.one) (fun A => [.int .u32 h, .int .u8 b]) (fun A => .int .u32 (A.ti fun _ => mixI h b)) fun A hA => ?_
  cbv
  repeat' (first | with_reducible exact True.intro | with_reducible exact dr_ok hA (by kernel_rfl) | with_reducible refine And.intro ?_ ?_ | (intro hc; cbv))
  all_goals (subst hA; simp [sS, mixI] at *)
theorem good_kRight (s : Int) (r : List UInt8) : GoodP Tryd.prog gl0 29 [sKey std s r] (.bool (std.tb fun _ => keyOk s r)) := by
  refine fn_sound' (T := seatT) (G := noC) (X := noX) seatT_ok noC_ok noX_ok noI_ok mixed Tryd.func29 (.one) (fun A => [sKey A s r]) (fun A => .bool (A.tb fun _ => keyOk s r)) fun A hA => ?_
  cbv
  repeat' (first | with_reducible exact True.intro | with_reducible exact dr_ok hA (by kernel_rfl) | with_reducible refine And.intro ?_ ?_ | (intro hc; cbv))
  rotate_right
  · have h0 : s ≤ 999999 ∧ r.length = 12 := by subst hA; simp [sS] at *; omega
    refine ⟨⟨{i : Nat // i ≤ r.length ∧ (r.take i).all okB = true}, fun b i => [(16, .int .i64 (i.1 : Nat))], fun b i => [], fun i => r.length - i.1, true⟩, ⟨⟨0, by omega, by simp⟩, ?_⟩, ?_⟩
    · cbv
      subst hA
      simp [-List.getD_eq_getElem?_getD, sS]
    · rintro ⟨i, hi, hz⟩
      cbv
      repeat' (first | with_reducible exact True.intro | with_reducible exact dr_ok hA (by kernel_rfl) | with_reducible refine And.intro ?_ ?_ | (intro hc; cbv))
      all_goals first
        | (fail_if_success (refine Exists.intro ?_ ?_)
           subst hA
           simp [-List.getD_eq_getElem?_getD, sS, gD] at *
           done)
        | (fail_if_success (refine Exists.intro ?_ ?_)
           subst hA
           simp [-List.getD_eq_getElem?_getD, sS, gD] at *
           first
             | omega
             | (constructor <;> omega)
             | (have hlt : i < r.length := by omega
                have hx : okB (r.getD i 0) = false := by (simp [-List.getD_eq_getElem?_getD, okB]; omega)
                rw [keyOk, all_false hlt hx]; simp; done)
             | (have hie : i = r.length := by omega
                subst hie
                rw [List.take_of_length_le (Nat.le_refl _)] at hz
                simp [keyOk, h0]; exact hz)
             | trace_state)
        | (have hlt : i < r.length := by clear hz; subst hA; simp [sS] at *; omega
           have hx : okB (r.getD i 0) = true := by
             clear hz
             subst hA
             simp [-List.getD_eq_getElem?_getD, sS, gD] at *
             simp [-List.getD_eq_getElem?_getD, okB]
             omega
           refine ⟨⟨i + 1, by omega, by rw [all_take hlt, hz, hx]; rfl⟩, ?_, show r.length - (i + 1) < r.length - i by omega⟩
           cbv
           subst hA
           simp [sS]
           exact w64 (by omega))
        | trace_state
  all_goals (subst hA; simp [sS] at *)
  all_goals (rw [Bool.eq_false_iff]; intro h; simp [keyOk] at h; omega)
noncomputable def c_kMix : Ct := fun A args => match args with
  | [.int .u32 h, .int .u8 b] => some (none, .int .u32 (A.ti fun _ => mixI h b))
  | _ => none
noncomputable def c_kRight : Ct := fun A args => match args with
  | [.agg [.int .u32 s, .str r]] => some (none, .bool (A.tb fun _ => keyOk s r))
  | _ => none
noncomputable def gk7 : Ar → Pu := addC 53 c_kMix (addC 29 c_kRight (gk2))
theorem gk7_ok : PuOk Tryd.prog gl0 (gk7 std) := by
  refine addC_ok (addC_ok (gk2_ok) ⟨_, Tryd.func29, rfl, by decide⟩ ?_) ⟨_, Tryd.func53, rfl, by decide⟩ ?_
  · intro args p r h hp
    unfold c_kRight at h
    split at h <;> cases h
    exact good_kRight _ _
  · intro args p r h hp
    unfold c_kMix at h
    split at h <;> cases h
    exact good_kMix _ _
def shardI (s : Int) (r : List UInt8) (m : Int) : Int := if keyOk s r = true ∧ 1 ≤ m ∧ m ≤ 16 then ((fnv (decs 6 s.toNat ++ r) % m.toNat : Nat) : Int) else -1
theorem keyOk_le {s : Int} {r : List UInt8} (h : keyOk s r = true) : s ≤ 999999 ∧ r.length = 12 := by
  simp [keyOk] at h
  exact ⟨h.1, h.2.1⟩
theorem fnv_take {S : List UInt8} {i : Nat} (h : i < S.length) : fnv (S.take (i + 1)) = fnv1 (fnv (S.take i)) (S.getD i 0) := by
  rw [← take_snoc (d := 0) h, fnv_snoc]
theorem modM {h : Nat} {m : Int} (hh : h < 4294967296) (hm : 1 ≤ m ∧ m ≤ 16) : ((h % m.toNat : Nat) : Int) = (h : Int) % m ∧ 0 ≤ (h : Int) % m ∧ (h : Int) % m < 16 := by
  have h1 := Int.emod_nonneg (h : Int) (b := m) (by omega)
  have h2 := Int.emod_lt_of_pos (h : Int) (b := m) (by omega)
  refine ⟨?_, h1, by omega⟩
  rw [Int.natCast_emod, show ((m.toNat : Nat) : Int) = m by omega]
def uO (j : Nat) : Nat := if j < 6 then 10 ^ (5 - j) else 0
theorem six {j : Nat} (h : j ≤ 6) : j = 0 ∨ j = 1 ∨ j = 2 ∨ j = 3 ∨ j = 4 ∨ j = 5 ∨ j = 6 := by omega
theorem uO_pos {j : Nat} (h : j ≤ 6) : (0 < uO j ↔ j < 6) ∧ uO j ≤ 100000 := by
  rcases six h with h | h | h | h | h | h | h <;> subst h <;> simp [uO]
theorem uO_step {j : Nat} (h : j < 6) : IntKind.u32.wrap ((uO j : Int).tdiv 10) = (uO (j + 1) : Int) := by
  rcases six (Nat.le_of_lt h) with h | h | h | h | h | h | h <;> subst h <;> first | rfl | omega
theorem uO_step2 {j : Nat} (h : j < 6) : IntKind.u32.wrap ((uO j : Int) / 10) = (uO (j + 1) : Int) := by
  rcases six (Nat.le_of_lt h) with h | h | h | h | h | h | h <;> subst h <;> first | rfl | omega
theorem wU32 {n : Int} (h : 0 ≤ n ∧ n < 4294967296) : IntKind.u32.wrap n = n := by rw [IntKind.wrap_u32]; omega
theorem kdig {s : Int} (hs : 0 ≤ s ∧ s ≤ 999999) {j : Nat} (h : j < 6) : IntKind.u8.wrap (IntKind.u32.wrap (48 + (IntKind.u32.wrap (s.tdiv (uO j : Int))).tmod 10)) = (((decs 6 s.toNat).getD j 0).toNat : Int) := by
  rw [decs_getD h, Int.tdiv_eq_ediv_of_nonneg hs.1]
  obtain ⟨n, rfl⟩ : ∃ n : Nat, s = n := ⟨s.toNat, by omega⟩
  rw [Int.toNat_natCast]
  have e : uO j = 10 ^ (5 - j) := if_pos h
  have hd : n / uO j ≤ n := Nat.div_le_self _ _
  rw [← Int.natCast_ediv]
  rw [← e]
  generalize n / uO j = q at hd ⊢
  rw [wU32 (n := (q : Int)) (by omega), Int.tmod_eq_emod_of_nonneg (by omega), IntKind.wrap_u32, IntKind.wrap_u8, UInt8.toNat_ofNat']
  omega
theorem good_kShard (s m : Int) (r : List UInt8) (hs : 0 ≤ s ∧ s < 4294967296) : GoodP Tryd.prog gl0 35 [sKey std s r, .int .i64 m] (.int .i64 (std.ti fun _ => shardI s r m)) := by
  refine fn_sound' (T := seatT) (G := gk7) (X := noX) seatT_ok gk7_ok noX_ok noI_ok mixed Tryd.func35 (.one) (fun A => [sKey A s r, .int .i64 m]) (fun A => .int .i64 (A.ti fun _ => shardI s r m)) fun A hA => ?_
  cbv
  repeat' (first | with_reducible exact True.intro | with_reducible exact dr_ok hA (by kernel_rfl) | with_reducible refine And.intro ?_ ?_ | (intro hc; cbv))
  rotate_right
  · have hk : keyOk s r = true ∧ 1 ≤ m ∧ m ≤ 16 := by subst hA; simp [sS] at hc; exact ⟨hc.1.1, hc.1.2, hc.2⟩
    have hs9 := keyOk_le hk.1
    obtain ⟨D, hD⟩ : ∃ D, D = decs 6 s.toNat := ⟨_, rfl⟩
    have hDl : D.length = 6 := by rw [hD, decs_len]
    refine ⟨⟨{p : Nat × Nat × Nat // p.1 ≤ 6 ∧ p.2.1 = uO p.1 ∧ p.2.2 = fnv (D.take p.1)}, fun b p => [(5, .int .u32 (p.1.2.2 : Nat)), (6, .int .u32 (p.1.2.1 : Nat))], fun b p => [], fun p => 6 - p.1.1, true⟩, ⟨⟨(0, 100000, 2166136261), by omega, rfl, rfl⟩, ?_⟩, ?_⟩
    · cbv
      subst hA
      simp [sS]
    · rintro ⟨⟨j, u, h⟩, hj, hu, hh⟩
      simp only at hj hu hh
      have hup := uO_pos hj
      cbv
      repeat' (first | with_reducible exact True.intro | with_reducible exact dr_ok hA (by kernel_rfl) | with_reducible refine And.intro ?_ ?_ | (intro hc; cbv))
      all_goals first
        | (fail_if_success (refine Exists.intro ?_ ?_)
           clear hh hu
           subst hA
           simp [sS] at *
           done)
        | (fail_if_success (refine Exists.intro ?_ ?_)
           clear hh
           subst hA
           simp [sS] at *
           omega)
        | skip
      · have hlt : j < 6 := by rw [hu] at hc; clear hh; subst hA; exact hup.1.1 (by simpa [sS] using hc)
        obtain ⟨j', hj'⟩ : ∃ j', j' = j + 1 := ⟨_, rfl⟩
        obtain ⟨u', hu'⟩ : ∃ u', u' = uO j' := ⟨_, rfl⟩
        obtain ⟨h', hh'⟩ : ∃ h', h' = fnv (D.take j') := ⟨_, rfl⟩
        refine ⟨⟨(j', u', h'), by omega, hu', hh'⟩, ?_, show 6 - j' < 6 - j by omega⟩
        cbv
        subst hA
        simp [-List.getD_eq_getElem?_getD, sS]
        have e1 := kdig (s := s) ⟨hs.1, hs9.1⟩ hlt
        rw [← hu, ← hD] at e1
        refine ⟨?_, ?_⟩
        · rw [e1, hh, mixI_fnv, hh', hj', take_snoc (by omega)]
        · rw [hu, hu', hj']; exact uO_step2 hlt
      · have hje : j = 6 := by rw [hu] at hc; clear hh; subst hA; (have h5 : uO j = 0 := by simpa [sS] using hc); (rcases Nat.lt_or_ge j 6 with h4 | h4; (have := hup.1.2 h4; omega); omega)
        rw [hje, List.take_of_length_le (by omega)] at hh
        refine ⟨⟨{p : Nat × Nat // p.1 ≤ r.length ∧ p.2 = fnv (D ++ r.take p.1)}, fun b p => [(5, .int .u32 (p.1.2 : Nat)), (35, .int .i64 (p.1.1 : Nat))], fun b p => [], fun p => r.length - p.1.1, true⟩, ⟨⟨(0, h), by omega, by rw [hh]; simp⟩, ?_⟩, ?_⟩
        · cbv
          subst hA
          simp [sS]
        · rintro ⟨⟨i, g⟩, hi, hg⟩
          simp only at hi hg
          cbv
          repeat' (first | with_reducible exact True.intro | with_reducible exact dr_ok hA (by kernel_rfl) | with_reducible refine And.intro ?_ ?_ | (intro hc; cbv))
          all_goals first
            | (fail_if_success (refine Exists.intro ?_ ?_)
               clear hg hu
               subst hA
               simp [sS] at *
               done)
            | (fail_if_success (refine Exists.intro ?_ ?_)
               clear hg hu
               subst hA
               simp [sS] at *
               first
                 | omega
                 | (rw [wU32 (by omega)]; omega))
            | skip
          · have hlt : i < r.length := by clear hg; subst hA; simp [sS] at *; omega
            obtain ⟨i', hi'⟩ : ∃ i', i' = i + 1 := ⟨_, rfl⟩
            obtain ⟨g', hg'⟩ : ∃ g', g' = fnv (D ++ r.take i') := ⟨_, rfl⟩
            refine ⟨⟨(i', g'), by omega, hg'⟩, ?_, show r.length - i' < r.length - i by omega⟩
            cbv
            subst hA
            simp [-List.getD_eq_getElem?_getD, sS, gD]
            refine ⟨?_, (w64 (by omega)).trans (by omega)⟩
            rw [hg, mixI_fnv, hg', hi', List.append_assoc, take_snoc hlt]
          · have hie : i = r.length := by clear hg; subst hA; simp [sS] at *; omega
            rw [hie, List.take_length, hD] at hg
            have hb := fnv_lt (decs 6 s.toNat ++ r)
            have hq := modM hb hk.2
            subst hA
            simp only [sS, Int.ofNat_eq_natCast]
            rw [wU32 (by omega), Int.tmod_eq_emod_of_nonneg (by omega), shardI, if_pos hk, hq.1, hg, w64 (by omega)]
  all_goals (subst hA; simp [sS] at *)
  all_goals first
    | (rw [shardI, if_neg (fun h => by rcases hc with (hc | hc) | hc; (rw [h.1] at hc; cases hc); omega; omega)]; done)
    | trace_state
noncomputable def c_kOrder : Ct := fun A args => match args with
  | [.agg [.int .u32 s, .str r], .agg [.int .u32 t, .str q]] => some (none, .int .i64 (A.ti fun _ => ordK s r t q))
  | _ => none
noncomputable def c_kShard : Ct := fun A args => match args with
  | [.agg [.int .u32 s, .str r], .int .i64 m] => some (some (A.tp fun _ => 0 ≤ s ∧ s < 4294967296), .int .i64 (A.ti fun _ => shardI s r m))
  | _ => none
noncomputable def gk8 : Ar → Pu := addC 24 c_kOrder (addC 35 c_kShard (gk7))
theorem gk8_ok : PuOk Tryd.prog gl0 (gk8 std) := by
  refine addC_ok (addC_ok (gk7_ok) ⟨_, Tryd.func35, rfl, by decide⟩ ?_) ⟨_, Tryd.func24, rfl, by decide⟩ ?_
  · intro args p r h hp
    unfold c_kShard at h
    split at h <;> cases h
    exact good_kShard _ _ _ hp
  · intro args p r h hp
    unfold c_kOrder at h
    split at h <;> cases h
    exact good_kOrder _ _ _ _
end Go.Vd

