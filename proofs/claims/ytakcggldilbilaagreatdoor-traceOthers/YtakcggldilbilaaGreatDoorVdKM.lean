/- The types of the seat, as the generator asks for them (printed by mktys.py). -/
import Derived.Test.YtakcggldilbilaaGreatDoorVdEq
import Derived.Lib.ItoaNum
import Derived.Test.YtakcggldilbilaaGreatDoorProg
import Derived.Test.YtakcggldilbilaaGreatDoorVdSimp
import Derived.Test.YtakcggldilbilaaGreatDoorVdLib
set_option linter.unusedVariables false
set_option maxRecDepth 100000
namespace Go.Vd
open Go.Proofs

def ty2 : Ty := ⟨false, 1, [.int .i64 0], .int .i64⟩  -- int64
theorem ty2_ok : TyOk Tryz.prog 2 ty2 := .mk' (.int .i64) [.int .i64 0] (by kernel_rfl) Tryz.underlying2 (by decide) rfl (fun _ => rfl) rfl rfl rfl rfl
def ty3 : Ty := ⟨false, 1, [.int .i64 0], .int .i64⟩  -- int
theorem ty3_ok : TyOk Tryz.prog 3 ty3 := .mk' (.int .i64) [.int .i64 0] (by kernel_rfl) Tryz.underlying3 (by decide) rfl (fun _ => rfl) rfl rfl rfl rfl
def ty4 : Ty := ⟨false, 1, [.bool false], .bool⟩  -- bool
theorem ty4_ok : TyOk Tryz.prog 4 ty4 := .mk' .bool [.bool false] (by kernel_rfl) Tryz.underlying4 (by decide) rfl (fun _ => rfl) rfl rfl rfl rfl
def ty5 : Ty := ⟨false, 1, [.int .u8 0], .int .u8⟩  -- uint8
theorem ty5_ok : TyOk Tryz.prog 5 ty5 := .mk' (.int .u8) [.int .u8 0] (by kernel_rfl) Tryz.underlying5 (by decide) rfl (fun _ => rfl) rfl rfl rfl rfl
def ty9 : Ty := ⟨false, 1, [.str []], .str⟩  -- string
theorem ty9_ok : TyOk Tryz.prog 9 ty9 := .mk' .string [.string ⟨#[]⟩] (by kernel_rfl) Tryz.underlying9 (by decide) rfl (fun _ => rfl) rfl rfl rfl rfl
def ty21 : Ty := ⟨false, 1, [.int .i32 0], .int .i32⟩  -- int32
theorem ty21_ok : TyOk Tryz.prog 21 ty21 := .mk' (.int .i32) [.int .i32 0] (by kernel_rfl) Tryz.underlying21 (by decide) rfl (fun _ => rfl) rfl rfl rfl rfl
def ty22 : Ty := ⟨false, 1, [.nils], .slice 5 1 1 true⟩  -- []uint8
theorem ty22_ok : TyOk Tryz.prog 22 ty22 := .mk' (.slice 5) [.slice none 0 0] (by kernel_rfl) Tryz.underlying22 (by decide) rfl (fun _ => rfl) rfl rfl rfl ⟨rfl, by decide, (fun _ => Tryz.underlying5), tag_slice (by kernel_rfl)⟩
def ty24 : Ty := ⟨true, 2, [.nils, .bool false], .struct [(0, 1), (1, 1)] false⟩  -- api.Reader
theorem ty24_ok : TyOk Tryz.prog 24 ty24 := .mk' _ [.slice none 0 0, .bool false] (by kernel_rfl) Tryz.underlying24 (by decide) rfl (fun h => by cases h) rfl rfl rfl ⟨(fun h => by cases h), tag_struct (by kernel_rfl)⟩
def ty26 : Ty := ⟨false, 1, [.int .u64 0], .int .u64⟩  -- uint64
theorem ty26_ok : TyOk Tryz.prog 26 ty26 := .mk' (.int .u64) [.int .u64 0] (by kernel_rfl) Tryz.underlying26 (by decide) rfl (fun _ => rfl) rfl rfl rfl rfl
def ty27 : Ty := ⟨false, 1, [.int .u32 0], .int .u32⟩  -- uint32
theorem ty27_ok : TyOk Tryz.prog 27 ty27 := .mk' (.int .u32) [.int .u32 0] (by kernel_rfl) Tryz.underlying27 (by decide) rfl (fun _ => rfl) rfl rfl rfl rfl
def ty29 : Ty := ⟨true, 6, [.int .i64 0, .str [], .int .u64 0, .int .u32 0, .str [], .str []], .struct [(0, 1), (1, 1), (2, 1), (3, 1), (4, 1), (5, 1)] true⟩  -- api.Deal
theorem ty29_ok : TyOk Tryz.prog 29 ty29 := .mk' _ [.int .i64 0, .string ⟨#[]⟩, .int .u64 0, .int .u32 0, .string ⟨#[]⟩, .string ⟨#[]⟩] (by kernel_rfl) Tryz.underlying29 (by decide) rfl (fun h => by cases h) rfl rfl rfl ⟨(fun _ => eqOk_plain (by kernel_rfl) Tryz.underlying29 (by kernel_rfl) (.int (by decide) rfl Tryz.underlying3 (.str (by decide) rfl Tryz.underlying9 (.int (by decide) rfl Tryz.underlying26 (.int (by decide) rfl Tryz.underlying27 (.str (by decide) rfl Tryz.underlying9 (.str (by decide) rfl Tryz.underlying9 .nil))))))), tag_struct (by kernel_rfl)⟩
def ty31 : Ty := ⟨true, 7, [.int .i64 0, .int .i64 0, .str [], .int .u64 0, .int .u32 0, .str [], .str []], .struct [(0, 1), (1, 6)] true⟩  -- api.Event
theorem ty31_ok : TyOk Tryz.prog 31 ty31 := .mk' _ [.int .i64 0, .int .i64 0, .string ⟨#[]⟩, .int .u64 0, .int .u32 0, .string ⟨#[]⟩, .string ⟨#[]⟩] (by kernel_rfl) Tryz.underlying31 (by decide) rfl (fun h => by cases h) rfl rfl rfl ⟨(fun _ => eqOk_plain2 (by kernel_rfl) Tryz.underlying31 (by kernel_rfl) (.int (by decide) rfl Tryz.underlying3 (Plain2.sub (z := [.int .i64 0, .str [], .int .u64 0, .int .u32 0, .str [], .str []]) (z' := []) (by decide) rfl Tryz.underlying29 (by kernel_rfl) (by kernel_rfl) (.int (by decide) rfl Tryz.underlying3 (.str (by decide) rfl Tryz.underlying9 (.int (by decide) rfl Tryz.underlying26 (.int (by decide) rfl Tryz.underlying27 (.str (by decide) rfl Tryz.underlying9 (.str (by decide) rfl Tryz.underlying9 .nil)))))) .nil))), tag_struct (by kernel_rfl)⟩
def ty34 : Ty := ⟨false, 1, [.int .i64 0], .int .i64⟩  -- api.Errno
theorem ty34_ok : TyOk Tryz.prog 34 ty34 := .mk' (.int .i64) [.int .i64 0] (by kernel_rfl) Tryz.underlying34 (by decide) rfl (fun _ => rfl) rfl rfl rfl rfl
def ty38 : Ty := ⟨true, 5, [.nils, .bool false, .nils, .nils, .int .i64 0], .struct [(0, 2), (2, 1), (3, 1), (4, 1)] false⟩  -- paydeskref14.Read
theorem ty38_ok : TyOk Tryz.prog 38 ty38 := .mk' _ [.slice none 0 0, .bool false, .slice none 0 0, .slice none 0 0, .int .i64 0] (by kernel_rfl) Tryz.underlying38 (by decide) rfl (fun h => by cases h) rfl rfl rfl ⟨(fun h => by cases h), tag_struct (by kernel_rfl)⟩
def ty43 : Ty := ⟨false, 1, [.nils], .slice 22 1 24 false⟩  -- [][]uint8
theorem ty43_ok : TyOk Tryz.prog 43 ty43 := .mk' (.slice 22) [.slice none 0 0] (by kernel_rfl) Tryz.underlying43 (by decide) rfl (fun _ => rfl) rfl rfl rfl ⟨rfl, by decide, (fun h => by cases h), tag_slice (by kernel_rfl)⟩
def ty49 : Ty := ⟨false, 1, [.nils], .slice 107 2 24 false⟩  -- []api.Item
theorem ty49_ok : TyOk Tryz.prog 49 ty49 := .mk' (.slice 107) [.slice none 0 0] (by kernel_rfl) Tryz.underlying49 (by decide) rfl (fun _ => rfl) rfl rfl rfl ⟨rfl, by decide, (fun h => by cases h), tag_slice (by kernel_rfl)⟩
def ty51 : Ty := ⟨true, 2, [.str [], .nils], .struct [(0, 1), (1, 1)] false⟩  -- api.Message
theorem ty51_ok : TyOk Tryz.prog 51 ty51 := .mk' _ [.string ⟨#[]⟩, .slice none 0 0] (by kernel_rfl) Tryz.underlying51 (by decide) rfl (fun h => by cases h) rfl rfl rfl ⟨(fun h => by cases h), tag_struct (by kernel_rfl)⟩
def ty59 : Ty := ⟨true, 2, [.int .i64 0, .nils], .struct [(0, 1), (1, 1)] false⟩  -- api.Queue
theorem ty59_ok : TyOk Tryz.prog 59 ty59 := .mk' _ [.int .i64 0, .slice none 0 0] (by kernel_rfl) Tryz.underlying59 (by decide) rfl (fun h => by cases h) rfl rfl rfl ⟨(fun h => by cases h), tag_struct (by kernel_rfl)⟩
def ty60 : Ty := ⟨false, 1, [.nils], .slice 29 6 72 false⟩  -- []api.Deal
theorem ty60_ok : TyOk Tryz.prog 60 ty60 := .mk' (.slice 29) [.slice none 0 0] (by kernel_rfl) Tryz.underlying60 (by decide) rfl (fun _ => rfl) rfl rfl rfl ⟨rfl, by decide, (fun h => by cases h), tag_slice (by kernel_rfl)⟩
def ty79 : Ty := ⟨true, 2, [.int .u32 0, .str []], .struct [(0, 1), (1, 1)] true⟩  -- api.Key
theorem ty79_ok : TyOk Tryz.prog 79 ty79 := .mk' _ [.int .u32 0, .string ⟨#[]⟩] (by kernel_rfl) Tryz.underlying79 (by decide) rfl (fun h => by cases h) rfl rfl rfl ⟨(fun _ => eqOk_plain (by kernel_rfl) Tryz.underlying79 (by kernel_rfl) (.int (by decide) rfl Tryz.underlying27 (.str (by decide) rfl Tryz.underlying9 .nil))), tag_struct (by kernel_rfl)⟩
def ty82 : Ty := ⟨true, 5, [.nils, .int .i64 0, .int .i64 0, .int .i64 0, .int .i64 0], .struct [(0, 1), (1, 1), (2, 1), (3, 1), (4, 1)] false⟩  -- api.Sight
theorem ty82_ok : TyOk Tryz.prog 82 ty82 := .mk' _ [.slice none 0 0, .int .i64 0, .int .i64 0, .int .i64 0, .int .i64 0] (by kernel_rfl) Tryz.underlying82 (by decide) rfl (fun h => by cases h) rfl rfl rfl ⟨(fun h => by cases h), tag_struct (by kernel_rfl)⟩
def ty102 : Ty := ⟨true, 7, [.str [], .str [], .str [], .str [], .str [], .str [], .str []], .array 7 9 1⟩  -- [7]string
theorem ty102_ok : TyOk Tryz.prog 102 ty102 := .mk' (.array 7 9) [.string ⟨#[]⟩, .string ⟨#[]⟩, .string ⟨#[]⟩, .string ⟨#[]⟩, .string ⟨#[]⟩, .string ⟨#[]⟩, .string ⟨#[]⟩] (by kernel_rfl) Tryz.underlying102 (by decide) rfl (fun h => by cases h) rfl rfl rfl ⟨rfl, tag_array (by kernel_rfl)⟩
def ty103 : Ty := ⟨false, 1, [.nils], .slice 3 1 8 false⟩  -- []int
theorem ty103_ok : TyOk Tryz.prog 103 ty103 := .mk' (.slice 3) [.slice none 0 0] (by kernel_rfl) Tryz.underlying103 (by decide) rfl (fun _ => rfl) rfl rfl rfl ⟨rfl, by decide, (fun h => by cases h), tag_slice (by kernel_rfl)⟩
def ty107 : Ty := ⟨true, 2, [.int .i64 0, .str []], .struct [(0, 1), (1, 1)] true⟩  -- api.Item
theorem ty107_ok : TyOk Tryz.prog 107 ty107 := .mk' _ [.int .i64 0, .string ⟨#[]⟩] (by kernel_rfl) Tryz.underlying107 (by decide) rfl (fun h => by cases h) rfl rfl rfl ⟨(fun _ => eqOk_plain (by kernel_rfl) Tryz.underlying107 (by kernel_rfl) (.int (by decide) rfl Tryz.underlying3 (.str (by decide) rfl Tryz.underlying9 .nil))), tag_struct (by kernel_rfl)⟩
def ty112 : Ty := ⟨false, 1, [.val .nilFunc], .other⟩  -- func(string) bool
theorem ty112_ok : TyOk Tryz.prog 112 ty112 := .mk' _ [.nilFunc] (by kernel_rfl) Tryz.underlying112 (by decide) rfl (fun _ => rfl) rfl rfl rfl trivial
def ty127 : Ty := ⟨true, 2, [.int .u64 0, .int .u64 0], .struct [(0, 1), (1, 1)] true⟩  -- api.Bitmap
theorem ty127_ok : TyOk Tryz.prog 127 ty127 := .mk' _ [.int .u64 0, .int .u64 0] (by kernel_rfl) Tryz.underlying127 (by decide) rfl (fun h => by cases h) rfl rfl rfl ⟨(fun _ => eqOk_plain (by kernel_rfl) Tryz.underlying127 (by kernel_rfl) (.int (by decide) rfl Tryz.underlying26 (.int (by decide) rfl Tryz.underlying26 .nil))), tag_struct (by kernel_rfl)⟩
def ty143 : Ty := ⟨false, 1, [.nils], .slice 9 1 16 false⟩  -- []string
theorem ty143_ok : TyOk Tryz.prog 143 ty143 := .mk' (.slice 9) [.slice none 0 0] (by kernel_rfl) Tryz.underlying143 (by decide) rfl (fun _ => rfl) rfl rfl rfl ⟨rfl, by decide, (fun h => by cases h), tag_slice (by kernel_rfl)⟩
def ty152 : Ty := ⟨true, 3, [.int .i64 0, .int .i64 0, .int .i64 0], .struct [(0, 1), (1, 1), (2, 1)] true⟩  -- api.Def
theorem ty152_ok : TyOk Tryz.prog 152 ty152 := .mk' _ [.int .i64 0, .int .i64 0, .int .i64 0] (by kernel_rfl) Tryz.underlying152 (by decide) rfl (fun h => by cases h) rfl rfl rfl ⟨(fun _ => eqOk_plain (by kernel_rfl) Tryz.underlying152 (by kernel_rfl) (.int (by decide) rfl Tryz.underlying3 (.int (by decide) rfl Tryz.underlying3 (.int (by decide) rfl Tryz.underlying3 .nil)))), tag_struct (by kernel_rfl)⟩
def ty156 : Ty := ⟨false, 1, [.val .nilIface], .other⟩  -- field.form
theorem ty156_ok : TyOk Tryz.prog 156 ty156 := .mk' _ [.nilIface] (by kernel_rfl) Tryz.underlying156 (by decide) rfl (fun _ => rfl) rfl rfl rfl trivial
def ty172 : Ty := ⟨true, 2, [.int .u32 0, .str []], .struct [(0, 2)] true⟩  -- trace.owner
theorem ty172_ok : TyOk Tryz.prog 172 ty172 := .mk' _ [.int .u32 0, .string ⟨#[]⟩] (by kernel_rfl) Tryz.underlying172 (by decide) rfl (fun h => by cases h) rfl rfl rfl ⟨(fun _ => eqOk_plain2 (by kernel_rfl) Tryz.underlying172 (by kernel_rfl) (Plain2.sub (z := [.int .u32 0, .str []]) (z' := []) (by decide) rfl Tryz.underlying79 (by kernel_rfl) (by kernel_rfl) (.int (by decide) rfl Tryz.underlying27 (.str (by decide) rfl Tryz.underlying9 .nil)) .nil)), tag_struct (by kernel_rfl)⟩
def ty186 : Ty := ⟨true, 45, [.int .i64 0, .int .i64 0, .int .i64 0, .int .i64 0, .int .i64 0, .int .i64 0, .int .i64 0, .int .i64 0, .int .i64 0, .int .i64 0, .int .i64 0, .int .i64 0, .int .i64 0, .int .i64 0, .int .i64 0, .int .i64 0, .int .i64 0, .int .i64 0, .int .i64 0, .int .i64 0, .int .i64 0, .int .i64 0, .int .i64 0, .int .i64 0, .int .i64 0, .int .i64 0, .int .i64 0, .int .i64 0, .int .i64 0, .int .i64 0, .int .i64 0, .int .i64 0, .int .i64 0, .int .i64 0, .int .i64 0, .int .i64 0, .int .i64 0, .int .i64 0, .int .i64 0, .int .i64 0, .int .i64 0, .int .i64 0, .int .i64 0, .int .i64 0, .int .i64 0], .array 15 152 3⟩  -- [15]api.Def
theorem ty186_ok : TyOk Tryz.prog 186 ty186 := .mk' (.array 15 152) [.int .i64 0, .int .i64 0, .int .i64 0, .int .i64 0, .int .i64 0, .int .i64 0, .int .i64 0, .int .i64 0, .int .i64 0, .int .i64 0, .int .i64 0, .int .i64 0, .int .i64 0, .int .i64 0, .int .i64 0, .int .i64 0, .int .i64 0, .int .i64 0, .int .i64 0, .int .i64 0, .int .i64 0, .int .i64 0, .int .i64 0, .int .i64 0, .int .i64 0, .int .i64 0, .int .i64 0, .int .i64 0, .int .i64 0, .int .i64 0, .int .i64 0, .int .i64 0, .int .i64 0, .int .i64 0, .int .i64 0, .int .i64 0, .int .i64 0, .int .i64 0, .int .i64 0, .int .i64 0, .int .i64 0, .int .i64 0, .int .i64 0, .int .i64 0, .int .i64 0] (by kernel_rfl) Tryz.underlying186 (by decide) rfl (fun h => by cases h) rfl rfl rfl ⟨rfl, tag_array (by kernel_rfl)⟩
def ty188 : Ty := ⟨true, 2, [.int .i64 0, .val .nilFunc], .struct [(0, 1), (1, 1)] false⟩  -- field.fixed
theorem ty188_ok : TyOk Tryz.prog 188 ty188 := .mk' _ [.int .i64 0, .nilFunc] (by kernel_rfl) Tryz.underlying188 (by decide) rfl (fun h => by cases h) rfl rfl rfl ⟨(fun h => by cases h), tag_struct (by kernel_rfl)⟩
def ty190 : Ty := ⟨true, 3, [.int .i64 0, .int .i64 0, .val .nilFunc], .struct [(0, 1), (1, 1), (2, 1)] false⟩  -- field.long
theorem ty190_ok : TyOk Tryz.prog 190 ty190 := .mk' _ [.int .i64 0, .int .i64 0, .nilFunc] (by kernel_rfl) Tryz.underlying190 (by decide) rfl (fun h => by cases h) rfl rfl rfl ⟨(fun h => by cases h), tag_struct (by kernel_rfl)⟩
def seatTy : Nat → Option Ty := fun n => match n with
  | 2 => some ty2
  | 3 => some ty3
  | 4 => some ty4
  | 5 => some ty5
  | 9 => some ty9
  | 21 => some ty21
  | 22 => some ty22
  | 24 => some ty24
  | 26 => some ty26
  | 27 => some ty27
  | 29 => some ty29
  | 31 => some ty31
  | 34 => some ty34
  | 38 => some ty38
  | 43 => some ty43
  | 49 => some ty49
  | 51 => some ty51
  | 59 => some ty59
  | 60 => some ty60
  | 79 => some ty79
  | 82 => some ty82
  | 102 => some ty102
  | 103 => some ty103
  | 107 => some ty107
  | 112 => some ty112
  | 127 => some ty127
  | 143 => some ty143
  | 152 => some ty152
  | 156 => some ty156
  | 172 => some ty172
  | 186 => some ty186
  | 188 => some ty188
  | 190 => some ty190
  | _ => none
/-- What stands in the package variables that are known: fields, kinds and sizes; types. -/
def knownL : List Int := [2, 3, 19, 3, 1, 6, 4, 1, 12, 7, 1, 10, 11, 1, 6, 12, 1, 6, 37, 2, 12, 38, 2, 6, 39, 2, 2, 41, 2, 8, 44, 4, 25, 48, 5, 999, 49, 1, 3, 90, 1, 42, 120, 5, 999]
def typesL : List (List UInt8) := [[48, 49, 48, 48], [48, 49, 49, 48], [48, 52, 48, 48], [48, 52, 49, 48], [48, 52, 50, 48], [48, 52, 50, 49], [48, 52, 51, 48]]
def gl0 : Nat → SV := fun g => match g with
  | 0 => .rop 7 fun j => .str (typesL.getD j [])
  | 1 => .rop 45 fun j => .int .i64 (knownL.getD j 0)
  | 2 => .rop 20 fun j => .int .u64 (Go.Lib.pow10Tab.getD j 0)
  | g => .val (.pointer (some ⟨g, 0, none⟩))
def seatFl : Nat → Nat → Option Nat := fun t i => match t, i with
  | 24, 0 => some 22
  | 24, 1 => some 4
  | 29, 0 => some 3
  | 29, 1 => some 9
  | 29, 2 => some 26
  | 29, 3 => some 27
  | 29, 4 => some 9
  | 29, 5 => some 9
  | 31, 0 => some 3
  | 31, 1 => some 29
  | 38, 0 => some 24
  | 38, 1 => some 22
  | 38, 2 => some 22
  | 38, 3 => some 3
  | 51, 0 => some 9
  | 51, 1 => some 49
  | 59, 0 => some 3
  | 59, 1 => some 43
  | 79, 0 => some 27
  | 79, 1 => some 9
  | 82, 0 => some 60
  | 82, 1 => some 3
  | 82, 2 => some 3
  | 82, 3 => some 3
  | 82, 4 => some 3
  | 107, 0 => some 3
  | 107, 1 => some 9
  | 127, 0 => some 26
  | 127, 1 => some 26
  | 152, 0 => some 3
  | 152, 1 => some 3
  | 152, 2 => some 3
  | 172, 0 => some 79
  | 188, 0 => some 3
  | 188, 1 => some 112
  | 190, 0 => some 3
  | 190, 1 => some 3
  | 190, 2 => some 112
  | _, _ => none
def seatT : Tys := { ty := seatTy, gl := gl0, fl := seatFl }
theorem seatTy_ok : ∀ t ty, seatTy t = some ty → TyOk Tryz.prog t ty := by
  intro t ty h
  unfold seatTy at h
  split at h <;> cases h
  · exact ty2_ok
  · exact ty3_ok
  · exact ty4_ok
  · exact ty5_ok
  · exact ty9_ok
  · exact ty21_ok
  · exact ty22_ok
  · exact ty24_ok
  · exact ty26_ok
  · exact ty27_ok
  · exact ty29_ok
  · exact ty31_ok
  · exact ty34_ok
  · exact ty38_ok
  · exact ty43_ok
  · exact ty49_ok
  · exact ty51_ok
  · exact ty59_ok
  · exact ty60_ok
  · exact ty79_ok
  · exact ty82_ok
  · exact ty102_ok
  · exact ty103_ok
  · exact ty107_ok
  · exact ty112_ok
  · exact ty127_ok
  · exact ty143_ok
  · exact ty152_ok
  · exact ty156_ok
  · exact ty172_ok
  · exact ty186_ok
  · exact ty188_ok
  · exact ty190_ok
theorem seatFl_ok : ∀ t i u, seatFl t i = some u → ∃ (fs : Array Field) (f : Field), Tryz.prog.underlying t = some (.struct fs) ∧ fs[i]? = some f ∧ f.type = u := by
  intro t i u h
  unfold seatFl at h
  split at h <;> cases h
  · exact ⟨_, _, Tryz.underlying24, rfl, rfl⟩
  · exact ⟨_, _, Tryz.underlying24, rfl, rfl⟩
  · exact ⟨_, _, Tryz.underlying29, rfl, rfl⟩
  · exact ⟨_, _, Tryz.underlying29, rfl, rfl⟩
  · exact ⟨_, _, Tryz.underlying29, rfl, rfl⟩
  · exact ⟨_, _, Tryz.underlying29, rfl, rfl⟩
  · exact ⟨_, _, Tryz.underlying29, rfl, rfl⟩
  · exact ⟨_, _, Tryz.underlying29, rfl, rfl⟩
  · exact ⟨_, _, Tryz.underlying31, rfl, rfl⟩
  · exact ⟨_, _, Tryz.underlying31, rfl, rfl⟩
  · exact ⟨_, _, Tryz.underlying38, rfl, rfl⟩
  · exact ⟨_, _, Tryz.underlying38, rfl, rfl⟩
  · exact ⟨_, _, Tryz.underlying38, rfl, rfl⟩
  · exact ⟨_, _, Tryz.underlying38, rfl, rfl⟩
  · exact ⟨_, _, Tryz.underlying51, rfl, rfl⟩
  · exact ⟨_, _, Tryz.underlying51, rfl, rfl⟩
  · exact ⟨_, _, Tryz.underlying59, rfl, rfl⟩
  · exact ⟨_, _, Tryz.underlying59, rfl, rfl⟩
  · exact ⟨_, _, Tryz.underlying79, rfl, rfl⟩
  · exact ⟨_, _, Tryz.underlying79, rfl, rfl⟩
  · exact ⟨_, _, Tryz.underlying82, rfl, rfl⟩
  · exact ⟨_, _, Tryz.underlying82, rfl, rfl⟩
  · exact ⟨_, _, Tryz.underlying82, rfl, rfl⟩
  · exact ⟨_, _, Tryz.underlying82, rfl, rfl⟩
  · exact ⟨_, _, Tryz.underlying82, rfl, rfl⟩
  · exact ⟨_, _, Tryz.underlying107, rfl, rfl⟩
  · exact ⟨_, _, Tryz.underlying107, rfl, rfl⟩
  · exact ⟨_, _, Tryz.underlying127, rfl, rfl⟩
  · exact ⟨_, _, Tryz.underlying127, rfl, rfl⟩
  · exact ⟨_, _, Tryz.underlying152, rfl, rfl⟩
  · exact ⟨_, _, Tryz.underlying152, rfl, rfl⟩
  · exact ⟨_, _, Tryz.underlying152, rfl, rfl⟩
  · exact ⟨_, _, Tryz.underlying172, rfl, rfl⟩
  · exact ⟨_, _, Tryz.underlying188, rfl, rfl⟩
  · exact ⟨_, _, Tryz.underlying188, rfl, rfl⟩
  · exact ⟨_, _, Tryz.underlying190, rfl, rfl⟩
  · exact ⟨_, _, Tryz.underlying190, rfl, rfl⟩
  · exact ⟨_, _, Tryz.underlying190, rfl, rfl⟩
theorem seatT_ok : TysOk Tryz.prog seatT := ⟨seatTy_ok, seatFl_ok⟩
theorem mixed : Tryz.prog.follows .mixedOrders = true := by kernel_rfl
end Go.Vd

namespace Go.Vd
theorem or_two (x y : Nat) (hx : x < 256) (hy : y < 256) : bits .or .i64 ((x : Int) * 256) (y : Int) = ((256 * x + y : Nat) : Int) := by
  show IntKind.i64.wrap ((BitVec.ofInt 64 ((x : Int) * 256) ||| BitVec.ofInt 64 (y : Int)).toNat : Int) = _
  have h1 : (BitVec.ofInt 64 ((x : Int) * 256)).toNat = x * 256 := by rw [BitVec.toNat_ofInt]; omega
  have h2 : (BitVec.ofInt 64 (y : Int)).toNat = y := by rw [BitVec.toNat_ofInt]; omega
  have h3 : x * 256 ||| y = 256 * x + y := by
    have h := Nat.shiftLeft_add_eq_or_of_lt (i := 8) (b := y) (by omega) x
    rw [Nat.shiftLeft_eq, show (2 : Nat) ^ 8 = 256 from rfl] at h
    omega
  rw [BitVec.toNat_or, h1, h2, h3]
  exact w64 (by omega)
end Go.Vd

set_option linter.unusedVariables false
namespace Go.Vd
/-- The length that two bytes say. -/
def fLen (L : List UInt8) : Nat := 256 * (L.getD 0 0).toNat + (L.getD 1 0).toNat
theorem fLen_lt (L : List UInt8) : fLen L < 65536 := by
  have h1 := (L.getD 0 0).toNat_lt
  have h2 := (L.getD 1 0).toNat_lt
  unfold fLen
  omega
def fMay (n : Int) : Bool := decide (1 ≤ n) && decide (n ≤ 2048)
def fOk (L : List UInt8) (br : Bool) : Bool := if br then decide (L.length = 0) else if L.length < 2 then true else fMay (fLen L) && decide (L.length < 2 + fLen L)
theorem fMay_iff {n : Nat} : fMay n = true ↔ 1 ≤ n ∧ n ≤ 2048 := by simp [fMay]; omega
theorem getD_app {L M : List UInt8} {i : Nat} (h : i < L.length) : (L ++ M).getD i 0 = L.getD i 0 := by
  rw [List.getD_eq_getElem?_getD, List.getD_eq_getElem?_getD, List.getElem?_append_left h]
theorem fLen_app {L M : List UInt8} (h : 2 ≤ L.length) : fLen (L ++ M) = fLen L := by
  unfold fLen
  rw [getD_app (by omega), getD_app (by omega)]

/-- What bytes are: frames, what is left, and whether a length may not be. -/
def fParse (L : List UInt8) : List (List UInt8) × List UInt8 × Bool :=
  if L.length < 2 then ([], L, false)
  else if fMay (fLen L) = false then ([], [], true)
  else if L.length < 2 + fLen L then ([], L, false)
  else
    let r := fParse (L.drop (2 + fLen L))
    ((L.drop 2).take (fLen L) :: r.1, r.2)
termination_by L.length
decreasing_by rw [List.length_drop]; omega
theorem fParse_short {L : List UInt8} (h : L.length < 2) : fParse L = ([], L, false) := by
  rw [fParse, if_pos h]
theorem fParse_bad {L : List UInt8} (h : ¬L.length < 2) (h1 : fMay (fLen L) = false) : fParse L = ([], [], true) := by
  rw [fParse, if_neg h, if_pos h1]
theorem fParse_part {L : List UInt8} (h : ¬L.length < 2) (h1 : fMay (fLen L) = true) (h2 : L.length < 2 + fLen L) : fParse L = ([], L, false) := by
  rw [fParse, if_neg h, if_neg (by simp [h1]), if_pos h2]
theorem fParse_more {L : List UInt8} (h : ¬L.length < 2) (h1 : fMay (fLen L) = true) (h2 : ¬L.length < 2 + fLen L) : fParse L = ((L.drop 2).take (fLen L) :: (fParse (L.drop (2 + fLen L))).1, (fParse (L.drop (2 + fLen L))).2) := by
  rw [fParse, if_neg h, if_neg (by simp [h1]), if_neg h2]
theorem fParse_fix {R : List UInt8} (h : fOk R false = true) : fParse R = ([], R, false) := by
  by_cases h0 : R.length < 2
  · exact fParse_short h0
  · simp [fOk, h0] at h
    exact fParse_part h0 h.1 (by omega)
theorem fParse_ok (n : Nat) : ∀ L : List UInt8, L.length = n → fOk (fParse L).2.1 (fParse L).2.2 = true ∧ (fParse L).2.1.length ≤ L.length := by
  induction n using Nat.strongRecOn with
  | _ n ih =>
    intro L hL
    by_cases h0 : L.length < 2
    · rw [fParse_short h0]; simp [fOk, h0]
    · cases h1 : fMay (fLen L) with
      | false => rw [fParse_bad h0 h1]; simp [fOk]
      | true =>
        by_cases h2 : L.length < 2 + fLen L
        · rw [fParse_part h0 h1 h2]; simp [fOk, h0, h1]; omega
        · rw [fParse_more h0 h1 h2]
          have h := ih (L.drop (2 + fLen L)).length (by rw [List.length_drop]; omega) _ rfl
          refine ⟨h.1, Nat.le_trans h.2 (by rw [List.length_drop]; omega)⟩
theorem fParse_right (L : List UInt8) : fOk (fParse L).2.1 (fParse L).2.2 = true := (fParse_ok _ L rfl).1
theorem fParse_app (n : Nat) : ∀ L M : List UInt8, L.length = n → fParse (L ++ M) = if (fParse L).2.2 then ((fParse L).1, [], true) else ((fParse L).1 ++ (fParse ((fParse L).2.1 ++ M)).1, (fParse ((fParse L).2.1 ++ M)).2) := by
  induction n using Nat.strongRecOn with
  | _ n ih =>
    intro L M hL
    by_cases h0 : L.length < 2
    · rw [fParse_short h0]; simp
    · have hl : ¬(L ++ M).length < 2 := by rw [List.length_append]; omega
      have hf : fLen (L ++ M) = fLen L := fLen_app (by omega)
      cases h1 : fMay (fLen L) with
      | false => rw [fParse_bad h0 h1, fParse_bad hl (by rw [hf]; exact h1)]; simp
      | true =>
        by_cases h2 : L.length < 2 + fLen L
        · rw [fParse_part h0 h1 h2]; simp
        · rw [fParse_more hl (by rw [hf]; exact h1) (by rw [hf, List.length_append]; omega), hf, List.drop_append_of_le_length (by omega), List.drop_append_of_le_length (by omega), List.take_append_of_le_length (by rw [List.length_drop]; omega)]
          rw [ih (L.drop (2 + fLen L)).length (by rw [List.length_drop]; omega) _ M rfl]
          rw [fParse_more h0 h1 h2]
          cases h3 : (fParse (L.drop (2 + fLen L))).2.2 <;> simp [h3]
theorem fParse_append (L M : List UInt8) : fParse (L ++ M) = if (fParse L).2.2 then ((fParse L).1, [], true) else ((fParse L).1 ++ (fParse ((fParse L).2.1 ++ M)).1, (fParse ((fParse L).2.1 ++ M)).2) := fParse_app _ L M rfl
/-- A byte more. -/
theorem fStep_short {R : List UInt8} {x : UInt8} (h2 : (R ++ [x]).length < 2) : fOk (R ++ [x]) false = true := by
  unfold fOk
  simp only [Bool.false_eq_true, if_false]
  rw [if_pos h2]
theorem fStep_bad {R T : List UInt8} {x : UInt8} (h2 : ¬(R ++ [x]).length < 2) (h1 : fMay (fLen (R ++ [x])) = false) : fParse (R ++ x :: T) = ([], [], true) := by
  have e : R ++ x :: T = (R ++ [x]) ++ T := by simp
  rw [e]
  exact fParse_bad (by rw [List.length_append]; omega) (by rw [fLen_app (by omega)]; exact h1)
theorem fParse_full {S T : List UInt8} (h2 : ¬S.length < 2) (h1 : fMay (fLen S) = true) (h3 : S.length = 2 + fLen S) : fParse (S ++ T) = (S.drop 2 :: (fParse T).1, (fParse T).2) := by
  have hf : fLen (S ++ T) = fLen S := fLen_app (by omega)
  have e1 : (S ++ T).drop (2 + fLen S) = T := by rw [← h3, List.drop_left]
  rw [fParse_more (by rw [List.length_append]; omega) (by rw [hf]; exact h1) (by rw [hf, List.length_append]; omega), hf, e1, List.drop_append_of_le_length (by omega), List.take_append_of_le_length (by rw [List.length_drop]; omega), List.take_of_length_le (by rw [List.length_drop]; omega)]
theorem fStep_full {R T : List UInt8} {x : UInt8} (h2 : ¬(R ++ [x]).length < 2) (h1 : fMay (fLen (R ++ [x])) = true) (h3 : (R ++ [x]).length = 2 + fLen (R ++ [x])) : fParse (R ++ x :: T) = ((R ++ [x]).drop 2 :: (fParse T).1, (fParse T).2) := by
  have e : R ++ x :: T = (R ++ [x]) ++ T := by simp
  rw [e]
  exact fParse_full h2 h1 h3
theorem fStep_part {R : List UInt8} {x : UInt8} (h : fOk R false = true) (h2 : ¬(R ++ [x]).length < 2) (h1 : fMay (fLen (R ++ [x])) = true) (h3 : ¬(R ++ [x]).length = 2 + fLen (R ++ [x])) : fOk (R ++ [x]) false = true := by
  unfold fOk
  simp only [Bool.false_eq_true, if_false]
  rw [if_neg h2, h1, Bool.true_and, decide_eq_true_iff]
  have hl : (R ++ [x]).length = R.length + 1 := by simp
  have hm := fMay_iff.1 h1
  by_cases h0 : R.length < 2
  · omega
  · have hf : fLen (R ++ [x]) = fLen R := fLen_app (by omega)
    simp [fOk, h0] at h
    omega
/-- A whole frame ahead. -/
def fPutL (L : List UInt8) : List UInt8 := [UInt8.ofNat (L.length / 256), UInt8.ofNat L.length] ++ L
theorem fPutL_len (L : List UInt8) : (fPutL L).length = L.length + 2 := by simp [fPutL]
theorem fLen_put {L : List UInt8} (T : List UInt8) (h : L.length < 65536) : fLen (fPutL L ++ T) = L.length := by
  have h1 : (UInt8.ofNat (L.length / 256)).toNat = L.length / 256 := by rw [UInt8.toNat_ofNat']; omega
  have h2 : (UInt8.ofNat L.length).toNat = L.length % 256 := by rw [UInt8.toNat_ofNat']
  show 256 * (UInt8.ofNat (L.length / 256)).toNat + (UInt8.ofNat L.length).toNat = _
  rw [h1, h2]
  omega
theorem fParse_put {L : List UInt8} (T : List UInt8) (h1 : 1 ≤ L.length) (h2 : L.length ≤ 2048) : fParse (fPutL L ++ T) = (L :: (fParse T).1, (fParse T).2) := by
  have hf := fLen_put T (L := L) (by omega)
  have hl : (fPutL L ++ T).length = L.length + 2 + T.length := by rw [List.length_append, fPutL_len]
  rw [fParse_more (by omega) (by rw [hf]; exact fMay_iff.2 ⟨h1, h2⟩) (by omega), hf]
  have e1 : (fPutL L ++ T).drop 2 = L ++ T := rfl
  have e2 : (fPutL L ++ T).drop (2 + L.length) = T := by rw [← List.drop_drop, e1]; simp
  rw [e1, e2, List.take_append_of_le_length (Nat.le_refl _), List.take_length]
theorem fParse_puts {l : List (List UInt8)} (h : ∀ b ∈ l, 1 ≤ b.length ∧ b.length ≤ 2048) : fParse (l.map fPutL).flatten = (l, [], false) := by
  induction l with
  | nil => exact fParse_short (by simp)
  | cons b l ih =>
    have hb := h b (by simp)
    rw [List.map_cons, List.flatten_cons, fParse_put _ hb.1 hb.2, ih fun c hc => h c (by simp [hc])]
/-- What comes of a reader by bytes. -/
structure FFed where
  rest : List UInt8
  br : Bool
  told : List (List UInt8)
  e : Int
def fFeed (R : List UInt8) (br : Bool) (B : List UInt8) : FFed :=
  if fOk R br = false then ⟨R, br, [], 1⟩ else if br then ⟨[], true, [], 12⟩
  else ⟨(fParse (R ++ B)).2.1, (fParse (R ++ B)).2.2, (fParse (R ++ B)).1, if (fParse (R ++ B)).2.2 then 12 else 0⟩
theorem fFeed_bad {R B : List UInt8} {br : Bool} (h : fOk R br = false) : fFeed R br B = ⟨R, br, [], 1⟩ := if_pos h
theorem fFeed_br {R B : List UInt8} (h : fOk R true = true) : fFeed R true B = ⟨[], true, [], 12⟩ := by simp [fFeed, h]
theorem fFeed_go {R B : List UInt8} (h : fOk R false = true) : fFeed R false B = ⟨(fParse (R ++ B)).2.1, (fParse (R ++ B)).2.2, (fParse (R ++ B)).1, if (fParse (R ++ B)).2.2 then 12 else 0⟩ := by simp [fFeed, h]
theorem fOk_br {R : List UInt8} (h : fOk R true = true) : R = [] := by simpa [fOk] using h
theorem fFeed_right {R B : List UInt8} {br : Bool} (h : fOk R br = true) : fOk (fFeed R br B).rest (fFeed R br B).br = true := by
  cases br
  · rw [fFeed_go h]; exact fParse_right _
  · rw [fFeed_br h]; rfl
/-- In two parts. -/
theorem fFeed_two {R A B : List UInt8} {br : Bool} (h : fOk R br = true) : fFeed R br (A ++ B) = { fFeed (fFeed R br A).rest (fFeed R br A).br B with told := (fFeed R br A).told ++ (fFeed (fFeed R br A).rest (fFeed R br A).br B).told } := by
  cases br
  · rw [fFeed_go h, fFeed_go h]
    simp only
    have hr := fParse_right (R ++ A)
    rw [← List.append_assoc, fParse_append (R ++ A) B]
    cases hb : (fParse (R ++ A)).2.2
    · rw [hb] at hr
      rw [fFeed_go hr]
      simp
    · rw [hb] at hr
      rw [fFeed_br hr]
      simp
  · rw [fFeed_br h, fFeed_br h]
    rfl
theorem fFeed_e {R B : List UInt8} {br : Bool} (h : fOk R br = true) : (fFeed R br B).e = if (fFeed R br B).br then 12 else 0 := by
  cases br
  · rw [fFeed_go h]
  · rw [fFeed_br h]; rfl
end Go.Vd

set_option linter.unusedVariables false
set_option linter.unusedSimpArgs false
set_option maxRecDepth 100000
set_option maxHeartbeats 1000000
namespace Go.Vd
open Go.Proofs
def sR (A : Ar) (L : Unit → List UInt8) (br : Bool) : SV := .agg [rowS eB 0 1 A L, .bool br]
theorem wU8 (z : Int) (h : 0 ≤ z) : IntKind.u8.wrap z = ((UInt8.ofNat z.toNat).toNat : Int) := by
  rw [IntKind.wrap_u8, UInt8.toNat_ofNat']
  omega
theorem wB (x : UInt8) : IntKind.i64.wrap (x.toNat : Int) = x.toNat := w64 (by have := x.toNat_lt; omega)
theorem flen_bits (x y : UInt8) : bits .or .i64 (IntKind.i64.wrap (IntKind.i64.wrap (x.toNat : Int) * 2 ^ min 8 IntKind.i64.bits)) (IntKind.i64.wrap (y.toNat : Int)) = ((256 * x.toNat + y.toNat : Nat) : Int) := by
  have hx := x.toNat_lt
  have hy := y.toNat_lt
  rw [wB, wB, show (2 : Int) ^ min 8 IntKind.i64.bits = 256 from rfl, w64 (n := (x.toNat : Int) * 256) (by omega)]
  exact or_two _ _ hx hy
theorem flen_sum (x y : UInt8) : IntKind.i64.wrap (IntKind.i64.wrap (256 * IntKind.i64.wrap (x.toNat : Int)) + IntKind.i64.wrap (y.toNat : Int)) = ((256 * x.toNat + y.toNat : Nat) : Int) := by
  have hx := x.toNat_lt
  have hy := y.toNat_lt
  rw [wB, wB, w64 (n := 256 * (x.toNat : Int)) (by omega), w64 (by omega)]
  omega
theorem good_may (n : Int) : GoodP Tryz.prog gl0 51 [.int .i64 n] (.bool (std.tb fun _ => fMay n)) := by
  refine fn_sound' (T := seatT) (G := noC) (X := noX) seatT_ok noC_ok noX_ok noI_ok mixed Tryz.func51 (.one) (fun A => [.int .i64 n]) (fun A => .bool (A.tb fun _ => fMay n)) fun A hA => ?_
  cbv
  repeat' (first | with_reducible exact True.intro | with_reducible exact dr_ok hA (by kernel_rfl) | with_reducible refine And.intro ?_ ?_ | (intro hc; cbv))
  all_goals (subst hA; simp [-List.getD_eq_getElem?_getD, sS]; try simp [fMay])
theorem good_rmay (n : Int) : GoodP Tryz.prog gl0 102 [.int .i64 n] (.bool (std.tb fun _ => fMay n)) := by
  refine fn_sound' (T := seatT) (G := noC) (X := noX) seatT_ok noC_ok noX_ok noI_ok mixed Tryz.func102 (.one) (fun A => [.int .i64 n]) (fun A => .bool (A.tb fun _ => fMay n)) fun A hA => ?_
  cbv
  repeat' (first | with_reducible exact True.intro | with_reducible exact dr_ok hA (by kernel_rfl) | with_reducible refine And.intro ?_ ?_ | (intro hc; cbv))
  all_goals (subst hA; simp [-List.getD_eq_getElem?_getD, sS]; try simp [fMay])
  all_goals (rw [Bool.eq_iff_iff]; simp; omega)
theorem good_flen (L : List UInt8) (h2 : 2 ≤ L.length) : GoodP Tryz.prog gl0 50 [rowS eB 0 1 std fun _ => L] (.int .i64 (std.ti fun _ => (fLen L : Int))) := by
  refine fn_sound' (T := seatT) (G := noC) (X := noX) seatT_ok noC_ok noX_ok noI_ok mixed Tryz.func50 (.one) (fun A => [rowS eB 0 1 A fun _ => L]) (fun A => .int .i64 (A.ti fun _ => (fLen L : Int))) fun A hA => ?_
  cbv
  repeat' (first | with_reducible exact True.intro | with_reducible exact dr_ok hA (by kernel_rfl) | with_reducible refine And.intro ?_ ?_ | (intro hc; cbv))
  all_goals (subst hA; simp [-List.getD_eq_getElem?_getD, sS])
  · omega
  · omega
  · exact flen_bits _ _
noncomputable def c_may : Ct := fun A args => match args with
  | [.int .i64 n] => some (none, .bool (A.tb fun _ => fMay n))
  | _ => none
noncomputable def c_rmay : Ct := fun A args => match args with
  | [.int .i64 n] => some (none, .bool (A.tb fun _ => fMay n))
  | _ => none
noncomputable def c_flen : Ct := fun A args => match args with
  | [.slc n 1 f] => some (some (A.tp fun _ => isRow eB 0 1 n f ∧ 2 ≤ n), .int .i64 (A.ti fun _ => (fLen (lstOf eB 0 1 n f) : Int)))
  | _ => none
noncomputable def gf1 : Ar → Pu := addC 51 c_may (addC 102 c_rmay (addC 50 c_flen (noC)))
theorem gf1_ok : PuOk Tryz.prog gl0 (gf1 std) := by
  refine addC_ok (addC_ok (addC_ok (noC_ok) ⟨_, Tryz.func50, rfl, by decide⟩ ?_) ⟨_, Tryz.func102, rfl, by decide⟩ ?_) ⟨_, Tryz.func51, rfl, by decide⟩ ?_
  · intro args p r h hp
    unfold c_flen at h
    split at h <;> cases h
    exact good_sv (good_flen _ (by rw [lstOf_length hp.1]; exact hp.2)) ⟨hp.1.sv, trivial⟩
  · intro args p r h hp
    unfold c_rmay at h
    split at h <;> cases h
    exact good_rmay _
  · intro args p r h hp
    unfold c_may at h
    split at h <;> cases h
    exact good_may _
theorem good_fRight (br : Bool) (L : List UInt8) : GoodP Tryz.prog gl0 15 [sR std (fun _ => L) br] (.bool (std.tb fun _ => fOk L br)) := by
  refine fn_sound' (T := seatT) (G := gf1) (X := noX) seatT_ok gf1_ok noX_ok noI_ok mixed Tryz.func15 (.one) (fun A => [sR A (fun _ => L) br]) (fun A => .bool (A.tb fun _ => fOk L br)) fun A hA => ?_
  cbv
  repeat' (first | with_reducible exact True.intro | with_reducible exact dr_ok hA (by kernel_rfl) | with_reducible refine And.intro ?_ ?_ | (intro hc; cbv))
  all_goals (subst hA; simp [-List.getD_eq_getElem?_getD, sS, strOf_lit, lstOf_lit inj_eB, lstOf_lit inj_eZ, lstOf_lit inj_eBs, lstOf_lit inj_eS, isRow_lit, isB_lit, isRow_nil, lstOf_nil inj_eB, lstOf_nil inj_eZ, lstOf_nil inj_eBs, lstOf_nil inj_eS] at *)
  all_goals (have hF := fLen_lt L)
  all_goals (have hF2 : IntKind.i64.wrap (2 + (fLen L : Int)) = 2 + (fLen L : Int) := w64 (by omega))
  all_goals (have hG : IntKind.i64.wrap (IntKind.i64.wrap (256 * IntKind.i64.wrap ((L.getD 0 0).toNat : Int)) + IntKind.i64.wrap ((L.getD 1 0).toNat : Int)) = (fLen L : Int) := flen_sum _ _)
  all_goals first
    | omega
    | (simp only [fOk, hc, if_true]; rw [Bool.eq_iff_iff]; simp; done)
    | (rename_i h0; unfold fOk; rw [h0, if_neg Bool.false_ne_true, if_pos (by omega)])
    | (rename_i h0; unfold fOk; rw [h0, if_neg Bool.false_ne_true, if_neg (by omega), hF2]; (rw [Bool.eq_iff_iff]; simp; omega))
    | (rename_i h0; unfold fOk; rw [h0, if_neg Bool.false_ne_true, if_neg (by omega), hG, hF2]; (rw [Bool.eq_iff_iff]; simp; omega))
    | trace_state
theorem good_rfRight (br : Bool) (L : List UInt8) : GoodP Tryz.prog gl0 48 [sR std (fun _ => L) br] (.bool (std.tb fun _ => fOk L br)) := by
  refine fn_sound' (T := seatT) (G := gf1) (X := noX) seatT_ok gf1_ok noX_ok noI_ok mixed Tryz.func48 (.one) (fun A => [sR A (fun _ => L) br]) (fun A => .bool (A.tb fun _ => fOk L br)) fun A hA => ?_
  cbv
  repeat' (first | with_reducible exact True.intro | with_reducible exact dr_ok hA (by kernel_rfl) | with_reducible refine And.intro ?_ ?_ | (intro hc; cbv))
  all_goals (subst hA; simp [-List.getD_eq_getElem?_getD, sS, strOf_lit, lstOf_lit inj_eB, lstOf_lit inj_eZ, lstOf_lit inj_eBs, lstOf_lit inj_eS, isRow_lit, isB_lit, isRow_nil, lstOf_nil inj_eB, lstOf_nil inj_eZ, lstOf_nil inj_eBs, lstOf_nil inj_eS] at *)
  all_goals (have hF := fLen_lt L)
  all_goals (have hF2 : IntKind.i64.wrap (2 + (fLen L : Int)) = 2 + (fLen L : Int) := w64 (by omega))
  all_goals (have hG : IntKind.i64.wrap (IntKind.i64.wrap (256 * IntKind.i64.wrap ((L.getD 0 0).toNat : Int)) + IntKind.i64.wrap ((L.getD 1 0).toNat : Int)) = (fLen L : Int) := flen_sum _ _)
  all_goals first
    | omega
    | (simp only [fOk, hc, if_true]; rw [Bool.eq_iff_iff]; simp; done)
    | (rename_i h0; unfold fOk; rw [h0, if_neg Bool.false_ne_true, if_pos (by omega)])
    | (rename_i h0; unfold fOk; rw [h0, if_neg Bool.false_ne_true, if_neg (by omega), hF2]; (rw [Bool.eq_iff_iff]; simp; omega))
    | (rename_i h0; unfold fOk; rw [h0, if_neg Bool.false_ne_true, if_neg (by omega), hG, hF2]; (rw [Bool.eq_iff_iff]; simp; omega))
    | trace_state
theorem good_rfPut (L : List UInt8) (hL : L.length ≤ 1000000) : GoodP Tryz.prog gl0 68 [rowS eB 0 1 std fun _ => L] (rowS eB 0 1 std fun _ => fPutL L) := by
  refine fn_sound' (T := seatT) (G := gf1) (X := noX) seatT_ok gf1_ok noX_ok noI_ok mixed Tryz.func68 (.none) (fun A => [rowS eB 0 1 A fun _ => L]) (fun A => rowS eB 0 1 A fun _ => fPutL L) fun A hA => ?_
  cbv
  repeat' (first | with_reducible exact True.intro | with_reducible exact dr_ok hA (by kernel_rfl) | with_reducible refine And.intro ?_ ?_ | (intro hc; cbv))
  all_goals (subst hA; simp [-List.getD_eq_getElem?_getD, sS, strOf_lit, lstOf_lit inj_eB, lstOf_lit inj_eZ, lstOf_lit inj_eBs, lstOf_lit inj_eS, isRow_lit, isB_lit, isRow_nil, lstOf_nil inj_eB, lstOf_nil inj_eZ, lstOf_nil inj_eBs, lstOf_nil inj_eS] at *)
  all_goals (have p1 : IntKind.u8.wrap (IntKind.i64.wrap ((L.length : Int) / 256)) = ((UInt8.ofNat (L.length / 256)).toNat : Int) := by rw [w64 (by omega), wU8 _ (by omega)]; rfl)
  all_goals (have p2 : IntKind.u8.wrap ((L.length : Int).tmod 256) = ((UInt8.ofNat L.length).toNat : Int) := by rw [Int.tmod_eq_emod_of_nonneg (by omega), wU8 _ (by omega), UInt8.toNat_ofNat', UInt8.toNat_ofNat']; omega)
  all_goals first
    | omega
    | (constructor <;> omega)
    | (simp [fPutL]; omega)
    | exact eqr_of (Reps.catE (Reps.lst (l := [[_], [_]]) (L := [UInt8.ofNat (L.length / 256), UInt8.ofNat L.length]) ⟨cell_eB p1, cell_eB p2, trivial⟩) (Reps.lit L) rfl) (by simp [fPutL]; omega) rfl
    | trace_state
theorem put_row {L : List UInt8} {n m : Nat} {z0 z1 : Int} (hL : L.length ≤ 1000000) (hm : m = L.length) (hn : n = L.length + 2) (h0 : z0 = ((UInt8.ofNat (L.length / 256)).toNat : Int)) (h1 : z1 = ((UInt8.ofNat L.length).toNat : Int)) :
    eqrS n 1 (rcopyS (rsetS (rsetS (fun _ => getAt [SV.int IntKind.u8 0]) 0 0 [SV.int IntKind.u8 z0]) 1 0 [SV.int IntKind.u8 z1]) 2 m (rowF eB 0 std fun _ => L)) (rowF eB 0 std fun _ => fPutL L) := by
  subst hm hn
  have F := Reps.fill (enc := eB) (d := 0) (k := 1) (n := L.length + 2) (g := fun _ => getAt [SV.int IntKind.u8 0]) (x := 0) (cell_eB (by simp)) (fun i => rfl)
  have R := ((F.rset' (i := 0) (by omega) (UInt8.ofNat (L.length / 256)) rfl (cell_eB h0)).rset' (i := 1) (by omega) (UInt8.ofNat L.length) rfl (cell_eB h1)).rcopy (.lit L) 2 (by omega)
  refine (R.congr rfl ?_).eqr
  simp [List.replicate_succ, fPutL]
  omega
theorem min_two (n : Nat) : (((2 + (n : Int)).toNat - 2).min n) = n := by
  have h : (2 + (n : Int)).toNat - 2 = n := by omega
  rw [h]
  exact Nat.min_self _
theorem good_fPut (L : List UInt8) (hL : L.length ≤ 1000000) : GoodP Tryz.prog gl0 64 [rowS eB 0 1 std fun _ => L] (.tup [rowS eB 0 1 std fun _ => if L.length = 0 then [] else if 2048 < L.length then [] else fPutL L, .int .i64 (std.ti fun _ => if L.length = 0 then 2 else if 2048 < L.length then 4 else 0)]) := by
  refine fn_sound' (T := seatT) (G := gf1) (X := noX) seatT_ok gf1_ok noX_ok noI_ok mixed Tryz.func64 (.none) (fun A => [rowS eB 0 1 A fun _ => L]) (fun A => .tup [rowS eB 0 1 A fun _ => if L.length = 0 then [] else if 2048 < L.length then [] else fPutL L, .int .i64 (A.ti fun _ => if L.length = 0 then 2 else if 2048 < L.length then 4 else 0)]) fun A hA => ?_
  cbv
  repeat' (first | with_reducible exact True.intro | with_reducible exact dr_ok hA (by kernel_rfl) | with_reducible refine And.intro ?_ ?_ | (intro hc; cbv))
  all_goals (subst hA; simp [-List.getD_eq_getElem?_getD, sS, strOf_lit, lstOf_lit inj_eB, lstOf_lit inj_eZ, lstOf_lit inj_eBs, lstOf_lit inj_eS, isRow_lit, isB_lit, isRow_nil, lstOf_nil inj_eB, lstOf_nil inj_eZ, lstOf_nil inj_eBs, lstOf_nil inj_eS] at *)
  all_goals first
    | exact fun h => absurd hc h
    | (rw [if_pos hc]; rfl)
    | (have h0 : ¬L = [] := by assumption
       have w1 : IntKind.i64.wrap (2 + (L.length : Int)) = 2 + (L.length : Int) := w64 (by omega)
       first
         | (rw [if_neg h0, if_pos (by omega)]; done)
         | (rw [if_neg h0, if_pos (by omega)]; rfl)
         | (rw [if_neg h0, if_neg (by omega)]; done)
         | (rw [w1]; omega)
         | (rw [if_neg h0, if_neg (by omega), w1]; (simp [fPutL]; omega))
         | (rw [if_neg h0, if_neg (by omega), w1]; (exact put_row hL (min_two _) (by simp [fPutL]) (by rw [show (2 : Int) ^ min 8 IntKind.i64.bits = 256 from rfl, Int.fdiv_eq_ediv_of_nonneg _ (by omega), wU8 _ (by omega)]; rfl) (by rw [wU8 _ (by omega)]; rfl)))
         | trace_state)
    | trace_state
theorem good_fSame (br bs : Bool) (L M : List UInt8) : GoodP Tryz.prog gl0 14 [sR std (fun _ => L) br, sR std (fun _ => M) bs] (.bool (std.tb fun _ => decide (br = bs ∧ L = M))) := by
  refine fn_sound' (T := seatT) (G := gf1) (X := noX) seatT_ok gf1_ok noX_ok noI_ok mixed Tryz.func14 (.one) (fun A => [sR A (fun _ => L) br, sR A (fun _ => M) bs]) (fun A => .bool (A.tb fun _ => decide (br = bs ∧ L = M))) fun A hA => ?_
  cbv
  repeat' (first | with_reducible exact True.intro | with_reducible exact dr_ok hA (by kernel_rfl) | with_reducible refine And.intro ?_ ?_ | (intro hc; cbv))
  all_goals (subst hA; simp [-List.getD_eq_getElem?_getD, sS, strOf_lit, lstOf_lit inj_eB, lstOf_lit inj_eZ, lstOf_lit inj_eBs, lstOf_lit inj_eS, isRow_lit, isB_lit, isRow_nil, lstOf_nil inj_eB, lstOf_nil inj_eZ, lstOf_nil inj_eBs, lstOf_nil inj_eS] at *)
  rw [Bool.eq_iff_iff]; simp
end Go.Vd

set_option linter.unusedVariables false
set_option linter.unusedSimpArgs false
set_option maxRecDepth 100000
set_option maxHeartbeats 1000000
namespace Go.Vd
open Go.Proofs
noncomputable def iG : Nat → Option Func := addI 103 Tryz.f103 noI
theorem iG_ok : InOk Tryz.prog iG := addI_ok noI_ok Tryz.func103 (by kernel_rfl)
def bsSmall (L : List (List UInt8)) : Prop := L.length ≤ 10 ∧ ∀ b ∈ L, b.length ≤ 1000000
theorem small_getD {L : List (List UInt8)} (h : bsSmall L) (i : Nat) : (L.getD i []).length ≤ 1000000 := by
  rw [List.getD_eq_getElem?_getD]
  rcases Nat.lt_or_ge i L.length with hi | hi
  · rw [List.getElem?_eq_getElem hi]; exact h.2 _ (List.getElem_mem hi)
  · rw [List.getElem?_eq_none hi]; simp
theorem flat_snoc {L : List (List UInt8)} {i : Nat} (hi : i < L.length) : (L.take (i + 1)).flatten = (L.take i).flatten ++ L.getD i [] := by
  rw [← take_snoc (d := []) hi]; simp
theorem flat_le (L : List (List UInt8)) (j : Nat) : (L.take j).flatten.length ≤ L.flatten.length := by
  conv => rhs; rw [← List.take_append_drop j L, List.flatten_append, List.length_append]
  omega
theorem zero_row (S : Nat) : eqrS S 1 (fun _ => getAt [SV.int IntKind.u8 0]) (rowF eB 0 std fun _ => List.replicate S 0) :=
  (Reps.fill (enc := eB) (d := 0) (k := 1) (n := S) (g := fun _ => getAt [SV.int IntKind.u8 0]) (x := 0) (cell_eB (by simp)) (fun i => rfl)).eqr
theorem put_in {R M : List UInt8} {g S : Nat} (hR : R.length = S) (h : g + M.length ≤ S) : ∃ R', R'.length = S ∧ R'.take (g + M.length) = R.take g ++ M ∧ eqrS S 1 (rcopyS (rowF eB 0 std fun _ => R) g M.length (rowF eB 0 std fun _ => M)) (rowF eB 0 std fun _ => R') := by
  subst hR
  have h1 := (Reps.lit (enc := eB) (d := 0) (k := 1) R).rcopy (.lit M) g h
  refine ⟨_, h1.1, ?_, h1.eqr⟩
  have h2 : g + M.length = (R.take g ++ M).length := by rw [List.length_append, List.length_take]; omega
  conv => lhs; rw [h2]
  exact List.take_left
theorem good_Concat (L : List (List UInt8)) (hL : bsSmall L) : GoodP Tryz.prog gl0 52 [rowS eBs [] 1 std fun _ => L] (rowS eB 0 1 std fun _ => L.flatten) := by
  refine fn_sound' (T := seatT) (G := noC) (X := noX) seatT_ok noC_ok noX_ok iG_ok mixed Tryz.func52 (.none) (fun A => [rowS eBs [] 1 A fun _ => L]) (fun A => rowS eB 0 1 A fun _ => L.flatten) fun A hA => ?_
  cbv
  repeat' (first | with_reducible exact True.intro | with_reducible exact dr_ok hA (by kernel_rfl) | with_reducible refine And.intro ?_ ?_ | (intro hc; cbv))
  refine ⟨⟨{p : Nat × Nat // p.1 ≤ L.length ∧ p.2 = (L.take p.1).flatten.length ∧ p.2 ≤ p.1 * 1000000}, fun b p => [(11, .int .i64 (p.1.1 : Nat)), (3, .int .i64 (p.1.2 : Nat))], fun b p => [], fun p => L.length - p.1.1, true⟩, ⟨⟨(0, 0), by simp⟩, ?_⟩, ?_⟩
  · cbv
    subst hA
    simp [-List.getD_eq_getElem?_getD, sS]
  · rintro ⟨⟨i, S⟩, hi, hS, hb⟩
    simp only at hi hS hb
    have h10 := hL.1
    cbv
    repeat' (first | with_reducible exact True.intro | with_reducible exact dr_ok hA (by kernel_rfl) | with_reducible refine And.intro ?_ ?_ | (intro hc; cbv))
    all_goals (try (subst hA; simp [-List.getD_eq_getElem?_getD, sS, strOf_lit, lstOf_lit inj_eB, lstOf_lit inj_eZ, lstOf_lit inj_eBs, lstOf_lit inj_eS, isRow_lit, isB_lit, isRow_nil, lstOf_nil inj_eB, lstOf_nil inj_eZ, lstOf_nil inj_eBs, lstOf_nil inj_eS] at *; done))
    · subst hA; simp [sS] at *; omega
    · exfalso
      have := small_getD hL i
      subst hA
      simp [-List.getD_eq_getElem?_getD, sS] at *
      have hw := w64 (n := (S : Int) + ((L.getD i []).length : Int)) (by omega)
      rw [hw] at hc
      omega
    · rename_i h1
      have hlt : i < L.length := by subst hA; simp [sS] at h1; omega
      have hm := small_getD hL i
      obtain ⟨S', hS'⟩ : ∃ S', S' = S + (L.getD i []).length := ⟨_, rfl⟩
      refine ⟨⟨(i + 1, S'), by omega, by rw [hS', flat_snoc hlt, List.length_append, hS], by omega⟩, ?_, show L.length - (i + 1) < L.length - i by omega⟩
      cbv
      subst hA
      simp [-List.getD_eq_getElem?_getD, sS, strOf_lit, lstOf_lit inj_eB, lstOf_lit inj_eZ, lstOf_lit inj_eBs, lstOf_lit inj_eS, isRow_lit, isB_lit, isRow_nil, lstOf_nil inj_eB, lstOf_nil inj_eZ, lstOf_nil inj_eBs, lstOf_nil inj_eS]
      exact ⟨(w64 (by omega)).trans (by omega), w64 (by omega)⟩
    all_goals (have hie : i = L.length := by first | (subst hA; simp [sS] at hc; omega) | (rename_i h1; subst hA; simp [sS] at h1; omega) | (rename_i h1 h2; subst hA; simp [sS] at h1; omega))
    all_goals (have hSf : S = L.flatten.length := by rw [hS, hie, List.take_length])
    all_goals (have wS : IntKind.i64.wrap ((S : Int) - IntKind.i64.wrap 0) = S := by rw [w64 (n := 0) (by omega), w64 (by omega)]; omega)
    · subst hA; simp [sS] at hc; omega
    · subst hA; simp [sS, wS] at hc ⊢; omega
    · subst hA; simp [sS, wS]
    · have hS0 : 0 < S := by subst hA; simp [sS, wS] at hc; omega
      obtain ⟨Z, hZ⟩ : ∃ Z, Z = List.replicate S (0 : UInt8) := ⟨_, rfl⟩
      refine ⟨⟨{p : Nat × Nat × List UInt8 // p.1 ≤ L.length ∧ p.2.1 = (L.take p.1).flatten.length ∧ p.2.2.length = S ∧ p.2.2.take p.2.1 = (L.take p.1).flatten}, fun b p => [(27, .int .i64 (p.1.1 : Nat)), (6, .part 33 1 0 (A.tn fun _ => p.1.2.1))], fun b p => [(33, .row 5 1 (A.tn fun _ => S) (rowF eB 0 A fun _ => p.1.2.2))], fun p => L.length - p.1.1, true⟩, ⟨⟨(0, 0, Z), by simp [hZ]⟩, ?_⟩, ?_⟩
      · cbv
        subst hA
        simp [-List.getD_eq_getElem?_getD, sS, strOf_lit, lstOf_lit inj_eB, lstOf_lit inj_eZ, lstOf_lit inj_eBs, lstOf_lit inj_eS, isRow_lit, isB_lit, isRow_nil, lstOf_nil inj_eB, lstOf_nil inj_eZ, lstOf_nil inj_eBs, lstOf_nil inj_eS]
        exact ⟨by rw [wS]; simp, hZ ▸ zero_row S⟩
      · rintro ⟨⟨k, g, R⟩, hk, hg, hR, hT⟩
        simp only at hk hg hR hT
        cbv
        repeat' (first | with_reducible exact True.intro | with_reducible exact dr_ok hA (by kernel_rfl) | with_reducible refine And.intro ?_ ?_ | (intro hc; cbv))
        all_goals (try (subst hA; simp [-List.getD_eq_getElem?_getD, sS, strOf_lit, lstOf_lit inj_eB, lstOf_lit inj_eZ, lstOf_lit inj_eBs, lstOf_lit inj_eS, isRow_lit, isB_lit, isRow_nil, lstOf_nil inj_eB, lstOf_nil inj_eZ, lstOf_nil inj_eBs, lstOf_nil inj_eS] at *; done))
        · subst hA; simp [sS] at hc ⊢; omega
        · have hlt : k < L.length := by subst hA; simp [sS] at hc; omega
          have h1 := flat_le L (k + 1)
          rw [flat_snoc hlt, List.length_append] at h1
          subst hA; simp [-List.getD_eq_getElem?_getD, sS]; omega
        · have hlt : k < L.length := by subst hA; simp [sS] at hc; omega
          have h1 := flat_le L (k + 1)
          rw [flat_snoc hlt, List.length_append] at h1
          obtain ⟨R', hR', hT', hE⟩ := put_in (M := L.getD k []) (g := g) hR (by omega)
          obtain ⟨g', hg'⟩ : ∃ g', g' = g + (L.getD k []).length := ⟨_, rfl⟩
          refine ⟨⟨(k + 1, g', R'), by omega, by rw [hg', flat_snoc hlt, List.length_append, hg], hR', by rw [hg', hT', hT, flat_snoc hlt]⟩, ?_, show L.length - (k + 1) < L.length - k by omega⟩
          cbv
          subst hA
          simp [-List.getD_eq_getElem?_getD, sS, strOf_lit, lstOf_lit inj_eB, lstOf_lit inj_eZ, lstOf_lit inj_eBs, lstOf_lit inj_eS, isRow_lit, isB_lit, isRow_nil, lstOf_nil inj_eB, lstOf_nil inj_eZ, lstOf_nil inj_eBs, lstOf_nil inj_eS]
          exact ⟨⟨hg'.symm, w64 (by omega)⟩, hE⟩
        all_goals (have hke : k = L.length := by subst hA; simp [sS] at hc; omega)
        all_goals (have hgf : g = L.flatten.length := by rw [hg, hke, List.take_length])
        · subst hA; simp [sS, hgf]
        · subst hA
          simp only [sS]
          refine (((Reps.lit (enc := eB) (d := 0) (k := 1) R).shift (m := L.flatten.length) 0 (by omega)).congr rfl ?_).eqr
          rw [List.drop_zero, ← hgf, hT, hke, List.take_length]
    · have hS0 : S = 0 := by subst hA; simp [sS, wS] at hc; omega
      have hall : ∀ k, k < L.length → (L.getD k []).length = 0 := by
        intro k hk
        have h1 := flat_le L (k + 1)
        rw [flat_snoc hk, List.length_append] at h1
        omega
      refine ⟨⟨{k : Nat // k ≤ L.length}, fun b k => [(27, .int .i64 (k.1 : Nat)), (6, .own b)], fun b k => [(b, .row 5 1 (A.tn fun _ => 0) (rowF eB 0 A fun _ => []))], fun k => L.length - k.1, true⟩, ⟨⟨0, by omega⟩, ?_⟩, ?_⟩
      · cbv
        subst hA
        simp [-List.getD_eq_getElem?_getD, sS, strOf_lit, lstOf_lit inj_eB, lstOf_lit inj_eZ, lstOf_lit inj_eBs, lstOf_lit inj_eS, isRow_lit, isB_lit, isRow_nil, lstOf_nil inj_eB, lstOf_nil inj_eZ, lstOf_nil inj_eBs, lstOf_nil inj_eS]
      · rintro ⟨k, hk⟩
        cbv
        repeat' (first | with_reducible exact True.intro | with_reducible exact dr_ok hA (by kernel_rfl) | with_reducible refine And.intro ?_ ?_ | (intro hc; cbv))
        all_goals (try (subst hA; simp [-List.getD_eq_getElem?_getD, sS, strOf_lit, lstOf_lit inj_eB, lstOf_lit inj_eZ, lstOf_lit inj_eBs, lstOf_lit inj_eS, isRow_lit, isB_lit, isRow_nil, lstOf_nil inj_eB, lstOf_nil inj_eZ, lstOf_nil inj_eBs, lstOf_nil inj_eS] at *; done))
        all_goals first
          | (subst hA; simp [sS] at hc ⊢; omega)
          | (have hlt : k < L.length := by (subst hA; simp [sS] at hc; omega)
             have h0 := hall k hlt
             refine ⟨⟨k + 1, by omega⟩, ?_, show L.length - (k + 1) < L.length - k by omega⟩
             cbv
             subst hA
             simp [-List.getD_eq_getElem?_getD, sS, strOf_lit, lstOf_lit inj_eB, lstOf_lit inj_eZ, lstOf_lit inj_eBs, lstOf_lit inj_eS, isRow_lit, isB_lit, isRow_nil, lstOf_nil inj_eB, lstOf_nil inj_eZ, lstOf_nil inj_eBs, lstOf_nil inj_eS, h0]
             first
               | exact w64 (by omega)
               | exact ⟨w64 (by omega), fun a c ha => absurd ha (by omega)⟩
               | exact ⟨⟨h0, w64 (by omega)⟩, fun a c ha => absurd ha (by omega)⟩
               | trace_state)
          | (have hlt : k < L.length := by (subst hA; simp [sS] at hc; omega)
             have h0 := hall k hlt
             subst hA; simp [-List.getD_eq_getElem?_getD, sS, h0]; done)
          | (subst hA; simp only [sS]; omega)
          | (subst hA; simp only [sS]; (exact fun a c ha => absurd ha (by omega)))
          | trace_state
end Go.Vd

set_option linter.unusedVariables false
set_option linter.unusedSimpArgs false
set_option maxRecDepth 100000
set_option maxHeartbeats 1000000
namespace Go.Vd
open Go.Proofs
def rClone (A : Ar) (L : Unit → List UInt8) : SV := .frs 5 1 (A.tn fun _ => (L ()).length) (rowF eB 0 A L)
theorem good_Clone (L : List UInt8) (hL : L.length ≤ 1000000) : GoodP Tryz.prog gl0 47 [rowS eB 0 1 std fun _ => L] (rClone std fun _ => L) := by
  refine fn_sound' (T := seatT) (G := noC) (X := noX) seatT_ok noC_ok noX_ok noI_ok mixed Tryz.func47 (.fresh 5 1) (fun A => [rowS eB 0 1 A fun _ => L]) (fun A => rClone A fun _ => L) fun A hA => ?_
  cbv
  repeat' (first | with_reducible exact True.intro | with_reducible exact dr_ok hA (by kernel_rfl) | with_reducible refine And.intro ?_ ?_ | (intro hc; cbv))
  all_goals (subst hA; simp only [sS] at *)
  all_goals first
    | omega
    | (constructor <;> omega)
    | (apply eqr_of; (focus (repeat' (first | with_reducible exact Reps.lit _ | with_reducible apply Reps.catE | exact Reps.nil | (simp; done) | omega))); (focus (first | (simp; done) | omega | rfl)); (focus (first | (simp; done) | rfl)))
    | (have := hc (by assumption); omega)
    | (have := hc (by assumption); exact eqr_of Reps.nil (by omega) (List.length_eq_zero_iff.1 this).symm)
noncomputable def c_Clone : Ct := fun A args => match args with
  | [.slc n 1 f] => some (some (A.tp fun _ => isRow eB 0 1 n f ∧ n ≤ 1000000), rClone A fun _ => lstOf eB 0 1 n f)
  | _ => none
noncomputable def c_ConcatF : Ct := fun A args => match args with
  | [.slc n 1 f] => some (some (A.tp fun _ => isRow eBs [] 1 n f ∧ bsSmall (lstOf eBs [] 1 n f)), rowS eB 0 1 A fun _ => (lstOf eBs [] 1 n f).flatten)
  | _ => none
noncomputable def c_fRight : Ct := fun A args => match args with
  | [.agg [.slc n 1 f, .bool br]] => some (some (A.tp fun _ => isRow eB 0 1 n f), .bool (A.tb fun _ => fOk (lstOf eB 0 1 n f) br))
  | _ => none
noncomputable def c_rfRight : Ct := fun A args => match args with
  | [.agg [.slc n 1 f, .bool br]] => some (some (A.tp fun _ => isRow eB 0 1 n f), .bool (A.tb fun _ => fOk (lstOf eB 0 1 n f) br))
  | _ => none
noncomputable def gf2 : Ar → Pu := addC 47 c_Clone (addC 52 c_ConcatF (addC 15 c_fRight (addC 48 c_rfRight (gf1))))
theorem gf2_ok : PuOk Tryz.prog gl0 (gf2 std) := by
  refine addC_ok (addC_ok (addC_ok (addC_ok (gf1_ok) ⟨_, Tryz.func48, rfl, by decide⟩ ?_) ⟨_, Tryz.func15, rfl, by decide⟩ ?_) ⟨_, Tryz.func52, rfl, by decide⟩ ?_) ⟨_, Tryz.func47, rfl, by decide⟩ ?_
  · intro args p r h hp
    unfold c_rfRight at h
    split at h <;> cases h
    exact good_sv (good_rfRight _ _) ⟨⟨_, rfl, hp.sv, rfl, trivial⟩, trivial⟩
  · intro args p r h hp
    unfold c_fRight at h
    split at h <;> cases h
    exact good_sv (good_fRight _ _) ⟨⟨_, rfl, hp.sv, rfl, trivial⟩, trivial⟩
  · intro args p r h hp
    unfold c_ConcatF at h
    split at h <;> cases h
    exact good_sv (good_Concat _ hp.2) ⟨hp.1.sv, trivial⟩
  · intro args p r h hp
    unfold c_Clone at h
    split at h <;> cases h
    exact good_sv (good_Clone _ (by rw [lstOf_length hp.1]; exact hp.2)) ⟨hp.1.sv, trivial⟩
theorem good_fReader (br : Bool) (L : List UInt8) (hL : L.length ≤ 1000000) : GoodP Tryz.prog gl0 46 [sR std (fun _ => L) br] (sR std (fun _ => L) br) := by
  refine fn_sound' (T := seatT) (G := gf2) (X := noX) seatT_ok gf2_ok noX_ok noI_ok mixed Tryz.func46 (.none) (fun A => [sR A (fun _ => L) br]) (fun A => sR A (fun _ => L) br) fun A hA => ?_
  cbv
  repeat' (first | with_reducible exact True.intro | with_reducible exact dr_ok hA (by kernel_rfl) | with_reducible refine And.intro ?_ ?_ | (intro hc; cbv))
  all_goals (subst hA; simp [-List.getD_eq_getElem?_getD, sS, strOf_lit, lstOf_lit inj_eB, lstOf_lit inj_eZ, lstOf_lit inj_eBs, lstOf_lit inj_eS, isRow_lit, isB_lit, isRow_nil, lstOf_nil inj_eB, lstOf_nil inj_eZ, lstOf_nil inj_eBs, lstOf_nil inj_eS] at *)
  exact hL
noncomputable def c_fReader : Ct := fun A args => match args with
  | [.agg [.slc n 1 f, .bool br]] => some (some (A.tp fun _ => isRow eB 0 1 n f ∧ n ≤ 1000000), sR A (fun _ => lstOf eB 0 1 n f) br)
  | _ => none
noncomputable def gf3 : Ar → Pu := addC 46 c_fReader (gf2)
theorem gf3_ok : PuOk Tryz.prog gl0 (gf3 std) := by
  refine addC_ok (gf2_ok) ⟨_, Tryz.func46, rfl, by decide⟩ ?_
  · intro args p r h hp
    unfold c_fReader at h
    split at h <;> cases h
    exact good_sv (good_fReader _ _ (by rw [lstOf_length hp.1]; exact hp.2)) ⟨⟨_, rfl, hp.1.sv, rfl, trivial⟩, trivial⟩
theorem lists_step {L M : List (List UInt8)} {i : Nat} (h : L.take i = M.take i) (hL : i < L.length) (hM : i < M.length) : L.take (i + 1) = M.take (i + 1) ↔ L.getD i [] = M.getD i [] := by
  rw [← take_snoc (d := []) hL, ← take_snoc (d := []) hM, h]
  constructor
  · intro e; simpa using e
  · intro e; rw [e]
theorem lists_end {L M : List (List UInt8)} {i : Nat} (h : L.take (i + 1) ≠ M.take (i + 1)) : L ≠ M := fun e => h (by rw [e])
theorem good_bLists (L M : List (List UInt8)) (hL : L.length ≤ 1000000) : GoodP Tryz.prog gl0 17 [rowS eBs [] 1 std fun _ => L, rowS eBs [] 1 std fun _ => M] (.bool (std.tb fun _ => decide (L = M))) := by
  refine fn_sound' (T := seatT) (G := gf3) (X := noX) seatT_ok gf3_ok noX_ok noI_ok mixed Tryz.func17 (.one) (fun A => [rowS eBs [] 1 A fun _ => L, rowS eBs [] 1 A fun _ => M]) (fun A => .bool (A.tb fun _ => decide (L = M))) fun A hA => ?_
  cbv
  repeat' (first | with_reducible exact True.intro | with_reducible exact dr_ok hA (by kernel_rfl) | with_reducible refine And.intro ?_ ?_ | (intro hc; cbv))
  · subst hA; simp [-List.getD_eq_getElem?_getD, sS, strOf_lit, lstOf_lit inj_eB, lstOf_lit inj_eZ, lstOf_lit inj_eBs, lstOf_lit inj_eS] at *
    intro e; exact hc (by rw [e])
  have hlen : L.length = M.length := by subst hA; simp [sS] at hc; omega
  refine ⟨⟨{i : Nat // i ≤ L.length ∧ L.take i = M.take i}, fun b i => [(5, .int .i64 (i.1 : Nat))], fun b i => [], fun i => L.length - i.1, true⟩, ⟨⟨0, by omega, rfl⟩, ?_⟩, ?_⟩
  · cbv
    subst hA
    simp [-List.getD_eq_getElem?_getD, sS]
  · rintro ⟨i, hi, ht⟩
    cbv
    repeat' (first | with_reducible exact True.intro | with_reducible exact dr_ok hA (by kernel_rfl) | with_reducible refine And.intro ?_ ?_ | (intro hc; cbv))
    · subst hA; simp [sS] at hc ⊢; omega
    · subst hA; exact isB_row (.lit _)
    · subst hA; simp [sS] at hc ⊢; omega
    · subst hA; exact isB_row (.lit _)
    · rename_i h1
      have hlt : i < L.length := by subst hA; simp [sS] at h1; omega
      have hne : L.getD i [] ≠ M.getD i [] := by subst hA; simpa [-List.getD_eq_getElem?_getD, sS, strOf_row (Reps.lit _)] using hc
      have := lists_end fun e => hne ((lists_step ht hlt (by omega)).1 e)
      subst hA; simp [sS, this]
    · rename_i h1
      have hlt : i < L.length := by subst hA; simp [sS] at h1; omega
      have he : L.getD i [] = M.getD i [] := by subst hA; simpa [-List.getD_eq_getElem?_getD, sS, strOf_row (Reps.lit _)] using hc
      refine ⟨⟨i + 1, by omega, (lists_step ht hlt (by omega)).2 he⟩, ?_, show L.length - (i + 1) < L.length - i by omega⟩
      cbv
      subst hA
      simp [sS]
      exact w64 (by omega)
    · have : i = L.length := by subst hA; simp [sS] at hc; omega
      subst this
      have he : L = M := by rw [List.take_length, List.take_of_length_le (by omega)] at ht; exact ht
      subst hA; simp [sS, he]
end Go.Vd

set_option linter.unusedVariables false
set_option linter.unusedSimpArgs false
set_option maxRecDepth 100000
set_option maxHeartbeats 1000000
namespace Go.Vd
open Go.Proofs
def aFeed (A : Ar) (L : List UInt8) (br : Bool) (B : List UInt8) : SV := .tup [sR A (fun _ => (fFeed L br B).rest) (A.tb fun _ => (fFeed L br B).br), rowS eBs [] 1 A fun _ => (fFeed L br B).told, .int .i64 (A.ti fun _ => (fFeed L br B).e)]
theorem two_reps (L B : List UInt8) : Reps eBs [] 1 2 (lstS [[.slc L.length 1 (rowF eB 0 std fun _ => L)], [.slc B.length 1 (rowF eB 0 std fun _ => B)]]) [L, B] :=
  Reps.lst (l := [_, _]) (L := [L, B]) ⟨cell_eBs (.lit L), cell_eBs (.lit B), trivial⟩
theorem two_row (L B : List UInt8) : isRow eBs [] 1 2 (lstS [[.slc L.length 1 (rowF eB 0 std fun _ => L)], [.slc B.length 1 (rowF eB 0 std fun _ => B)]]) := ⟨_, two_reps L B⟩
theorem two_lst (L B : List UInt8) : lstOf eBs [] 1 2 (lstS [[.slc L.length 1 (rowF eB 0 std fun _ => L)], [.slc B.length 1 (rowF eB 0 std fun _ => B)]]) = [L, B] := lstOf_eq inj_eBs (two_reps L B)
theorem cut_rep (R : List UInt8) (e : Nat) (h : 2 ≤ e) (h2 : e ≤ R.length) : Reps eB 0 1 (e - 2) (fun i j => rowF eB 0 std (fun _ => R) (2 + i) j) ((R.drop 2).take (e - 2)) :=
  (((Reps.lit (enc := eB) (d := 0) (k := 1) R).shift' 2 (by omega)).take (e - 2) (by omega))
theorem good_fFeed (br : Bool) (L B : List UInt8) (hL : L.length ≤ 20000) (hB : B.length ≤ 20000) : GoodP Tryz.prog gl0 16 [sR std (fun _ => L) br, rowS eB 0 1 std fun _ => B] (aFeed std L br B) := by
  refine fn_sound' (T := seatT) (G := gf3) (X := noX) seatT_ok gf3_ok noX_ok noI_ok mixed Tryz.func16 (.none) (fun A => [sR A (fun _ => L) br, rowS eB 0 1 A fun _ => B]) (fun A => aFeed A L br B) fun A hA => ?_
  cbv
  repeat' (first | with_reducible exact True.intro | with_reducible exact dr_ok hA (by kernel_rfl) | with_reducible refine And.intro ?_ ?_ | (intro hc; cbv))
  rotate_right
  · rename_i h1
    have h0 : br = false := by assumption
    have hok : fOk L false = true := by subst hA h0; simpa [sS, strOf_lit, lstOf_lit inj_eB, lstOf_lit inj_eZ, lstOf_lit inj_eBs, lstOf_lit inj_eS] using h1
    subst h0
    obtain ⟨Q, hQ⟩ : ∃ Q, Q = L ++ B := ⟨_, rfl⟩
    refine ⟨⟨{p : List (List UInt8) × List UInt8 // fParse (L ++ B) = (p.1 ++ (fParse p.2).1, (fParse p.2).2) ∧ p.1.length + p.2.length ≤ 40000}, fun b p => [(7, .own b), (8, rowS eB 0 1 A fun _ => p.1.2)], fun b p => [(b, .row 22 1 (A.tn fun _ => p.1.1.length) (rowF eBs [] A fun _ => p.1.1))], fun p => p.1.2.length, true⟩, ⟨⟨([], Q), by simp [hQ], by simp [hQ]; omega⟩, ?_⟩, ?_⟩
    · cbv
      subst hA
      simp [hQ, -List.getD_eq_getElem?_getD, sS, strOf_lit, lstOf_lit inj_eB, lstOf_lit inj_eZ, lstOf_lit inj_eBs, lstOf_lit inj_eS, isRow_lit, isB_lit, isRow_nil, lstOf_nil inj_eB, lstOf_nil inj_eZ, lstOf_nil inj_eBs, lstOf_nil inj_eS, two_lst]
    · rintro ⟨⟨T, R⟩, hP, hn⟩
      simp only at hP hn
      cbv
      repeat' (first | with_reducible exact True.intro | with_reducible exact dr_ok hA (by kernel_rfl) | with_reducible refine And.intro ?_ ?_ | (intro hc; cbv))
      rotate_right
      · have hF := fLen_lt R
        have hw : IntKind.i64.wrap (2 + (fLen R : Int)) = 2 + (fLen R : Int) := w64 (by omega)
        rename_i hx2 hx3
        have hx4 := hc
        have h2 : ¬R.length < 2 := by subst hA; simp [sS] at hx2; omega
        have hm : fMay (fLen R) = true := by subst hA; simpa [-List.getD_eq_getElem?_getD, sS, strOf_lit, lstOf_lit inj_eB, lstOf_lit inj_eZ, lstOf_lit inj_eBs, lstOf_lit inj_eS] using hx3
        have hl : ¬R.length < 2 + fLen R := by
          subst hA
          simp [-List.getD_eq_getElem?_getD, sS, strOf_lit, lstOf_lit inj_eB, lstOf_lit inj_eZ, lstOf_lit inj_eBs, lstOf_lit inj_eS, hw] at hx4
          omega
        obtain ⟨T', hT'⟩ : ∃ T', T' = T ++ [(R.drop 2).take (fLen R)] := ⟨_, rfl⟩
        obtain ⟨R', hR'⟩ : ∃ R', R' = R.drop (2 + fLen R) := ⟨_, rfl⟩
        have hl' : R'.length = R.length - (2 + fLen R) := by rw [hR', List.length_drop]
        refine ⟨⟨(T', R'), by rw [hP, fParse_more h2 hm hl, hT', hR']; simp, by rw [hT', List.length_append, List.length_singleton, hl']; omega⟩, ?_, show R'.length < R.length by omega⟩
        cbv
        subst hA
        simp [-List.getD_eq_getElem?_getD, sS, strOf_lit, lstOf_lit inj_eB, lstOf_lit inj_eZ, lstOf_lit inj_eBs, lstOf_lit inj_eS, isRow_lit, isB_lit, isRow_nil, lstOf_nil inj_eB, lstOf_nil inj_eZ, lstOf_nil inj_eBs, lstOf_nil inj_eS, hw]
        have e0 : (2 + (fLen R : Int)).toNat = 2 + fLen R := by omega
        refine ⟨⟨by rw [e0, hl'], ?_⟩, by rw [hT']; simp, ?_⟩
        · have e1 : (2 + (fLen R : Int)).toNat = 2 + fLen R := by omega
          rw [e1, hl', hR']
          exact (Reps.shift' (Reps.lit (enc := eB) (d := 0) (k := 1) R) (2 + fLen R) (by omega)).eqr
        · have e1 : (2 + (fLen R : Int)).toNat - 2 = fLen R := by omega
          rw [e1]
          have h3 := cut_rep R (2 + fLen R) (by omega) (by omega)
          rw [Nat.add_sub_cancel_left] at h3
          exact snoc_row rfl (cell_eBs h3) hT'.symm (by rw [hT']; simp)
      all_goals (subst hA; simp [-List.getD_eq_getElem?_getD, sS, strOf_lit, lstOf_lit inj_eB, lstOf_lit inj_eZ, lstOf_lit inj_eBs, lstOf_lit inj_eS, isRow_lit, isB_lit, isRow_nil, lstOf_nil inj_eB, lstOf_nil inj_eZ, lstOf_nil inj_eBs, lstOf_nil inj_eS] at *)
      all_goals (have hF := fLen_lt R)
      all_goals (have hw : IntKind.i64.wrap (2 + (fLen R : Int)) = 2 + (fLen R : Int) := w64 (by omega))
      all_goals (simp only [hw] at *)
      all_goals first
        | omega
        | (constructor <;> omega)
        | (have hg : fFeed L false B = ⟨R, false, T, 0⟩ := by (rw [fFeed_go hok, hP, fParse_short (by omega)]; simp)
           rw [hg]; first | done | rfl | exact (Reps.lit _).eqr)
        | (have hg : fFeed L false B = ⟨[], true, T, 12⟩ := by (rw [fFeed_go hok, hP, fParse_bad (by omega) (by assumption)]; simp)
           rw [hg]; first | done | rfl | exact (Reps.lit _).eqr)
        | (have hg : fFeed L false B = ⟨R, false, T, 0⟩ := by (rw [fFeed_go hok, hP, fParse_part (by omega) (by assumption) (by omega)]; simp)
           rw [hg]; first | done | rfl | exact (Reps.lit _).eqr)
        | trace_state
  all_goals (subst hA; simp [-List.getD_eq_getElem?_getD, sS, strOf_lit, lstOf_lit inj_eB, lstOf_lit inj_eZ, lstOf_lit inj_eBs, lstOf_lit inj_eS, isRow_lit, isB_lit, isRow_nil, lstOf_nil inj_eB, lstOf_nil inj_eZ, lstOf_nil inj_eBs, lstOf_nil inj_eS, two_lst] at *)
  all_goals first
    | omega
    | (rw [fFeed_bad hc]; first | done | rfl | exact (Reps.lit _).eqr)
    | (have hb : br = true := by assumption
       subst hb
       rw [fFeed_br hc]; first | done | rfl | exact (Reps.lit _).eqr)
    | (refine ⟨two_row L B, by simp, fun b hb => ?_⟩; (simp at hb; rcases hb with rfl | rfl <;> omega))
    | trace_state
end Go.Vd

set_option linter.unusedVariables false
set_option linter.unusedSimpArgs false
set_option maxRecDepth 100000
set_option maxHeartbeats 2000000
namespace Go.Vd
open Go.Proofs
theorem cat_get (R : List UInt8) (x : UInt8) {k : Nat} (h : k < R.length + 1) {f : Nat → Nat → SV} (hf : f = rowF eB 0 std fun _ => R) : catS R.length f (lstS [[SV.int IntKind.u8 (x.toNat : Int)]]) k 0 = .int .u8 (((R ++ [x]).getD k 0).toNat : Int) := by
  subst hf
  show (if k < R.length then rowF eB 0 std (fun _ => R) k 0 else lstS [[SV.int IntKind.u8 (x.toNat : Int)]] (k - R.length) 0) = _
  by_cases hk : k < R.length
  · rw [if_pos hk, getD_app hk]; rfl
  · obtain rfl : k = R.length := by omega
    rw [if_neg hk, Nat.sub_self]
    simp [lstS, getAt, List.getD_eq_getElem?_getD]
theorem fdrop_cons {B : List UInt8} {i : Nat} (h : i < B.length) : B.drop i = B.getD i 0 :: B.drop (i + 1) := by
  rw [List.drop_eq_getElem_cons h, List.getD_eq_getElem?_getD, List.getElem?_eq_getElem h]; rfl
theorem may_sum (S : List UInt8) : IntKind.i64.wrap (IntKind.i64.wrap (256 * IntKind.i64.wrap ((S.getD 0 0).toNat : Int)) + IntKind.i64.wrap ((S.getD 1 0).toNat : Int)) = (fLen S : Int) := flen_sum _ _
theorem good_rfFeed (br : Bool) (L B : List UInt8) (hL : L.length ≤ 20000) (hB : B.length ≤ 20000) : GoodP Tryz.prog gl0 49 [sR std (fun _ => L) br, rowS eB 0 1 std fun _ => B] (aFeed std L br B) := by
  refine fn_sound' (T := seatT) (G := gf3) (X := noX) seatT_ok gf3_ok noX_ok noI_ok mixed Tryz.func49 (.none) (fun A => [sR A (fun _ => L) br, rowS eB 0 1 A fun _ => B]) (fun A => aFeed A L br B) fun A hA => ?_
  cbv
  repeat' (first | with_reducible exact True.intro | with_reducible exact dr_ok hA (by kernel_rfl) | with_reducible refine And.intro ?_ ?_ | (intro hc; cbv))
  rotate_right
  · rename_i h1
    have h0 : br = false := by assumption
    have hok : fOk L false = true := by subst hA h0; simpa [sS, strOf_lit, lstOf_lit inj_eB, lstOf_lit inj_eZ, lstOf_lit inj_eBs, lstOf_lit inj_eS] using h1
    subst h0
    clear h1
    refine ⟨⟨{p : Nat × List (List UInt8) × List UInt8 // p.1 ≤ B.length ∧ fOk p.2.2 false = true ∧ fParse (L ++ B) = (p.2.1 ++ (fParse (p.2.2 ++ B.drop p.1)).1, (fParse (p.2.2 ++ B.drop p.1)).2) ∧ p.2.1.length ≤ p.1 ∧ p.2.2.length ≤ L.length + p.1}, fun b p => [(7, .own 12), (8, .own b), (9, .int .i64 (p.1.1 : Nat))], fun b p => [(12, .row 5 1 (A.tn fun _ => p.1.2.2.length) (rowF eB 0 A fun _ => p.1.2.2)), (b, .row 22 1 (A.tn fun _ => p.1.2.1.length) (rowF eBs [] A fun _ => p.1.2.1))], fun p => B.length - p.1.1, true⟩, ⟨⟨(0, [], L), by simp [hok]⟩, ?_⟩, ?_⟩
    · cbv
      subst hA
      simp [-List.getD_eq_getElem?_getD, sS, strOf_lit, lstOf_lit inj_eB, lstOf_lit inj_eZ, lstOf_lit inj_eBs, lstOf_lit inj_eS, isRow_lit, isB_lit, isRow_nil, lstOf_nil inj_eB, lstOf_nil inj_eZ, lstOf_nil inj_eBs, lstOf_nil inj_eS]
      exact eqr_of (Reps.nil.cat (.lit L)) (by omega) rfl
    · rintro ⟨⟨i, T, R⟩, hi, hR, hP, hn, hm⟩
      simp only at hi hR hP hn hm
      have hF := fLen_lt (R ++ [B.getD i 0])
      have hw : IntKind.i64.wrap (2 + (fLen (R ++ [B.getD i 0]) : Int)) = 2 + (fLen (R ++ [B.getD i 0]) : Int) := w64 (by omega)
      have hl : (R ++ [B.getD i 0]).length = R.length + 1 := by simp
      cbv
      repeat' (first | with_reducible exact True.intro | with_reducible exact dr_ok hA (by kernel_rfl) | with_reducible refine And.intro ?_ ?_ | (intro hc; cbv))
      all_goals first
        | (fail_if_success (refine Exists.intro ?_ ?_)
           subst hA
           simp [-List.getD_eq_getElem?_getD, sS, strOf_lit, lstOf_lit inj_eB, lstOf_lit inj_eZ, lstOf_lit inj_eBs, lstOf_lit inj_eS, isRow_lit, isB_lit, isRow_nil, lstOf_nil inj_eB, lstOf_nil inj_eZ, lstOf_nil inj_eBs, lstOf_nil inj_eS] at *
           first
             | omega
             | (rw [cat_get R (B.getD i 0) (by omega) rfl]; exact isI_int _ _)
             | (have hq : i = B.length := by omega
                have hg : fFeed L false B = ⟨R, false, T, 0⟩ := by (rw [fFeed_go hok, hP, hq, List.drop_length, List.append_nil, fParse_fix hR]; simp)
                rw [hg]; first | done | rfl | exact (Reps.lit _).eqr)
             | (rw [cat_get R (B.getD i 0) (k := 0) (by omega) rfl, cat_get R (B.getD i 0) (k := 1) (by omega) rfl] at hc
                simp only [zOf_int, may_sum] at hc
                have hg : fFeed L false B = ⟨[], true, T, 12⟩ := by (rw [fFeed_go hok, hP, fdrop_cons (by assumption), fStep_bad (by simp; omega) hc]; simp)
                rw [hg]; first | done | rfl | exact (Reps.lit _).eqr)
             | trace_state)
        | skip
      all_goals (have hlt : i < B.length := by (clear hw hl hF; (subst hA; simp [-List.getD_eq_getElem?_getD, sS] at *); omega))
      all_goals (obtain ⟨S, hS⟩ : ∃ S, S = R ++ [B.getD i 0] := ⟨_, rfl⟩)
      all_goals (rw [← hS] at hF hw hl)
      all_goals (have hcat : eqrS (R.length + 1) 1 (catS R.length (rowF eB 0 std fun _ => R) (lstS [[SV.int IntKind.u8 ((B.getD i 0).toNat : Int)]])) (rowF eB 0 std fun _ => S) := snoc_row rfl (cell_eB rfl) hS.symm rfl)
      all_goals (have hap : ∀ T0, R ++ B.getD i 0 :: T0 = S ++ T0 := fun T0 => by rw [hS]; simp)
      all_goals (have hdr := fdrop_cons hlt)
      all_goals (rw [hdr] at hP)
      all_goals (obtain ⟨i', hi'⟩ : ∃ i', i' = i + 1 := ⟨_, rfl⟩)
      · have h2 : (R ++ [B.getD i 0]).length < 2 := by rw [← hS, hl]; clear hw hl hF hP; subst hA; simp [sS] at hc; omega
        refine ⟨⟨(i', T, S), by omega, by rw [hS]; exact fStep_short h2, by rw [hP, hap, hi'], show T.length ≤ i' by omega, by simp only [hl]; omega⟩, ?_, show B.length - i' < B.length - i by omega⟩
        cbv
        subst hA
        simp [-List.getD_eq_getElem?_getD, sS, strOf_lit, lstOf_lit inj_eB, lstOf_lit inj_eZ, lstOf_lit inj_eBs, lstOf_lit inj_eS, isRow_lit, isB_lit, isRow_nil, lstOf_nil inj_eB, lstOf_nil inj_eZ, lstOf_nil inj_eBs, lstOf_nil inj_eS]
        exact ⟨(w64 (by omega)).trans (by omega), hl.symm, by rw [hl]; exact hcat⟩
      all_goals (rename_i hx1 hx2; have hx3 := hc; clear hc)
      all_goals (have h2 : ¬S.length < 2 := by (clear hw hF hP hx2 hx3; subst hA; simp [sS] at hx1; omega))
      all_goals (have h1 : fMay (fLen S) = true := by (clear hw hF hP hx3; subst hA; simp [-List.getD_eq_getElem?_getD, sS] at hx2; rw [cat_get R (B.getD i 0) (k := 0) (by omega) rfl, cat_get R (B.getD i 0) (k := 1) (by omega) rfl] at hx2; simp only [zOf_int, may_sum, ← hS] at hx2; exact hx2))
      · have h3 : S.length = 2 + fLen S := by
          clear hP hx2
          subst hA
          simp [-List.getD_eq_getElem?_getD, sS] at hx3
          rw [cat_get R (B.getD i 0) (k := 0) (by omega) rfl, cat_get R (B.getD i 0) (k := 1) (by omega) rfl] at hx3
          simp only [zOf_int, ← hS] at hx3
          rw [show IntKind.i64.wrap (IntKind.i64.wrap (256 * IntKind.i64.wrap ((S.getD 0 0).toNat : Int)) + IntKind.i64.wrap ((S.getD 1 0).toNat : Int)) = (fLen S : Int) from flen_sum _ _, hw] at hx3
          have e9 : (R.length : Int) + 1 = 2 + (fLen S : Int) := hx3
          omega
        obtain ⟨T', hT'⟩ : ∃ T', T' = T ++ [S.drop 2] := ⟨_, rfl⟩
        refine ⟨⟨(i', T', []), by omega, by simp [fOk], by rw [hP, hap, fParse_full h2 h1 h3, hT', hi']; simp, by rw [hT']; simp; omega, by simp⟩, ?_, show B.length - i' < B.length - i by omega⟩
        cbv
        subst hA
        simp [-List.getD_eq_getElem?_getD, sS, strOf_lit, lstOf_lit inj_eB, lstOf_lit inj_eZ, lstOf_lit inj_eBs, lstOf_lit inj_eS, isRow_lit, isB_lit, isRow_nil, lstOf_nil inj_eB, lstOf_nil inj_eZ, lstOf_nil inj_eBs, lstOf_nil inj_eS]
        have hr := Reps.shift (enc := eB) (d := 0) (k := 1) (m := R.length - 1) ⟨hl, hcat⟩ 2 (by omega)
        rw [List.take_of_length_le (by rw [List.length_drop]; omega)] at hr
        exact ⟨(w64 (by omega)).trans (by omega), by rw [hT']; simp, snoc_row rfl (cell_eBs hr) hT'.symm (by rw [hT']; simp)⟩
      · have h3 : ¬S.length = 2 + fLen S := by
          clear hP hx2
          subst hA
          simp [-List.getD_eq_getElem?_getD, sS] at hx3
          rw [cat_get R (B.getD i 0) (k := 0) (by omega) rfl, cat_get R (B.getD i 0) (k := 1) (by omega) rfl] at hx3
          simp only [zOf_int, ← hS] at hx3
          rw [show IntKind.i64.wrap (IntKind.i64.wrap (256 * IntKind.i64.wrap ((S.getD 0 0).toNat : Int)) + IntKind.i64.wrap ((S.getD 1 0).toNat : Int)) = (fLen S : Int) from flen_sum _ _, hw] at hx3
          have e9 : ¬(R.length : Int) + 1 = 2 + (fLen S : Int) := hx3
          omega
        refine ⟨⟨(i', T, S), by omega, by rw [hS] at h1 h2 h3 ⊢; exact fStep_part hR h2 h1 h3, by rw [hP, hap, hi'], show T.length ≤ i' by omega, by simp only [hl]; omega⟩, ?_, show B.length - i' < B.length - i by omega⟩
        cbv
        subst hA
        simp [-List.getD_eq_getElem?_getD, sS, strOf_lit, lstOf_lit inj_eB, lstOf_lit inj_eZ, lstOf_lit inj_eBs, lstOf_lit inj_eS, isRow_lit, isB_lit, isRow_nil, lstOf_nil inj_eB, lstOf_nil inj_eZ, lstOf_nil inj_eBs, lstOf_nil inj_eS]
        exact ⟨(w64 (by omega)).trans (by omega), hl.symm, by rw [hl]; exact hcat⟩
  all_goals (subst hA; simp [-List.getD_eq_getElem?_getD, sS, strOf_lit, lstOf_lit inj_eB, lstOf_lit inj_eZ, lstOf_lit inj_eBs, lstOf_lit inj_eS, isRow_lit, isB_lit, isRow_nil, lstOf_nil inj_eB, lstOf_nil inj_eZ, lstOf_nil inj_eBs, lstOf_nil inj_eS, two_lst] at *)
  all_goals first
    | omega
    | (rw [fFeed_bad hc]; first | done | rfl | exact (Reps.lit _).eqr)
    | (have hb : br = true := by assumption
       subst hb
       rw [fFeed_br hc]; first | done | rfl | (rw [fOk_br hc]; first | done | rfl | exact (Reps.lit _).eqr))
    | trace_state
end Go.Vd

set_option linter.unusedVariables false
set_option linter.unusedSimpArgs false
set_option maxRecDepth 100000
set_option maxHeartbeats 4000000
namespace Go.Vd
open Go.Proofs
def fPutR (L : List UInt8) : List UInt8 := if L.length = 0 then [] else if 2048 < L.length then [] else fPutL L
def fPutE (L : List UInt8) : Int := if L.length = 0 then 2 else if 2048 < L.length then 4 else 0
noncomputable def c_fPut : Ct := fun A args => match args with
  | [.slc n 1 f] => some (some (A.tp fun _ => isRow eB 0 1 n f ∧ n ≤ 1000000), .tup [rowS eB 0 1 A fun _ => fPutR (lstOf eB 0 1 n f), .int .i64 (A.ti fun _ => fPutE (lstOf eB 0 1 n f))])
  | _ => none
noncomputable def c_rfPut : Ct := fun A args => match args with
  | [.slc n 1 f] => some (some (A.tp fun _ => isRow eB 0 1 n f ∧ n ≤ 1000000), rowS eB 0 1 A fun _ => fPutL (lstOf eB 0 1 n f))
  | _ => none
noncomputable def c_fFeed : Ct := fun A args => match args with
  | [.agg [.slc n 1 f, .bool br], .slc m 1 g] => some (some (A.tp fun _ => (isRow eB 0 1 n f ∧ isRow eB 0 1 m g) ∧ n ≤ 20000 ∧ m ≤ 20000), .tup [sR A (fun _ => (fFeed (lstOf eB 0 1 n f) br (lstOf eB 0 1 m g)).rest) (A.tb fun _ => (fFeed (lstOf eB 0 1 n f) br (lstOf eB 0 1 m g)).br), rowS eBs [] 1 A fun _ => (fFeed (lstOf eB 0 1 n f) br (lstOf eB 0 1 m g)).told, .int .i64 (A.ti fun _ => (fFeed (lstOf eB 0 1 n f) br (lstOf eB 0 1 m g)).e)])
  | _ => none
noncomputable def c_rfFeed : Ct := fun A args => match args with
  | [.agg [.slc n 1 f, .bool br], .slc m 1 g] => some (some (A.tp fun _ => (isRow eB 0 1 n f ∧ isRow eB 0 1 m g) ∧ n ≤ 20000 ∧ m ≤ 20000), .tup [sR A (fun _ => (fFeed (lstOf eB 0 1 n f) br (lstOf eB 0 1 m g)).rest) (A.tb fun _ => (fFeed (lstOf eB 0 1 n f) br (lstOf eB 0 1 m g)).br), rowS eBs [] 1 A fun _ => (fFeed (lstOf eB 0 1 n f) br (lstOf eB 0 1 m g)).told, .int .i64 (A.ti fun _ => (fFeed (lstOf eB 0 1 n f) br (lstOf eB 0 1 m g)).e)])
  | _ => none
noncomputable def c_fSame : Ct := fun A args => match args with
  | [.agg [.slc n 1 f, .bool br], .agg [.slc m 1 g, .bool bs]] => some (some (A.tp fun _ => isRow eB 0 1 n f ∧ isRow eB 0 1 m g), .bool (A.tb fun _ => decide (br = bs ∧ lstOf eB 0 1 n f = lstOf eB 0 1 m g)))
  | _ => none
noncomputable def c_bLists : Ct := fun A args => match args with
  | [.slc n 1 f, .slc m 1 g] => some (some (A.tp fun _ => isRow eBs [] 1 n f ∧ isRow eBs [] 1 m g ∧ n ≤ 1000000), .bool (A.tb fun _ => decide (lstOf eBs [] 1 n f = lstOf eBs [] 1 m g)))
  | _ => none
noncomputable def gf4 : Ar → Pu := addC 64 c_fPut (addC 68 c_rfPut (addC 16 c_fFeed (addC 49 c_rfFeed (addC 14 c_fSame (addC 17 c_bLists (gf3))))))
theorem gf4_ok : PuOk Tryz.prog gl0 (gf4 std) := by
  refine addC_ok (addC_ok (addC_ok (addC_ok (addC_ok (addC_ok (gf3_ok) ⟨_, Tryz.func17, rfl, by decide⟩ ?_) ⟨_, Tryz.func14, rfl, by decide⟩ ?_) ⟨_, Tryz.func49, rfl, by decide⟩ ?_) ⟨_, Tryz.func16, rfl, by decide⟩ ?_) ⟨_, Tryz.func68, rfl, by decide⟩ ?_) ⟨_, Tryz.func64, rfl, by decide⟩ ?_
  · intro args p r h hp
    unfold c_bLists at h
    split at h <;> cases h
    exact good_sv (good_bLists _ _ (by rw [lstOf_length hp.1]; exact hp.2.2)) ⟨hp.1.sv, hp.2.1.sv, trivial⟩
  · intro args p r h hp
    unfold c_fSame at h
    split at h <;> cases h
    exact good_sv (good_fSame _ _ _ _) ⟨⟨_, rfl, hp.1.sv, rfl, trivial⟩, ⟨_, rfl, hp.2.sv, rfl, trivial⟩, trivial⟩
  · intro args p r h hp
    unfold c_rfFeed at h
    split at h <;> cases h
    exact good_sv (good_rfFeed _ _ _ (by rw [lstOf_length hp.1.1]; exact hp.2.1) (by rw [lstOf_length hp.1.2]; exact hp.2.2)) ⟨⟨_, rfl, hp.1.1.sv, rfl, trivial⟩, hp.1.2.sv, trivial⟩
  · intro args p r h hp
    unfold c_fFeed at h
    split at h <;> cases h
    exact good_sv (good_fFeed _ _ _ (by rw [lstOf_length hp.1.1]; exact hp.2.1) (by rw [lstOf_length hp.1.2]; exact hp.2.2)) ⟨⟨_, rfl, hp.1.1.sv, rfl, trivial⟩, hp.1.2.sv, trivial⟩
  · intro args p r h hp
    unfold c_rfPut at h
    split at h <;> cases h
    exact good_sv (good_rfPut _ (by rw [lstOf_length hp.1]; exact hp.2)) ⟨hp.1.sv, trivial⟩
  · intro args p r h hp
    unfold c_fPut at h
    split at h <;> cases h
    exact good_sv (good_fPut _ (by rw [lstOf_length hp.1]; exact hp.2)) ⟨hp.1.sv, trivial⟩
theorem feed1 : fFeed [] false [0, 1, 65, 0] = ⟨[0], false, [[65]], 0⟩ := by
  rw [fFeed_go (by decide), List.nil_append, fParse_more (by decide) (by decide) (by decide), fParse_short (by decide)]
  rfl
theorem feed2 : fFeed [0] false [0] = ⟨[], true, [], 12⟩ := by
  rw [fFeed_go (by decide), fParse_bad (by decide) (by decide)]
  rfl
theorem put1 : fPutR [65] = [0, 1, 65] := by decide
theorem put2 : fPutE [65] = 0 := by decide
theorem put3 : fPutE [] = 2 := by decide
theorem l65 : lstOf eB 0 1 1 (lstS [[SV.int IntKind.u8 65]]) = [65] := lstOf_eq inj_eB (Reps.one (cell_eB rfl))
theorem l0 : lstOf eB 0 1 1 (lstS [[SV.int IntKind.u8 0]]) = [0] := lstOf_eq inj_eB (Reps.one (cell_eB rfl))
theorem r65 : isRow eB 0 1 1 (lstS [[SV.int IntKind.u8 65]]) := ⟨[65], Reps.one (cell_eB rfl)⟩
theorem r0 : isRow eB 0 1 1 (lstS [[SV.int IntKind.u8 0]]) := ⟨[0], Reps.one (cell_eB rfl)⟩
theorem qc : Reps eB 0 1 (0 + [(0 : UInt8), 1, 65].length + 1) (catS (0 + [(0 : UInt8), 1, 65].length) (catS 0 (fun x x_1 => SV.any) (rowF eB 0 std fun _ => [0, 1, 65])) (lstS [[SV.int IntKind.u8 0]])) [0, 1, 65, 0] :=
  (Reps.nil.cat (Reps.lit [0, 1, 65])).cat (Reps.one (x := 0) (cell_eB rfl))
theorem lc : lstOf eB 0 1 (0 + [(0 : UInt8), 1, 65].length + 1) (catS (0 + [(0 : UInt8), 1, 65].length) (catS 0 (fun x x_1 => SV.any) (rowF eB 0 std fun _ => [0, 1, 65])) (lstS [[SV.int IntKind.u8 0]])) = [0, 1, 65, 0] := lstOf_eq inj_eB qc
theorem rc : isRow eB 0 1 (0 + [(0 : UInt8), 1, 65].length + 1) (catS (0 + [(0 : UInt8), 1, 65].length) (catS 0 (fun x x_1 => SV.any) (rowF eB 0 std fun _ => [0, 1, 65])) (lstS [[SV.int IntKind.u8 0]])) := ⟨_, qc⟩
noncomputable def gf5 : Ar → Pu := gf4
theorem gf5_ok : PuOk Tryz.prog gl0 (gf5 std) := by
  refine gf4_ok
theorem pe0 {B : List UInt8} (h : B = []) : fPutE B = 2 ∧ fPutR B = [] := by subst h; exact ⟨rfl, rfl⟩
theorem pe1 {B : List UInt8} (h : 2048 < B.length) : fPutE B = 4 ∧ fPutR B = [] := by
  unfold fPutE fPutR
  rw [if_neg (by omega), if_pos h, if_neg (by omega), if_pos h]
  exact ⟨rfl, rfl⟩
theorem pe2 {B : List UInt8} (h0 : ¬B = []) (h : ¬2048 < B.length) : fPutE B = 0 ∧ fPutR B = fPutL B := by
  have : ¬B.length = 0 := fun e => h0 (List.length_eq_zero_iff.1 e)
  unfold fPutE fPutR
  rw [if_neg this, if_neg h, if_neg this, if_neg h]
  exact ⟨rfl, rfl⟩
theorem fParse_told (n : Nat) : ∀ L : List UInt8, L.length = n → (fParse L).1.length ≤ L.length := by
  induction n using Nat.strongRecOn with
  | _ n ih =>
    intro L hL
    by_cases h0 : L.length < 2
    · rw [fParse_short h0]; simp
    · cases h1 : fMay (fLen L) with
      | false => rw [fParse_bad h0 h1]; simp
      | true =>
        by_cases h2 : L.length < 2 + fLen L
        · rw [fParse_part h0 h1 h2]; simp
        · rw [fParse_more h0 h1 h2]
          have h := ih (L.drop (2 + fLen L)).length (by rw [List.length_drop]; omega) _ rfl
          rw [List.length_drop] at h
          simp only [List.length_cons]
          omega
theorem fFeed_told {L B : List UInt8} {br : Bool} : (fFeed L br B).told.length ≤ L.length + B.length := by
  cases h : fOk L br
  · rw [fFeed_bad h]; simp
  · cases br
    · rw [fFeed_go h]
      have := fParse_told _ (L ++ B) rfl
      rw [List.length_append] at this
      exact this
    · rw [fFeed_br h]; simp
theorem fFeed_rest {L B : List UInt8} {br : Bool} : (fFeed L br B).rest.length ≤ L.length + B.length := by
  cases h : fOk L br
  · rw [fFeed_bad h]; simp
  · cases br
    · rw [fFeed_go h]
      have := (fParse_ok _ (L ++ B) rfl).2
      rw [List.length_append] at this
      exact this
    · rw [fFeed_br h]; simp
end Go.Vd


set_option linter.unusedVariables false
set_option linter.unusedSimpArgs false
namespace Go.Vd
def isDb (b : UInt8) : Bool := decide (48 ≤ b.toNat) && decide (b.toNat ≤ 57)
def isD (L : List UInt8) : Bool := !L.isEmpty && L.all isDb
theorem isDb_iff {b : UInt8} : isDb b = true ↔ 48 ≤ b.toNat ∧ b.toNat ≤ 57 := by simp [isDb]
theorem isD_iff {L : List UInt8} : isD L = true ↔ L ≠ [] ∧ ∀ b ∈ L, isDb b = true := by
  simp [isD, List.all_eq_true]
def dig (b : UInt8) : Nat := b.toNat - 48
/-- The number that digits are. -/
def dVal (L : List UInt8) : Nat := L.foldl (fun v b => 10 * v + dig b) 0
theorem dVal_snoc (L : List UInt8) (b : UInt8) : dVal (L ++ [b]) = 10 * dVal L + dig b := by simp [dVal]
theorem dVal_nil : dVal [] = 0 := rfl
/-- The last n digits of a number. -/
def decs : Nat → Nat → List UInt8
  | 0, _ => []
  | n + 1, v => decs n (v / 10) ++ [UInt8.ofNat (48 + v % 10)]
theorem decs_len : ∀ n v, (decs n v).length = n
  | 0, _ => rfl
  | n + 1, v => by simp [decs, decs_len n]
theorem dig_of {k : Nat} (h : k < 10) : (UInt8.ofNat (48 + k)).toNat = 48 + k := by rw [UInt8.toNat_ofNat']; omega
theorem dig_lt {b : UInt8} (h : isDb b = true) : dig b < 10 := by have := isDb_iff.1 h; unfold dig; omega
theorem of_dig {b : UInt8} (h : isDb b = true) : UInt8.ofNat (48 + dig b) = b := by
  have h1 := isDb_iff.1 h
  apply UInt8.toNat_inj.1
  rw [UInt8.toNat_ofNat']
  unfold dig
  omega
theorem decs_dig : ∀ n v, ∀ b ∈ decs n v, isDb b = true
  | 0, _, b, h => by simp [decs] at h
  | n + 1, v, b, h => by
    simp only [decs, List.mem_append, List.mem_singleton] at h
    rcases h with h | h
    · exact decs_dig n _ b h
    · subst h
      rw [isDb_iff, dig_of (Nat.mod_lt _ (by omega))]
      have := Nat.mod_lt v (show 0 < 10 by omega)
      omega
theorem decs_is {n v : Nat} (h : 1 ≤ n) : isD (decs n v) = true := by
  rw [isD_iff]
  refine ⟨fun e => ?_, decs_dig n v⟩
  have := decs_len n v
  rw [e] at this
  simp at this
  omega
theorem dVal_decs : ∀ n v, dVal (decs n v) = v % 10 ^ n
  | 0, v => by rw [Nat.pow_zero, Nat.mod_one]; rfl
  | n + 1, v => by
    rw [decs, dVal_snoc, dVal_decs n]
    have h1 : dig (UInt8.ofNat (48 + v % 10)) = v % 10 := by unfold dig; rw [dig_of (Nat.mod_lt _ (by omega))]; omega
    rw [h1, Nat.pow_succ, Nat.mul_comm (10 ^ n) 10, Nat.mod_mul]
    omega
theorem snoc_ind {P : List UInt8 → Prop} (h0 : P []) (h1 : ∀ L b, P L → P (L ++ [b])) (L : List UInt8) : P L := by
  have : ∀ n, ∀ L : List UInt8, L.length = n → P L := by
    intro n
    induction n with
    | zero => intro L h; rw [List.length_eq_zero_iff.1 h]; exact h0
    | succ n ih =>
      intro L h
      have hne : L ≠ [] := by intro e; rw [e] at h; simp at h
      rw [← List.dropLast_concat_getLast hne]
      exact h1 _ _ (ih _ (by rw [List.length_dropLast]; omega))
  exact this _ L rfl
theorem dVal_lt (L : List UInt8) (h : ∀ b ∈ L, isDb b = true) : dVal L < 10 ^ L.length := by
  induction L using snoc_ind with
  | h0 => simp [dVal]
  | h1 L b ih =>
    have h1 := ih fun c hc => h c (by simp [hc])
    have h2 := dig_lt (h b (by simp))
    rw [dVal_snoc, List.length_append, List.length_singleton, Nat.pow_succ]
    omega
theorem decs_dVal (L : List UInt8) (h : ∀ b ∈ L, isDb b = true) : decs L.length (dVal L) = L := by
  induction L using snoc_ind with
  | h0 => rfl
  | h1 L b ih =>
    have h2 := dig_lt (h b (by simp))
    rw [List.length_append, List.length_singleton, decs, dVal_snoc]
    have e1 : (10 * dVal L + dig b) / 10 = dVal L := by omega
    have e2 : (10 * dVal L + dig b) % 10 = dig b := by omega
    rw [e1, e2, ih fun c hc => h c (by simp [hc]), of_dig (h b (by simp))]
theorem p19 {n : Nat} (h : n ≤ 19) : 10 ^ n ≤ 10000000000000000000 := Nat.pow_le_pow_right (n := 10) (by omega) h
/-- The greater number's digits come behind. -/
theorem decs_lt {n : Nat} : ∀ {v w : Nat}, v < 10 ^ n → w < 10 ^ n → (decs n v < decs n w ↔ v < w) := by
  have hcons : ∀ (n v : Nat), v < 10 ^ (n + 1) → ∃ d t, d < 10 ∧ t < 10 ^ n ∧ v = d * 10 ^ n + t ∧ decs (n + 1) v = UInt8.ofNat (48 + d) :: decs n t := by
    intro n
    induction n with
    | zero =>
      intro v h
      refine ⟨v, 0, by omega, by simp, by simp, ?_⟩
      simp only [decs, List.nil_append]
      rw [Nat.mod_eq_of_lt (by omega)]
    | succ n ih =>
      intro v h
      obtain ⟨d, t, hd, ht, hv, e⟩ := ih (v / 10) (by rw [Nat.pow_succ] at h; omega)
      refine ⟨d, t * 10 + v % 10, hd, by rw [Nat.pow_succ]; omega, ?_, ?_⟩
      · have h1 : d * 10 ^ (n + 1) = d * 10 ^ n * 10 := by rw [Nat.pow_succ, Nat.mul_assoc]
        omega
      · rw [decs, e, decs]
        have e1 : (t * 10 + v % 10) / 10 = t := by omega
        have e2 : (t * 10 + v % 10) % 10 = v % 10 := by omega
        rw [e1, e2]
        rfl
  induction n with
  | zero => intro v w hv hw; simp [decs]; simp at hv hw; omega
  | succ n ih =>
    intro v w hv hw
    obtain ⟨d, t, hd, ht, rfl, e⟩ := hcons n v hv
    obtain ⟨d', t', hd', ht', rfl, e'⟩ := hcons n w hw
    have k1 : UInt8.ofNat (48 + d) < UInt8.ofNat (48 + d') ↔ d < d' := by rw [UInt8.lt_iff_toNat_lt, dig_of hd, dig_of hd']; omega
    have k2 : UInt8.ofNat (48 + d) = UInt8.ofNat (48 + d') ↔ d = d' := by rw [← UInt8.toNat_inj, dig_of hd, dig_of hd']; omega
    rw [e, e', List.cons_lt_cons_iff, ih ht ht', k1, k2]
    have hm : ∀ a b : Nat, a < b → (a + 1) * 10 ^ n ≤ b * 10 ^ n := fun a b h => Nat.mul_le_mul_right _ h
    constructor
    · rintro (h | ⟨h, h2⟩)
      · have := hm d d' h; rw [Nat.succ_mul] at this; omega
      · subst h; omega
    · intro h
      rcases Nat.lt_trichotomy d d' with h1 | h1 | h1
      · exact .inl h1
      · subst h1; exact .inr ⟨rfl, by omega⟩
      · have := hm d' d h1; rw [Nat.succ_mul] at this; omega
/-! ### Luhn's sum -/
def lW (d : Nat) (t : Bool) : Nat := if t then (if 4 < d then 2 * d - 9 else 2 * d) else d
/-- From the end. -/
def lSum : List UInt8 → Bool → Nat
  | [], _ => 0
  | b :: R, t => lW (dig b) t + lSum R (!t)
def odd : Nat → Bool
  | 0 => false
  | n + 1 => !odd n
theorem lSum_snoc : ∀ (R : List UInt8) (b : UInt8) (t : Bool), lSum (R ++ [b]) t = lSum R t + lW (dig b) (t ^^ odd R.length)
  | [], b, t => by simp [lSum, odd]
  | c :: R, b, t => by
    simp only [List.cons_append, lSum, lSum_snoc R b, List.length_cons, odd]
    cases t <;> simp <;> omega
theorem odd_mod : ∀ n, odd n = decide (n % 2 = 1)
  | 0 => rfl
  | n + 1 => by
    rw [odd, odd_mod n]
    rcases Nat.mod_two_eq_zero_or_one n with h | h
    · rw [h]; simp; omega
    · rw [h]; simp; omega
def lFine (L : List UInt8) : Bool := isD L && decide (lSum L.reverse false % 10 = 0)
def lCheck (L : List UInt8) : Nat := (10 - lSum L.reverse true % 10) % 10
def dC (k : Nat) : UInt8 := UInt8.ofNat (48 + k)
theorem isD_snoc {L : List UInt8} {k : Nat} (h : isD L = true) (hk : k < 10) : isD (L ++ [dC k]) = true := by
  rw [isD_iff] at h ⊢
  refine ⟨by simp, fun b hb => ?_⟩
  simp only [List.mem_append, List.mem_singleton] at hb
  rcases hb with hb | hb
  · exact h.2 b hb
  · subst hb; rw [isDb_iff, dC, dig_of hk]; omega
theorem dig_dC {k : Nat} (h : k < 10) : dig (dC k) = k := by unfold dig dC; rw [dig_of h]; omega
theorem lFine_snoc {L : List UInt8} {k : Nat} (h : isD L = true) (hk : k < 10) : lFine (L ++ [dC k]) = decide (k = lCheck L) := by
  unfold lFine lCheck
  rw [isD_snoc h hk, Bool.true_and, List.reverse_append]
  simp only [List.reverse_singleton, List.singleton_append, lSum, lW, dig_dC hk, Bool.not_false]
  simp
  omega
theorem lW_lt {d : Nat} {t : Bool} (h : d < 10) : lW d t < 10 := by
  unfold lW; cases t <;> simp <;> (try split) <;> omega
theorem lW_inj {d e : Nat} {t : Bool} (h : d < 10) (h' : e < 10) (hl : lW d t = lW e t) : d = e := by
  revert hl
  unfold lW
  cases t
  · simp
  · simp only [if_true]
    split <;> split <;> omega
/-- One digit turned. -/
theorem lSum_set : ∀ (R : List UInt8) (k : Nat) (x : UInt8) (t : Bool), (∀ b ∈ R, isDb b = true) → isDb x = true → k < R.length → (lSum (R.set k x) t % 10 = lSum R t % 10 ↔ x = R.getD k 0)
  | [], k, x, t, _, _, hk => by simp at hk
  | b :: R, 0, x, t, hR, hx, _ => by
    have h1 := dig_lt (hR b (by simp))
    have h2 := dig_lt hx
    have h3 := lW_lt (t := t) h1
    have h4 := lW_lt (t := t) h2
    simp only [List.set_cons_zero, lSum, List.getD_cons_zero]
    constructor
    · intro h
      have : lW (dig x) t = lW (dig b) t := by omega
      have := lW_inj h2 h1 this
      rw [← of_dig hx, ← of_dig (hR b (by simp)), this]
    · intro h; rw [h]
  | b :: R, k + 1, x, t, hR, hx, hk => by
    have ih := lSum_set R k x (!t) (fun c hc => hR c (by simp [hc])) hx (by simpa using hk)
    simp only [List.set_cons_succ, lSum, List.getD_cons_succ]
    rw [← ih]
    omega
theorem isD_set {L : List UInt8} {k : Nat} {x : UInt8} (h : isD L = true) (hx : isDb x = true) : isD (L.set k x) = true := by
  rw [isD_iff] at h ⊢
  refine ⟨by simpa using h.1, fun b hb => ?_⟩
  rcases List.mem_or_eq_of_mem_set hb with hb | hb
  · exact h.2 b hb
  · rw [hb]; exact hx
theorem rev_set : ∀ {L : List UInt8} {k : Nat} {x : UInt8}, k < L.length → (L.set k x).reverse = L.reverse.set (L.length - 1 - k) x := by
  intro L k x hk
  apply List.ext_getElem (by simp)
  intro i h1 h2
  simp at h1 h2
  rw [List.getElem_reverse, List.getElem_set, List.getElem_set, List.getElem_reverse]
  simp only [List.length_set]
  by_cases e : k = L.length - 1 - i
  · rw [if_pos e, if_pos (by omega)]
  · rw [if_neg e, if_neg (by omega)]
theorem rev_getD {L : List UInt8} {k : Nat} (hk : k < L.length) : L.reverse.getD (L.length - 1 - k) 0 = L.getD k 0 := by
  rw [List.getD_eq_getElem?_getD, List.getD_eq_getElem?_getD, List.getElem?_reverse (by omega)]
  congr 2
  omega
theorem lFine_set {L : List UInt8} {k : Nat} {x : UInt8} (h : lFine L = true) (hx : isDb x = true) (hk : k < L.length) : lFine (L.set k x) = decide (x = L.getD k 0) := by
  simp only [lFine, Bool.and_eq_true, decide_eq_true_eq] at h
  have hi := isD_iff.1 h.1
  unfold lFine
  rw [isD_set h.1 hx, Bool.true_and, rev_set hk]
  have := lSum_set L.reverse (L.length - 1 - k) x false (fun b hb => hi.2 b (by simpa using hb)) hx (by simp; omega)
  rw [h.2, rev_getD hk] at this
  simp only [this]
end Go.Vd

set_option linter.unusedVariables false
set_option linter.unusedSimpArgs false
namespace Go.Vd
def ordI (a b : Int) : Int := if a < b then -1 else if b < a then 1 else 0
def ordS (a b : List UInt8) : Int := if a < b then -1 else if b < a then 1 else 0
theorem bytesLess_eq : ∀ (x y : List UInt8), Op.bytesLess x y = decide (x < y)
  | _, [] => by simp [Op.bytesLess]
  | [], _ :: _ => by simp [Op.bytesLess]
  | a :: x, b :: y => by simp only [Op.bytesLess, bytesLess_eq x y, List.cons_lt_cons_iff]; rw [Bool.eq_iff_iff]; simp
theorem triS (a b : List UInt8) : (a < b ∧ a ≠ b ∧ ordS a b = -1) ∨ (a = b ∧ ordS a b = 0) ∨ (b < a ∧ a ≠ b ∧ ordS a b = 1) := by
  unfold ordS
  by_cases h : a < b
  · exact .inl ⟨h, fun e => List.lt_irrefl _ (e ▸ h), if_pos h⟩
  · rw [if_neg h]
    rcases List.le_iff_lt_or_eq.1 (List.not_lt.1 h) with h1 | h1
    · exact .inr (.inr ⟨h1, fun e => List.lt_irrefl _ (e ▸ h1), if_pos h1⟩)
    · subst h1; exact .inr (.inl ⟨rfl, if_neg h⟩)
/-- The first that isn't 0. -/
def orL : List Int → Int
  | [] => 0
  | x :: l => if x = 0 then orL l else x
theorem orL_zero : ∀ {L : List Int} {i : Nat}, (∀ x ∈ L.take i, x = 0) → i < L.length → orL L = if L.getD i 0 = 0 then orL (L.drop (i + 1)) else L.getD i 0
  | [], i, _, h => by simp at h
  | x :: l, 0, _, _ => by simp [orL]
  | x :: l, i + 1, h, hi => by
    have hx : x = 0 := h x (by simp)
    have := orL_zero (L := l) (i := i) (fun y hy => h y (by simp [hy])) (by simpa using hi)
    simpa [orL, hx] using this
theorem orL_all : ∀ {L : List Int}, (∀ x ∈ L, x = 0) → orL L = 0
  | [], _ => rfl
  | x :: l, h => by simp [orL, h x (by simp), orL_all (L := l) fun y hy => h y (by simp [hy])]
def ordK (s : Int) (r : List UInt8) (s' : Int) (r' : List UInt8) : Int := if ordI s s' = 0 then ordS r r' else ordI s s'
theorem ordK_or (s : Int) (r : List UInt8) (s' : Int) (r' : List UInt8) : orL [ordI s s', ordS r r'] = ordK s r s' r' := by
  simp only [orL, ordK]
  split
  · split
    · rename_i h; exact h.symm
    · rfl
  · rfl
theorem ordK_eq (s : Int) (r : List UInt8) (s' : Int) (r' : List UInt8) : ordK s r s' r' = if s = s' ∧ r = r' then 0 else if s < s' ∨ (s = s' ∧ r < r') then -1 else 1 := by
  unfold ordK
  rcases Int.lt_trichotomy s s' with h | h | h
  · have e : ordI s s' = -1 := if_pos h
    rw [e, if_neg (by omega), if_neg (fun h' => by omega), if_pos (.inl h)]
  · have e : ordI s s' = 0 := by rw [h]; simp [ordI]
    rw [e, if_pos rfl]
    rcases triS r r' with ⟨h1, n, e1⟩ | ⟨n, e1⟩ | ⟨h1, n, e1⟩ <;> rw [e1]
    · rw [if_neg (fun h' => n h'.2), if_pos (.inr ⟨h, h1⟩)]
    · rw [if_pos ⟨h, n⟩]
    · rw [if_neg (fun h' => n h'.2), if_neg]
      rintro (h' | h')
      · omega
      · exact List.lt_irrefl _ (List.lt_trans h1 h'.2)
  · have e : ordI s s' = 1 := by unfold ordI; rw [if_neg (by omega), if_pos h]
    rw [e, if_neg (by omega), if_neg (fun h' => by omega), if_neg (fun h' => by omega)]
/-! ### Signs -/
def okB (b : UInt8) : Bool := decide (32 ≤ b.toNat) && decide (b.toNat ≤ 126)
def inS (k : Int) (b : UInt8) : Bool := if k = 1 ∨ k = 3 then isDb b else okB b
def signs (k : Int) (r : List UInt8) : Bool := r.all (inS k)
def keyOk (s : Int) (r : List UInt8) : Bool := decide (s ≤ 999999) && (decide (r.length = 12) && r.all okB)
theorem all_take {p : UInt8 → Bool} {r : List UInt8} {i : Nat} (h : i < r.length) : (r.take (i + 1)).all p = ((r.take i).all p && p (r.getD i 0)) := by
  rw [← take_snoc (d := 0) h]; simp
theorem all_false {p : UInt8 → Bool} {r : List UInt8} {i : Nat} (h : i < r.length) (hp : p (r.getD i 0) = false) : r.all p = false := by
  rw [List.all_eq_false]
  refine ⟨r.getD i 0, ?_, by rw [hp]; simp⟩
  rw [List.getD_eq_getElem?_getD, List.getElem?_eq_getElem h]
  exact List.getElem_mem h
/-! ### Shards -/
def fnv1 (h : Nat) (b : UInt8) : Nat := (h ^^^ b.toNat) * 16777619 % 4294967296
def fnv (L : List UInt8) : Nat := L.foldl fnv1 2166136261
theorem foldl_snoc {α β : Type} (f : α → β → α) (a : α) (L : List β) (b : β) : (L ++ [b]).foldl f a = f (L.foldl f a) b := by simp
theorem fnv_snoc (L : List UInt8) (b : UInt8) : fnv (L ++ [b]) = fnv1 (fnv L) b := foldl_snoc fnv1 _ L b
theorem fnv_lt (L : List UInt8) : fnv L < 4294967296 := by
  induction L using snoc_ind with
  | h0 => show 2166136261 < 4294967296; omega
  | h1 L b ih => rw [fnv_snoc]; exact Nat.mod_lt _ (by omega)
theorem xor_lt {h : Nat} (b : UInt8) (hh : h < 4294967296) : h ^^^ b.toNat < 4294967296 := Nat.xor_lt_two_pow (n := 32) hh (by have := b.toNat_lt; omega)
theorem xor32 {h : Nat} (b : UInt8) (hh : h < 4294967296) : bits .xor .u32 (h : Int) (b.toNat : Int) = ((h ^^^ b.toNat : Nat) : Int) := by
  show IntKind.u32.wrap ((BitVec.ofInt 32 (h : Int) ^^^ BitVec.ofInt 32 (b.toNat : Int)).toNat : Int) = _
  have hb := b.toNat_lt
  have h1 : (BitVec.ofInt 32 (h : Int)).toNat = h := by rw [BitVec.toNat_ofInt]; omega
  have h2 : (BitVec.ofInt 32 (b.toNat : Int)).toNat = b.toNat := by rw [BitVec.toNat_ofInt]; omega
  rw [BitVec.toNat_xor, h1, h2, IntKind.wrap_u32]
  have := xor_lt b hh
  omega
theorem xor64 {h : Nat} (b : UInt8) (hh : h < 4294967296) : bits .xor .u64 (h : Int) (b.toNat : Int) = ((h ^^^ b.toNat : Nat) : Int) := by
  show IntKind.u64.wrap ((BitVec.ofInt 64 (h : Int) ^^^ BitVec.ofInt 64 (b.toNat : Int)).toNat : Int) = _
  have hb := b.toNat_lt
  have h1 : (BitVec.ofInt 64 (h : Int)).toNat = h := by rw [BitVec.toNat_ofInt]; omega
  have h2 : (BitVec.ofInt 64 (b.toNat : Int)).toNat = b.toNat := by rw [BitVec.toNat_ofInt]; omega
  rw [BitVec.toNat_xor, h1, h2, IntKind.wrap_u64]
  have := xor_lt b hh
  omega
/-- What the program mixes. -/
def mixI (h b : Int) : Int := IntKind.u32.wrap (bits .xor .u32 h (IntKind.u32.wrap b) * 16777619)
theorem mixI_fnv (L : List UInt8) (b : UInt8) : mixI (fnv L) (b.toNat : Int) = (fnv (L ++ [b]) : Int) := by
  unfold mixI
  have hb := b.toNat_lt
  have hw : IntKind.u32.wrap (b.toNat : Int) = b.toNat := by rw [IntKind.wrap_u32]; omega
  rw [hw, xor32 b (fnv_lt L), fnv_snoc, fnv1, IntKind.wrap_u32]
  omega
def shardN (s : Nat) (r : List UInt8) (m : Int) : Int := if keyOk s r && (decide (1 ≤ m) && decide (m ≤ 16)) then ((fnv (decs 6 s ++ r) % m.toNat : Nat) : Int) else -1
theorem decs_cons : ∀ (n v : Nat), decs (n + 1) v = UInt8.ofNat (48 + v / 10 ^ n % 10) :: decs n v
  | 0, v => by simp [decs]
  | n + 1, v => by
    rw [decs, decs_cons n (v / 10)]
    rw [Nat.div_div_eq_div_mul, show 10 * 10 ^ n = 10 ^ (n + 1) by rw [Nat.pow_succ]; omega]
    rfl
/-- Digit j of six. -/
theorem decs_getD {s j : Nat} (h : j < 6) : (decs 6 s).getD j 0 = UInt8.ofNat (48 + s / 10 ^ (5 - j) % 10) := by
  rw [decs_cons 5, decs_cons 4, decs_cons 3, decs_cons 2, decs_cons 1, decs_cons 0]
  match j, h with
  | 0, _ => rfl
  | 1, _ => rfl
  | 2, _ => rfl
  | 3, _ => rfl
  | 4, _ => rfl
  | 5, _ => rfl
end Go.Vd

