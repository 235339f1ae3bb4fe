/- The types of the seat, as the generator asks for them (printed by mktys.py). -/
import Derived.Test.YtdipfibiajkedaaDoorVdSeat
import Derived.Lib.ItoaNum
import Derived.Test.YtdipfibiajkedaaDoorProg
set_option linter.unusedVariables false
set_option maxRecDepth 100000
namespace Go.Vd
open Go.Proofs

def ty3 : Ty := ⟨false, 1, [.int .i64 0], .int .i64⟩  -- int
theorem ty3_ok : TyOk Tryd.prog 3 ty3 := .mk' (.int .i64) [.int .i64 0] (by kernel_rfl) Tryd.underlying3 (by decide) rfl (fun _ => rfl) rfl rfl rfl rfl
def ty4 : Ty := ⟨false, 1, [.bool false], .bool⟩  -- bool
theorem ty4_ok : TyOk Tryd.prog 4 ty4 := .mk' .bool [.bool false] (by kernel_rfl) Tryd.underlying4 (by decide) rfl (fun _ => rfl) rfl rfl rfl rfl
def ty5 : Ty := ⟨false, 1, [.int .u8 0], .int .u8⟩  -- uint8
theorem ty5_ok : TyOk Tryd.prog 5 ty5 := .mk' (.int .u8) [.int .u8 0] (by kernel_rfl) Tryd.underlying5 (by decide) rfl (fun _ => rfl) rfl rfl rfl rfl
def ty9 : Ty := ⟨false, 1, [.str []], .str⟩  -- string
theorem ty9_ok : TyOk Tryd.prog 9 ty9 := .mk' .string [.string ⟨#[]⟩] (by kernel_rfl) Tryd.underlying9 (by decide) rfl (fun _ => rfl) rfl rfl rfl rfl
def ty21 : Ty := ⟨false, 1, [.int .i32 0], .int .i32⟩  -- int32
theorem ty21_ok : TyOk Tryd.prog 21 ty21 := .mk' (.int .i32) [.int .i32 0] (by kernel_rfl) Tryd.underlying21 (by decide) rfl (fun _ => rfl) rfl rfl rfl rfl
def ty22 : Ty := ⟨false, 1, [.int .u64 0], .int .u64⟩  -- uint64
theorem ty22_ok : TyOk Tryd.prog 22 ty22 := .mk' (.int .u64) [.int .u64 0] (by kernel_rfl) Tryd.underlying22 (by decide) rfl (fun _ => rfl) rfl rfl rfl rfl
def ty24 : Ty := ⟨false, 1, [.int .i64 0], .int .i64⟩  -- api.Errno
theorem ty24_ok : TyOk Tryd.prog 24 ty24 := .mk' (.int .i64) [.int .i64 0] (by kernel_rfl) Tryd.underlying24 (by decide) rfl (fun _ => rfl) rfl rfl rfl rfl
def ty35 : Ty := ⟨false, 1, [.val .nilFunc], .other⟩  -- func(string) bool
theorem ty35_ok : TyOk Tryd.prog 35 ty35 := .mk' _ [.nilFunc] (by kernel_rfl) Tryd.underlying35 (by decide) rfl (fun _ => rfl) rfl rfl rfl trivial
def ty38 : Ty := ⟨false, 1, [.int .u16 0], .int .u16⟩  -- uint16
theorem ty38_ok : TyOk Tryd.prog 38 ty38 := .mk' (.int .u16) [.int .u16 0] (by kernel_rfl) Tryd.underlying38 (by decide) rfl (fun _ => rfl) rfl rfl rfl rfl
def ty39 : Ty := ⟨false, 1, [.nils], .slice 5 1 1 true⟩  -- []uint8
theorem ty39_ok : TyOk Tryd.prog 39 ty39 := .mk' (.slice 5) [.slice none 0 0] (by kernel_rfl) Tryd.underlying39 (by decide) rfl (fun _ => rfl) rfl rfl rfl ⟨rfl, by decide, (fun _ => Tryd.underlying5), tag_slice (by kernel_rfl)⟩
def ty42 : Ty := ⟨true, 3, [.int .i64 0, .int .i64 0, .int .i64 0], .struct [(0, 1), (1, 1), (2, 1)] true⟩  -- api.Def
theorem ty42_ok : TyOk Tryd.prog 42 ty42 := .mk' _ [.int .i64 0, .int .i64 0, .int .i64 0] (by kernel_rfl) Tryd.underlying42 (by decide) rfl (fun h => by cases h) rfl rfl rfl ⟨(fun _ => eqOk_plain (by kernel_rfl) Tryd.underlying42 (by kernel_rfl) (.int (by decide) rfl Tryd.underlying3 (.int (by decide) rfl Tryd.underlying3 (.int (by decide) rfl Tryd.underlying3 .nil)))), tag_struct (by kernel_rfl)⟩
def ty55 : Ty := ⟨false, 1, [.int .u32 0], .int .u32⟩  -- uint32
theorem ty55_ok : TyOk Tryd.prog 55 ty55 := .mk' (.int .u32) [.int .u32 0] (by kernel_rfl) Tryd.underlying55 (by decide) rfl (fun _ => rfl) rfl rfl rfl rfl
def ty57 : Ty := ⟨true, 6, [.int .i64 0, .str [], .int .u64 0, .int .u32 0, .str [], .str []], .struct [(0, 1), (1, 1), (2, 1), (3, 1), (4, 1), (5, 1)] true⟩  -- api.Deal
theorem ty57_ok : TyOk Tryd.prog 57 ty57 := .mk' _ [.int .i64 0, .string ⟨#[]⟩, .int .u64 0, .int .u32 0, .string ⟨#[]⟩, .string ⟨#[]⟩] (by kernel_rfl) Tryd.underlying57 (by decide) rfl (fun h => by cases h) rfl rfl rfl ⟨(fun _ => eqOk_plain (by kernel_rfl) Tryd.underlying57 (by kernel_rfl) (.int (by decide) rfl Tryd.underlying3 (.str (by decide) rfl Tryd.underlying9 (.int (by decide) rfl Tryd.underlying22 (.int (by decide) rfl Tryd.underlying55 (.str (by decide) rfl Tryd.underlying9 (.str (by decide) rfl Tryd.underlying9 .nil))))))), tag_struct (by kernel_rfl)⟩
def ty61 : Ty := ⟨true, 2, [.int .u32 0, .str []], .struct [(0, 1), (1, 1)] true⟩  -- api.Key
theorem ty61_ok : TyOk Tryd.prog 61 ty61 := .mk' _ [.int .u32 0, .string ⟨#[]⟩] (by kernel_rfl) Tryd.underlying61 (by decide) rfl (fun h => by cases h) rfl rfl rfl ⟨(fun _ => eqOk_plain (by kernel_rfl) Tryd.underlying61 (by kernel_rfl) (.int (by decide) rfl Tryd.underlying55 (.str (by decide) rfl Tryd.underlying9 .nil))), tag_struct (by kernel_rfl)⟩
def ty69 : Ty := ⟨true, 45, [.int .i64 0, .int .i64 0, .int .i64 0, .int .i64 0, .int .i64 0, .int .i64 0, .int .i64 0, .int .i64 0, .int .i64 0, .int .i64 0, .int .i64 0, .int .i64 0, .int .i64 0, .int .i64 0, .int .i64 0, .int .i64 0, .int .i64 0, .int .i64 0, .int .i64 0, .int .i64 0, .int .i64 0, .int .i64 0, .int .i64 0, .int .i64 0, .int .i64 0, .int .i64 0, .int .i64 0, .int .i64 0, .int .i64 0, .int .i64 0, .int .i64 0, .int .i64 0, .int .i64 0, .int .i64 0, .int .i64 0, .int .i64 0, .int .i64 0, .int .i64 0, .int .i64 0, .int .i64 0, .int .i64 0, .int .i64 0, .int .i64 0, .int .i64 0, .int .i64 0], .array 15 42 3⟩  -- [15]api.Def
theorem ty69_ok : TyOk Tryd.prog 69 ty69 := .mk' (.array 15 42) [.int .i64 0, .int .i64 0, .int .i64 0, .int .i64 0, .int .i64 0, .int .i64 0, .int .i64 0, .int .i64 0, .int .i64 0, .int .i64 0, .int .i64 0, .int .i64 0, .int .i64 0, .int .i64 0, .int .i64 0, .int .i64 0, .int .i64 0, .int .i64 0, .int .i64 0, .int .i64 0, .int .i64 0, .int .i64 0, .int .i64 0, .int .i64 0, .int .i64 0, .int .i64 0, .int .i64 0, .int .i64 0, .int .i64 0, .int .i64 0, .int .i64 0, .int .i64 0, .int .i64 0, .int .i64 0, .int .i64 0, .int .i64 0, .int .i64 0, .int .i64 0, .int .i64 0, .int .i64 0, .int .i64 0, .int .i64 0, .int .i64 0, .int .i64 0, .int .i64 0] (by kernel_rfl) Tryd.underlying69 (by decide) rfl (fun h => by cases h) rfl rfl rfl ⟨rfl, tag_array (by kernel_rfl)⟩
def ty70 : Ty := ⟨false, 1, [.nils], .slice 3 1 8 false⟩  -- []int
theorem ty70_ok : TyOk Tryd.prog 70 ty70 := .mk' (.slice 3) [.slice none 0 0] (by kernel_rfl) Tryd.underlying70 (by decide) rfl (fun _ => rfl) rfl rfl rfl ⟨rfl, by decide, (fun h => by cases h), tag_slice (by kernel_rfl)⟩
def ty73 : Ty := ⟨false, 1, [.val .nilIface], .other⟩  -- field.form
theorem ty73_ok : TyOk Tryd.prog 73 ty73 := .mk' _ [.nilIface] (by kernel_rfl) Tryd.underlying73 (by decide) rfl (fun _ => rfl) rfl rfl rfl trivial
def ty100 : Ty := ⟨true, 2, [.int .i64 0, .val .nilFunc], .struct [(0, 1), (1, 1)] false⟩  -- field.fixed
theorem ty100_ok : TyOk Tryd.prog 100 ty100 := .mk' _ [.int .i64 0, .nilFunc] (by kernel_rfl) Tryd.underlying100 (by decide) rfl (fun h => by cases h) rfl rfl rfl ⟨(fun h => by cases h), tag_struct (by kernel_rfl)⟩
def ty102 : Ty := ⟨true, 3, [.int .i64 0, .int .i64 0, .val .nilFunc], .struct [(0, 1), (1, 1), (2, 1)] false⟩  -- field.long
theorem ty102_ok : TyOk Tryd.prog 102 ty102 := .mk' _ [.int .i64 0, .int .i64 0, .nilFunc] (by kernel_rfl) Tryd.underlying102 (by decide) rfl (fun h => by cases h) rfl rfl rfl ⟨(fun h => by cases h), tag_struct (by kernel_rfl)⟩
def ty107 : Ty := ⟨true, 7, [.str [], .str [], .str [], .str [], .str [], .str [], .str []], .array 7 9 1⟩  -- [7]string
theorem ty107_ok : TyOk Tryd.prog 107 ty107 := .mk' (.array 7 9) [.string ⟨#[]⟩, .string ⟨#[]⟩, .string ⟨#[]⟩, .string ⟨#[]⟩, .string ⟨#[]⟩, .string ⟨#[]⟩, .string ⟨#[]⟩] (by kernel_rfl) Tryd.underlying107 (by decide) rfl (fun h => by cases h) rfl rfl rfl ⟨rfl, tag_array (by kernel_rfl)⟩
def ty109 : Ty := ⟨true, 2, [.int .i64 0, .str []], .struct [(0, 1), (1, 1)] true⟩  -- api.Item
theorem ty109_ok : TyOk Tryd.prog 109 ty109 := .mk' _ [.int .i64 0, .string ⟨#[]⟩] (by kernel_rfl) Tryd.underlying109 (by decide) rfl (fun h => by cases h) rfl rfl rfl ⟨(fun _ => eqOk_plain (by kernel_rfl) Tryd.underlying109 (by kernel_rfl) (.int (by decide) rfl Tryd.underlying3 (.str (by decide) rfl Tryd.underlying9 .nil))), tag_struct (by kernel_rfl)⟩
def ty110 : Ty := ⟨false, 1, [.nils], .slice 109 2 24 false⟩  -- []api.Item
theorem ty110_ok : TyOk Tryd.prog 110 ty110 := .mk' (.slice 109) [.slice none 0 0] (by kernel_rfl) Tryd.underlying110 (by decide) rfl (fun _ => rfl) rfl rfl rfl ⟨rfl, by decide, (fun h => by cases h), tag_slice (by kernel_rfl)⟩
def ty112 : Ty := ⟨true, 2, [.str [], .nils], .struct [(0, 1), (1, 1)] false⟩  -- api.Message
theorem ty112_ok : TyOk Tryd.prog 112 ty112 := .mk' _ [.string ⟨#[]⟩, .slice none 0 0] (by kernel_rfl) Tryd.underlying112 (by decide) rfl (fun h => by cases h) rfl rfl rfl ⟨(fun h => by cases h), tag_struct (by kernel_rfl)⟩
def seatTy : Nat → Option Ty := fun n => match n with
  | 3 => some ty3
  | 4 => some ty4
  | 5 => some ty5
  | 9 => some ty9
  | 21 => some ty21
  | 22 => some ty22
  | 24 => some ty24
  | 35 => some ty35
  | 38 => some ty38
  | 39 => some ty39
  | 42 => some ty42
  | 55 => some ty55
  | 57 => some ty57
  | 61 => some ty61
  | 69 => some ty69
  | 70 => some ty70
  | 73 => some ty73
  | 100 => some ty100
  | 102 => some ty102
  | 107 => some ty107
  | 109 => some ty109
  | 110 => some ty110
  | 112 => some ty112
  | _ => none
/-- What stands in the package variables that are known: fields, kinds and sizes; types. -/
def knownL : List Int := [2, 3, 19, 3, 1, 6, 4, 1, 12, 7, 1, 10, 11, 1, 6, 12, 1, 6, 37, 2, 12, 38, 2, 6, 39, 2, 2, 41, 2, 8, 44, 4, 25, 48, 5, 999, 49, 1, 3, 90, 1, 42, 120, 5, 999]
def typesL : List (List UInt8) := [[48, 49, 48, 48], [48, 49, 49, 48], [48, 52, 48, 48], [48, 52, 49, 48], [48, 52, 50, 48], [48, 52, 50, 49], [48, 52, 51, 48]]
def gl0 : Nat → SV := fun g => match g with
  | 0 => .rop 45 fun j => .int .i64 (knownL.getD j 0)
  | 1 => .rop 7 fun j => .str (typesL.getD j [])
  | g => .val (.pointer (some ⟨g, 0, none⟩))
def seatT : Tys := ⟨seatTy, gl0⟩
theorem seatT_ok : TysOk Tryd.prog seatT := by
  intro t ty h
  have h : seatTy t = some ty := h
  unfold seatTy at h
  split at h <;> cases h
  · exact ty3_ok
  · exact ty4_ok
  · exact ty5_ok
  · exact ty9_ok
  · exact ty21_ok
  · exact ty22_ok
  · exact ty24_ok
  · exact ty35_ok
  · exact ty38_ok
  · exact ty39_ok
  · exact ty42_ok
  · exact ty55_ok
  · exact ty57_ok
  · exact ty61_ok
  · exact ty69_ok
  · exact ty70_ok
  · exact ty73_ok
  · exact ty100_ok
  · exact ty102_ok
  · exact ty107_ok
  · exact ty109_ok
  · exact ty110_ok
  · exact ty112_ok
theorem mixed : Tryd.prog.follows .mixedOrders = true := by kernel_rfl
end Go.Vd
