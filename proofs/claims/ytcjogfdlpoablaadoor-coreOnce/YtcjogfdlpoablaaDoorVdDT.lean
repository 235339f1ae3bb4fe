/- The types of the seat, as the generator asks for them (printed by mktys.py). -/
import Derived.Test.YtcjogfdlpoablaaDoorVdEq
import Derived.Lib.ItoaNum
import Derived.Test.YtcjogfdlpoablaaDoorProg
set_option linter.unusedVariables false
set_option maxRecDepth 100000
namespace Go.Vd
open Go.Proofs

def ty2 : Ty := ⟨false, 1, [.int .i64 0], .int .i64⟩  -- int64
theorem ty2_ok : TyOk Tryd.prog 2 ty2 := .mk' (.int .i64) [.int .i64 0] (by kernel_rfl) Tryd.underlying2 (by decide) rfl (fun _ => rfl) rfl rfl rfl rfl
def ty3 : Ty := ⟨false, 1, [.int .i64 0], .int .i64⟩  -- int
theorem ty3_ok : TyOk Tryd.prog 3 ty3 := .mk' (.int .i64) [.int .i64 0] (by kernel_rfl) Tryd.underlying3 (by decide) rfl (fun _ => rfl) rfl rfl rfl rfl
def ty4 : Ty := ⟨false, 1, [.bool false], .bool⟩  -- bool
theorem ty4_ok : TyOk Tryd.prog 4 ty4 := .mk' .bool [.bool false] (by kernel_rfl) Tryd.underlying4 (by decide) rfl (fun _ => rfl) rfl rfl rfl rfl
def ty5 : Ty := ⟨false, 1, [.int .u8 0], .int .u8⟩  -- uint8
theorem ty5_ok : TyOk Tryd.prog 5 ty5 := .mk' (.int .u8) [.int .u8 0] (by kernel_rfl) Tryd.underlying5 (by decide) rfl (fun _ => rfl) rfl rfl rfl rfl
def ty9 : Ty := ⟨false, 1, [.str []], .str⟩  -- string
theorem ty9_ok : TyOk Tryd.prog 9 ty9 := .mk' .string [.string ⟨#[]⟩] (by kernel_rfl) Tryd.underlying9 (by decide) rfl (fun _ => rfl) rfl rfl rfl rfl
def ty21 : Ty := ⟨false, 1, [.int .i32 0], .int .i32⟩  -- int32
theorem ty21_ok : TyOk Tryd.prog 21 ty21 := .mk' (.int .i32) [.int .i32 0] (by kernel_rfl) Tryd.underlying21 (by decide) rfl (fun _ => rfl) rfl rfl rfl rfl
def ty22 : Ty := ⟨false, 1, [.nils], .slice 43 2 24 false⟩  -- []api.Item
theorem ty22_ok : TyOk Tryd.prog 22 ty22 := .mk' (.slice 43) [.slice none 0 0] (by kernel_rfl) Tryd.underlying22 (by decide) rfl (fun _ => rfl) rfl rfl rfl ⟨rfl, by decide, (fun h => by cases h), tag_slice (by kernel_rfl)⟩
def ty24 : Ty := ⟨true, 2, [.str [], .nils], .struct [(0, 1), (1, 1)] false⟩  -- api.Message
theorem ty24_ok : TyOk Tryd.prog 24 ty24 := .mk' _ [.string ⟨#[]⟩, .slice none 0 0] (by kernel_rfl) Tryd.underlying24 (by decide) rfl (fun h => by cases h) rfl rfl rfl ⟨(fun h => by cases h), tag_struct (by kernel_rfl)⟩
def ty25 : Ty := ⟨false, 1, [.nils], .slice 5 1 1 true⟩  -- []uint8
theorem ty25_ok : TyOk Tryd.prog 25 ty25 := .mk' (.slice 5) [.slice none 0 0] (by kernel_rfl) Tryd.underlying25 (by decide) rfl (fun _ => rfl) rfl rfl rfl ⟨rfl, by decide, (fun _ => Tryd.underlying5), tag_slice (by kernel_rfl)⟩
def ty28 : Ty := ⟨false, 1, [.int .i64 0], .int .i64⟩  -- api.Errno
theorem ty28_ok : TyOk Tryd.prog 28 ty28 := .mk' (.int .i64) [.int .i64 0] (by kernel_rfl) Tryd.underlying28 (by decide) rfl (fun _ => rfl) rfl rfl rfl rfl
def ty40 : Ty := ⟨false, 1, [.int .u16 0], .int .u16⟩  -- uint16
theorem ty40_ok : TyOk Tryd.prog 40 ty40 := .mk' (.int .u16) [.int .u16 0] (by kernel_rfl) Tryd.underlying40 (by decide) rfl (fun _ => rfl) rfl rfl rfl rfl
def ty43 : Ty := ⟨true, 2, [.int .i64 0, .str []], .struct [(0, 1), (1, 1)] true⟩  -- api.Item
theorem ty43_ok : TyOk Tryd.prog 43 ty43 := .mk' _ [.int .i64 0, .string ⟨#[]⟩] (by kernel_rfl) Tryd.underlying43 (by decide) rfl (fun h => by cases h) rfl rfl rfl ⟨(fun _ => eqOk_plain (by kernel_rfl) Tryd.underlying43 (by kernel_rfl) (.int (by decide) rfl Tryd.underlying3 (.str (by decide) rfl Tryd.underlying9 .nil))), tag_struct (by kernel_rfl)⟩
def ty45 : Ty := ⟨false, 1, [.int .u64 0], .int .u64⟩  -- uint64
theorem ty45_ok : TyOk Tryd.prog 45 ty45 := .mk' (.int .u64) [.int .u64 0] (by kernel_rfl) Tryd.underlying45 (by decide) rfl (fun _ => rfl) rfl rfl rfl rfl
def ty46 : Ty := ⟨false, 1, [.int .u32 0], .int .u32⟩  -- uint32
theorem ty46_ok : TyOk Tryd.prog 46 ty46 := .mk' (.int .u32) [.int .u32 0] (by kernel_rfl) Tryd.underlying46 (by decide) rfl (fun _ => rfl) rfl rfl rfl rfl
def ty48 : Ty := ⟨true, 6, [.int .i64 0, .str [], .int .u64 0, .int .u32 0, .str [], .str []], .struct [(0, 1), (1, 1), (2, 1), (3, 1), (4, 1), (5, 1)] true⟩  -- api.Deal
theorem ty48_ok : TyOk Tryd.prog 48 ty48 := .mk' _ [.int .i64 0, .string ⟨#[]⟩, .int .u64 0, .int .u32 0, .string ⟨#[]⟩, .string ⟨#[]⟩] (by kernel_rfl) Tryd.underlying48 (by decide) rfl (fun h => by cases h) rfl rfl rfl ⟨(fun _ => eqOk_plain (by kernel_rfl) Tryd.underlying48 (by kernel_rfl) (.int (by decide) rfl Tryd.underlying3 (.str (by decide) rfl Tryd.underlying9 (.int (by decide) rfl Tryd.underlying45 (.int (by decide) rfl Tryd.underlying46 (.str (by decide) rfl Tryd.underlying9 (.str (by decide) rfl Tryd.underlying9 .nil))))))), tag_struct (by kernel_rfl)⟩
def ty60 : Ty := ⟨false, 1, [.nils], .slice 64 8 88 false⟩  -- []api.Entry
theorem ty60_ok : TyOk Tryd.prog 60 ty60 := .mk' (.slice 64) [.slice none 0 0] (by kernel_rfl) Tryd.underlying60 (by decide) rfl (fun _ => rfl) rfl rfl rfl ⟨rfl, by decide, (fun h => by cases h), tag_slice (by kernel_rfl)⟩
def ty62 : Ty := ⟨true, 2, [.int .u32 0, .str []], .struct [(0, 1), (1, 1)] true⟩  -- api.Key
theorem ty62_ok : TyOk Tryd.prog 62 ty62 := .mk' _ [.int .u32 0, .string ⟨#[]⟩] (by kernel_rfl) Tryd.underlying62 (by decide) rfl (fun h => by cases h) rfl rfl rfl ⟨(fun _ => eqOk_plain (by kernel_rfl) Tryd.underlying62 (by kernel_rfl) (.int (by decide) rfl Tryd.underlying46 (.str (by decide) rfl Tryd.underlying9 .nil))), tag_struct (by kernel_rfl)⟩
def ty64 : Ty := ⟨true, 8, [.int .u32 0, .str [], .int .i64 0, .str [], .int .u64 0, .str [], .int .i64 0, .int .i64 0], .struct [(0, 2), (2, 1), (3, 1), (4, 1), (5, 1), (6, 1), (7, 1)] true⟩  -- api.Entry
theorem ty64_ok : TyOk Tryd.prog 64 ty64 := .mk' _ [.int .u32 0, .string ⟨#[]⟩, .int .i64 0, .string ⟨#[]⟩, .int .u64 0, .string ⟨#[]⟩, .int .i64 0, .int .i64 0] (by kernel_rfl) Tryd.underlying64 (by decide) rfl (fun h => by cases h) rfl rfl rfl ⟨(fun _ => eqOk_plain2 (by kernel_rfl) Tryd.underlying64 (by kernel_rfl) (Plain2.sub (z := [.int .u32 0, .str []]) (z' := [.int .i64 0, .str [], .int .u64 0, .str [], .int .i64 0, .int .i64 0]) (by decide) rfl Tryd.underlying62 (by kernel_rfl) (by kernel_rfl) (.int (by decide) rfl Tryd.underlying46 (.str (by decide) rfl Tryd.underlying9 .nil)) (.int (by decide) rfl Tryd.underlying3 (.str (by decide) rfl Tryd.underlying9 (.int (by decide) rfl Tryd.underlying45 (.str (by decide) rfl Tryd.underlying9 (.int (by decide) rfl Tryd.underlying3 (.int (by decide) rfl Tryd.underlying3 .nil)))))))), tag_struct (by kernel_rfl)⟩
def ty83 : Ty := ⟨true, 7, [.int .i64 0, .int .i64 0, .str [], .int .u64 0, .int .u32 0, .str [], .str []], .struct [(0, 1), (1, 6)] true⟩  -- api.Event
theorem ty83_ok : TyOk Tryd.prog 83 ty83 := .mk' _ [.int .i64 0, .int .i64 0, .string ⟨#[]⟩, .int .u64 0, .int .u32 0, .string ⟨#[]⟩, .string ⟨#[]⟩] (by kernel_rfl) Tryd.underlying83 (by decide) rfl (fun h => by cases h) rfl rfl rfl ⟨(fun _ => eqOk_plain2 (by kernel_rfl) Tryd.underlying83 (by kernel_rfl) (.int (by decide) rfl Tryd.underlying3 (Plain2.sub (z := [.int .i64 0, .str [], .int .u64 0, .int .u32 0, .str [], .str []]) (z' := []) (by decide) rfl Tryd.underlying48 (by kernel_rfl) (by kernel_rfl) (.int (by decide) rfl Tryd.underlying3 (.str (by decide) rfl Tryd.underlying9 (.int (by decide) rfl Tryd.underlying45 (.int (by decide) rfl Tryd.underlying46 (.str (by decide) rfl Tryd.underlying9 (.str (by decide) rfl Tryd.underlying9 .nil)))))) .nil))), tag_struct (by kernel_rfl)⟩
def ty84 : Ty := ⟨false, 1, [.nils], .slice 48 6 72 false⟩  -- []api.Deal
theorem ty84_ok : TyOk Tryd.prog 84 ty84 := .mk' (.slice 48) [.slice none 0 0] (by kernel_rfl) Tryd.underlying84 (by decide) rfl (fun _ => rfl) rfl rfl rfl ⟨rfl, by decide, (fun h => by cases h), tag_slice (by kernel_rfl)⟩
def ty86 : Ty := ⟨true, 12, [.int .u32 0, .str [], .int .i64 0, .str [], .int .u64 0, .str [], .int .i64 0, .int .i64 0, .nils, .nils, .int .i64 0, .bool false], .struct [(0, 8), (8, 1), (9, 1), (10, 1), (11, 1)] false⟩  -- api.Step
theorem ty86_ok : TyOk Tryd.prog 86 ty86 := .mk' _ [.int .u32 0, .string ⟨#[]⟩, .int .i64 0, .string ⟨#[]⟩, .int .u64 0, .string ⟨#[]⟩, .int .i64 0, .int .i64 0, .slice none 0 0, .slice none 0 0, .int .i64 0, .bool false] (by kernel_rfl) Tryd.underlying86 (by decide) rfl (fun h => by cases h) rfl rfl rfl ⟨(fun h => by cases h), tag_struct (by kernel_rfl)⟩
def ty96 : Ty := ⟨false, 1, [.nils], .slice 83 7 80 false⟩  -- []api.Event
theorem ty96_ok : TyOk Tryd.prog 96 ty96 := .mk' (.slice 83) [.slice none 0 0] (by kernel_rfl) Tryd.underlying96 (by decide) rfl (fun _ => rfl) rfl rfl rfl ⟨rfl, by decide, (fun h => by cases h), tag_slice (by kernel_rfl)⟩
def ty98 : Ty := ⟨false, 1, [.val .nilFunc], .other⟩  -- func(string) bool
theorem ty98_ok : TyOk Tryd.prog 98 ty98 := .mk' _ [.nilFunc] (by kernel_rfl) Tryd.underlying98 (by decide) rfl (fun _ => rfl) rfl rfl rfl trivial
def ty100 : Ty := ⟨false, 1, [.nils], .slice 3 1 8 false⟩  -- []int
theorem ty100_ok : TyOk Tryd.prog 100 ty100 := .mk' (.slice 3) [.slice none 0 0] (by kernel_rfl) Tryd.underlying100 (by decide) rfl (fun _ => rfl) rfl rfl rfl ⟨rfl, by decide, (fun h => by cases h), tag_slice (by kernel_rfl)⟩
def ty105 : Ty := ⟨true, 2, [.int .u64 0, .int .u64 0], .struct [(0, 1), (1, 1)] true⟩  -- api.Bitmap
theorem ty105_ok : TyOk Tryd.prog 105 ty105 := .mk' _ [.int .u64 0, .int .u64 0] (by kernel_rfl) Tryd.underlying105 (by decide) rfl (fun h => by cases h) rfl rfl rfl ⟨(fun _ => eqOk_plain (by kernel_rfl) Tryd.underlying105 (by kernel_rfl) (.int (by decide) rfl Tryd.underlying45 (.int (by decide) rfl Tryd.underlying45 .nil))), tag_struct (by kernel_rfl)⟩
def ty122 : Ty := ⟨true, 7, [.str [], .str [], .str [], .str [], .str [], .str [], .str []], .array 7 9 1⟩  -- [7]string
theorem ty122_ok : TyOk Tryd.prog 122 ty122 := .mk' (.array 7 9) [.string ⟨#[]⟩, .string ⟨#[]⟩, .string ⟨#[]⟩, .string ⟨#[]⟩, .string ⟨#[]⟩, .string ⟨#[]⟩, .string ⟨#[]⟩] (by kernel_rfl) Tryd.underlying122 (by decide) rfl (fun h => by cases h) rfl rfl rfl ⟨rfl, tag_array (by kernel_rfl)⟩
def ty125 : Ty := ⟨false, 1, [.nils], .slice 9 1 16 false⟩  -- []string
theorem ty125_ok : TyOk Tryd.prog 125 ty125 := .mk' (.slice 9) [.slice none 0 0] (by kernel_rfl) Tryd.underlying125 (by decide) rfl (fun _ => rfl) rfl rfl rfl ⟨rfl, by decide, (fun h => by cases h), tag_slice (by kernel_rfl)⟩
def ty143 : Ty := ⟨true, 19, [.int .u32 0, .str [], .int .i64 0, .str [], .int .u64 0, .str [], .int .i64 0, .int .i64 0, .nils, .nils, .int .i64 0, .bool false, .int .i64 0, .str [], .int .u64 0, .int .u32 0, .str [], .str [], .int .i64 0], .struct [(0, 12), (12, 6), (18, 1)] false⟩  -- core.maker
theorem ty143_ok : TyOk Tryd.prog 143 ty143 := .mk' _ [.int .u32 0, .string ⟨#[]⟩, .int .i64 0, .string ⟨#[]⟩, .int .u64 0, .string ⟨#[]⟩, .int .i64 0, .int .i64 0, .slice none 0 0, .slice none 0 0, .int .i64 0, .bool false, .int .i64 0, .string ⟨#[]⟩, .int .u64 0, .int .u32 0, .string ⟨#[]⟩, .string ⟨#[]⟩, .int .i64 0] (by kernel_rfl) Tryd.underlying143 (by decide) rfl (fun h => by cases h) rfl rfl rfl ⟨(fun h => by cases h), tag_struct (by kernel_rfl)⟩
def ty144 : Ty := ⟨false, 1, [.val .nilFunc], .other⟩  -- func(*core.maker)
theorem ty144_ok : TyOk Tryd.prog 144 ty144 := .mk' _ [.nilFunc] (by kernel_rfl) Tryd.underlying144 (by decide) rfl (fun _ => rfl) rfl rfl rfl trivial
def ty154 : Ty := ⟨true, 3, [.int .i64 0, .int .i64 0, .int .i64 0], .struct [(0, 1), (1, 1), (2, 1)] true⟩  -- api.Def
theorem ty154_ok : TyOk Tryd.prog 154 ty154 := .mk' _ [.int .i64 0, .int .i64 0, .int .i64 0] (by kernel_rfl) Tryd.underlying154 (by decide) rfl (fun h => by cases h) rfl rfl rfl ⟨(fun _ => eqOk_plain (by kernel_rfl) Tryd.underlying154 (by kernel_rfl) (.int (by decide) rfl Tryd.underlying3 (.int (by decide) rfl Tryd.underlying3 (.int (by decide) rfl Tryd.underlying3 .nil)))), tag_struct (by kernel_rfl)⟩
def ty158 : Ty := ⟨false, 1, [.val .nilIface], .other⟩  -- field.form
theorem ty158_ok : TyOk Tryd.prog 158 ty158 := .mk' _ [.nilIface] (by kernel_rfl) Tryd.underlying158 (by decide) rfl (fun _ => rfl) rfl rfl rfl trivial
def ty188 : Ty := ⟨true, 45, [.int .i64 0, .int .i64 0, .int .i64 0, .int .i64 0, .int .i64 0, .int .i64 0, .int .i64 0, .int .i64 0, .int .i64 0, .int .i64 0, .int .i64 0, .int .i64 0, .int .i64 0, .int .i64 0, .int .i64 0, .int .i64 0, .int .i64 0, .int .i64 0, .int .i64 0, .int .i64 0, .int .i64 0, .int .i64 0, .int .i64 0, .int .i64 0, .int .i64 0, .int .i64 0, .int .i64 0, .int .i64 0, .int .i64 0, .int .i64 0, .int .i64 0, .int .i64 0, .int .i64 0, .int .i64 0, .int .i64 0, .int .i64 0, .int .i64 0, .int .i64 0, .int .i64 0, .int .i64 0, .int .i64 0, .int .i64 0, .int .i64 0, .int .i64 0, .int .i64 0], .array 15 154 3⟩  -- [15]api.Def
theorem ty188_ok : TyOk Tryd.prog 188 ty188 := .mk' (.array 15 154) [.int .i64 0, .int .i64 0, .int .i64 0, .int .i64 0, .int .i64 0, .int .i64 0, .int .i64 0, .int .i64 0, .int .i64 0, .int .i64 0, .int .i64 0, .int .i64 0, .int .i64 0, .int .i64 0, .int .i64 0, .int .i64 0, .int .i64 0, .int .i64 0, .int .i64 0, .int .i64 0, .int .i64 0, .int .i64 0, .int .i64 0, .int .i64 0, .int .i64 0, .int .i64 0, .int .i64 0, .int .i64 0, .int .i64 0, .int .i64 0, .int .i64 0, .int .i64 0, .int .i64 0, .int .i64 0, .int .i64 0, .int .i64 0, .int .i64 0, .int .i64 0, .int .i64 0, .int .i64 0, .int .i64 0, .int .i64 0, .int .i64 0, .int .i64 0, .int .i64 0] (by kernel_rfl) Tryd.underlying188 (by decide) rfl (fun h => by cases h) rfl rfl rfl ⟨rfl, tag_array (by kernel_rfl)⟩
def ty190 : Ty := ⟨true, 2, [.int .i64 0, .val .nilFunc], .struct [(0, 1), (1, 1)] false⟩  -- field.fixed
theorem ty190_ok : TyOk Tryd.prog 190 ty190 := .mk' _ [.int .i64 0, .nilFunc] (by kernel_rfl) Tryd.underlying190 (by decide) rfl (fun h => by cases h) rfl rfl rfl ⟨(fun h => by cases h), tag_struct (by kernel_rfl)⟩
def ty192 : Ty := ⟨true, 3, [.int .i64 0, .int .i64 0, .val .nilFunc], .struct [(0, 1), (1, 1), (2, 1)] false⟩  -- field.long
theorem ty192_ok : TyOk Tryd.prog 192 ty192 := .mk' _ [.int .i64 0, .int .i64 0, .nilFunc] (by kernel_rfl) Tryd.underlying192 (by decide) rfl (fun h => by cases h) rfl rfl rfl ⟨(fun h => by cases h), tag_struct (by kernel_rfl)⟩
def seatTy : Nat → Option Ty := fun n => match n with
  | 2 => some ty2
  | 3 => some ty3
  | 4 => some ty4
  | 5 => some ty5
  | 9 => some ty9
  | 21 => some ty21
  | 22 => some ty22
  | 24 => some ty24
  | 25 => some ty25
  | 28 => some ty28
  | 40 => some ty40
  | 43 => some ty43
  | 45 => some ty45
  | 46 => some ty46
  | 48 => some ty48
  | 60 => some ty60
  | 62 => some ty62
  | 64 => some ty64
  | 83 => some ty83
  | 84 => some ty84
  | 86 => some ty86
  | 96 => some ty96
  | 98 => some ty98
  | 100 => some ty100
  | 105 => some ty105
  | 122 => some ty122
  | 125 => some ty125
  | 143 => some ty143
  | 144 => some ty144
  | 154 => some ty154
  | 158 => some ty158
  | 188 => some ty188
  | 190 => some ty190
  | 192 => some ty192
  | _ => none
/-- What stands in the package variables that are known: fields, kinds and sizes; types. -/
def knownL : List Int := [2, 3, 19, 3, 1, 6, 4, 1, 12, 7, 1, 10, 11, 1, 6, 12, 1, 6, 37, 2, 12, 38, 2, 6, 39, 2, 2, 41, 2, 8, 44, 4, 25, 48, 5, 999, 49, 1, 3, 90, 1, 42, 120, 5, 999]
def typesL : List (List UInt8) := [[48, 49, 48, 48], [48, 49, 49, 48], [48, 52, 48, 48], [48, 52, 49, 48], [48, 52, 50, 48], [48, 52, 50, 49], [48, 52, 51, 48]]
def gl0 : Nat → SV := fun g => match g with
  | 0 => .rop 7 fun j => .str (typesL.getD j [])
  | 1 => .rop 45 fun j => .int .i64 (knownL.getD j 0)
  | g => .val (.pointer (some ⟨g, 0, none⟩))
def seatT : Tys := ⟨seatTy, gl0⟩
theorem seatT_ok : TysOk Tryd.prog seatT := by
  intro t ty h
  have h : seatTy t = some ty := h
  unfold seatTy at h
  split at h <;> cases h
  · exact ty2_ok
  · exact ty3_ok
  · exact ty4_ok
  · exact ty5_ok
  · exact ty9_ok
  · exact ty21_ok
  · exact ty22_ok
  · exact ty24_ok
  · exact ty25_ok
  · exact ty28_ok
  · exact ty40_ok
  · exact ty43_ok
  · exact ty45_ok
  · exact ty46_ok
  · exact ty48_ok
  · exact ty60_ok
  · exact ty62_ok
  · exact ty64_ok
  · exact ty83_ok
  · exact ty84_ok
  · exact ty86_ok
  · exact ty96_ok
  · exact ty98_ok
  · exact ty100_ok
  · exact ty105_ok
  · exact ty122_ok
  · exact ty125_ok
  · exact ty143_ok
  · exact ty144_ok
  · exact ty154_ok
  · exact ty158_ok
  · exact ty188_ok
  · exact ty190_ok
  · exact ty192_ok
theorem mixed : Tryd.prog.follows .mixedOrders = true := by kernel_rfl
end Go.Vd
