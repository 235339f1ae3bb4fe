/- The types of the seat, as the generator asks for them (printed by mktys.py). -/
import Derived.Test.YtakcggldilbilaaDoorVdEq
import Derived.Lib.ItoaNum
import Derived.Test.YtakcggldilbilaaDoorProg
set_option linter.unusedVariables false
set_option maxRecDepth 100000
namespace Go.Vd
open Go.Proofs

def ty2 : Ty := ⟨false, 1, [.int .i64 0], .int .i64⟩  -- int64
theorem ty2_ok : TyOk Tryd.prog 2 ty2 := .mk' (.int .i64) [.int .i64 0] (by kernel_rfl) Tryd.underlying2 (by decide) rfl (fun _ => rfl) rfl rfl rfl rfl
def ty3 : Ty := ⟨false, 1, [.int .i64 0], .int .i64⟩  -- int
theorem ty3_ok : TyOk Tryd.prog 3 ty3 := .mk' (.int .i64) [.int .i64 0] (by kernel_rfl) Tryd.underlying3 (by decide) rfl (fun _ => rfl) rfl rfl rfl rfl
def ty4 : Ty := ⟨false, 1, [.bool false], .bool⟩  -- bool
theorem ty4_ok : TyOk Tryd.prog 4 ty4 := .mk' .bool [.bool false] (by kernel_rfl) Tryd.underlying4 (by decide) rfl (fun _ => rfl) rfl rfl rfl rfl
def ty5 : Ty := ⟨false, 1, [.int .u8 0], .int .u8⟩  -- uint8
theorem ty5_ok : TyOk Tryd.prog 5 ty5 := .mk' (.int .u8) [.int .u8 0] (by kernel_rfl) Tryd.underlying5 (by decide) rfl (fun _ => rfl) rfl rfl rfl rfl
def ty9 : Ty := ⟨false, 1, [.str []], .str⟩  -- string
theorem ty9_ok : TyOk Tryd.prog 9 ty9 := .mk' .string [.string ⟨#[]⟩] (by kernel_rfl) Tryd.underlying9 (by decide) rfl (fun _ => rfl) rfl rfl rfl rfl
def ty21 : Ty := ⟨false, 1, [.int .i32 0], .int .i32⟩  -- int32
theorem ty21_ok : TyOk Tryd.prog 21 ty21 := .mk' (.int .i32) [.int .i32 0] (by kernel_rfl) Tryd.underlying21 (by decide) rfl (fun _ => rfl) rfl rfl rfl rfl
def ty22 : Ty := ⟨false, 1, [.int .u16 0], .int .u16⟩  -- uint16
theorem ty22_ok : TyOk Tryd.prog 22 ty22 := .mk' (.int .u16) [.int .u16 0] (by kernel_rfl) Tryd.underlying22 (by decide) rfl (fun _ => rfl) rfl rfl rfl rfl
def ty24 : Ty := ⟨false, 1, [.int .i64 0], .int .i64⟩  -- api.Errno
theorem ty24_ok : TyOk Tryd.prog 24 ty24 := .mk' (.int .i64) [.int .i64 0] (by kernel_rfl) Tryd.underlying24 (by decide) rfl (fun _ => rfl) rfl rfl rfl rfl
def ty27 : Ty := ⟨false, 1, [.val .nilFunc], .other⟩  -- func(string) bool
theorem ty27_ok : TyOk Tryd.prog 27 ty27 := .mk' _ [.nilFunc] (by kernel_rfl) Tryd.underlying27 (by decide) rfl (fun _ => rfl) rfl rfl rfl trivial
def ty28 : Ty := ⟨false, 1, [.nils], .slice 5 1 1 true⟩  -- []uint8
theorem ty28_ok : TyOk Tryd.prog 28 ty28 := .mk' (.slice 5) [.slice none 0 0] (by kernel_rfl) Tryd.underlying28 (by decide) rfl (fun _ => rfl) rfl rfl rfl ⟨rfl, by decide, (fun _ => Tryd.underlying5), tag_slice (by kernel_rfl)⟩
def ty30 : Ty := ⟨false, 1, [.nils], .slice 47 2 24 false⟩  -- []api.Item
theorem ty30_ok : TyOk Tryd.prog 30 ty30 := .mk' (.slice 47) [.slice none 0 0] (by kernel_rfl) Tryd.underlying30 (by decide) rfl (fun _ => rfl) rfl rfl rfl ⟨rfl, by decide, (fun h => by cases h), tag_slice (by kernel_rfl)⟩
def ty32 : Ty := ⟨true, 2, [.str [], .nils], .struct [(0, 1), (1, 1)] false⟩  -- api.Message
theorem ty32_ok : TyOk Tryd.prog 32 ty32 := .mk' _ [.string ⟨#[]⟩, .slice none 0 0] (by kernel_rfl) Tryd.underlying32 (by decide) rfl (fun h => by cases h) rfl rfl rfl ⟨(fun h => by cases h), tag_struct (by kernel_rfl)⟩
def ty47 : Ty := ⟨true, 2, [.int .i64 0, .str []], .struct [(0, 1), (1, 1)] true⟩  -- api.Item
theorem ty47_ok : TyOk Tryd.prog 47 ty47 := .mk' _ [.int .i64 0, .string ⟨#[]⟩] (by kernel_rfl) Tryd.underlying47 (by decide) rfl (fun h => by cases h) rfl rfl rfl ⟨(fun _ => eqOk_plain (by kernel_rfl) Tryd.underlying47 (by kernel_rfl) (.int (by decide) rfl Tryd.underlying3 (.str (by decide) rfl Tryd.underlying9 .nil))), tag_struct (by kernel_rfl)⟩
def ty49 : Ty := ⟨false, 1, [.int .u64 0], .int .u64⟩  -- uint64
theorem ty49_ok : TyOk Tryd.prog 49 ty49 := .mk' (.int .u64) [.int .u64 0] (by kernel_rfl) Tryd.underlying49 (by decide) rfl (fun _ => rfl) rfl rfl rfl rfl
def ty50 : Ty := ⟨false, 1, [.int .u32 0], .int .u32⟩  -- uint32
theorem ty50_ok : TyOk Tryd.prog 50 ty50 := .mk' (.int .u32) [.int .u32 0] (by kernel_rfl) Tryd.underlying50 (by decide) rfl (fun _ => rfl) rfl rfl rfl rfl
def ty52 : Ty := ⟨true, 6, [.int .i64 0, .str [], .int .u64 0, .int .u32 0, .str [], .str []], .struct [(0, 1), (1, 1), (2, 1), (3, 1), (4, 1), (5, 1)] true⟩  -- api.Deal
theorem ty52_ok : TyOk Tryd.prog 52 ty52 := .mk' _ [.int .i64 0, .string ⟨#[]⟩, .int .u64 0, .int .u32 0, .string ⟨#[]⟩, .string ⟨#[]⟩] (by kernel_rfl) Tryd.underlying52 (by decide) rfl (fun h => by cases h) rfl rfl rfl ⟨(fun _ => eqOk_plain (by kernel_rfl) Tryd.underlying52 (by kernel_rfl) (.int (by decide) rfl Tryd.underlying3 (.str (by decide) rfl Tryd.underlying9 (.int (by decide) rfl Tryd.underlying49 (.int (by decide) rfl Tryd.underlying50 (.str (by decide) rfl Tryd.underlying9 (.str (by decide) rfl Tryd.underlying9 .nil))))))), tag_struct (by kernel_rfl)⟩
def ty64 : Ty := ⟨false, 1, [.nils], .slice 68 8 88 false⟩  -- []api.Entry
theorem ty64_ok : TyOk Tryd.prog 64 ty64 := .mk' (.slice 68) [.slice none 0 0] (by kernel_rfl) Tryd.underlying64 (by decide) rfl (fun _ => rfl) rfl rfl rfl ⟨rfl, by decide, (fun h => by cases h), tag_slice (by kernel_rfl)⟩
def ty66 : Ty := ⟨true, 2, [.int .u32 0, .str []], .struct [(0, 1), (1, 1)] true⟩  -- api.Key
theorem ty66_ok : TyOk Tryd.prog 66 ty66 := .mk' _ [.int .u32 0, .string ⟨#[]⟩] (by kernel_rfl) Tryd.underlying66 (by decide) rfl (fun h => by cases h) rfl rfl rfl ⟨(fun _ => eqOk_plain (by kernel_rfl) Tryd.underlying66 (by kernel_rfl) (.int (by decide) rfl Tryd.underlying50 (.str (by decide) rfl Tryd.underlying9 .nil))), tag_struct (by kernel_rfl)⟩
def ty68 : Ty := ⟨true, 8, [.int .u32 0, .str [], .int .i64 0, .str [], .int .u64 0, .str [], .int .i64 0, .int .i64 0], .struct [(0, 2), (2, 1), (3, 1), (4, 1), (5, 1), (6, 1), (7, 1)] true⟩  -- api.Entry
theorem ty68_ok : TyOk Tryd.prog 68 ty68 := .mk' _ [.int .u32 0, .string ⟨#[]⟩, .int .i64 0, .string ⟨#[]⟩, .int .u64 0, .string ⟨#[]⟩, .int .i64 0, .int .i64 0] (by kernel_rfl) Tryd.underlying68 (by decide) rfl (fun h => by cases h) rfl rfl rfl ⟨(fun _ => eqOk_plain2 (by kernel_rfl) Tryd.underlying68 (by kernel_rfl) (Plain2.sub (z := [.int .u32 0, .str []]) (z' := [.int .i64 0, .str [], .int .u64 0, .str [], .int .i64 0, .int .i64 0]) (by decide) rfl Tryd.underlying66 (by kernel_rfl) (by kernel_rfl) (.int (by decide) rfl Tryd.underlying50 (.str (by decide) rfl Tryd.underlying9 .nil)) (.int (by decide) rfl Tryd.underlying3 (.str (by decide) rfl Tryd.underlying9 (.int (by decide) rfl Tryd.underlying49 (.str (by decide) rfl Tryd.underlying9 (.int (by decide) rfl Tryd.underlying3 (.int (by decide) rfl Tryd.underlying3 .nil)))))))), tag_struct (by kernel_rfl)⟩
def ty86 : Ty := ⟨false, 1, [.nils], .slice 91 4 40 false⟩  -- []api.Hold
theorem ty86_ok : TyOk Tryd.prog 86 ty86 := .mk' (.slice 91) [.slice none 0 0] (by kernel_rfl) Tryd.underlying86 (by decide) rfl (fun _ => rfl) rfl rfl rfl ⟨rfl, by decide, (fun h => by cases h), tag_slice (by kernel_rfl)⟩
def ty88 : Ty := ⟨true, 1, [.nils], .struct [(0, 1)] false⟩  -- api.Ledger
theorem ty88_ok : TyOk Tryd.prog 88 ty88 := .mk' _ [.slice none 0 0] (by kernel_rfl) Tryd.underlying88 (by decide) rfl (fun h => by cases h) rfl rfl rfl ⟨(fun h => by cases h), tag_struct (by kernel_rfl)⟩
def ty91 : Ty := ⟨true, 4, [.int .u32 0, .str [], .int .u64 0, .int .i64 0], .struct [(0, 2), (2, 1), (3, 1)] true⟩  -- api.Hold
theorem ty91_ok : TyOk Tryd.prog 91 ty91 := .mk' _ [.int .u32 0, .string ⟨#[]⟩, .int .u64 0, .int .i64 0] (by kernel_rfl) Tryd.underlying91 (by decide) rfl (fun h => by cases h) rfl rfl rfl ⟨(fun _ => eqOk_plain2 (by kernel_rfl) Tryd.underlying91 (by kernel_rfl) (Plain2.sub (z := [.int .u32 0, .str []]) (z' := [.int .u64 0, .int .i64 0]) (by decide) rfl Tryd.underlying66 (by kernel_rfl) (by kernel_rfl) (.int (by decide) rfl Tryd.underlying50 (.str (by decide) rfl Tryd.underlying9 .nil)) (.int (by decide) rfl Tryd.underlying49 (.int (by decide) rfl Tryd.underlying3 .nil)))), tag_struct (by kernel_rfl)⟩
def ty98 : Ty := ⟨true, 8, [.nils, .int .i64 0, .str [], .int .u64 0, .int .u32 0, .str [], .str [], .int .i64 0], .struct [(0, 1), (1, 6), (7, 1)] false⟩  -- paydeskref15.Done
theorem ty98_ok : TyOk Tryd.prog 98 ty98 := .mk' _ [.slice none 0 0, .int .i64 0, .string ⟨#[]⟩, .int .u64 0, .int .u32 0, .string ⟨#[]⟩, .string ⟨#[]⟩, .int .i64 0] (by kernel_rfl) Tryd.underlying98 (by decide) rfl (fun h => by cases h) rfl rfl rfl ⟨(fun h => by cases h), tag_struct (by kernel_rfl)⟩
def ty106 : Ty := ⟨false, 1, [.nils], .slice 52 6 72 false⟩  -- []api.Deal
theorem ty106_ok : TyOk Tryd.prog 106 ty106 := .mk' (.slice 52) [.slice none 0 0] (by kernel_rfl) Tryd.underlying106 (by decide) rfl (fun _ => rfl) rfl rfl rfl ⟨rfl, by decide, (fun h => by cases h), tag_slice (by kernel_rfl)⟩
def ty107 : Ty := ⟨false, 1, [.nils], .slice 4 1 1 false⟩  -- []bool
theorem ty107_ok : TyOk Tryd.prog 107 ty107 := .mk' (.slice 4) [.slice none 0 0] (by kernel_rfl) Tryd.underlying107 (by decide) rfl (fun _ => rfl) rfl rfl rfl ⟨rfl, by decide, (fun h => by cases h), tag_slice (by kernel_rfl)⟩
def ty117 : Ty := ⟨false, 1, [.nils], .slice 3 1 8 false⟩  -- []int
theorem ty117_ok : TyOk Tryd.prog 117 ty117 := .mk' (.slice 3) [.slice none 0 0] (by kernel_rfl) Tryd.underlying117 (by decide) rfl (fun _ => rfl) rfl rfl rfl ⟨rfl, by decide, (fun h => by cases h), tag_slice (by kernel_rfl)⟩
def ty122 : Ty := ⟨true, 2, [.int .u64 0, .int .u64 0], .struct [(0, 1), (1, 1)] true⟩  -- api.Bitmap
theorem ty122_ok : TyOk Tryd.prog 122 ty122 := .mk' _ [.int .u64 0, .int .u64 0] (by kernel_rfl) Tryd.underlying122 (by decide) rfl (fun h => by cases h) rfl rfl rfl ⟨(fun _ => eqOk_plain (by kernel_rfl) Tryd.underlying122 (by kernel_rfl) (.int (by decide) rfl Tryd.underlying49 (.int (by decide) rfl Tryd.underlying49 .nil))), tag_struct (by kernel_rfl)⟩
def ty139 : Ty := ⟨true, 7, [.str [], .str [], .str [], .str [], .str [], .str [], .str []], .array 7 9 1⟩  -- [7]string
theorem ty139_ok : TyOk Tryd.prog 139 ty139 := .mk' (.array 7 9) [.string ⟨#[]⟩, .string ⟨#[]⟩, .string ⟨#[]⟩, .string ⟨#[]⟩, .string ⟨#[]⟩, .string ⟨#[]⟩, .string ⟨#[]⟩] (by kernel_rfl) Tryd.underlying139 (by decide) rfl (fun h => by cases h) rfl rfl rfl ⟨rfl, tag_array (by kernel_rfl)⟩
def ty142 : Ty := ⟨false, 1, [.nils], .slice 9 1 16 false⟩  -- []string
theorem ty142_ok : TyOk Tryd.prog 142 ty142 := .mk' (.slice 9) [.slice none 0 0] (by kernel_rfl) Tryd.underlying142 (by decide) rfl (fun _ => rfl) rfl rfl rfl ⟨rfl, by decide, (fun h => by cases h), tag_slice (by kernel_rfl)⟩
def ty171 : Ty := ⟨true, 3, [.int .i64 0, .int .i64 0, .int .i64 0], .struct [(0, 1), (1, 1), (2, 1)] true⟩  -- api.Def
theorem ty171_ok : TyOk Tryd.prog 171 ty171 := .mk' _ [.int .i64 0, .int .i64 0, .int .i64 0] (by kernel_rfl) Tryd.underlying171 (by decide) rfl (fun h => by cases h) rfl rfl rfl ⟨(fun _ => eqOk_plain (by kernel_rfl) Tryd.underlying171 (by kernel_rfl) (.int (by decide) rfl Tryd.underlying3 (.int (by decide) rfl Tryd.underlying3 (.int (by decide) rfl Tryd.underlying3 .nil)))), tag_struct (by kernel_rfl)⟩
def ty175 : Ty := ⟨false, 1, [.val .nilIface], .other⟩  -- field.form
theorem ty175_ok : TyOk Tryd.prog 175 ty175 := .mk' _ [.nilIface] (by kernel_rfl) Tryd.underlying175 (by decide) rfl (fun _ => rfl) rfl rfl rfl trivial
def ty181 : Ty := ⟨false, 1, [.nils], .slice 28 1 24 false⟩  -- [][]uint8
theorem ty181_ok : TyOk Tryd.prog 181 ty181 := .mk' (.slice 28) [.slice none 0 0] (by kernel_rfl) Tryd.underlying181 (by decide) rfl (fun _ => rfl) rfl rfl rfl ⟨rfl, by decide, (fun h => by cases h), tag_slice (by kernel_rfl)⟩
def ty219 : Ty := ⟨true, 45, [.int .i64 0, .int .i64 0, .int .i64 0, .int .i64 0, .int .i64 0, .int .i64 0, .int .i64 0, .int .i64 0, .int .i64 0, .int .i64 0, .int .i64 0, .int .i64 0, .int .i64 0, .int .i64 0, .int .i64 0, .int .i64 0, .int .i64 0, .int .i64 0, .int .i64 0, .int .i64 0, .int .i64 0, .int .i64 0, .int .i64 0, .int .i64 0, .int .i64 0, .int .i64 0, .int .i64 0, .int .i64 0, .int .i64 0, .int .i64 0, .int .i64 0, .int .i64 0, .int .i64 0, .int .i64 0, .int .i64 0, .int .i64 0, .int .i64 0, .int .i64 0, .int .i64 0, .int .i64 0, .int .i64 0, .int .i64 0, .int .i64 0, .int .i64 0, .int .i64 0], .array 15 171 3⟩  -- [15]api.Def
theorem ty219_ok : TyOk Tryd.prog 219 ty219 := .mk' (.array 15 171) [.int .i64 0, .int .i64 0, .int .i64 0, .int .i64 0, .int .i64 0, .int .i64 0, .int .i64 0, .int .i64 0, .int .i64 0, .int .i64 0, .int .i64 0, .int .i64 0, .int .i64 0, .int .i64 0, .int .i64 0, .int .i64 0, .int .i64 0, .int .i64 0, .int .i64 0, .int .i64 0, .int .i64 0, .int .i64 0, .int .i64 0, .int .i64 0, .int .i64 0, .int .i64 0, .int .i64 0, .int .i64 0, .int .i64 0, .int .i64 0, .int .i64 0, .int .i64 0, .int .i64 0, .int .i64 0, .int .i64 0, .int .i64 0, .int .i64 0, .int .i64 0, .int .i64 0, .int .i64 0, .int .i64 0, .int .i64 0, .int .i64 0, .int .i64 0, .int .i64 0] (by kernel_rfl) Tryd.underlying219 (by decide) rfl (fun h => by cases h) rfl rfl rfl ⟨rfl, tag_array (by kernel_rfl)⟩
def ty221 : Ty := ⟨true, 2, [.int .i64 0, .val .nilFunc], .struct [(0, 1), (1, 1)] false⟩  -- field.fixed
theorem ty221_ok : TyOk Tryd.prog 221 ty221 := .mk' _ [.int .i64 0, .nilFunc] (by kernel_rfl) Tryd.underlying221 (by decide) rfl (fun h => by cases h) rfl rfl rfl ⟨(fun h => by cases h), tag_struct (by kernel_rfl)⟩
def ty223 : Ty := ⟨true, 3, [.int .i64 0, .int .i64 0, .val .nilFunc], .struct [(0, 1), (1, 1), (2, 1)] false⟩  -- field.long
theorem ty223_ok : TyOk Tryd.prog 223 ty223 := .mk' _ [.int .i64 0, .int .i64 0, .nilFunc] (by kernel_rfl) Tryd.underlying223 (by decide) rfl (fun h => by cases h) rfl rfl rfl ⟨(fun h => by cases h), tag_struct (by kernel_rfl)⟩
def seatTy : Nat → Option Ty := fun n => match n with
  | 2 => some ty2
  | 3 => some ty3
  | 4 => some ty4
  | 5 => some ty5
  | 9 => some ty9
  | 21 => some ty21
  | 22 => some ty22
  | 24 => some ty24
  | 27 => some ty27
  | 28 => some ty28
  | 30 => some ty30
  | 32 => some ty32
  | 47 => some ty47
  | 49 => some ty49
  | 50 => some ty50
  | 52 => some ty52
  | 64 => some ty64
  | 66 => some ty66
  | 68 => some ty68
  | 86 => some ty86
  | 88 => some ty88
  | 91 => some ty91
  | 98 => some ty98
  | 106 => some ty106
  | 107 => some ty107
  | 117 => some ty117
  | 122 => some ty122
  | 139 => some ty139
  | 142 => some ty142
  | 171 => some ty171
  | 175 => some ty175
  | 181 => some ty181
  | 219 => some ty219
  | 221 => some ty221
  | 223 => some ty223
  | _ => none
/-- What stands in the package variables that are known: fields, kinds and sizes; types. -/
def knownL : List Int := [2, 3, 19, 3, 1, 6, 4, 1, 12, 7, 1, 10, 11, 1, 6, 12, 1, 6, 37, 2, 12, 38, 2, 6, 39, 2, 2, 41, 2, 8, 44, 4, 25, 48, 5, 999, 49, 1, 3, 90, 1, 42, 120, 5, 999]
def typesL : List (List UInt8) := [[48, 49, 48, 48], [48, 49, 49, 48], [48, 52, 48, 48], [48, 52, 49, 48], [48, 52, 50, 48], [48, 52, 50, 49], [48, 52, 51, 48]]
def gl0 : Nat → SV := fun g => match g with
  | 2 => .rop 20 fun j => .int .u64 (Go.Lib.pow10Tab.getD j 0)
  | g => .val (.pointer (some ⟨g, 0, none⟩))
def seatT : Tys := { ty := seatTy, gl := gl0 }
theorem seatT_ok : TysOk Tryd.prog seatT := by
  intro t ty h
  have h : seatTy t = some ty := h
  unfold seatTy at h
  split at h <;> cases h
  · exact ty2_ok
  · exact ty3_ok
  · exact ty4_ok
  · exact ty5_ok
  · exact ty9_ok
  · exact ty21_ok
  · exact ty22_ok
  · exact ty24_ok
  · exact ty27_ok
  · exact ty28_ok
  · exact ty30_ok
  · exact ty32_ok
  · exact ty47_ok
  · exact ty49_ok
  · exact ty50_ok
  · exact ty52_ok
  · exact ty64_ok
  · exact ty66_ok
  · exact ty68_ok
  · exact ty86_ok
  · exact ty88_ok
  · exact ty91_ok
  · exact ty98_ok
  · exact ty106_ok
  · exact ty107_ok
  · exact ty117_ok
  · exact ty122_ok
  · exact ty139_ok
  · exact ty142_ok
  · exact ty171_ok
  · exact ty175_ok
  · exact ty181_ok
  · exact ty219_ok
  · exact ty221_ok
  · exact ty223_ok
theorem mixed : Tryd.prog.follows .mixedOrders = true := by kernel_rfl
end Go.Vd
