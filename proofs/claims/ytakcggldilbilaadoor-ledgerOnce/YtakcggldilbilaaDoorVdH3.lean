/- The types of the seat, as the generator asks for them (printed by mktys.py). -/
import Derived.Test.YtakcggldilbilaaDoorVdEq
import Derived.Lib.ItoaNum
import Derived.Test.YtakcggldilbilaaDoorProg
import Derived.Test.YtakcggldilbilaaDoorVdSimp
import Derived.Test.YtakcggldilbilaaDoorVdLib
import Derived.RangeFuncNested
import Derived.RangeFuncBound
import Derived.RangeFuncCalls
import Derived.RangeFuncLeaves
import Derived.Shelf.Abstract
import Derived.Shelf.RegionOpen
import Derived.WalkKit
import Derived.OwnWalkIn
import Derived.TacticsInMore
import Derived.LoopNIn
import Derived.LoopIn
import Derived.Laws.RangeString
import Derived.Laws.RangeAny
import Derived.LoopTactic
set_option linter.unusedVariables false
set_option maxRecDepth 100000
namespace Go.Vd
open Go.Proofs

def ty2 : Ty := ⟨false, 1, [.int .i64 0], .int .i64⟩  -- int64
theorem ty2_ok : TyOk Tryd.prog 2 ty2 := .mk' (.int .i64) [.int .i64 0] (by kernel_rfl) Tryd.underlying2 (by decide) rfl (fun _ => rfl) rfl rfl rfl rfl
def ty3 : Ty := ⟨false, 1, [.int .i64 0], .int .i64⟩  -- int
theorem ty3_ok : TyOk Tryd.prog 3 ty3 := .mk' (.int .i64) [.int .i64 0] (by kernel_rfl) Tryd.underlying3 (by decide) rfl (fun _ => rfl) rfl rfl rfl rfl
def ty4 : Ty := ⟨false, 1, [.bool false], .bool⟩  -- bool
theorem ty4_ok : TyOk Tryd.prog 4 ty4 := .mk' .bool [.bool false] (by kernel_rfl) Tryd.underlying4 (by decide) rfl (fun _ => rfl) rfl rfl rfl rfl
def ty5 : Ty := ⟨false, 1, [.int .u8 0], .int .u8⟩  -- uint8
theorem ty5_ok : TyOk Tryd.prog 5 ty5 := .mk' (.int .u8) [.int .u8 0] (by kernel_rfl) Tryd.underlying5 (by decide) rfl (fun _ => rfl) rfl rfl rfl rfl
def ty9 : Ty := ⟨false, 1, [.str []], .str⟩  -- string
theorem ty9_ok : TyOk Tryd.prog 9 ty9 := .mk' .string [.string ⟨#[]⟩] (by kernel_rfl) Tryd.underlying9 (by decide) rfl (fun _ => rfl) rfl rfl rfl rfl
def ty21 : Ty := ⟨false, 1, [.int .i32 0], .int .i32⟩  -- int32
theorem ty21_ok : TyOk Tryd.prog 21 ty21 := .mk' (.int .i32) [.int .i32 0] (by kernel_rfl) Tryd.underlying21 (by decide) rfl (fun _ => rfl) rfl rfl rfl rfl
def ty22 : Ty := ⟨false, 1, [.int .u16 0], .int .u16⟩  -- uint16
theorem ty22_ok : TyOk Tryd.prog 22 ty22 := .mk' (.int .u16) [.int .u16 0] (by kernel_rfl) Tryd.underlying22 (by decide) rfl (fun _ => rfl) rfl rfl rfl rfl
def ty24 : Ty := ⟨false, 1, [.int .i64 0], .int .i64⟩  -- api.Errno
theorem ty24_ok : TyOk Tryd.prog 24 ty24 := .mk' (.int .i64) [.int .i64 0] (by kernel_rfl) Tryd.underlying24 (by decide) rfl (fun _ => rfl) rfl rfl rfl rfl
def ty27 : Ty := ⟨false, 1, [.val .nilFunc], .other⟩  -- func(string) bool
theorem ty27_ok : TyOk Tryd.prog 27 ty27 := .mk' _ [.nilFunc] (by kernel_rfl) Tryd.underlying27 (by decide) rfl (fun _ => rfl) rfl rfl rfl trivial
def ty28 : Ty := ⟨false, 1, [.nils], .slice 5 1 1 true⟩  -- []uint8
theorem ty28_ok : TyOk Tryd.prog 28 ty28 := .mk' (.slice 5) [.slice none 0 0] (by kernel_rfl) Tryd.underlying28 (by decide) rfl (fun _ => rfl) rfl rfl rfl ⟨rfl, by decide, (fun _ => Tryd.underlying5), tag_slice (by kernel_rfl)⟩
def ty30 : Ty := ⟨false, 1, [.nils], .slice 47 2 24 false⟩  -- []api.Item
theorem ty30_ok : TyOk Tryd.prog 30 ty30 := .mk' (.slice 47) [.slice none 0 0] (by kernel_rfl) Tryd.underlying30 (by decide) rfl (fun _ => rfl) rfl rfl rfl ⟨rfl, by decide, (fun h => by cases h), tag_slice (by kernel_rfl)⟩
def ty32 : Ty := ⟨true, 2, [.str [], .nils], .struct [(0, 1), (1, 1)] false⟩  -- api.Message
theorem ty32_ok : TyOk Tryd.prog 32 ty32 := .mk' _ [.string ⟨#[]⟩, .slice none 0 0] (by kernel_rfl) Tryd.underlying32 (by decide) rfl (fun h => by cases h) rfl rfl rfl ⟨(fun h => by cases h), tag_struct (by kernel_rfl)⟩
def ty47 : Ty := ⟨true, 2, [.int .i64 0, .str []], .struct [(0, 1), (1, 1)] true⟩  -- api.Item
theorem ty47_ok : TyOk Tryd.prog 47 ty47 := .mk' _ [.int .i64 0, .string ⟨#[]⟩] (by kernel_rfl) Tryd.underlying47 (by decide) rfl (fun h => by cases h) rfl rfl rfl ⟨(fun _ => eqOk_plain (by kernel_rfl) Tryd.underlying47 (by kernel_rfl) (.int (by decide) rfl Tryd.underlying3 (.str (by decide) rfl Tryd.underlying9 .nil))), tag_struct (by kernel_rfl)⟩
def ty49 : Ty := ⟨false, 1, [.int .u64 0], .int .u64⟩  -- uint64
theorem ty49_ok : TyOk Tryd.prog 49 ty49 := .mk' (.int .u64) [.int .u64 0] (by kernel_rfl) Tryd.underlying49 (by decide) rfl (fun _ => rfl) rfl rfl rfl rfl
def ty50 : Ty := ⟨false, 1, [.int .u32 0], .int .u32⟩  -- uint32
theorem ty50_ok : TyOk Tryd.prog 50 ty50 := .mk' (.int .u32) [.int .u32 0] (by kernel_rfl) Tryd.underlying50 (by decide) rfl (fun _ => rfl) rfl rfl rfl rfl
def ty52 : Ty := ⟨true, 6, [.int .i64 0, .str [], .int .u64 0, .int .u32 0, .str [], .str []], .struct [(0, 1), (1, 1), (2, 1), (3, 1), (4, 1), (5, 1)] true⟩  -- api.Deal
theorem ty52_ok : TyOk Tryd.prog 52 ty52 := .mk' _ [.int .i64 0, .string ⟨#[]⟩, .int .u64 0, .int .u32 0, .string ⟨#[]⟩, .string ⟨#[]⟩] (by kernel_rfl) Tryd.underlying52 (by decide) rfl (fun h => by cases h) rfl rfl rfl ⟨(fun _ => eqOk_plain (by kernel_rfl) Tryd.underlying52 (by kernel_rfl) (.int (by decide) rfl Tryd.underlying3 (.str (by decide) rfl Tryd.underlying9 (.int (by decide) rfl Tryd.underlying49 (.int (by decide) rfl Tryd.underlying50 (.str (by decide) rfl Tryd.underlying9 (.str (by decide) rfl Tryd.underlying9 .nil))))))), tag_struct (by kernel_rfl)⟩
def ty64 : Ty := ⟨false, 1, [.nils], .slice 68 8 88 false⟩  -- []api.Entry
theorem ty64_ok : TyOk Tryd.prog 64 ty64 := .mk' (.slice 68) [.slice none 0 0] (by kernel_rfl) Tryd.underlying64 (by decide) rfl (fun _ => rfl) rfl rfl rfl ⟨rfl, by decide, (fun h => by cases h), tag_slice (by kernel_rfl)⟩
def ty66 : Ty := ⟨true, 2, [.int .u32 0, .str []], .struct [(0, 1), (1, 1)] true⟩  -- api.Key
theorem ty66_ok : TyOk Tryd.prog 66 ty66 := .mk' _ [.int .u32 0, .string ⟨#[]⟩] (by kernel_rfl) Tryd.underlying66 (by decide) rfl (fun h => by cases h) rfl rfl rfl ⟨(fun _ => eqOk_plain (by kernel_rfl) Tryd.underlying66 (by kernel_rfl) (.int (by decide) rfl Tryd.underlying50 (.str (by decide) rfl Tryd.underlying9 .nil))), tag_struct (by kernel_rfl)⟩
def ty68 : Ty := ⟨true, 8, [.int .u32 0, .str [], .int .i64 0, .str [], .int .u64 0, .str [], .int .i64 0, .int .i64 0], .struct [(0, 2), (2, 1), (3, 1), (4, 1), (5, 1), (6, 1), (7, 1)] true⟩  -- api.Entry
theorem ty68_ok : TyOk Tryd.prog 68 ty68 := .mk' _ [.int .u32 0, .string ⟨#[]⟩, .int .i64 0, .string ⟨#[]⟩, .int .u64 0, .string ⟨#[]⟩, .int .i64 0, .int .i64 0] (by kernel_rfl) Tryd.underlying68 (by decide) rfl (fun h => by cases h) rfl rfl rfl ⟨(fun _ => eqOk_plain2 (by kernel_rfl) Tryd.underlying68 (by kernel_rfl) (Plain2.sub (z := [.int .u32 0, .str []]) (z' := [.int .i64 0, .str [], .int .u64 0, .str [], .int .i64 0, .int .i64 0]) (by decide) rfl Tryd.underlying66 (by kernel_rfl) (by kernel_rfl) (.int (by decide) rfl Tryd.underlying50 (.str (by decide) rfl Tryd.underlying9 .nil)) (.int (by decide) rfl Tryd.underlying3 (.str (by decide) rfl Tryd.underlying9 (.int (by decide) rfl Tryd.underlying49 (.str (by decide) rfl Tryd.underlying9 (.int (by decide) rfl Tryd.underlying3 (.int (by decide) rfl Tryd.underlying3 .nil)))))))), tag_struct (by kernel_rfl)⟩
def ty86 : Ty := ⟨false, 1, [.nils], .slice 91 4 40 false⟩  -- []api.Hold
theorem ty86_ok : TyOk Tryd.prog 86 ty86 := .mk' (.slice 91) [.slice none 0 0] (by kernel_rfl) Tryd.underlying86 (by decide) rfl (fun _ => rfl) rfl rfl rfl ⟨rfl, by decide, (fun h => by cases h), tag_slice (by kernel_rfl)⟩
def ty88 : Ty := ⟨true, 1, [.nils], .struct [(0, 1)] false⟩  -- api.Ledger
theorem ty88_ok : TyOk Tryd.prog 88 ty88 := .mk' _ [.slice none 0 0] (by kernel_rfl) Tryd.underlying88 (by decide) rfl (fun h => by cases h) rfl rfl rfl ⟨(fun h => by cases h), tag_struct (by kernel_rfl)⟩
def ty91 : Ty := ⟨true, 4, [.int .u32 0, .str [], .int .u64 0, .int .i64 0], .struct [(0, 2), (2, 1), (3, 1)] true⟩  -- api.Hold
theorem ty91_ok : TyOk Tryd.prog 91 ty91 := .mk' _ [.int .u32 0, .string ⟨#[]⟩, .int .u64 0, .int .i64 0] (by kernel_rfl) Tryd.underlying91 (by decide) rfl (fun h => by cases h) rfl rfl rfl ⟨(fun _ => eqOk_plain2 (by kernel_rfl) Tryd.underlying91 (by kernel_rfl) (Plain2.sub (z := [.int .u32 0, .str []]) (z' := [.int .u64 0, .int .i64 0]) (by decide) rfl Tryd.underlying66 (by kernel_rfl) (by kernel_rfl) (.int (by decide) rfl Tryd.underlying50 (.str (by decide) rfl Tryd.underlying9 .nil)) (.int (by decide) rfl Tryd.underlying49 (.int (by decide) rfl Tryd.underlying3 .nil)))), tag_struct (by kernel_rfl)⟩
def ty98 : Ty := ⟨true, 8, [.nils, .int .i64 0, .str [], .int .u64 0, .int .u32 0, .str [], .str [], .int .i64 0], .struct [(0, 1), (1, 6), (7, 1)] false⟩  -- paydeskref15.Done
theorem ty98_ok : TyOk Tryd.prog 98 ty98 := .mk' _ [.slice none 0 0, .int .i64 0, .string ⟨#[]⟩, .int .u64 0, .int .u32 0, .string ⟨#[]⟩, .string ⟨#[]⟩, .int .i64 0] (by kernel_rfl) Tryd.underlying98 (by decide) rfl (fun h => by cases h) rfl rfl rfl ⟨(fun h => by cases h), tag_struct (by kernel_rfl)⟩
def ty100 : Ty := ⟨false, 1, [.cpx 0 0], .other⟩  -- complex128
theorem ty100_ok : TyOk Tryd.prog 100 ty100 := .mk' _ [.complex .f64 0 0] (by kernel_rfl) Tryd.underlying100 (by decide) rfl (fun _ => rfl) rfl rfl rfl trivial
def ty101 : Ty := ⟨false, 1, [.flt 0], .flt⟩  -- float64
theorem ty101_ok : TyOk Tryd.prog 101 ty101 := .mk' (.float .f64) [.float .f64 0] (by kernel_rfl) Tryd.underlying101 (by decide) rfl (fun _ => rfl) rfl rfl rfl rfl
def ty106 : Ty := ⟨false, 1, [.nils], .slice 52 6 72 false⟩  -- []api.Deal
theorem ty106_ok : TyOk Tryd.prog 106 ty106 := .mk' (.slice 52) [.slice none 0 0] (by kernel_rfl) Tryd.underlying106 (by decide) rfl (fun _ => rfl) rfl rfl rfl ⟨rfl, by decide, (fun h => by cases h), tag_slice (by kernel_rfl)⟩
def ty107 : Ty := ⟨false, 1, [.nils], .slice 4 1 1 false⟩  -- []bool
theorem ty107_ok : TyOk Tryd.prog 107 ty107 := .mk' (.slice 4) [.slice none 0 0] (by kernel_rfl) Tryd.underlying107 (by decide) rfl (fun _ => rfl) rfl rfl rfl ⟨rfl, by decide, (fun h => by cases h), tag_slice (by kernel_rfl)⟩
def ty117 : Ty := ⟨false, 1, [.nils], .slice 3 1 8 false⟩  -- []int
theorem ty117_ok : TyOk Tryd.prog 117 ty117 := .mk' (.slice 3) [.slice none 0 0] (by kernel_rfl) Tryd.underlying117 (by decide) rfl (fun _ => rfl) rfl rfl rfl ⟨rfl, by decide, (fun h => by cases h), tag_slice (by kernel_rfl)⟩
def ty122 : Ty := ⟨true, 2, [.int .u64 0, .int .u64 0], .struct [(0, 1), (1, 1)] true⟩  -- api.Bitmap
theorem ty122_ok : TyOk Tryd.prog 122 ty122 := .mk' _ [.int .u64 0, .int .u64 0] (by kernel_rfl) Tryd.underlying122 (by decide) rfl (fun h => by cases h) rfl rfl rfl ⟨(fun _ => eqOk_plain (by kernel_rfl) Tryd.underlying122 (by kernel_rfl) (.int (by decide) rfl Tryd.underlying49 (.int (by decide) rfl Tryd.underlying49 .nil))), tag_struct (by kernel_rfl)⟩
def ty139 : Ty := ⟨true, 7, [.str [], .str [], .str [], .str [], .str [], .str [], .str []], .array 7 9 1⟩  -- [7]string
theorem ty139_ok : TyOk Tryd.prog 139 ty139 := .mk' (.array 7 9) [.string ⟨#[]⟩, .string ⟨#[]⟩, .string ⟨#[]⟩, .string ⟨#[]⟩, .string ⟨#[]⟩, .string ⟨#[]⟩, .string ⟨#[]⟩] (by kernel_rfl) Tryd.underlying139 (by decide) rfl (fun h => by cases h) rfl rfl rfl ⟨rfl, tag_array (by kernel_rfl)⟩
def ty142 : Ty := ⟨false, 1, [.nils], .slice 9 1 16 false⟩  -- []string
theorem ty142_ok : TyOk Tryd.prog 142 ty142 := .mk' (.slice 9) [.slice none 0 0] (by kernel_rfl) Tryd.underlying142 (by decide) rfl (fun _ => rfl) rfl rfl rfl ⟨rfl, by decide, (fun h => by cases h), tag_slice (by kernel_rfl)⟩
def ty171 : Ty := ⟨true, 3, [.int .i64 0, .int .i64 0, .int .i64 0], .struct [(0, 1), (1, 1), (2, 1)] true⟩  -- api.Def
theorem ty171_ok : TyOk Tryd.prog 171 ty171 := .mk' _ [.int .i64 0, .int .i64 0, .int .i64 0] (by kernel_rfl) Tryd.underlying171 (by decide) rfl (fun h => by cases h) rfl rfl rfl ⟨(fun _ => eqOk_plain (by kernel_rfl) Tryd.underlying171 (by kernel_rfl) (.int (by decide) rfl Tryd.underlying3 (.int (by decide) rfl Tryd.underlying3 (.int (by decide) rfl Tryd.underlying3 .nil)))), tag_struct (by kernel_rfl)⟩
def ty175 : Ty := ⟨false, 1, [.val .nilIface], .other⟩  -- field.form
theorem ty175_ok : TyOk Tryd.prog 175 ty175 := .mk' _ [.nilIface] (by kernel_rfl) Tryd.underlying175 (by decide) rfl (fun _ => rfl) rfl rfl rfl trivial
def ty181 : Ty := ⟨false, 1, [.nils], .slice 28 1 24 false⟩  -- [][]uint8
theorem ty181_ok : TyOk Tryd.prog 181 ty181 := .mk' (.slice 28) [.slice none 0 0] (by kernel_rfl) Tryd.underlying181 (by decide) rfl (fun _ => rfl) rfl rfl rfl ⟨rfl, by decide, (fun h => by cases h), tag_slice (by kernel_rfl)⟩
def ty203 : Ty := ⟨false, 1, [.int .u64 0], .int .u64⟩  -- uint
theorem ty203_ok : TyOk Tryd.prog 203 ty203 := .mk' (.int .u64) [.int .u64 0] (by kernel_rfl) Tryd.underlying203 (by decide) rfl (fun _ => rfl) rfl rfl rfl rfl
def ty219 : Ty := ⟨true, 45, [.int .i64 0, .int .i64 0, .int .i64 0, .int .i64 0, .int .i64 0, .int .i64 0, .int .i64 0, .int .i64 0, .int .i64 0, .int .i64 0, .int .i64 0, .int .i64 0, .int .i64 0, .int .i64 0, .int .i64 0, .int .i64 0, .int .i64 0, .int .i64 0, .int .i64 0, .int .i64 0, .int .i64 0, .int .i64 0, .int .i64 0, .int .i64 0, .int .i64 0, .int .i64 0, .int .i64 0, .int .i64 0, .int .i64 0, .int .i64 0, .int .i64 0, .int .i64 0, .int .i64 0, .int .i64 0, .int .i64 0, .int .i64 0, .int .i64 0, .int .i64 0, .int .i64 0, .int .i64 0, .int .i64 0, .int .i64 0, .int .i64 0, .int .i64 0, .int .i64 0], .array 15 171 3⟩  -- [15]api.Def
theorem ty219_ok : TyOk Tryd.prog 219 ty219 := .mk' (.array 15 171) [.int .i64 0, .int .i64 0, .int .i64 0, .int .i64 0, .int .i64 0, .int .i64 0, .int .i64 0, .int .i64 0, .int .i64 0, .int .i64 0, .int .i64 0, .int .i64 0, .int .i64 0, .int .i64 0, .int .i64 0, .int .i64 0, .int .i64 0, .int .i64 0, .int .i64 0, .int .i64 0, .int .i64 0, .int .i64 0, .int .i64 0, .int .i64 0, .int .i64 0, .int .i64 0, .int .i64 0, .int .i64 0, .int .i64 0, .int .i64 0, .int .i64 0, .int .i64 0, .int .i64 0, .int .i64 0, .int .i64 0, .int .i64 0, .int .i64 0, .int .i64 0, .int .i64 0, .int .i64 0, .int .i64 0, .int .i64 0, .int .i64 0, .int .i64 0, .int .i64 0] (by kernel_rfl) Tryd.underlying219 (by decide) rfl (fun h => by cases h) rfl rfl rfl ⟨rfl, tag_array (by kernel_rfl)⟩
def ty221 : Ty := ⟨true, 2, [.int .i64 0, .val .nilFunc], .struct [(0, 1), (1, 1)] false⟩  -- field.fixed
theorem ty221_ok : TyOk Tryd.prog 221 ty221 := .mk' _ [.int .i64 0, .nilFunc] (by kernel_rfl) Tryd.underlying221 (by decide) rfl (fun h => by cases h) rfl rfl rfl ⟨(fun h => by cases h), tag_struct (by kernel_rfl)⟩
def ty223 : Ty := ⟨true, 3, [.int .i64 0, .int .i64 0, .val .nilFunc], .struct [(0, 1), (1, 1), (2, 1)] false⟩  -- field.long
theorem ty223_ok : TyOk Tryd.prog 223 ty223 := .mk' _ [.int .i64 0, .int .i64 0, .nilFunc] (by kernel_rfl) Tryd.underlying223 (by decide) rfl (fun h => by cases h) rfl rfl rfl ⟨(fun h => by cases h), tag_struct (by kernel_rfl)⟩
def seatTy : Nat → Option Ty := fun n => match n with
  | 2 => some ty2
  | 3 => some ty3
  | 4 => some ty4
  | 5 => some ty5
  | 9 => some ty9
  | 21 => some ty21
  | 22 => some ty22
  | 24 => some ty24
  | 27 => some ty27
  | 28 => some ty28
  | 30 => some ty30
  | 32 => some ty32
  | 47 => some ty47
  | 49 => some ty49
  | 50 => some ty50
  | 52 => some ty52
  | 64 => some ty64
  | 66 => some ty66
  | 68 => some ty68
  | 86 => some ty86
  | 88 => some ty88
  | 91 => some ty91
  | 98 => some ty98
  | 100 => some ty100
  | 101 => some ty101
  | 106 => some ty106
  | 107 => some ty107
  | 117 => some ty117
  | 122 => some ty122
  | 139 => some ty139
  | 142 => some ty142
  | 171 => some ty171
  | 175 => some ty175
  | 181 => some ty181
  | 203 => some ty203
  | 219 => some ty219
  | 221 => some ty221
  | 223 => some ty223
  | _ => none
/-- What stands in the package variables that are known: fields, kinds and sizes; types. -/
def knownL : List Int := [2, 3, 19, 3, 1, 6, 4, 1, 12, 7, 1, 10, 11, 1, 6, 12, 1, 6, 37, 2, 12, 38, 2, 6, 39, 2, 2, 41, 2, 8, 44, 4, 25, 48, 5, 999, 49, 1, 3, 90, 1, 42, 120, 5, 999]
def typesL : List (List UInt8) := [[48, 49, 48, 48], [48, 49, 49, 48], [48, 52, 48, 48], [48, 52, 49, 48], [48, 52, 50, 48], [48, 52, 50, 49], [48, 52, 51, 48]]
def gl0 : Nat → SV := fun g => match g with
  | 0 => .rop 7 fun j => .str (typesL.getD j [])
  | 1 => .rop 45 fun j => .int .i64 (knownL.getD j 0)
  | g => .val (.pointer (some ⟨g, 0, none⟩))
def seatFl : Nat → Nat → Option Nat := fun t i => match t, i with
  | 32, 0 => some 9
  | 32, 1 => some 30
  | 47, 0 => some 3
  | 47, 1 => some 9
  | 52, 0 => some 3
  | 52, 1 => some 9
  | 52, 2 => some 49
  | 52, 3 => some 50
  | 52, 4 => some 9
  | 52, 5 => some 9
  | 66, 0 => some 50
  | 66, 1 => some 9
  | 68, 0 => some 66
  | 68, 1 => some 3
  | 68, 2 => some 9
  | 68, 3 => some 49
  | 68, 4 => some 9
  | 68, 5 => some 3
  | 68, 6 => some 3
  | 88, 0 => some 86
  | 91, 0 => some 66
  | 91, 1 => some 49
  | 91, 2 => some 3
  | 98, 0 => some 88
  | 98, 1 => some 52
  | 98, 2 => some 3
  | 122, 0 => some 49
  | 122, 1 => some 49
  | 171, 0 => some 3
  | 171, 1 => some 3
  | 171, 2 => some 3
  | 221, 0 => some 3
  | 221, 1 => some 27
  | 223, 0 => some 3
  | 223, 1 => some 3
  | 223, 2 => some 27
  | _, _ => none
def seatT : Tys := { ty := seatTy, gl := gl0, fl := seatFl }
theorem seatTy_ok : ∀ t ty, seatTy t = some ty → TyOk Tryd.prog t ty := by
  intro t ty h
  unfold seatTy at h
  split at h <;> cases h
  · exact ty2_ok
  · exact ty3_ok
  · exact ty4_ok
  · exact ty5_ok
  · exact ty9_ok
  · exact ty21_ok
  · exact ty22_ok
  · exact ty24_ok
  · exact ty27_ok
  · exact ty28_ok
  · exact ty30_ok
  · exact ty32_ok
  · exact ty47_ok
  · exact ty49_ok
  · exact ty50_ok
  · exact ty52_ok
  · exact ty64_ok
  · exact ty66_ok
  · exact ty68_ok
  · exact ty86_ok
  · exact ty88_ok
  · exact ty91_ok
  · exact ty98_ok
  · exact ty100_ok
  · exact ty101_ok
  · exact ty106_ok
  · exact ty107_ok
  · exact ty117_ok
  · exact ty122_ok
  · exact ty139_ok
  · exact ty142_ok
  · exact ty171_ok
  · exact ty175_ok
  · exact ty181_ok
  · exact ty203_ok
  · exact ty219_ok
  · exact ty221_ok
  · exact ty223_ok
theorem seatFl_ok : ∀ t i u, seatFl t i = some u → ∃ (fs : Array Field) (f : Field), Tryd.prog.underlying t = some (.struct fs) ∧ fs[i]? = some f ∧ f.type = u := by
  intro t i u h
  unfold seatFl at h
  split at h <;> cases h
  · exact ⟨_, _, Tryd.underlying32, rfl, rfl⟩
  · exact ⟨_, _, Tryd.underlying32, rfl, rfl⟩
  · exact ⟨_, _, Tryd.underlying47, rfl, rfl⟩
  · exact ⟨_, _, Tryd.underlying47, rfl, rfl⟩
  · exact ⟨_, _, Tryd.underlying52, rfl, rfl⟩
  · exact ⟨_, _, Tryd.underlying52, rfl, rfl⟩
  · exact ⟨_, _, Tryd.underlying52, rfl, rfl⟩
  · exact ⟨_, _, Tryd.underlying52, rfl, rfl⟩
  · exact ⟨_, _, Tryd.underlying52, rfl, rfl⟩
  · exact ⟨_, _, Tryd.underlying52, rfl, rfl⟩
  · exact ⟨_, _, Tryd.underlying66, rfl, rfl⟩
  · exact ⟨_, _, Tryd.underlying66, rfl, rfl⟩
  · exact ⟨_, _, Tryd.underlying68, rfl, rfl⟩
  · exact ⟨_, _, Tryd.underlying68, rfl, rfl⟩
  · exact ⟨_, _, Tryd.underlying68, rfl, rfl⟩
  · exact ⟨_, _, Tryd.underlying68, rfl, rfl⟩
  · exact ⟨_, _, Tryd.underlying68, rfl, rfl⟩
  · exact ⟨_, _, Tryd.underlying68, rfl, rfl⟩
  · exact ⟨_, _, Tryd.underlying68, rfl, rfl⟩
  · exact ⟨_, _, Tryd.underlying88, rfl, rfl⟩
  · exact ⟨_, _, Tryd.underlying91, rfl, rfl⟩
  · exact ⟨_, _, Tryd.underlying91, rfl, rfl⟩
  · exact ⟨_, _, Tryd.underlying91, rfl, rfl⟩
  · exact ⟨_, _, Tryd.underlying98, rfl, rfl⟩
  · exact ⟨_, _, Tryd.underlying98, rfl, rfl⟩
  · exact ⟨_, _, Tryd.underlying98, rfl, rfl⟩
  · exact ⟨_, _, Tryd.underlying122, rfl, rfl⟩
  · exact ⟨_, _, Tryd.underlying122, rfl, rfl⟩
  · exact ⟨_, _, Tryd.underlying171, rfl, rfl⟩
  · exact ⟨_, _, Tryd.underlying171, rfl, rfl⟩
  · exact ⟨_, _, Tryd.underlying171, rfl, rfl⟩
  · exact ⟨_, _, Tryd.underlying221, rfl, rfl⟩
  · exact ⟨_, _, Tryd.underlying221, rfl, rfl⟩
  · exact ⟨_, _, Tryd.underlying223, rfl, rfl⟩
  · exact ⟨_, _, Tryd.underlying223, rfl, rfl⟩
  · exact ⟨_, _, Tryd.underlying223, rfl, rfl⟩
theorem seatT_ok : TysOk Tryd.prog seatT := ⟨seatTy_ok, seatFl_ok⟩
theorem mixed : Tryd.prog.follows .mixedOrders = true := by kernel_rfl
end Go.Vd

set_option linter.unusedVariables false
set_option linter.unusedSimpArgs false
namespace Go.Vd
def isDb (b : UInt8) : Bool := decide (48 ≤ b.toNat) && decide (b.toNat ≤ 57)
def isD (L : List UInt8) : Bool := !L.isEmpty && L.all isDb
theorem isDb_iff {b : UInt8} : isDb b = true ↔ 48 ≤ b.toNat ∧ b.toNat ≤ 57 := by simp [isDb]
theorem isD_iff {L : List UInt8} : isD L = true ↔ L ≠ [] ∧ ∀ b ∈ L, isDb b = true := by
  simp [isD, List.all_eq_true]
def dig (b : UInt8) : Nat := b.toNat - 48
/-- The number that digits are. -/
def dVal (L : List UInt8) : Nat := L.foldl (fun v b => 10 * v + dig b) 0
theorem dVal_snoc (L : List UInt8) (b : UInt8) : dVal (L ++ [b]) = 10 * dVal L + dig b := by simp [dVal]
theorem dVal_nil : dVal [] = 0 := rfl
/-- The last n digits of a number. -/
def decs : Nat → Nat → List UInt8
  | 0, _ => []
  | n + 1, v => decs n (v / 10) ++ [UInt8.ofNat (48 + v % 10)]
theorem decs_len : ∀ n v, (decs n v).length = n
  | 0, _ => rfl
  | n + 1, v => by simp [decs, decs_len n]
theorem dig_of {k : Nat} (h : k < 10) : (UInt8.ofNat (48 + k)).toNat = 48 + k := by rw [UInt8.toNat_ofNat']; omega
theorem dig_lt {b : UInt8} (h : isDb b = true) : dig b < 10 := by have := isDb_iff.1 h; unfold dig; omega
theorem of_dig {b : UInt8} (h : isDb b = true) : UInt8.ofNat (48 + dig b) = b := by
  have h1 := isDb_iff.1 h
  apply UInt8.toNat_inj.1
  rw [UInt8.toNat_ofNat']
  unfold dig
  omega
theorem decs_dig : ∀ n v, ∀ b ∈ decs n v, isDb b = true
  | 0, _, b, h => by simp [decs] at h
  | n + 1, v, b, h => by
    simp only [decs, List.mem_append, List.mem_singleton] at h
    rcases h with h | h
    · exact decs_dig n _ b h
    · subst h
      rw [isDb_iff, dig_of (Nat.mod_lt _ (by omega))]
      have := Nat.mod_lt v (show 0 < 10 by omega)
      omega
theorem decs_is {n v : Nat} (h : 1 ≤ n) : isD (decs n v) = true := by
  rw [isD_iff]
  refine ⟨fun e => ?_, decs_dig n v⟩
  have := decs_len n v
  rw [e] at this
  simp at this
  omega
theorem dVal_decs : ∀ n v, dVal (decs n v) = v % 10 ^ n
  | 0, v => by rw [Nat.pow_zero, Nat.mod_one]; rfl
  | n + 1, v => by
    rw [decs, dVal_snoc, dVal_decs n]
    have h1 : dig (UInt8.ofNat (48 + v % 10)) = v % 10 := by unfold dig; rw [dig_of (Nat.mod_lt _ (by omega))]; omega
    rw [h1, Nat.pow_succ, Nat.mul_comm (10 ^ n) 10, Nat.mod_mul]
    omega
theorem snoc_ind {P : List UInt8 → Prop} (h0 : P []) (h1 : ∀ L b, P L → P (L ++ [b])) (L : List UInt8) : P L := by
  have : ∀ n, ∀ L : List UInt8, L.length = n → P L := by
    intro n
    induction n with
    | zero => intro L h; rw [List.length_eq_zero_iff.1 h]; exact h0
    | succ n ih =>
      intro L h
      have hne : L ≠ [] := by intro e; rw [e] at h; simp at h
      rw [← List.dropLast_concat_getLast hne]
      exact h1 _ _ (ih _ (by rw [List.length_dropLast]; omega))
  exact this _ L rfl
theorem dVal_lt (L : List UInt8) (h : ∀ b ∈ L, isDb b = true) : dVal L < 10 ^ L.length := by
  induction L using snoc_ind with
  | h0 => simp [dVal]
  | h1 L b ih =>
    have h1 := ih fun c hc => h c (by simp [hc])
    have h2 := dig_lt (h b (by simp))
    rw [dVal_snoc, List.length_append, List.length_singleton, Nat.pow_succ]
    omega
theorem decs_dVal (L : List UInt8) (h : ∀ b ∈ L, isDb b = true) : decs L.length (dVal L) = L := by
  induction L using snoc_ind with
  | h0 => rfl
  | h1 L b ih =>
    have h2 := dig_lt (h b (by simp))
    rw [List.length_append, List.length_singleton, decs, dVal_snoc]
    have e1 : (10 * dVal L + dig b) / 10 = dVal L := by omega
    have e2 : (10 * dVal L + dig b) % 10 = dig b := by omega
    rw [e1, e2, ih fun c hc => h c (by simp [hc]), of_dig (h b (by simp))]
theorem p19 {n : Nat} (h : n ≤ 19) : 10 ^ n ≤ 10000000000000000000 := Nat.pow_le_pow_right (n := 10) (by omega) h
/-- The greater number's digits come behind. -/
theorem decs_lt {n : Nat} : ∀ {v w : Nat}, v < 10 ^ n → w < 10 ^ n → (decs n v < decs n w ↔ v < w) := by
  have hcons : ∀ (n v : Nat), v < 10 ^ (n + 1) → ∃ d t, d < 10 ∧ t < 10 ^ n ∧ v = d * 10 ^ n + t ∧ decs (n + 1) v = UInt8.ofNat (48 + d) :: decs n t := by
    intro n
    induction n with
    | zero =>
      intro v h
      refine ⟨v, 0, by omega, by simp, by simp, ?_⟩
      simp only [decs, List.nil_append]
      rw [Nat.mod_eq_of_lt (by omega)]
    | succ n ih =>
      intro v h
      obtain ⟨d, t, hd, ht, hv, e⟩ := ih (v / 10) (by rw [Nat.pow_succ] at h; omega)
      refine ⟨d, t * 10 + v % 10, hd, by rw [Nat.pow_succ]; omega, ?_, ?_⟩
      · have h1 : d * 10 ^ (n + 1) = d * 10 ^ n * 10 := by rw [Nat.pow_succ, Nat.mul_assoc]
        omega
      · rw [decs, e, decs]
        have e1 : (t * 10 + v % 10) / 10 = t := by omega
        have e2 : (t * 10 + v % 10) % 10 = v % 10 := by omega
        rw [e1, e2]
        rfl
  induction n with
  | zero => intro v w hv hw; simp [decs]; simp at hv hw; omega
  | succ n ih =>
    intro v w hv hw
    obtain ⟨d, t, hd, ht, rfl, e⟩ := hcons n v hv
    obtain ⟨d', t', hd', ht', rfl, e'⟩ := hcons n w hw
    have k1 : UInt8.ofNat (48 + d) < UInt8.ofNat (48 + d') ↔ d < d' := by rw [UInt8.lt_iff_toNat_lt, dig_of hd, dig_of hd']; omega
    have k2 : UInt8.ofNat (48 + d) = UInt8.ofNat (48 + d') ↔ d = d' := by rw [← UInt8.toNat_inj, dig_of hd, dig_of hd']; omega
    rw [e, e', List.cons_lt_cons_iff, ih ht ht', k1, k2]
    have hm : ∀ a b : Nat, a < b → (a + 1) * 10 ^ n ≤ b * 10 ^ n := fun a b h => Nat.mul_le_mul_right _ h
    constructor
    · rintro (h | ⟨h, h2⟩)
      · have := hm d d' h; rw [Nat.succ_mul] at this; omega
      · subst h; omega
    · intro h
      rcases Nat.lt_trichotomy d d' with h1 | h1 | h1
      · exact .inl h1
      · subst h1; exact .inr ⟨rfl, by omega⟩
      · have := hm d' d h1; rw [Nat.succ_mul] at this; omega
/-! ### Luhn's sum -/
def lW (d : Nat) (t : Bool) : Nat := if t then (if 4 < d then 2 * d - 9 else 2 * d) else d
/-- From the end. -/
def lSum : List UInt8 → Bool → Nat
  | [], _ => 0
  | b :: R, t => lW (dig b) t + lSum R (!t)
def odd : Nat → Bool
  | 0 => false
  | n + 1 => !odd n
theorem lSum_snoc : ∀ (R : List UInt8) (b : UInt8) (t : Bool), lSum (R ++ [b]) t = lSum R t + lW (dig b) (t ^^ odd R.length)
  | [], b, t => by simp [lSum, odd]
  | c :: R, b, t => by
    simp only [List.cons_append, lSum, lSum_snoc R b, List.length_cons, odd]
    cases t <;> simp <;> omega
theorem odd_mod : ∀ n, odd n = decide (n % 2 = 1)
  | 0 => rfl
  | n + 1 => by
    rw [odd, odd_mod n]
    rcases Nat.mod_two_eq_zero_or_one n with h | h
    · rw [h]; simp; omega
    · rw [h]; simp; omega
def lFine (L : List UInt8) : Bool := isD L && decide (lSum L.reverse false % 10 = 0)
def lCheck (L : List UInt8) : Nat := (10 - lSum L.reverse true % 10) % 10
def dC (k : Nat) : UInt8 := UInt8.ofNat (48 + k)
theorem isD_snoc {L : List UInt8} {k : Nat} (h : isD L = true) (hk : k < 10) : isD (L ++ [dC k]) = true := by
  rw [isD_iff] at h ⊢
  refine ⟨by simp, fun b hb => ?_⟩
  simp only [List.mem_append, List.mem_singleton] at hb
  rcases hb with hb | hb
  · exact h.2 b hb
  · subst hb; rw [isDb_iff, dC, dig_of hk]; omega
theorem dig_dC {k : Nat} (h : k < 10) : dig (dC k) = k := by unfold dig dC; rw [dig_of h]; omega
theorem lFine_snoc {L : List UInt8} {k : Nat} (h : isD L = true) (hk : k < 10) : lFine (L ++ [dC k]) = decide (k = lCheck L) := by
  unfold lFine lCheck
  rw [isD_snoc h hk, Bool.true_and, List.reverse_append]
  simp only [List.reverse_singleton, List.singleton_append, lSum, lW, dig_dC hk, Bool.not_false]
  simp
  omega
theorem lW_lt {d : Nat} {t : Bool} (h : d < 10) : lW d t < 10 := by
  unfold lW; cases t <;> simp <;> (try split) <;> omega
theorem lW_inj {d e : Nat} {t : Bool} (h : d < 10) (h' : e < 10) (hl : lW d t = lW e t) : d = e := by
  revert hl
  unfold lW
  cases t
  · simp
  · simp only [if_true]
    split <;> split <;> omega
/-- One digit turned. -/
theorem lSum_set : ∀ (R : List UInt8) (k : Nat) (x : UInt8) (t : Bool), (∀ b ∈ R, isDb b = true) → isDb x = true → k < R.length → (lSum (R.set k x) t % 10 = lSum R t % 10 ↔ x = R.getD k 0)
  | [], k, x, t, _, _, hk => by simp at hk
  | b :: R, 0, x, t, hR, hx, _ => by
    have h1 := dig_lt (hR b (by simp))
    have h2 := dig_lt hx
    have h3 := lW_lt (t := t) h1
    have h4 := lW_lt (t := t) h2
    simp only [List.set_cons_zero, lSum, List.getD_cons_zero]
    constructor
    · intro h
      have : lW (dig x) t = lW (dig b) t := by omega
      have := lW_inj h2 h1 this
      rw [← of_dig hx, ← of_dig (hR b (by simp)), this]
    · intro h; rw [h]
  | b :: R, k + 1, x, t, hR, hx, hk => by
    have ih := lSum_set R k x (!t) (fun c hc => hR c (by simp [hc])) hx (by simpa using hk)
    simp only [List.set_cons_succ, lSum, List.getD_cons_succ]
    rw [← ih]
    omega
theorem isD_set {L : List UInt8} {k : Nat} {x : UInt8} (h : isD L = true) (hx : isDb x = true) : isD (L.set k x) = true := by
  rw [isD_iff] at h ⊢
  refine ⟨by simpa using h.1, fun b hb => ?_⟩
  rcases List.mem_or_eq_of_mem_set hb with hb | hb
  · exact h.2 b hb
  · rw [hb]; exact hx
theorem rev_set : ∀ {L : List UInt8} {k : Nat} {x : UInt8}, k < L.length → (L.set k x).reverse = L.reverse.set (L.length - 1 - k) x := by
  intro L k x hk
  apply List.ext_getElem (by simp)
  intro i h1 h2
  simp at h1 h2
  rw [List.getElem_reverse, List.getElem_set, List.getElem_set, List.getElem_reverse]
  simp only [List.length_set]
  by_cases e : k = L.length - 1 - i
  · rw [if_pos e, if_pos (by omega)]
  · rw [if_neg e, if_neg (by omega)]
theorem rev_getD {L : List UInt8} {k : Nat} (hk : k < L.length) : L.reverse.getD (L.length - 1 - k) 0 = L.getD k 0 := by
  rw [List.getD_eq_getElem?_getD, List.getD_eq_getElem?_getD, List.getElem?_reverse (by omega)]
  congr 2
  omega
theorem lFine_set {L : List UInt8} {k : Nat} {x : UInt8} (h : lFine L = true) (hx : isDb x = true) (hk : k < L.length) : lFine (L.set k x) = decide (x = L.getD k 0) := by
  simp only [lFine, Bool.and_eq_true, decide_eq_true_eq] at h
  have hi := isD_iff.1 h.1
  unfold lFine
  rw [isD_set h.1 hx, Bool.true_and, rev_set hk]
  have := lSum_set L.reverse (L.length - 1 - k) x false (fun b hb => hi.2 b (by simpa using hb)) hx (by simp; omega)
  rw [h.2, rev_getD hk] at this
  simp only [this]
end Go.Vd

set_option linter.unusedVariables false
set_option linter.unusedSimpArgs false
namespace Go.Vd
def ordI (a b : Int) : Int := if a < b then -1 else if b < a then 1 else 0
def ordS (a b : List UInt8) : Int := if a < b then -1 else if b < a then 1 else 0
theorem bytesLess_eq : ∀ (x y : List UInt8), Op.bytesLess x y = decide (x < y)
  | _, [] => by simp [Op.bytesLess]
  | [], _ :: _ => by simp [Op.bytesLess]
  | a :: x, b :: y => by simp only [Op.bytesLess, bytesLess_eq x y, List.cons_lt_cons_iff]; rw [Bool.eq_iff_iff]; simp
theorem triS (a b : List UInt8) : (a < b ∧ a ≠ b ∧ ordS a b = -1) ∨ (a = b ∧ ordS a b = 0) ∨ (b < a ∧ a ≠ b ∧ ordS a b = 1) := by
  unfold ordS
  by_cases h : a < b
  · exact .inl ⟨h, fun e => List.lt_irrefl _ (e ▸ h), if_pos h⟩
  · rw [if_neg h]
    rcases List.le_iff_lt_or_eq.1 (List.not_lt.1 h) with h1 | h1
    · exact .inr (.inr ⟨h1, fun e => List.lt_irrefl _ (e ▸ h1), if_pos h1⟩)
    · subst h1; exact .inr (.inl ⟨rfl, if_neg h⟩)
/-- The first that isn't 0. -/
def orL : List Int → Int
  | [] => 0
  | x :: l => if x = 0 then orL l else x
theorem orL_zero : ∀ {L : List Int} {i : Nat}, (∀ x ∈ L.take i, x = 0) → i < L.length → orL L = if L.getD i 0 = 0 then orL (L.drop (i + 1)) else L.getD i 0
  | [], i, _, h => by simp at h
  | x :: l, 0, _, _ => by simp [orL]
  | x :: l, i + 1, h, hi => by
    have hx : x = 0 := h x (by simp)
    have := orL_zero (L := l) (i := i) (fun y hy => h y (by simp [hy])) (by simpa using hi)
    simpa [orL, hx] using this
theorem orL_all : ∀ {L : List Int}, (∀ x ∈ L, x = 0) → orL L = 0
  | [], _ => rfl
  | x :: l, h => by simp [orL, h x (by simp), orL_all (L := l) fun y hy => h y (by simp [hy])]
def ordK (s : Int) (r : List UInt8) (s' : Int) (r' : List UInt8) : Int := if ordI s s' = 0 then ordS r r' else ordI s s'
theorem ordK_or (s : Int) (r : List UInt8) (s' : Int) (r' : List UInt8) : orL [ordI s s', ordS r r'] = ordK s r s' r' := by
  simp only [orL, ordK]
  split
  · split
    · rename_i h; exact h.symm
    · rfl
  · rfl
theorem ordK_eq (s : Int) (r : List UInt8) (s' : Int) (r' : List UInt8) : ordK s r s' r' = if s = s' ∧ r = r' then 0 else if s < s' ∨ (s = s' ∧ r < r') then -1 else 1 := by
  unfold ordK
  rcases Int.lt_trichotomy s s' with h | h | h
  · have e : ordI s s' = -1 := if_pos h
    rw [e, if_neg (by omega), if_neg (fun h' => by omega), if_pos (.inl h)]
  · have e : ordI s s' = 0 := by rw [h]; simp [ordI]
    rw [e, if_pos rfl]
    rcases triS r r' with ⟨h1, n, e1⟩ | ⟨n, e1⟩ | ⟨h1, n, e1⟩ <;> rw [e1]
    · rw [if_neg (fun h' => n h'.2), if_pos (.inr ⟨h, h1⟩)]
    · rw [if_pos ⟨h, n⟩]
    · rw [if_neg (fun h' => n h'.2), if_neg]
      rintro (h' | h')
      · omega
      · exact List.lt_irrefl _ (List.lt_trans h1 h'.2)
  · have e : ordI s s' = 1 := by unfold ordI; rw [if_neg (by omega), if_pos h]
    rw [e, if_neg (by omega), if_neg (fun h' => by omega), if_neg (fun h' => by omega)]
/-! ### Signs -/
def okB (b : UInt8) : Bool := decide (32 ≤ b.toNat) && decide (b.toNat ≤ 126)
def inS (k : Int) (b : UInt8) : Bool := if k = 1 ∨ k = 3 then isDb b else okB b
def signs (k : Int) (r : List UInt8) : Bool := r.all (inS k)
def keyOk (s : Int) (r : List UInt8) : Bool := decide (s ≤ 999999) && (decide (r.length = 12) && r.all okB)
theorem all_take {p : UInt8 → Bool} {r : List UInt8} {i : Nat} (h : i < r.length) : (r.take (i + 1)).all p = ((r.take i).all p && p (r.getD i 0)) := by
  rw [← take_snoc (d := 0) h]; simp
theorem all_false {p : UInt8 → Bool} {r : List UInt8} {i : Nat} (h : i < r.length) (hp : p (r.getD i 0) = false) : r.all p = false := by
  rw [List.all_eq_false]
  refine ⟨r.getD i 0, ?_, by rw [hp]; simp⟩
  rw [List.getD_eq_getElem?_getD, List.getElem?_eq_getElem h]
  exact List.getElem_mem h
/-! ### Shards -/
def fnv1 (h : Nat) (b : UInt8) : Nat := (h ^^^ b.toNat) * 16777619 % 4294967296
def fnv (L : List UInt8) : Nat := L.foldl fnv1 2166136261
theorem foldl_snoc {α β : Type} (f : α → β → α) (a : α) (L : List β) (b : β) : (L ++ [b]).foldl f a = f (L.foldl f a) b := by simp
theorem fnv_snoc (L : List UInt8) (b : UInt8) : fnv (L ++ [b]) = fnv1 (fnv L) b := foldl_snoc fnv1 _ L b
theorem fnv_lt (L : List UInt8) : fnv L < 4294967296 := by
  induction L using snoc_ind with
  | h0 => show 2166136261 < 4294967296; omega
  | h1 L b ih => rw [fnv_snoc]; exact Nat.mod_lt _ (by omega)
theorem xor_lt {h : Nat} (b : UInt8) (hh : h < 4294967296) : h ^^^ b.toNat < 4294967296 := Nat.xor_lt_two_pow (n := 32) hh (by have := b.toNat_lt; omega)
theorem xor32 {h : Nat} (b : UInt8) (hh : h < 4294967296) : bits .xor .u32 (h : Int) (b.toNat : Int) = ((h ^^^ b.toNat : Nat) : Int) := by
  show IntKind.u32.wrap ((BitVec.ofInt 32 (h : Int) ^^^ BitVec.ofInt 32 (b.toNat : Int)).toNat : Int) = _
  have hb := b.toNat_lt
  have h1 : (BitVec.ofInt 32 (h : Int)).toNat = h := by rw [BitVec.toNat_ofInt]; omega
  have h2 : (BitVec.ofInt 32 (b.toNat : Int)).toNat = b.toNat := by rw [BitVec.toNat_ofInt]; omega
  rw [BitVec.toNat_xor, h1, h2, IntKind.wrap_u32]
  have := xor_lt b hh
  omega
theorem xor64 {h : Nat} (b : UInt8) (hh : h < 4294967296) : bits .xor .u64 (h : Int) (b.toNat : Int) = ((h ^^^ b.toNat : Nat) : Int) := by
  show IntKind.u64.wrap ((BitVec.ofInt 64 (h : Int) ^^^ BitVec.ofInt 64 (b.toNat : Int)).toNat : Int) = _
  have hb := b.toNat_lt
  have h1 : (BitVec.ofInt 64 (h : Int)).toNat = h := by rw [BitVec.toNat_ofInt]; omega
  have h2 : (BitVec.ofInt 64 (b.toNat : Int)).toNat = b.toNat := by rw [BitVec.toNat_ofInt]; omega
  rw [BitVec.toNat_xor, h1, h2, IntKind.wrap_u64]
  have := xor_lt b hh
  omega
/-- What the program mixes. -/
def mixI (h b : Int) : Int := IntKind.u32.wrap (bits .xor .u32 h (IntKind.u32.wrap b) * 16777619)
theorem mixI_fnv (L : List UInt8) (b : UInt8) : mixI (fnv L) (b.toNat : Int) = (fnv (L ++ [b]) : Int) := by
  unfold mixI
  have hb := b.toNat_lt
  have hw : IntKind.u32.wrap (b.toNat : Int) = b.toNat := by rw [IntKind.wrap_u32]; omega
  rw [hw, xor32 b (fnv_lt L), fnv_snoc, fnv1, IntKind.wrap_u32]
  omega
def shardN (s : Nat) (r : List UInt8) (m : Int) : Int := if keyOk s r && (decide (1 ≤ m) && decide (m ≤ 16)) then ((fnv (decs 6 s ++ r) % m.toNat : Nat) : Int) else -1
theorem decs_cons : ∀ (n v : Nat), decs (n + 1) v = UInt8.ofNat (48 + v / 10 ^ n % 10) :: decs n v
  | 0, v => by simp [decs]
  | n + 1, v => by
    rw [decs, decs_cons n (v / 10)]
    rw [Nat.div_div_eq_div_mul, show 10 * 10 ^ n = 10 ^ (n + 1) by rw [Nat.pow_succ]; omega]
    rfl
/-- Digit j of six. -/
theorem decs_getD {s j : Nat} (h : j < 6) : (decs 6 s).getD j 0 = UInt8.ofNat (48 + s / 10 ^ (5 - j) % 10) := by
  rw [decs_cons 5, decs_cons 4, decs_cons 3, decs_cons 2, decs_cons 1, decs_cons 0]
  match j, h with
  | 0, _ => rfl
  | 1, _ => rfl
  | 2, _ => rfl
  | 3, _ => rfl
  | 4, _ => rfl
  | 5, _ => rfl
end Go.Vd

set_option linter.unusedVariables false
set_option linter.unusedSimpArgs false
set_option maxRecDepth 100000
set_option maxHeartbeats 2000000
namespace Go.Vd
open Go.Proofs
theorem gD' (r : List UInt8) (i : Nat) : r[i]?.getD 0 = r.getD i 0 := (List.getD_eq_getElem?_getD ..).symm
theorem isD_all {L : List UInt8} (h : ¬L = []) : isD L = L.all isDb := by
  rw [Bool.eq_iff_iff, isD_iff, List.all_eq_true]
  exact ⟨fun h' => h'.2, fun h' => ⟨h, h'⟩⟩
theorem isDb_no {b : UInt8} (h : b.toNat < 48 ∨ 57 < b.toNat) : isDb b = false := by
  rw [Bool.eq_false_iff]; intro h'; have := isDb_iff.1 h'; omega
theorem isDb_yes {b : UInt8} (h : 48 ≤ b.toNat ∧ b.toNat ≤ 57) : isDb b = true := isDb_iff.2 h
attribute [local irreducible] vc
theorem good_gIs (L : List UInt8) (hL : L.length ≤ 1000000) : GoodP Tryd.prog gl0 17 [.str L] (.bool (std.tb fun _ => isD L)) := by
  refine fn_sound' (T := seatT) (G := noC) (X := noX) seatT_ok noC_ok noX_ok noI_ok mixed Tryd.func17 (.one) (fun A => [.str L]) (fun A => .bool (A.tb fun _ => isD L)) fun A hA => ?_
  cbv
  repeat' (first | with_reducible exact True.intro | with_reducible exact dr_ok hA (by kernel_rfl) | with_reducible refine And.intro ?_ ?_ | (intro hc; cbv))
  · subst hA; simp [-List.getD_eq_getElem?_getD, sS, strOf_lit, lstOf_lit inj_eB, lstOf_lit inj_eZ, lstOf_lit inj_eBs, lstOf_lit inj_eS] at *
    simp [hc, isD]
  refine ⟨⟨{i : Nat // i ≤ L.length ∧ (L.take i).all isDb = true}, fun b i => [(3, .int .i64 (i.1 : Nat))], fun b i => [], fun i => L.length - i.1, true⟩, ⟨⟨0, by omega, by simp⟩, ?_⟩, ?_⟩
  · cbv
    subst hA
    simp [-List.getD_eq_getElem?_getD, sS]
  · have hne : ¬L = [] := by subst hA; simpa [sS] using hc
    rintro ⟨i, hi, hz⟩
    clear hc
    cbv
    repeat' (first | with_reducible exact True.intro | with_reducible exact dr_ok hA (by kernel_rfl) | with_reducible refine And.intro ?_ ?_ | (intro hc; cbv))
    all_goals first
      | (fail_if_success (refine Exists.intro ?_ ?_)
         subst hA
         simp [-List.getD_eq_getElem?_getD, sS, gD'] at *
         done)
      | (fail_if_success (refine Exists.intro ?_ ?_)
         subst hA
         simp [-List.getD_eq_getElem?_getD, sS, gD'] at *
         first
           | omega
           | (constructor <;> omega)
           | (have hlt : i < L.length := by omega
              rw [isD_all hne, all_false hlt (isDb_no (by omega))]; done)
           | (rw [isD_all hne, List.all_eq_true]
              rw [List.take_of_length_le (by omega)] at hz
              exact hz)
           | trace_state)
      | (have hlt : i < L.length := by clear hz; subst hA; simp [sS] at *; omega
         have hx : isDb (L.getD i 0) = true := by
           clear hz
           subst hA
           simp [-List.getD_eq_getElem?_getD, sS, gD'] at *
           exact isDb_yes (by omega)
         refine ⟨⟨i + 1, by omega, by rw [all_take hlt, hz, hx]; rfl⟩, ?_, show L.length - (i + 1) < L.length - i by omega⟩
         cbv
         subst hA
         simp [sS]
         exact w64 (by omega))
      | trace_state
theorem good_rIs (L : List UInt8) (hL : L.length ≤ 1000000) : GoodP Tryd.prog gl0 148 [.str L] (.bool (std.tb fun _ => isD L)) := by
  refine fn_sound' (T := seatT) (G := noC) (X := noX) seatT_ok noC_ok noX_ok noI_ok mixed Tryd.func148 (.one) (fun A => [.str L]) (fun A => .bool (A.tb fun _ => isD L)) fun A hA => ?_
  cbv
  repeat' (first | with_reducible exact True.intro | with_reducible exact dr_ok hA (by kernel_rfl) | with_reducible refine And.intro ?_ ?_ | (intro hc; cbv))
  refine ⟨⟨{i : Nat // i ≤ L.length ∧ (L.take i).all isDb = true}, fun b i => [(3, .int .i64 (i.1 : Nat))], fun b i => [], fun i => L.length - i.1, true⟩, ⟨⟨0, by omega, by simp⟩, ?_⟩, ?_⟩
  · cbv
    subst hA
    simp [-List.getD_eq_getElem?_getD, sS]
  · rintro ⟨i, hi, hz⟩
    cbv
    repeat' (first | with_reducible exact True.intro | with_reducible exact dr_ok hA (by kernel_rfl) | with_reducible refine And.intro ?_ ?_ | (intro hc; cbv))
    all_goals first
      | (fail_if_success (refine Exists.intro ?_ ?_)
         subst hA
         simp [-List.getD_eq_getElem?_getD, sS, gD'] at *
         done)
      | (fail_if_success (refine Exists.intro ?_ ?_)
         subst hA
         simp [-List.getD_eq_getElem?_getD, sS, gD'] at *
         first
           | omega
           | (constructor <;> omega)
           | (have hlt : i < L.length := by omega
              have hne : ¬L = [] := fun e => by rw [e] at hlt; simp at hlt
              rw [isD_all hne, all_false hlt (isDb_no (by omega))]; done)
           | (rw [List.take_of_length_le (by omega)] at hz
              by_cases hne : L = []
              · subst hne; rfl
              · rw [isD_all hne, List.all_eq_true.2 hz]
                have := List.length_pos_iff.2 hne
                simp; omega)
           | trace_state)
      | (have hlt : i < L.length := by clear hz; subst hA; simp [sS] at *; omega
         have hx : isDb (L.getD i 0) = true := by
           clear hz
           subst hA
           simp [-List.getD_eq_getElem?_getD, sS, gD'] at *
           exact isDb_yes (by omega)
         refine ⟨⟨i + 1, by omega, by rw [all_take hlt, hz, hx]; rfl⟩, ?_, show L.length - (i + 1) < L.length - i by omega⟩
         cbv
         subst hA
         simp [sS]
         exact w64 (by omega))
      | trace_state
theorem good_gWeight (d : Nat) (t : Bool) (hd : d < 10) : GoodP Tryd.prog gl0 127 [.int .i64 (d : Nat), .bool t] (.int .i64 (std.ti fun _ => (lW d t : Int))) := by
  refine fn_sound' (T := seatT) (G := noC) (X := noX) seatT_ok noC_ok noX_ok noI_ok mixed Tryd.func127 (.one) (fun A => [.int .i64 (d : Nat), .bool t]) (fun A => .int .i64 (A.ti fun _ => (lW d t : Int))) fun A hA => ?_
  cbv
  repeat' (first | with_reducible exact True.intro | with_reducible exact dr_ok hA (by kernel_rfl) | with_reducible refine And.intro ?_ ?_ | (intro hc; cbv))
  all_goals (subst hA; simp [sS] at *)
  all_goals (subst_vars)
  · rfl
  · have e : lW d true + 9 = 2 * d := by (simp only [lW, if_true]; rw [if_pos (by omega)]; omega)
    rw [w64 (n := 2 * (d : Int)) (by omega), w64 (by omega)]
    show 2 * (d : Int) - 9 = ((lW d true : Nat) : Int)
    omega
  · have e : lW d true = 2 * d := by (simp only [lW, if_true]; rw [if_neg (by omega)])
    rw [w64 (by omega), e]
    rfl
def gErr (L : List UInt8) : Int := if L = [] then 2 else if 19 < L.length then 4 else if isD L = true then 0 else 3
def gVal (L : List UInt8) : Nat := if L = [] then 0 else if 19 < L.length then 0 else if isD L = true then dVal L else 0
theorem gE0 {L : List UInt8} (h : L = []) : gErr L = 2 ∧ gVal L = 0 := ⟨if_pos h, if_pos h⟩
theorem gE1 {L : List UInt8} (h : ¬L = []) (h1 : 19 < L.length) : gErr L = 4 ∧ gVal L = 0 := by
  unfold gErr gVal; rw [if_neg h, if_pos h1, if_neg h, if_pos h1]; exact ⟨rfl, rfl⟩
theorem gE2 {L : List UInt8} (h : ¬L = []) (h1 : ¬19 < L.length) (h2 : isD L = false) : gErr L = 3 ∧ gVal L = 0 := by
  unfold gErr gVal; rw [if_neg h, if_neg h1, h2, if_neg h, if_neg h1]; exact ⟨rfl, rfl⟩
theorem gE3 {L : List UInt8} (h1 : ¬19 < L.length) (h2 : isD L = true) : gErr L = 0 ∧ gVal L = dVal L := by
  have h := (isD_iff.1 h2).1
  unfold gErr gVal; rw [if_neg h, if_neg h1, if_pos h2, if_neg h, if_neg h1, if_pos h2]; exact ⟨rfl, rfl⟩
theorem dVal_bound {L : List UInt8} (h : isD L = true) (h1 : ¬19 < L.length) {i : Nat} (hi : i < L.length) : dVal (L.take i) < 1000000000000000000 := by
  have h2 := dVal_lt (L.take i) (fun b hb => (isD_iff.1 h).2 b (List.mem_of_mem_take hb))
  rw [List.length_take] at h2
  exact Nat.lt_of_lt_of_le h2 (Nat.le_trans (Nat.pow_le_pow_right (by omega : 0 < 10) (by omega : min i L.length ≤ 18)) (by decide))
theorem getD_dig {L : List UInt8} (h : isD L = true) {i : Nat} (hi : i < L.length) : 48 ≤ (L.getD i 0).toNat ∧ (L.getD i 0).toNat ≤ 57 := by
  apply isDb_iff.1
  apply (isD_iff.1 h).2
  rw [List.getD_eq_getElem?_getD, List.getElem?_eq_getElem hi]
  exact List.getElem_mem hi
theorem wU64' {n : Int} (h : 0 ≤ n ∧ n < 18446744073709551616) : IntKind.u64.wrap n = n := by rw [IntKind.wrap_u64]; omega
theorem wU8' {n : Int} (h : 0 ≤ n ∧ n < 256) : IntKind.u8.wrap n = n := by rw [IntKind.wrap_u8]; omega
theorem dVal_take {L : List UInt8} {i : Nat} (hi : i < L.length) : dVal (L.take (i + 1)) = 10 * dVal (L.take i) + dig (L.getD i 0) := by
  rw [← take_snoc (d := 0) hi, dVal_snoc]
noncomputable def c_gIs : Ct := fun A args => match args with
  | [.str L] => some (some (A.tp fun _ => L.length ≤ 1000000), .bool (A.tb fun _ => isD L))
  | _ => none
noncomputable def c_rIs : Ct := fun A args => match args with
  | [.str L] => some (some (A.tp fun _ => L.length ≤ 1000000), .bool (A.tb fun _ => isD L))
  | _ => none
noncomputable def gg1 : Ar → Pu := addC 17 c_gIs (addC 148 c_rIs (noC))
theorem gg1_ok : PuOk Tryd.prog gl0 (gg1 std) := by
  refine addC_ok (addC_ok (noC_ok) ⟨_, Tryd.func148, rfl, by decide⟩ ?_) ⟨_, Tryd.func17, rfl, by decide⟩ ?_
  · intro args p r h hp
    unfold c_rIs at h
    split at h <;> cases h
    exact good_rIs _ hp
  · intro args p r h hp
    unfold c_gIs at h
    split at h <;> cases h
    exact good_gIs _ hp
theorem good_gGet (L : List UInt8) : GoodP Tryd.prog gl0 70 [.str L] (.tup [.int .u64 (std.ti fun _ => (gVal L : Int)), .int .i64 (std.ti fun _ => gErr L)]) := by
  refine fn_sound' (T := seatT) (G := gg1) (X := noX) seatT_ok gg1_ok noX_ok noI_ok mixed Tryd.func70 (.one) (fun A => [.str L]) (fun A => .tup [.int .u64 (A.ti fun _ => (gVal L : Int)), .int .i64 (A.ti fun _ => gErr L)]) fun A hA => ?_
  cbv
  repeat' (first | with_reducible exact True.intro | with_reducible exact dr_ok hA (by kernel_rfl) | with_reducible refine And.intro ?_ ?_ | (intro hc; cbv))
  rotate_right
  · have hk : ¬19 < L.length ∧ isD L = true := by
      rename_i x1 x2
      subst hA
      simp [sS] at x2 hc
      exact ⟨by omega, hc⟩
    clear hc
    refine ⟨⟨{p : Nat × Nat // p.1 ≤ L.length ∧ p.2 = dVal (L.take p.1)}, fun b p => [(4, .int .u64 (p.1.2 : Nat)), (5, .int .i64 (p.1.1 : Nat))], fun b p => [], fun p => L.length - p.1.1, true⟩, ⟨⟨(0, 0), by omega, rfl⟩, ?_⟩, ?_⟩
    · cbv
      subst hA
      simp [-List.getD_eq_getElem?_getD, sS]
    · rintro ⟨⟨i, v⟩, hi, hv⟩
      simp only at hi hv
      cbv
      repeat' (first | with_reducible exact True.intro | with_reducible exact dr_ok hA (by kernel_rfl) | with_reducible refine And.intro ?_ ?_ | (intro hc; cbv))
      all_goals first
        | (fail_if_success (refine Exists.intro ?_ ?_)
           have hie : i = L.length := by (clear hv; subst hA; simp [sS] at *; omega)
           rw [hie, List.take_length] at hv
           have hg := gE3 hk.1 hk.2
           subst hA
           simp only [sS, Int.ofNat_eq_natCast]
           first
             | (rw [hg.1]; done)
             | (rw [hg.2, hv]; done))
        | (fail_if_success (refine Exists.intro ?_ ?_)
           clear hv
           subst hA
           simp [sS] at *
           omega)
        | (have hlt : i < L.length := by clear hv; subst hA; simp [sS] at *; omega
           have hb := dVal_bound hk.2 hk.1 hlt
           have hd := getD_dig hk.2 hlt
           obtain ⟨i', hi'⟩ : ∃ i', i' = i + 1 := ⟨_, rfl⟩
           obtain ⟨v', hv'⟩ : ∃ v', v' = dVal (L.take i') := ⟨_, rfl⟩
           have hvn : v' = 10 * v + ((L.getD i 0).toNat - 48) := by rw [hv', hi', dVal_take hlt, hv]; rfl
           rw [← hv] at hb
           refine ⟨⟨(i', v'), by omega, hv'⟩, ?_, show L.length - i' < L.length - i by omega⟩
           cbv
           subst hA
           simp [-List.getD_eq_getElem?_getD, sS, gD']
           refine ⟨?_, (w64 (by omega)).trans (by omega)⟩
           rw [wU8' (by omega), wU64' (n := (v : Int) * 10) (by omega), wU64' (n := ((L.getD i 0).toNat : Int) - 48) (by omega), wU64' (by omega)]
           omega)
        | trace_state
  all_goals (subst hA; simp [sS] at *)
  all_goals first
    | omega
    | (have h0 : L = [] := by assumption
       have hg := gE0 h0
       first | (rw [hg.1]; done) | (rw [hg.2]; rfl))
    | (have hg := gE1 (L := L) (by assumption) (by omega)
       first | (rw [hg.1]; done) | (rw [hg.2]; rfl))
    | (have hg := gE2 (L := L) (by assumption) (by omega) hc
       first | (rw [hg.1]; done) | (rw [hg.2]; rfl))
    | trace_state
theorem rstep {v b : Nat} (hv : v < 1000000000000000000) (hb : 48 ≤ b ∧ b ≤ 57) : IntKind.u64.wrap (IntKind.u64.wrap (IntKind.u64.wrap (10 * (v : Int)) + IntKind.u64.wrap (b : Int)) - 48) = ((10 * v + (b - 48) : Nat) : Int) := by
  rw [wU64' (n := 10 * (v : Int)) (by omega), wU64' (n := (b : Int)) (by omega), wU64' (n := 10 * (v : Int) + (b : Int)) (by omega), wU64' (by omega)]
  omega
theorem good_rGet (L : List UInt8) : GoodP Tryd.prog gl0 103 [.str L] (.tup [.int .u64 (std.ti fun _ => (gVal L : Int)), .int .i64 (std.ti fun _ => gErr L)]) := by
  refine fn_sound' (T := seatT) (G := gg1) (X := noX) seatT_ok gg1_ok noX_ok noI_ok mixed Tryd.func103 (.one) (fun A => [.str L]) (fun A => .tup [.int .u64 (A.ti fun _ => (gVal L : Int)), .int .i64 (A.ti fun _ => gErr L)]) fun A hA => ?_
  cbv
  repeat' (first | with_reducible exact True.intro | with_reducible exact dr_ok hA (by kernel_rfl) | with_reducible refine And.intro ?_ ?_ | (intro hc; cbv))
  rotate_right
  · have hk : ¬19 < L.length ∧ isD L = true := by
      rename_i x1 x2
      subst hA
      simp [sS] at x2 hc
      exact ⟨by omega, hc⟩
    clear hc
    refine ⟨⟨{p : Nat × Nat // p.1 ≤ L.length ∧ p.2 = dVal (L.take p.1)}, fun b p => [(4, .int .u64 (p.1.2 : Nat)), (5, .int .i64 (p.1.1 : Nat))], fun b p => [], fun p => L.length - p.1.1, true⟩, ⟨⟨(0, 0), by omega, rfl⟩, ?_⟩, ?_⟩
    · cbv
      subst hA
      simp [-List.getD_eq_getElem?_getD, sS]
    · rintro ⟨⟨i, v⟩, hi, hv⟩
      simp only at hi hv
      cbv
      repeat' (first | with_reducible exact True.intro | with_reducible exact dr_ok hA (by kernel_rfl) | with_reducible refine And.intro ?_ ?_ | (intro hc; cbv))
      all_goals first
        | (fail_if_success (refine Exists.intro ?_ ?_)
           have hie : i = L.length := by (clear hv; subst hA; simp [sS] at *; omega)
           rw [hie, List.take_length] at hv
           have hg := gE3 hk.1 hk.2
           subst hA
           simp only [sS, Int.ofNat_eq_natCast]
           first
             | (rw [hg.1]; done)
             | (rw [hg.2, hv]; done))
        | (fail_if_success (refine Exists.intro ?_ ?_)
           clear hv
           subst hA
           simp [sS] at *
           omega)
        | (have hlt : i < L.length := by clear hv; subst hA; simp [sS] at *; omega
           have hb := dVal_bound hk.2 hk.1 hlt
           have hd := getD_dig hk.2 hlt
           obtain ⟨i', hi'⟩ : ∃ i', i' = i + 1 := ⟨_, rfl⟩
           obtain ⟨v', hv'⟩ : ∃ v', v' = dVal (L.take i') := ⟨_, rfl⟩
           have hvn : v' = 10 * v + ((L.getD i 0).toNat - 48) := by rw [hv', hi', dVal_take hlt, hv]; rfl
           rw [← hv] at hb
           refine ⟨⟨(i', v'), by omega, hv'⟩, ?_, show L.length - i' < L.length - i by omega⟩
           cbv
           subst hA
           simp [-List.getD_eq_getElem?_getD, sS, gD']
           refine ⟨?_, (w64 (by omega)).trans (by omega)⟩
           rw [hvn]
           exact rstep hb hd)
        | trace_state
  all_goals (subst hA; simp [sS] at *)
  all_goals first
    | omega
    | (have h0 : L = [] := by assumption
       have hg := gE0 h0
       first | (rw [hg.1]; done) | (rw [hg.2]; rfl))
    | (have hg := gE1 (L := L) (by assumption) (by omega)
       first | (rw [hg.1]; done) | (rw [hg.2]; rfl))
    | (have hg := gE2 (L := L) (by assumption) (by omega) hc
       first | (rw [hg.1]; done) | (rw [hg.2]; rfl))
    | trace_state
end Go.Vd

set_option linter.unusedVariables false
set_option linter.unusedSimpArgs false
namespace Go.Proofs
open Go.RowKit Go.Shelf
attribute [local go_sem] Oper.semAt_some

theorem fe_take {L : List UInt8} {k : Nat} (h : k < L.length) : L.reverse.take k ++ [L.getD (L.length - 1 - k) 0] = L.reverse.take (k + 1) := by
  rw [← Vd.rev_getD (by omega), show L.length - 1 - (L.length - 1 - k) = k by omega]
  exact Vd.take_snoc (by rw [List.length_reverse]; exact h)

/-- The box is as it was. -/
def KBs (Bs : Nat) (A B : World) : Prop := ∀ v, A.cell? ⟨Bs, 0, none⟩ = some v → B.cell? ⟨Bs, 0, none⟩ = some v
theorem ba_get {L : List UInt8} {i : Nat} (h : i < (ByteArray.mk L.toArray).size) : (ByteArray.mk L.toArray)[i]'h = L.getD i 0 := by
  have h1 : i < L.length := by simpa [ByteArray.size] using h
  rw [List.getD_eq_getElem?_getD, List.getElem?_eq_getElem h1]
  rfl

set_option maxRecDepth 100000 in
set_option maxHeartbeats 2000000 in
theorem fromEnd1_in (F : Fence) (n : Nat) (h76 : F.fn 172) (hro : F.round = none) (hn : 1 ≤ n) (l Bs : Nat) (L : List UInt8) (hL : L.length ≤ 1000000) (J Jx : List UInt8 → World → Prop)
    (hY : ∀ pre x W, J pre W → pre.length < L.length → YieldAt F (n - 1) Tryd.prog l #[.int .u8 (x.toNat : Int)] W fun e W' =>
      (e = .returned (.bool true) ∧ J (pre ++ [x]) W' ∧ KBs Bs W W') ∨ (e = .returned (.bool false) ∧ Jx (pre ++ [x]) W'))
    (W : World) (hBs : W.cell? ⟨Bs, 0, none⟩ = some (.string ⟨L.toArray⟩)) (h0 : J [] W) :
    CallsIn F n Tryd.prog 172 #[.func (.yield l) #[] #[], .pointer (some ⟨Bs, 0, none⟩)] W fun e W' => (∃ v, e = .returned v) ∧
      ((∃ ys, ys = L.reverse ∧ J ys W') ∨ (∃ pre, pre <+: L.reverse ∧ Jx pre W')) := by
  refine callsIn_of_wp Tryd.func172 rfl h76 ?_ hro
  simp only [Tryd.ntmps172, List.size_toArray, List.length_cons, List.length_nil, Nat.reduceAdd, Nat.reduceSub, Array.replicate_succ, Array.replicate_zero, List.push_toArray, List.append_toArray, List.nil_append, List.cons_append]
  gi_wp2
  gi_loopw [3] (fun i wr => ∃ k : Nat, k ≤ L.length ∧ i = .int .i64 ((L.length : Int) - 1 - k) ∧ J (L.reverse.take k) wr ∧ wr.cell? ⟨Bs, 0, none⟩ = some (.string ⟨L.toArray⟩))
    (fun i _ => (intOf i + 1).toNat)
  case atStart => exact ⟨0, Nat.zero_le _, by simp, h0, hBs⟩
  case round =>
    obtain ⟨k, hk, rfl, hJs, hs⟩ := hrel
    by_cases hlt : k < L.length
    · have hx : L.length - 1 - k < (ByteArray.mk L.toArray).size := by simp [ByteArray.size]; omega
      obtain ⟨fn, tmps, assign, body, hy, hR⟩ := hY _ ((ByteArray.mk L.toArray)[L.length - 1 - k]'hx) wr hJs (by rw [List.length_take]; simp; omega)
      have h1 : (0 : Int) ≤ (L.length : Int) - 1 - k := by omega
      have ht : L.reverse.take k ++ [(ByteArray.mk L.toArray)[L.length - 1 - k]'hx] = L.reverse.take (k + 1) := by rw [ba_get]; exact fe_take hlt
      gi_wp2
      refine hR.mono ?_
      rintro e W3 (⟨rfl, hJ3, hk3⟩ | ⟨rfl, hJx3⟩)
      · rw [ht] at hJ3
        gi_wp2
        go_roundw
        case rel => exact ⟨k + 1, by omega, by first | rfl | (congr 1; omega) | (simp; omega), hJ3, hk3 _ hs⟩
        case measure => simp [intOf]; omega
      · rw [ht] at hJx3
        gi_wp2
        refine bodyPost_ret (results_none rfl _ _ _) rfl ?_
        exact ⟨⟨_, rfl⟩, .inr ⟨_, ⟨L.reverse.drop (k + 1), List.take_append_drop _ _⟩, hJx3⟩⟩
    · obtain rfl : k = L.length := by omega
      gi_wp2
      have hJf : J L.reverse wr := by rw [List.take_of_length_le (by simp)] at hJs; exact hJs
      go_end0
      exact ⟨⟨_, rfl⟩, .inl ⟨_, rfl, hJf⟩⟩

/-- A new box: what it holds; it stays so beside a newer one. -/
theorem box_new (W : World) (v : Value) (t : TypeId) : (W.alloc (.cells #[v] t)).cell? ⟨W.heap.size, 0, none⟩ = some v ∧ (W.alloc (.cells #[v] t)).frozen? ⟨W.heap.size, 0, none⟩ = false := ⟨by simp, by simp⟩
theorem box_old {W : World} {a : Addr} {v : Value} (o : Obj) (h : W.cell? a = some v) : (W.alloc o).cell? a = some v := cell_kept h (World.grownBy_alloc W o none) (fun r e => by cases e)
theorem box_soft {W : World} {a : Addr} {v : Value} (o : Obj) (h : W.cell? a = some v) (hf : W.frozen? a = false) : (W.alloc o).frozen? a = false := (frozen_kept h (World.grownBy_alloc W o none) (fun r e => by cases e)).trans hf

set_option maxHeartbeats 1000000 in
theorem fromEnd_in (F : Fence) (n : Nat) (h58 : F.fn 126) (hro : F.round = none) (s : ByteArray) (w : World) :
    CallsIn F n Tryd.prog 126 #[.string s] w fun e w' => e = .returned (.func (.func 172) #[] #[.pointer (some ⟨w.heap.size, 0, none⟩)]) ∧ w' = w.alloc (.cells #[.string s] 9) := by
  refine callsIn_of_wp Tryd.func126 rfl h58 ?_ hro
  simp only [Tryd.ntmps126, List.size_toArray, List.length_cons, List.length_nil, Nat.reduceAdd, Nat.reduceSub, Array.replicate_succ, Array.replicate_zero, List.push_toArray, List.append_toArray, List.nil_append, List.cons_append]
  gi_wp2
  go_ret
  exact ⟨rfl, rfl⟩

theorem fromEnd_stops (F : Fence) (n : Nat) (h76 : F.fn 172) (hro : F.round = none) (hn : 1 ≤ n) (Bs : Nat) (L : List UInt8) (hL : L.length ≤ 1000000) (w : World) (hBs : Bs < w.heap.size) (hc : w.cell? ⟨Bs, 0, none⟩ = some (.string ⟨L.toArray⟩)) :
    SeqStopsK F n Tryd.prog 172 #[.pointer (some ⟨Bs, 0, none⟩)] (fun x : UInt8 => #[Value.int .u8 (x.toNat : Int)]) (KBs Bs) (fun ys => ys = L.reverse) (fun pre => pre <+: L.reverse) L.length w := fun l J Jx W hW _ _ hY h0 => by
  have hc' := (hW.cell (p := ⟨Bs, 0, none⟩) hBs).trans hc
  exact fromEnd1_in F n h76 hro hn l Bs L hL J Jx hY W hc' h0

set_option maxHeartbeats 1000000 in
theorem weight_in (F : Fence) (n : Nat) (h59 : F.fn 127) (hro : F.round = none) (d : Nat) (hd : d < 256) (t : Bool) (w : World) :
    CallsIn F n Tryd.prog 127 #[.int .i64 (d : Int), .bool t] w fun e w' => e = .returned (.int .i64 (Vd.lW d t : Int)) ∧ w' = w := by
  refine callsIn_of_wp Tryd.func127 rfl h59 ?_ hro
  simp only [Tryd.ntmps127, List.size_toArray, List.length_cons, List.length_nil, Nat.reduceAdd, Nat.reduceSub, Array.replicate_succ, Array.replicate_zero, List.push_toArray, List.append_toArray, List.nil_append, List.cons_append]
  have e1 : Vd.lW d false = d := rfl
  cases t
  · gi_wp2
    go_ret
    exact ⟨by rw [e1]; rfl, rfl⟩
  · by_cases h : 4 < d
    · have e2 : ((Vd.lW d true : Nat) : Int) = 2 * (d : Int) - 9 := by
        have e3 : Vd.lW d true + 9 = 2 * d := by (simp only [Vd.lW, if_true]; rw [if_pos (by omega)]; omega)
        omega
      gi_wp2
      go_ret
      exact ⟨by rw [e2]; rfl, rfl⟩
    · have e2 : ((Vd.lW d true : Nat) : Int) = 2 * (d : Int) := by
        have e3 : Vd.lW d true = 2 * d := by (simp only [Vd.lW, if_true]; rw [if_neg (by omega)])
        omega
      gi_wp2
      go_ret
      exact ⟨by rw [e2]; rfl, rfl⟩

/-- The weight of whatever byte. -/
def dig8 (b : UInt8) : Nat := (b.toNat + 208) % 256
def lSum8 : List UInt8 → Bool → Nat
  | [], _ => 0
  | b :: R, t => Vd.lW (dig8 b) t + lSum8 R (!t)
theorem lSum8_snoc : ∀ (R : List UInt8) (b : UInt8) (t : Bool), lSum8 (R ++ [b]) t = lSum8 R t + Vd.lW (dig8 b) (t ^^ Vd.odd R.length)
  | [], b, t => by simp [lSum8, Vd.odd]
  | c :: R, b, t => by
    simp only [List.cons_append, lSum8, lSum8_snoc R b, List.length_cons, Vd.odd]
    cases t <;> simp <;> omega
theorem lW_le (d : Nat) (t : Bool) (h : d < 256) : Vd.lW d t ≤ 510 := by
  unfold Vd.lW; cases t <;> simp <;> (try split) <;> omega
theorem lSum8_le : ∀ (R : List UInt8) (t : Bool), lSum8 R t ≤ 510 * R.length
  | [], _ => by simp [lSum8]
  | b :: R, t => by
    have h1 := lSum8_le R (!t)
    have h2 := lW_le (dig8 b) t (Nat.mod_lt _ (by omega))
    simp only [lSum8, List.length_cons]
    omega
theorem lSum8_eq : ∀ (R : List UInt8) (t : Bool), (∀ b ∈ R, Vd.isDb b = true) → lSum8 R t = Vd.lSum R t
  | [], _, _ => rfl
  | b :: R, t, h => by
    have hb := Vd.isDb_iff.1 (h b (by simp))
    have e : dig8 b = Vd.dig b := by unfold dig8 Vd.dig; omega
    simp only [lSum8, Vd.lSum, e, lSum8_eq R (!t) fun c hc => h c (by simp [hc])]

theorem sum_end {t : Bool} {w W : World} {pre : List UInt8} {x : UInt8} {v0 v1 u0 u1 : Value} (hc0 : W.cell? ⟨w.heap.size, 0, none⟩ = some u0) (hf0 : W.frozen? ⟨w.heap.size, 0, none⟩ = false) (hc1 : W.cell? ⟨w.heap.size + 1, 0, none⟩ = some u1) (hf1 : W.frozen? ⟨w.heap.size + 1, 0, none⟩ = false)
    (hB : Below w.heap.size w W) (W' : World) (hW' : W' = ((W.setCell ⟨w.heap.size + 1, 0, none⟩ v1).setCell ⟨w.heap.size, 0, none⟩ v0).drew) :
    KeepsOthers W W' ∧ KBs (w.heap.size + 1 + 1) W W' ∧ ((W'.cell? ⟨w.heap.size, 0, none⟩ = some v0 ∧ W'.frozen? ⟨w.heap.size, 0, none⟩ = false) ∧ (W'.cell? ⟨w.heap.size + 1, 0, none⟩ = some v1 ∧ W'.frozen? ⟨w.heap.size + 1, 0, none⟩ = false)) ∧ Below w.heap.size w W' := by
  subst hW'
  have hne : (⟨w.heap.size, 0, none⟩ : Addr) ≠ ⟨w.heap.size + 1, 0, none⟩ := fun e => by injection e; omega
  have hn0 : (⟨w.heap.size, 0, none⟩ : Addr) ≠ ⟨w.heap.size + 1 + 1, 0, none⟩ := fun e => by injection e; omega
  have hn1 : (⟨w.heap.size + 1, 0, none⟩ : Addr) ≠ ⟨w.heap.size + 1 + 1, 0, none⟩ := fun e => by injection e; omega
  have hk : (W.setCell ⟨w.heap.size + 1, 0, none⟩ v1).cell? ⟨w.heap.size, 0, none⟩ = some u0 := by rw [World.cell?_setCell_other _ _ _ _ (Ne.symm hne)]; exact hc0
  refine ⟨((KeepsOthers.setCell _ _ _).trans (KeepsOthers.setCell _ _ _)).trans (KeepsOthers.drew _), fun v hv => ?_, ⟨⟨?_, ?_⟩, ?_, ?_⟩, ?_⟩
  · rw [World.cell?_drew, World.cell?_setCell_other _ _ _ _ hn0, World.cell?_setCell_other _ _ _ _ hn1]; exact hv
  · rw [World.cell?_drew]; exact World.cell?_setCell_same _ _ _ hk
  · rw [frozen_drew_own, World.frozen?_setCell, World.frozen?_setCell]; exact hf0
  · rw [World.cell?_drew, World.cell?_setCell_other _ _ _ _ hne]; exact World.cell?_setCell_same _ _ _ hc1
  · rw [frozen_drew_own, World.frozen?_setCell, World.frozen?_setCell]; exact hf1
  · exact ((hB.setCell (p := ⟨w.heap.size + 1, 0, none⟩) (by simp) _).setCell (p := ⟨w.heap.size, 0, none⟩) (Nat.le_refl _) _).drew

set_option maxRecDepth 100000 in
set_option maxHeartbeats 4000000 in
theorem sum_in (F : Fence) (n : Nat) (h38 : F.fn 71) (h58 : F.fn 126) (h76 : F.fn 172) (h59 : F.fn 127) (hro : F.round = none) (hn : 3 ≤ n) (L : List UInt8) (hL : L.length ≤ 1000000) (t : Bool) (w : World) :
    CallsIn F n Tryd.prog 71 #[.string ⟨L.toArray⟩, .bool t] w fun e w' => e = .returned (.int .i64 (lSum8 L.reverse t : Int)) ∧ Below w.heap.size w w' := by
  have h1 : 1 ≤ n := by omega
  refine callsIn_of_wp_marks Tryd.func71 rfl h38 ?_ hro
  simp only [Tryd.ntmps71, List.size_toArray, List.length_cons, List.length_nil, Nat.reduceAdd, Nat.reduceSub, Array.replicate_succ, Array.replicate_zero, List.push_toArray, List.append_toArray, List.nil_append, List.cons_append]
  gi_wp2_with (gi_at_call 126; refine (fromEnd_in F (n - 1) h58 hro _ _).mono ?_; rintro e w' ⟨rfl, rfl⟩)
  have c0 := box_new w (.bool t) 4
  have c1 := box_new (w.alloc (.cells #[.bool t] 4)) (.int .i64 0) 3
  have c2 := box_new ((w.alloc (.cells #[.bool t] 4)).alloc (.cells #[.int .i64 0] 3)) (.string ⟨L.toArray⟩) 9
  simp only [World.size_alloc] at c1 c2
  have hB0 : Below w.heap.size w (((w.alloc (.cells #[.bool t] 4)).alloc (.cells #[.int .i64 0] 3)).alloc (.cells #[.string ⟨L.toArray⟩] 9)) := (((Below.refl _ w).alloc (Nat.le_refl _) _).alloc (by simp) _).alloc (by simp; omega) _
  refine wpIn_rangeFunc_ownF hro h1 (gf := 172) (lb := #[.pointer (some ⟨w.heap.size + 1 + 1, 0, none⟩)]) rfl h76 (enters_of Tryd.func172 (by kernel_rfl) rfl)
    (fromEnd_stops F (n - 1) h76 hro (by omega) (w.heap.size + 1 + 1) L hL _ (by simp) c2.1) (fun h k v hv => k v (h v hv)) (fun W l o o' _ h0 hc _ v hv => cell_kept hv (grownBy_putObj' _ l o') (fun r e => by cases e; exact ⟨_, h0, hc⟩)) (Below.refl _ _) (fun _ => rfl)
    (fun pre W => ((W.cell? ⟨w.heap.size, 0, none⟩ = some (.bool (t ^^ Vd.odd pre.length)) ∧ W.frozen? ⟨w.heap.size, 0, none⟩ = false) ∧ (W.cell? ⟨w.heap.size + 1, 0, none⟩ = some (.int .i64 (lSum8 pre t : Int)) ∧ W.frozen? ⟨w.heap.size + 1, 0, none⟩ = false)) ∧ Below w.heap.size w W)
    (fun _ _ _ => False)
    (OwnFrom.and (Own.from (fun s A B row hs hg hr => ⟨⟨cell_kept hs.1.1 hg hr, (frozen_kept hs.1.1 hg hr).trans hs.1.2⟩, cell_kept hs.2.1 hg hr, (frozen_kept hs.2.1 hg hr).trans hs.2.2⟩) _) (ownFrom_below (Nat.le_refl _) (by simp; omega)))
    (fun _ _ _ _ _ hs _ _ => hs)
    ⟨⟨⟨by rw [show (t ^^ Vd.odd ([] : List UInt8).length) = t by simp [Vd.odd]]; exact box_old _ (box_old _ c0.1), box_soft _ (box_old _ c0.1) (box_soft _ c0.1 c0.2)⟩, box_old _ c1.1, box_soft _ c1.1 c1.2⟩, hB0⟩
    (fun x => { tmps := #[.string ⟨L.toArray⟩, .bool t, undef, .pointer (some ⟨w.heap.size, 0, none⟩), .int .i64 0, .pointer (some ⟨w.heap.size + 1, 0, none⟩), .int .u8 (x.toNat : Int), .string ⟨L.toArray⟩, .func (.func 172) #[] #[.pointer (some ⟨w.heap.size + 1 + 1, 0, none⟩)], .int .u8 (x.toNat : Int), undef, undef, undef, undef, undef, undef, undef, undef, undef, undef], defers := [] }) ?assign ?body ?done ?stop
  case assign =>
    intro l x W K hK
    gi_wp2
    exact hK
  case body =>
    rintro l pre x W ⟨⟨⟨hc0, hf0⟩, hc1, hf1⟩, hB⟩ hlen
    have hd : 1 ≤ n - 1 - 1 := by omega
    have hmx : Tryd.prog.follows .mixedOrders = true := by kernel_rfl
    have hle := lSum8_le pre t
    have hd8 : dig8 x < 256 := Nat.mod_lt _ (by omega)
    have hlw := lW_le (dig8 x) (t ^^ Vd.odd pre.length) hd8
    have hsum : wrap64 ((lSum8 pre t : Int) + (Vd.lW (dig8 x) (t ^^ Vd.odd pre.length) : Int)) = (lSum8 (pre ++ [x]) t : Int) := by
      rw [lSum8_snoc]
      unfold wrap64
      omega
    have hodd : (!(t ^^ Vd.odd pre.length)) = (t ^^ Vd.odd (pre ++ [x]).length) := by
      rw [List.length_append, List.length_singleton, Vd.odd]
      cases t <;> simp
    have hw8 : IntKind.i64.wrap (IntKind.u8.wrap ((x.toNat : Int) - 48)) = (dig8 x : Int) := by
      have hx := x.toNat_lt
      rw [IntKind.wrap_u8, IntKind.wrap_i64]
      unfold dig8
      omega
    gi_wp2
    gi_region_with_o (gi_at_call 127; refine (CallsIn.inRound l (weight_in F _ h59 hro (dig8 x) hd8 _ _)).mono ?_; rintro e w' ⟨rfl, rfl⟩)
    all_goals gi_wp2
    all_goals (try go_bits)
    all_goals (have he : ((lSum8 pre t : Int) + (Vd.lW (dig8 x) (t ^^ Vd.odd pre.length) : Int)) = (lSum8 (pre ++ [x]) t : Int) := by rw [lSum8_snoc]; omega)
    all_goals (have hbt : (t ^^ Vd.odd (pre.length + 1)) = (t ^^ Vd.odd (pre ++ [x]).length) := by simp)
    all_goals (try rw [hsum])
    all_goals (try rw [he])
    all_goals (try rw [hodd])
    all_goals (try rw [hbt])
    all_goals (exact sum_end (t := t) (pre := pre) (x := x) hc0 hf0 hc1 hf1 hB _ rfl)
  case done =>
    rintro D ys W hD rfl ⟨⟨_, hc1, _⟩, hB⟩ hK
    gi_wp2
    refine ⟨by simp, .inl ⟨_, _, rfl, run_takeDeferred hK, ?_⟩⟩
    exact ⟨_, results_tmp rfl _ _ _, rfl, hB.trans (belowK_b (w := w) (Nat.le_refl _) W D _ _ (by simp at hD; omega) hK rfl rfl)⟩
  case stop =>
    rintro D c pre W _ _ h _
    exact h.elim
end Go.Proofs

set_option linter.unusedVariables false
set_option linter.unusedSimpArgs false
set_option maxRecDepth 100000
set_option maxHeartbeats 2000000
namespace Go.Vd
open Go.Proofs
theorem good_gSum (L : List UInt8) (t : Bool) (hp : L.length ≤ 1000000 ∧ isD L = true) : GoodP Tryd.prog gl0 71 [.str L, .bool t] (.int .i64 (std.ti fun _ => (lSum L.reverse t : Int))) := by
  intro w ρ rw N vs hfr hrw hg hargs
  match vs, hargs with
  | [v1, v2], ⟨r1, r2, _⟩ =>
    generalize hs1 : SV.str L = s1 at r1
    generalize hs2 : SV.bool t = s2 at r2
    cases r1 with
    | str s =>
      cases r2 with
      | bool b =>
        cases hs1
        cases hs2
        have h0 := callsIn_wide.1 (sum_in Fence.wide 3 trivial trivial trivial trivial rfl (by omega) s.data.toList hp.1 t w)
        have e0 : (⟨s.data.toList.toArray⟩ : ByteArray) = s := by cases s; simp
        rw [e0] at h0
        refine h0.mono fun e w' hq => ?_
        obtain ⟨rfl, hb⟩ := hq
        refine ⟨_, rfl, Ext.of_below hb, fun key _ => ?_⟩
        have e1 : lSum8 s.data.toList.reverse t = lSum s.data.toList.reverse t := lSum8_eq _ _ (fun b hb => (isD_iff.1 hp.2).2 b (by simpa using hb))
        rw [e1]
        exact Rel.int _ _
      | _ => cases hs2
    | _ => cases hs1
noncomputable def c_gSum : Ct := fun A args => match args with
  | [.str L, .bool t] => some (some (A.tp fun _ => L.length ≤ 1000000 ∧ isD L = true), .int .i64 (A.ti fun _ => (lSum L.reverse t : Int)))
  | _ => none
noncomputable def gg2 : Ar → Pu := addC 71 c_gSum (gg1)
theorem gg2_ok : PuOk Tryd.prog gl0 (gg2 std) := by
  refine addC_ok (gg1_ok) ⟨_, Tryd.func71, rfl, by decide⟩ ?_
  · intro args p r h hp
    unfold c_gSum at h
    split at h <;> cases h
    exact good_gSum _ _ hp
theorem tm10 (n : Nat) : ((n : Int).tmod 10 == 0) = decide (n % 10 = 0) := by
  rw [Bool.eq_iff_iff, beq_iff_eq, decide_eq_true_eq, Int.tmod_eq_emod_of_nonneg (by omega)]
  omega
attribute [local irreducible] vc
theorem good_gFine (L : List UInt8) (hL : L.length ≤ 100000) : GoodP Tryd.prog gl0 18 [.str L] (.bool (std.tb fun _ => lFine L)) := by
  refine fn_sound' (T := seatT) (G := gg2) (X := noX) seatT_ok gg2_ok noX_ok noI_ok mixed Tryd.func18 (.one) (fun A => [.str L]) (fun A => .bool (A.tb fun _ => lFine L)) fun A hA => ?_
  cbv
  repeat' (first | with_reducible exact True.intro | with_reducible exact dr_ok hA (by kernel_rfl) | with_reducible refine And.intro ?_ ?_ | (intro hc; cbv))
  all_goals (subst hA; simp [sS, lFine] at *)
  all_goals first
    | omega
    | exact fun h => ⟨h, by omega, h⟩
    | rw [tm10]
    | trace_state
theorem isD_bound {L : List UInt8} (h : isD L = true) : lSum L.reverse false ≤ 510 * L.length := by
  have h1 := lSum8_le L.reverse false
  rw [lSum8_eq _ _ (fun b hb => (isD_iff.1 h).2 b (by simpa using hb)), List.length_reverse] at h1
  exact h1
theorem rf_step {L : List UInt8} {i : Nat} (hi : i < L.length) : lSum (L.drop i).reverse false = lSum (L.drop (i + 1)).reverse false + lW (dig (L.getD i 0)) (odd (L.length - i - 1)) := by
  have e : L.drop i = L.getD i 0 :: L.drop (i + 1) := by
    rw [List.getD_eq_getElem?_getD, List.getElem?_eq_getElem hi]
    exact List.drop_eq_getElem_cons hi
  rw [e, List.reverse_cons, lSum_snoc, List.length_reverse, List.length_drop, Bool.false_xor, show L.length - (i + 1) = L.length - i - 1 by omega]
theorem lW_0 (b : Nat) : lW b false = b := rfl
theorem lW_1 {b : Nat} (h : b ≤ 4) : lW b true = 2 * b := by simp only [lW, if_true]; rw [if_neg (by omega)]
theorem lW_2 {b : Nat} (h : 4 < b) : lW b true = 2 * b - 9 := by simp only [lW, if_true]; rw [if_pos h]
theorem odd_t {n : Nat} (h : n % 2 = 1) : odd n = true := by rw [odd_mod, h]; rfl
theorem odd_f {n : Nat} (h : n % 2 = 0) : odd n = false := by rw [odd_mod, h]; rfl
theorem par {len i : Nat} (hlt : i < len) (hL : len ≤ 100000) : ((IntKind.i64.wrap ((len : Int) - i)).tmod 2 = 0 → odd (len - i - 1) = true) ∧ (¬(IntKind.i64.wrap ((len : Int) - i)).tmod 2 = 0 → odd (len - i - 1) = false) := by
  rw [w64 (by omega), Int.tmod_eq_emod_of_nonneg (by omega)]
  exact ⟨fun h => odd_t (by omega), fun h => odd_f (by omega)⟩
theorem dw {b : Nat} (h : 48 ≤ b ∧ b ≤ 57) : IntKind.i64.wrap (IntKind.i64.wrap (b : Int) - 48) = ((b - 48 : Nat) : Int) := by
  rw [w64 (n := (b : Int)) (by omega), w64 (by omega)]
  omega
theorem fin_0 {b n n' len i i' : Nat} (hd : 48 ≤ b ∧ b ≤ 57) (hlt : i < len) (hL : len ≤ 100000) (hi' : i' = i + 1) (hn' : n' = n + lW (b - 48) (odd (len - i - 1))) (hb : n' ≤ 510 * len) (hc : ¬(IntKind.i64.wrap ((len : Int) - i)).tmod 2 = 0) :
    IntKind.i64.wrap ((n : Int) + IntKind.i64.wrap (IntKind.i64.wrap (b : Int) - 48)) = (n' : Int) ∧ IntKind.i64.wrap ((i : Int) + 1) = (i' : Int) := by
  rw [(par hlt hL).2 hc, lW_0] at hn'
  rw [dw hd, w64 (by omega), w64 (by omega)]
  omega
theorem fin_1 {b n n' len i i' : Nat} (hd : 48 ≤ b ∧ b ≤ 57) (hlt : i < len) (hL : len ≤ 100000) (hi' : i' = i + 1) (hn' : n' = n + lW (b - 48) (odd (len - i - 1))) (hb : n' ≤ 510 * len) (c2 : (IntKind.i64.wrap ((len : Int) - i)).tmod 2 = 0) (hc : IntKind.i64.wrap (2 * IntKind.i64.wrap (IntKind.i64.wrap (b : Int) - 48)) ≤ 9) :
    IntKind.i64.wrap ((n : Int) + IntKind.i64.wrap (2 * IntKind.i64.wrap (IntKind.i64.wrap (b : Int) - 48))) = (n' : Int) ∧ IntKind.i64.wrap ((i : Int) + 1) = (i' : Int) := by
  have e : IntKind.i64.wrap (2 * ((b - 48 : Nat) : Int)) = ((2 * (b - 48) : Nat) : Int) := by rw [w64 (by omega)]; omega
  rw [dw hd, e] at hc
  rw [(par hlt hL).1 c2, lW_1 (by omega)] at hn'
  rw [dw hd, e, w64 (by omega), w64 (by omega)]
  omega
theorem fin_2 {b n n' len i i' : Nat} (hd : 48 ≤ b ∧ b ≤ 57) (hlt : i < len) (hL : len ≤ 100000) (hi' : i' = i + 1) (hn' : n' = n + lW (b - 48) (odd (len - i - 1))) (hb : n' ≤ 510 * len) (c2 : (IntKind.i64.wrap ((len : Int) - i)).tmod 2 = 0) (hc : 9 < IntKind.i64.wrap (2 * IntKind.i64.wrap (IntKind.i64.wrap (b : Int) - 48))) :
    IntKind.i64.wrap ((n : Int) + IntKind.i64.wrap (IntKind.i64.wrap (2 * IntKind.i64.wrap (IntKind.i64.wrap (b : Int) - 48)) - 9)) = (n' : Int) ∧ IntKind.i64.wrap ((i : Int) + 1) = (i' : Int) := by
  have e : IntKind.i64.wrap (2 * ((b - 48 : Nat) : Int)) = ((2 * (b - 48) : Nat) : Int) := by rw [w64 (by omega)]; omega
  rw [dw hd, e] at hc
  rw [(par hlt hL).1 c2, lW_2 (by omega)] at hn'
  rw [dw hd, e, w64 (n := ((2 * (b - 48) : Nat) : Int) - 9) (by omega), w64 (by omega), w64 (by omega)]
  omega
theorem good_rFine (L : List UInt8) (hL : L.length ≤ 100000) : GoodP Tryd.prog gl0 91 [.str L] (.bool (std.tb fun _ => lFine L)) := by
  refine fn_sound' (T := seatT) (G := gg2) (X := noX) seatT_ok gg2_ok noX_ok noI_ok mixed Tryd.func91 (.one) (fun A => [.str L]) (fun A => .bool (A.tb fun _ => lFine L)) fun A hA => ?_
  cbv
  repeat' (first | with_reducible exact True.intro | with_reducible exact dr_ok hA (by kernel_rfl) | with_reducible refine And.intro ?_ ?_ | (intro hc; cbv))
  rotate_right
  · have hk : isD L = true := by
      subst hA
      simp [sS] at hc
      exact hc
    clear hc
    have hbd := isD_bound hk
    refine ⟨⟨{p : Nat × Nat // p.1 ≤ L.length ∧ p.2 + lSum (L.drop p.1).reverse false = lSum L.reverse false}, fun b p => [(3, .int .i64 (p.1.2 : Nat)), (4, .int .i64 (p.1.1 : Nat)), (5, .any)], fun b p => [], fun p => L.length - p.1.1, true⟩, ⟨⟨(0, 0), by omega, by simp⟩, ?_⟩, ?_⟩
    · cbv
      subst hA
      simp [-List.getD_eq_getElem?_getD, sS]
    · rintro ⟨⟨i, n⟩, hi, hn⟩
      simp only at hi hn
      cbv
      repeat' (first | with_reducible exact True.intro | with_reducible exact dr_ok hA (by kernel_rfl) | with_reducible refine And.intro ?_ ?_ | (intro hc; cbv))
      all_goals first
        | (fail_if_success (refine Exists.intro ?_ ?_)
           subst hA
           simp [-List.getD_eq_getElem?_getD, sS, gD'] at *
           done)
        | (fail_if_success (refine Exists.intro ?_ ?_)
           subst hA
           simp [-List.getD_eq_getElem?_getD, sS, gD'] at *
           omega)
        | (fail_if_success (refine Exists.intro ?_ ?_)
           have hie : i = L.length := by (clear hn; subst hA; simp [sS] at *; omega)
           rw [hie, List.drop_length] at hn
           subst hA
           simp only [sS, Int.ofNat_eq_natCast]
           have hn2 : n = lSum L.reverse false := hn
           rw [hn2]
           simp [lFine, hk, tm10])
        | skip
      all_goals
          (have hlt : i < L.length := by clear hn; subst hA; simp [sS] at *; omega
           have hd := getD_dig hk hlt
           have hs := rf_step hlt
           obtain ⟨d', hd'⟩ : ∃ d', d' = lW (dig (L.getD i 0)) (odd (L.length - i - 1)) := ⟨_, rfl⟩
           obtain ⟨i', hi'⟩ : ∃ i', i' = i + 1 := ⟨_, rfl⟩
           obtain ⟨n', hn'⟩ : ∃ n', n' = n + d' := ⟨_, rfl⟩
           have hnn : n' + lSum (L.drop i').reverse false = lSum L.reverse false := by rw [hi']; omega
           refine ⟨⟨(i', n'), by omega, hnn⟩, ?_, show L.length - i' < L.length - i by omega⟩
           have hb : n' ≤ 510 * L.length := by omega
           have hg : dig (L.getD i 0) = (L.getD i 0).toNat - 48 := rfl
           cbv
           clear hn hnn hs hk hbd
           subst hA
           simp [-List.getD_eq_getElem?_getD, sS, gD'] at hc
           simp [-List.getD_eq_getElem?_getD, sS, gD']
           rw [hd'] at hn'
           rw [hg] at hn'
           first
             | with_reducible exact fin_0 hd hlt hL hi' hn' hb hc
             | (rename_i c2
                simp [-List.getD_eq_getElem?_getD, sS, gD'] at c2
                first | with_reducible exact fin_1 hd hlt hL hi' hn' hb c2 hc | with_reducible exact fin_2 hd hlt hL hi' hn' hb c2 hc))
  all_goals (subst hA; simp [sS, lFine] at *)
  all_goals first
    | omega
    | (intro h; rw [hc] at h; cases h)
    | trace_state
end Go.Vd

set_option linter.unusedVariables false
set_option linter.unusedSimpArgs false
set_option maxRecDepth 100000
set_option maxHeartbeats 4000000
namespace Go.Vd
open Go.Proofs
noncomputable def c_gFine : Ct := fun A args => match args with
  | [.str L] => some (some (A.tp fun _ => L.length ≤ 100000), .bool (A.tb fun _ => lFine L))
  | _ => none
noncomputable def c_rFine : Ct := fun A args => match args with
  | [.str L] => some (some (A.tp fun _ => L.length ≤ 100000), .bool (A.tb fun _ => lFine L))
  | _ => none
noncomputable def ggL : Ar → Pu := addC 18 c_gFine (addC 91 c_rFine (gg2))
theorem ggL_ok : PuOk Tryd.prog gl0 (ggL std) := by
  refine addC_ok (addC_ok (gg2_ok) ⟨_, Tryd.func91, rfl, by decide⟩ ?_) ⟨_, Tryd.func18, rfl, by decide⟩ ?_
  · intro args p r h hp
    unfold c_rFine at h
    split at h <;> cases h
    exact good_rFine _ hp
  · intro args p r h hp
    unfold c_gFine at h
    split at h <;> cases h
    exact good_gFine _ hp
end Go.Vd

set_option linter.unusedVariables false
set_option linter.unusedSimpArgs false
set_option maxRecDepth 100000
set_option maxHeartbeats 4000000
namespace Go.Vd
open Go.Proofs
theorem gD {L : List UInt8} {i : Nat} : L[i]?.getD 0 = L.getD i 0 := (List.getD_eq_getElem?_getD ..).symm
def FL : List Int := [2, 3, 19, 3, 1, 6, 4, 1, 12, 7, 1, 10, 11, 1, 6, 12, 1, 6, 37, 2, 12, 38, 2, 6, 39, 2, 2, 41, 2, 8, 44, 4, 25, 48, 5, 999, 49, 1, 3, 90, 1, 42, 120, 5, 999]
def dFind : List Int → Int → Option (Int × Int)
  | a :: b :: c :: r, n => if a = n then some (b, c) else dFind r n
  | _, _ => none
def dOk (n : Int) : Bool := (dFind FL n).isSome
def dKd (n : Int) : Int := ((dFind FL n).getD (0, 0)).1
def dSz (n : Int) : Int := ((dFind FL n).getD (0, 0)).2
theorem drop3 {L : List Int} {i : Nat} (h : i + 2 < L.length) : L.drop i = L.getD i 0 :: L.getD (i + 1) 0 :: L.getD (i + 2) 0 :: L.drop (i + 3) := by
  have e : ∀ {j : Nat} (hj : j < L.length), L[j] = L.getD j 0 := fun hj => by rw [List.getD_eq_getElem?_getD, List.getElem?_eq_getElem hj]; rfl
  rw [List.drop_eq_getElem_cons (by omega), List.drop_eq_getElem_cons (by omega), List.drop_eq_getElem_cons h, e, e, e]
theorem FL_len : FL.length = 45 := rfl
theorem all2_map : ∀ L : List Int, All2 (fun c x => ∀ j, j < 1 → Ceq (getAt c j) (getAt (eZ std fun _ => x) j)) (L.map fun z => [SV.int .i64 z]) L
  | [] => trivial
  | x :: l => ⟨cell_eZ x, all2_map l⟩
theorem FL_rep : Reps eZ 0 1 45 (lstS (FL.map fun z => [SV.int .i64 z])) FL := Reps.lst (all2_map FL)
attribute [local irreducible] vc
theorem good_rFields  : GoodP Tryd.prog gl0 174 [] (rowS eZ 0 1 std fun _ => FL) := by
  refine fn_sound' (T := seatT) (G := noC) (X := noX) seatT_ok noC_ok noX_ok noI_ok mixed Tryd.func174 (.none) (fun A => []) (fun A => rowS eZ 0 1 A fun _ => FL) fun A hA => ?_
  cbv
  repeat' (first | with_reducible exact True.intro | with_reducible exact dr_ok hA (by kernel_rfl) | with_reducible refine And.intro ?_ ?_ | (intro hc; cbv))
  all_goals (subst hA; simp only [sS])
  · rfl
  · exact FL_rep.eqr
noncomputable def c_rFields : Ct := fun A args => match args with
  | [] => some (none, rowS eZ 0 1 A fun _ => FL)
  | _ => none
noncomputable def gh1 : Ar → Pu := addC 174 c_rFields (ggL)
theorem gh1_ok : PuOk Tryd.prog gl0 (gh1 std) := by
  refine addC_ok (ggL_ok) ⟨_, Tryd.func174, rfl, by decide⟩ ?_
  · intro args p r h hp
    unfold c_rFields at h
    split at h <;> cases h
    exact good_rFields
theorem good_rDef (n : Int) : GoodP Tryd.prog gl0 129 [.int .i64 n] (.tup [.agg [.int .i64 (std.ti fun _ => if dOk n then n else 0), .int .i64 (std.ti fun _ => dKd n), .int .i64 (std.ti fun _ => dSz n)], .bool (std.tb fun _ => dOk n)]) := by
  refine fn_sound' (T := seatT) (G := gh1) (X := noX) seatT_ok gh1_ok noX_ok noI_ok mixed Tryd.func129 (.one) (fun A => [.int .i64 n]) (fun A => .tup [.agg [.int .i64 (A.ti fun _ => if dOk n then n else 0), .int .i64 (A.ti fun _ => dKd n), .int .i64 (A.ti fun _ => dSz n)], .bool (A.tb fun _ => dOk n)]) fun A hA => ?_
  cbv
  repeat' (first | with_reducible exact True.intro | with_reducible exact dr_ok hA (by kernel_rfl) | with_reducible refine And.intro ?_ ?_ | (intro hc; cbv))
  refine ⟨⟨{p : Nat × Nat // p.1 ≤ 15 ∧ p.2 = 3 * p.1 ∧ dFind FL n = dFind (FL.drop p.2) n}, fun b p => [(5, .int .i64 (p.1.2 : Nat))], fun b p => [], fun p => 15 - p.1.1, true⟩, ⟨⟨(0, 0), by omega, rfl, rfl⟩, ?_⟩, ?_⟩
  · cbv
    subst hA
    simp [-List.getD_eq_getElem?_getD, sS]
  · rintro ⟨⟨j, i⟩, hj, hi, hd⟩
    simp only at hj hi hd
    have hL := FL_len
    cbv
    repeat' (first | with_reducible exact True.intro | with_reducible exact dr_ok hA (by kernel_rfl) | with_reducible refine And.intro ?_ ?_ | (intro hc; cbv))
    all_goals first
      | (fail_if_success (refine Exists.intro ?_ ?_)
         subst hA
         simp [-List.getD_eq_getElem?_getD, sS, hL] at *
         first
           | omega
           | (rw [w64 (by omega)]; omega)
           | (constructor <;> (rw [w64 (by omega)]; omega))
           | (have hq : FL.getD i 0 = n := by assumption
              rw [drop3 (by rw [FL_len]; omega)] at hd
              simp only [dFind, if_pos hq] at hd
              have e1 : (IntKind.i64.wrap ((i : Int) + 1)).toNat = i + 1 := by rw [w64 (by omega)]; omega
              have e2 : (IntKind.i64.wrap ((i : Int) + 2)).toNat = i + 2 := by rw [w64 (by omega)]; omega
              simp [-List.getD_eq_getElem?_getD, dOk, dKd, dSz, hd, hq, e1, e2]; done)
           | (have hie : i = 45 := by omega
              rw [hie] at hd
              have hn : dFind (FL.drop 45) n = none := rfl
              rw [hn] at hd
              simp [dOk, dKd, dSz, hd]; done)
           | trace_state)
      | (have hlt : i < 45 := by clear hd; subst hA; simp [sS, hL] at *; omega
         have h0 : ¬FL.getD i 0 = n := by subst hA; simpa [-List.getD_eq_getElem?_getD, sS] using hc
         obtain ⟨i', hi'⟩ : ∃ i', i' = i + 3 := ⟨_, rfl⟩
         rw [drop3 (by rw [hL]; omega)] at hd
         simp only [dFind, if_neg h0] at hd
         refine ⟨⟨(j + 1, i'), by omega, by omega, by rw [hi', hd]⟩, ?_, show 15 - (j + 1) < 15 - j by omega⟩
         cbv
         subst hA
         simp [sS]
         exact (w64 (by omega)).trans (by omega))
      | trace_state
theorem good_rSigns (k : Int) (r : List UInt8) (hr : r.length ≤ 1000000) : GoodP Tryd.prog gl0 130 [.int .i64 k, .str r] (.bool (std.tb fun _ => signs k r)) := by
  refine fn_sound' (T := seatT) (G := gh1) (X := noX) seatT_ok gh1_ok noX_ok noI_ok mixed Tryd.func130 (.one) (fun A => [.int .i64 k, .str r]) (fun A => .bool (A.tb fun _ => signs k r)) fun A hA => ?_
  cbv
  repeat' (first | with_reducible exact True.intro | with_reducible exact dr_ok hA (by kernel_rfl) | with_reducible refine And.intro ?_ ?_ | (intro hc; cbv))
  refine ⟨⟨{i : Nat // i ≤ r.length ∧ (r.take i).all (inS k) = true}, fun b i => [(5, .int .i64 (i.1 : Nat))], fun b i => [], fun i => r.length - i.1, true⟩, ⟨⟨0, by omega, by simp⟩, ?_⟩, ?_⟩
  · cbv
    subst hA
    simp [-List.getD_eq_getElem?_getD, sS]
  · rintro ⟨i, hi, hz⟩
    cbv
    repeat' (first | with_reducible exact True.intro | with_reducible exact dr_ok hA (by kernel_rfl) | with_reducible refine And.intro ?_ ?_ | (intro hc; cbv))
    all_goals first
      | (fail_if_success (refine Exists.intro ?_ ?_)
         subst hA
         simp [-List.getD_eq_getElem?_getD, sS, gD] at *
         done)
      | (fail_if_success (refine Exists.intro ?_ ?_)
         subst hA
         simp [-List.getD_eq_getElem?_getD, sS, gD] at *
         first
           | omega
           | (constructor <;> omega)
           | (intros; (first | omega | (refine ⟨by omega, ?_⟩; omega)))
           | (have hlt : i < r.length := by omega
              have hx : inS k (r.getD i 0) = false := by (unfold inS; split <;> simp [-List.getD_eq_getElem?_getD, isDb, okB] <;> omega)
              rw [signs, all_false hlt hx]; done)
           | (have hie : i = r.length := by omega
              subst hie
              rw [signs, List.all_eq_true]; simpa using hz)
           | trace_state)
      | (have hlt : i < r.length := by clear hz; subst hA; simp [sS] at *; omega
         have hx : inS k (r.getD i 0) = true := by
           clear hz
           subst hA
           simp [-List.getD_eq_getElem?_getD, sS, gD] at *
           unfold inS
           split <;> simp [-List.getD_eq_getElem?_getD, isDb, okB] <;> omega
         refine ⟨⟨i + 1, by omega, by rw [all_take hlt, hz, hx]; rfl⟩, ?_, show r.length - (i + 1) < r.length - i by omega⟩
         cbv
         subst hA
         simp [sS]
         exact w64 (by omega))
      | trace_state

theorem lt15 {i : Nat} (h : i < 15) : i = 0 ∨ i = 1 ∨ i = 2 ∨ i = 3 ∨ i = 4 ∨ i = 5 ∨ i = 6 ∨ i = 7 ∨ i = 8 ∨ i = 9 ∨ i = 10 ∨ i = 11 ∨ i = 12 ∨ i = 13 ∨ i = 14 := by omega
theorem good_gDef (n : Int) : GoodP Tryd.prog gl0 131 [.int .i64 n] (.tup [.agg [.int .i64 (std.ti fun _ => if dOk n then n else 0), .int .i64 (std.ti fun _ => dKd n), .int .i64 (std.ti fun _ => dSz n)], .bool (std.tb fun _ => dOk n)]) := by
  refine fn_sound' (T := seatT) (G := noC) (X := noX) seatT_ok noC_ok noX_ok noI_ok mixed Tryd.func131 (.one) (fun A => [.int .i64 n]) (fun A => .tup [.agg [.int .i64 (A.ti fun _ => if dOk n then n else 0), .int .i64 (A.ti fun _ => dKd n), .int .i64 (A.ti fun _ => dSz n)], .bool (A.tb fun _ => dOk n)]) fun A hA => ?_
  cbv
  repeat' (first | with_reducible exact True.intro | with_reducible exact dr_ok hA (by kernel_rfl) | with_reducible refine And.intro ?_ ?_ | (intro hc; cbv))
  refine ⟨⟨{i : Nat // i ≤ 15 ∧ dFind FL n = dFind (FL.drop (3 * i)) n}, fun b i => [(7, .int .i64 (i.1 : Nat))], fun b i => [], fun i => 15 - i.1, true⟩, ⟨⟨0, by omega, rfl⟩, ?_⟩, ?_⟩
  · cbv
    subst hA
    simp [-List.getD_eq_getElem?_getD, sS]
  · rintro ⟨i, hi, hd⟩
    cbv
    repeat' (first | with_reducible exact True.intro | with_reducible exact dr_ok hA (by kernel_rfl) | with_reducible refine And.intro ?_ ?_ | (intro hc; cbv))
    all_goals first
      | (fail_if_success (refine Exists.intro ?_ ?_)
         subst hA
         have hlt : i < 15 := by (clear hd; simp [sS] at *; omega)
         rcases lt15 hlt with h | h | h | h | h | h | h | h | h | h | h | h | h | h | h <;> subst h <;> first
           | (simp [sS, getAt, isI_int]; done)
           | (simp [sS, getAt] at hc ⊢; subst hc; decide)
           | trace_state)
      | (fail_if_success (refine Exists.intro ?_ ?_)
         subst hA
         have hie : i = 15 := by (simp [sS] at *; omega)
         rw [hie, show dFind (FL.drop (3 * 15)) n = none from rfl] at hd
         simp [sS, dOk, dKd, dSz, hd]; done)
      | (have hlt : i < 15 := by (clear hd; subst hA; simp [sS] at *; omega)
         obtain ⟨i', hi'⟩ : ∃ i', i' = i + 1 := ⟨_, rfl⟩
         refine ⟨⟨i', by omega, ?_⟩, ?_, show 15 - i' < 15 - i by omega⟩
         · subst hA hi'
           rw [hd]
           rcases lt15 hlt with h | h | h | h | h | h | h | h | h | h | h | h | h | h | h <;> subst h <;> simp [sS, getAt] at hc <;> simp [FL, dFind, hc]
         · cbv
           subst hA
           simp [sS]
           exact (w64 (by omega)).trans (by omega))
      | trace_state
end Go.Vd

set_option linter.unusedVariables false
set_option linter.unusedSimpArgs false
namespace Go.Proofs
open Go.RowKit
theorem ba_byte {s : ByteArray} {i : Nat} (h : i < s.size) : s[i]'h = s.data.toList.getD i 0 := by
  rw [List.getD_eq_getElem?_getD, List.getElem?_eq_getElem (by simpa using h)]
  simp
  rfl
set_option maxRecDepth 100000 in
set_option maxHeartbeats 2000000 in
theorem isText_walk (s : ByteArray) (w : World) :
    Calls Tryd.prog 175 #[.string s] w fun e w' => e = .returned (.bool (s.data.toList.all Vd.okB)) ∧ ∃ pos, w' = w.iter s pos := by
  have hsz : s.data.toList.length = s.size := by simp
  go_enter Tryd.func175, Tryd.ntmps175
  go_wp2
  go_loopw [4] (fun _ w' => ∃ pos : Nat, w' = w.iter s pos ∧ pos ≤ s.size ∧ (s.data.toList.take pos).all Vd.okB = true) (fun _ w' => s.size - w'.iterPos w.heap.size)
  case atStart => exact ⟨0, rfl, by omega, by simp⟩
  case round =>
    obtain ⟨pos, rfl, hle, hall⟩ := hrel
    by_cases hp : pos < s.size
    · by_cases ha : (s[pos]'hp).toNat < 128
      · have hp' : pos < s.data.size := hp
        have hnx : ∀ ty, (Instr.next (.pointer (some ⟨w.heap.size, 0, none⟩)) true ty).run Tryd.prog (w.iter s pos) = .ok (.tuple #[.bool true, .int .i64 pos, .int .i32 ((s.data[pos]'hp').toNat : Int)]) (w.iter s (pos + 1)) := fun ty => run_next_ascii w s pos ty hp ha
        have hb : s.data[pos]'hp' = s.data.toList.getD pos 0 := ba_byte hp
        have hok : Vd.okB (s.data[pos]'hp') = true ↔ 32 ≤ (s.data[pos]'hp').toNat ∧ (s.data[pos]'hp').toNat ≤ 126 := by simp [Vd.okB]
        have hno : Vd.okB (s.data[pos]'hp') = false → s.data.toList.all Vd.okB = false := fun h => Vd.all_false (i := pos) (by omega) (by rw [← hb]; exact h)
        by_cases h1 : (((s.data[pos]'hp').toNat : Nat) : Int) < 32
        · have hf := hno (by cases h : Vd.okB (s.data[pos]'hp'); rfl; have := hok.1 h; omega)
          clear hok hno hb
          go_wp2
          go_ret
          exact ⟨by first | rfl | (rw [hf]; rfl), _, rfl⟩
        · by_cases h2 : (126 : Int) < (((s.data[pos]'hp').toNat : Nat) : Int)
          · have hf := hno (by cases h : Vd.okB (s.data[pos]'hp'); rfl; have := hok.1 h; omega)
            clear hok hno hb
            go_wp2
            go_ret
            exact ⟨by first | rfl | (rw [hf]; rfl), _, rfl⟩
          · have hy : (s.data.toList.take (pos + 1)).all Vd.okB = true := by
              rw [Vd.all_take (by omega), hall, ← hb, hok.2 (by omega)]
              rfl
            clear hok hno hb
            go_wp2
            go_roundw
            case rel => exact ⟨pos + 1, rfl, by omega, hy⟩
            case measure =>
              simp
              omega
      · have hd := decode_high s pos hp (by omega)
        have hnx : ∀ ty, (Instr.next (.pointer (some ⟨w.heap.size, 0, none⟩)) true ty).run Tryd.prog (w.iter s pos) = _ := fun ty => run_next_any w s pos ty hp
        have hb := ba_byte hp
        have hno : s.data.toList.all Vd.okB = false := Vd.all_false (i := pos) (by omega) (by
          rw [← hb]
          simp [Vd.okB]
          omega)
        generalize (Utf8.decode s pos).1 = r at *
        have h1 : ¬ ((r : Nat) : Int) < 32 := by omega
        have h2 : (126 : Int) < ((r : Nat) : Int) := by omega
        go_wp2
        go_ret
        exact ⟨by first | rfl | (rw [hno]; rfl), _, rfl⟩
    · have hnx : ∀ ty, (Instr.next (.pointer (some ⟨w.heap.size, 0, none⟩)) true ty).run Tryd.prog (w.iter s pos) = _ := fun ty => run_next_end w s pos ty hp
      go_wp2
      go_ret
      rw [List.take_of_length_le (by omega)] at hall
      exact ⟨by first | rfl | (rw [hall]; rfl), _, rfl⟩
end Go.Proofs
namespace Go.Vd
open Go.Proofs
theorem good_isText (L : List UInt8) : GoodP Tryd.prog gl0 175 [.str L] (.bool (std.tb fun _ => L.all okB)) := by
  intro w ρ rw N vs hfr hrw hg hargs
  match vs, hargs with
  | [v1], ⟨r1, _⟩ =>
    generalize hs1 : SV.str L = s1 at r1
    cases r1 with
    | str s =>
      cases hs1
      refine (isText_walk s w).mono fun e w' hq => ?_
      obtain ⟨rfl, pos, rfl⟩ := hq
      refine ⟨_, rfl, Ext.alloc _ _, fun key _ => ?_⟩
      exact Rel.bool _
    | _ => cases hs1
end Go.Vd

set_option linter.unusedVariables false
set_option linter.unusedSimpArgs false
set_option maxRecDepth 100000
set_option maxHeartbeats 4000000
namespace Go.Vd
open Go.Proofs
noncomputable def iF : Nat → Option Func := addI 132 Tryd.f132 (addI 227 Tryd.f227 (addI 228 Tryd.f228 (addI 229 Tryd.f229 (addI 230 Tryd.f230 (addI 178 Tryd.f178 noI)))))
theorem iF_ok : InOk Tryd.prog iF := addI_ok (addI_ok (addI_ok (addI_ok (addI_ok (addI_ok noI_ok Tryd.func178 (by kernel_rfl)) Tryd.func230 (by kernel_rfl)) Tryd.func229 (by kernel_rfl)) Tryd.func228 (by kernel_rfl)) Tryd.func227 (by kernel_rfl)) Tryd.func132 (by kernel_rfl)
def xFm : Nat → String → Option Nat
  | 221, "paydesk/field.right" => some 228
  | 221, "paydesk/field.ahead" => some 227
  | 223, "paydesk/field.right" => some 230
  | 223, "paydesk/field.ahead" => some 229
  | _, _ => none
def xF : Ar → Xt := fun _ => { meth := xFm, wt := fun _ _ _ _ _ _ => none }
theorem xF_ok : XtOk Tryd.prog gl0 (xF std) := ⟨fun t name f h => by
  have h : xFm t name = some f := h
  unfold xFm at h
  split at h <;> cases h <;> exact fun v args w => by kernel_rfl, fun f e k n g rest p n2 g2 h => by cases h⟩
def isT (L : List UInt8) : Bool := L.all okB
noncomputable def c_isText : Ct := fun A args => match args with
  | [.str L] => some (none, .bool (A.tb fun _ => isT L))
  | _ => none
noncomputable def c_gDef : Ct := fun A args => match args with
  | [.int .i64 n] => some (none, .tup [.agg [.int .i64 (A.ti fun _ => if dOk n then n else 0), .int .i64 (A.ti fun _ => dKd n), .int .i64 (A.ti fun _ => dSz n)], .bool (A.tb fun _ => dOk n)])
  | _ => none
noncomputable def c_rDef : Ct := fun A args => match args with
  | [.int .i64 n] => some (none, .tup [.agg [.int .i64 (A.ti fun _ => if dOk n then n else 0), .int .i64 (A.ti fun _ => dKd n), .int .i64 (A.ti fun _ => dSz n)], .bool (A.tb fun _ => dOk n)])
  | _ => none
noncomputable def c_rSigns : Ct := fun A args => match args with
  | [.int .i64 k, .str r] => some (some (A.tp fun _ => r.length ≤ 1000000), .bool (A.tb fun _ => signs k r))
  | _ => none
noncomputable def gh2 : Ar → Pu := addC 175 c_isText (addC 131 c_gDef (addC 129 c_rDef (addC 130 c_rSigns (gh1))))
theorem gh2_ok : PuOk Tryd.prog gl0 (gh2 std) := by
  refine addC_ok (addC_ok (addC_ok (addC_ok (gh1_ok) ⟨_, Tryd.func130, rfl, by decide⟩ ?_) ⟨_, Tryd.func129, rfl, by decide⟩ ?_) ⟨_, Tryd.func131, rfl, by decide⟩ ?_) ⟨_, Tryd.func175, rfl, by decide⟩ ?_
  · intro args p r h hp
    unfold c_rSigns at h
    split at h <;> cases h
    exact good_rSigns _ _ hp
  · intro args p r h hp
    unfold c_rDef at h
    split at h <;> cases h
    exact good_rDef _
  · intro args p r h hp
    unfold c_gDef at h
    split at h <;> cases h
    exact good_gDef _
  · intro args p r h hp
    unfold c_isText at h
    split at h <;> cases h
    exact good_isText _
def rr (n : Int) (s : List UInt8) : Bool := if dOk n = true ∧ ¬s = [] ∧ (s.length : Int) ≤ dSz n ∧ (dKd n < 3 → dSz n ≤ s.length) then signs (dKd n) s else false
theorem dFind_mem : ∀ (L : List Int) (n : Int) (p : Int × Int), dFind L n = some p → ∃ j, L.getD (3 * j) 0 = n ∧ L.getD (3 * j + 1) 0 = p.1 ∧ L.getD (3 * j + 2) 0 = p.2 ∧ 3 * j + 2 < L.length
  | a :: b :: c :: r, n, p, h => by
    simp only [dFind] at h
    split at h
    · rename_i he
      cases h
      exact ⟨0, he, rfl, rfl, by simp⟩
    · obtain ⟨j, h1, h2, h3, h4⟩ := dFind_mem r n p h
      refine ⟨j + 1, ?_, ?_, ?_, by simp only [List.length_cons]; omega⟩
      · rw [show 3 * (j + 1) = 3 * j + 1 + 1 + 1 by omega]; simpa using h1
      · rw [show 3 * (j + 1) + 1 = 3 * j + 1 + 1 + 1 + 1 by omega]; simpa using h2
      · rw [show 3 * (j + 1) + 2 = 3 * j + 2 + 1 + 1 + 1 by omega]; simpa using h3
  | [], _, _, h => by cases h
  | [_], _, _, h => by cases h
  | [_, _], _, _, h => by cases h
/-- Kinds and sizes that are known. -/
theorem dOk_b {n : Int} (h : dOk n = true) : 1 ≤ dKd n ∧ dKd n ≤ 5 ∧ 1 ≤ dSz n ∧ dSz n ≤ 999 ∧ 2 ≤ n ∧ n ≤ 120 ∧ (dKd n < 5 → dSz n ≤ 99) := by
  unfold dOk at h
  obtain ⟨p, hp⟩ := Option.isSome_iff_exists.1 h
  obtain ⟨j, h1, h2, h3, h4⟩ := dFind_mem FL n p hp
  have hk : dKd n = p.1 := by unfold dKd; rw [hp]; rfl
  have hs : dSz n = p.2 := by unfold dSz; rw [hp]; rfl
  rw [hk, hs, ← h2, ← h3, ← h1]
  have hj : j < 15 := by rw [FL_len] at h4; omega
  rcases lt15 hj with h | h | h | h | h | h | h | h | h | h | h | h | h | h | h <;> subst h <;> decide
theorem dOk_no {n : Int} (h : dOk n = false) : dKd n = 0 ∧ dSz n = 0 := by
  unfold dOk at h
  cases hf : dFind FL n with
  | none => unfold dKd dSz; rw [hf]; exact ⟨rfl, rfl⟩
  | some p => rw [hf] at h; cases h
theorem isD_ne {s : List UInt8} (h : ¬s = []) : isD s = s.all isDb := by
  unfold isD
  cases s with
  | nil => exact absurd rfl h
  | cons b s => rfl
theorem signsD {k : Int} (h : k = 1 ∨ k = 3) (s : List UInt8) : signs k s = s.all isDb := by
  unfold signs
  have : inS k = isDb := by funext b; unfold inS; rw [if_pos h]
  rw [this]
theorem signsT {k : Int} (h : ¬(k = 1 ∨ k = 3)) (s : List UInt8) : signs k s = s.all okB := by
  unfold signs
  have : inS k = okB := by funext b; unfold inS; rw [if_neg h]
  rw [this]
theorem len_ne {s : List UInt8} {z : Int} (hz : 1 ≤ z) (h : (s.length : Int) = z) : ¬s = [] := fun e => by rw [e] at h; simp at h; omega
theorem rr_fix {n : Int} {s : List UInt8} (h : dOk n = true) (hk : dKd n < 3) : rr n s = (decide ((s.length : Int) = dSz n) && signs (dKd n) s) := by
  have hb := dOk_b h
  unfold rr
  by_cases hl : (s.length : Int) = dSz n
  · rw [if_pos ⟨h, len_ne hb.2.2.1 hl, by omega, fun _ => by omega⟩]; simp [hl]
  · rw [if_neg (fun e => hl (by have := e.2.2.2 hk; have := e.2.2.1; omega))]; simp [hl]
theorem rr_long {n : Int} {s : List UInt8} (h : dOk n = true) (hk : ¬dKd n < 3) : rr n s = ((decide (1 ≤ (s.length : Int)) && decide ((s.length : Int) ≤ dSz n)) && signs (dKd n) s) := by
  unfold rr
  by_cases hl : 1 ≤ (s.length : Int) ∧ (s.length : Int) ≤ dSz n
  · rw [if_pos ⟨h, fun e => by rw [e] at hl; simp at hl, hl.2, fun hc => absurd hc hk⟩]; simp [hl]
  · rw [if_neg (fun e => hl ⟨by have := List.length_pos_iff.2 e.2.1; omega, e.2.2.1⟩)]
    by_cases h1 : 1 ≤ (s.length : Int)
    · have h2 : ¬(s.length : Int) ≤ dSz n := fun e => hl ⟨h1, e⟩
      simp [h2]
    · simp [h1]
theorem rr_no {n : Int} {s : List UInt8} (h : dOk n = false) : rr n s = false := by
  unfold rr
  rw [h, if_neg (fun e => by cases e.1)]
theorem rr_1 {n : Int} {s : List UInt8} (h : dOk n = true) (hk : dKd n = 1) (hl : (s.length : Int) = dSz n) : isD s = rr n s := by
  rw [rr_fix h (by omega), signsD (.inl hk), isD_ne (len_ne (dOk_b h).2.2.1 hl)]; simp [hl]
theorem rr_2 {n : Int} {s : List UInt8} (h : dOk n = true) (hk : dKd n = 2) (hl : (s.length : Int) = dSz n) : isT s = rr n s := by
  unfold isT
  rw [rr_fix h (by omega), signsT (by omega)]; simp [hl]
theorem rr_f {n : Int} {s : List UInt8} (h : dOk n = true) (hk : dKd n < 3) (hl : ¬(s.length : Int) = dSz n) : rr n s = false := by
  rw [rr_fix h hk]; simp [hl]
theorem rr_3 {n : Int} {s : List UInt8} (h : dOk n = true) (hk : dKd n = 3) (hl : 1 ≤ (s.length : Int) ∧ (s.length : Int) ≤ dSz n) : isD s = rr n s := by
  rw [rr_long h (by omega), signsD (.inr hk), isD_ne (fun e => by rw [e] at hl; simp at hl)]; simp [hl]
theorem rr_4 {n : Int} {s : List UInt8} (h : dOk n = true) (hk : 3 < dKd n) (hl : 1 ≤ (s.length : Int) ∧ (s.length : Int) ≤ dSz n) : isT s = rr n s := by
  unfold isT
  rw [rr_long h (by omega), signsT (by omega)]; simp [hl]
theorem rr_l {n : Int} {s : List UInt8} (h : dOk n = true) (hk : 3 ≤ dKd n) (hl : 1 ≤ (s.length : Int) → dSz n < (s.length : Int)) : rr n s = false := by
  rw [rr_long h (by omega)]
  by_cases h1 : 1 ≤ (s.length : Int)
  · have := hl h1
    have h2 : ¬(s.length : Int) ≤ dSz n := by omega
    simp [h2]
  · simp [h1]
theorem rr_of1 {n : Int} {s : List UInt8} (h : dOk n = true) (hk : dKd n = 1) : rr n s = true ↔ (s.length : Int) = dSz n ∧ isD s = true := by
  by_cases hl : (s.length : Int) = dSz n
  · rw [← rr_1 h hk hl]; simp [hl]
  · rw [rr_f h (by omega) hl]; simp [hl]
theorem rr_of2 {n : Int} {s : List UInt8} (h : dOk n = true) (hk : dKd n = 2) : rr n s = true ↔ (s.length : Int) = dSz n ∧ isT s = true := by
  by_cases hl : (s.length : Int) = dSz n
  · rw [← rr_2 h hk hl]; simp [hl]
  · rw [rr_f h (by omega) hl]; simp [hl]
theorem rr_of3 {n : Int} {s : List UInt8} (h : dOk n = true) (hk : dKd n = 3) : rr n s = true ↔ (1 ≤ (s.length : Int) ∧ (s.length : Int) ≤ dSz n) ∧ isD s = true := by
  by_cases hl : 1 ≤ (s.length : Int) ∧ (s.length : Int) ≤ dSz n
  · rw [← rr_3 h hk hl]; exact ⟨fun h => ⟨hl, h⟩, fun h => h.2⟩
  · rw [rr_l h (by omega) (fun h1 => by omega)]; exact ⟨fun h => (by cases h), fun h => absurd h.1 hl⟩
theorem rr_of4 {n : Int} {s : List UInt8} (h : dOk n = true) (hk : 3 < dKd n) : rr n s = true ↔ (1 ≤ (s.length : Int) ∧ (s.length : Int) ≤ dSz n) ∧ isT s = true := by
  by_cases hl : 1 ≤ (s.length : Int) ∧ (s.length : Int) ≤ dSz n
  · rw [← rr_4 h hk hl]; exact ⟨fun h => ⟨hl, h⟩, fun h => h.2⟩
  · rw [rr_l h (by omega) (fun h1 => by omega)]; exact ⟨fun h => (by cases h), fun h => absurd h.1 hl⟩
theorem rr_f1 {n : Int} {s : List UInt8} (h : dOk n = true) (hk : dKd n = 1) (hc : ¬(s.length : Int) = dSz n ∨ isD s = false) : rr n s = false := by
  cases hr : rr n s
  · rfl
  · have := (rr_of1 h hk).1 hr
    rcases hc with hc | hc
    · exact absurd this.1 hc
    · rw [hc] at this; cases this.2
theorem rr_f2 {n : Int} {s : List UInt8} (h : dOk n = true) (hk : dKd n = 2) (hc : ¬(s.length : Int) = dSz n ∨ isT s = false) : rr n s = false := by
  cases hr : rr n s
  · rfl
  · have := (rr_of2 h hk).1 hr
    rcases hc with hc | hc
    · exact absurd this.1 hc
    · rw [hc] at this; cases this.2
theorem rr_f3 {n : Int} {s : List UInt8} (h : dOk n = true) (hk : dKd n = 3) (hc : ((s.length : Int) < 1 ∨ dSz n < (s.length : Int)) ∨ isD s = false) : rr n s = false := by
  cases hr : rr n s
  · rfl
  · have := (rr_of3 h hk).1 hr
    rcases hc with hc | hc
    · omega
    · rw [hc] at this; cases this.2
theorem rr_f4 {n : Int} {s : List UInt8} (h : dOk n = true) (hk : 3 < dKd n) (hc : ((s.length : Int) < 1 ∨ dSz n < (s.length : Int)) ∨ isT s = false) : rr n s = false := by
  cases hr : rr n s
  · rfl
  · have := (rr_of4 h hk).1 hr
    rcases hc with hc | hc
    · omega
    · rw [hc] at this; cases this.2
attribute [local irreducible] vc
theorem good_gRight (n : Int) (L : List UInt8) (hL : L.length ≤ 1000000) : GoodP Tryd.prog gl0 90 [.int .i64 n, .str L] (.bool (std.tb fun _ => rr n L)) := by
  refine fn_sound' (T := seatT) (G := gh2) (X := xF) seatT_ok gh2_ok xF_ok iF_ok mixed Tryd.func90 (.one) (fun A => [.int .i64 n, .str L]) (fun A => .bool (A.tb fun _ => rr n L)) fun A hA => ?_
  cbv
  repeat' (first | with_reducible exact True.intro | with_reducible exact dr_ok hA (by kernel_rfl) | with_reducible refine And.intro ?_ ?_ | (intro hc; cbv))
  all_goals (subst hA; simp [std_add, std_sub, std_mul, std_quo, std_rem, std_band, std_bor, std_bxor, std_shl, std_shr, std_eq, std_ne, std_lt, std_le, std_conv, std_not, std_beq, std_bne, std_ite, std_want, std_and2, std_sadd, std_seq, std_sne, std_slt, std_sle, std_sgt, std_sge, std_slen, std_sget, std_scut, std_ofNat, std_toNat, std_nsub, std_nadd, std_lenOf, std_nz, std_nneg, std_inb, std_upto, std_slt63, std_grow, std_imp, std_impN, std_tr, std_tb, std_ti, std_ts, std_tn, std_tp, std_nmin, std_makes, std_room, std_zeros, std_nilq, std_notq, std_eqi, std_eqn, std_eqb, std_eqs, std_eqv, std_cat, std_lst, std_rset, std_rcopy, std_shift, std_eqr, std_strOf, std_bytesOf, std_isB, std_zOf, zOf_int, std_isI, isI_int, std_getL, std_nmul, std_sOf, sOf_str, std_isS, isS_str, std_fadd, std_fsub, std_fav, std_fsv, std_feq, std_fne, std_flt, std_fle, std_fgt, std_fge, std_fOf, std_fTo, std_fTv] at *)
  all_goals first
    | assumption
    | omega
    | exact rr_no (by assumption)
    | (exfalso; simp_all; done)
    | (have h : dOk n = true := by assumption
       have hb := dOk_b h
       first
         | exact rr_f h (by omega) (by assumption)
         | exact rr_l h (by omega) (by assumption)
         | (rw [← rr_1 h (by omega) (by assumption)]; simp [*]; done)
         | (rw [← rr_2 h (by omega) (by assumption)]; simp [*]; done)
         | (rw [← rr_3 h (by omega) (by assumption)]; simp [*]; done)
         | (rw [← rr_4 h (by omega) (by assumption)]; simp [*]; done))
    | trace_state
end Go.Vd

