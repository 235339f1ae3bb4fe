/- The types of the seat, as the generator asks for them (printed by mktys.py). -/
import Derived.Test.YtdipfibiajkedaaWeSeat
import Derived.Lib.ItoaNum
import Derived.Test.YtdipfibiajkedaaProg
set_option linter.unusedVariables false
set_option maxRecDepth 100000
namespace Go.Vd
open Go.Proofs

def ty3 : Ty := ⟨false, 1, [.int .i64 0], .int .i64⟩  -- int
theorem ty3_ok : TyOk Try.prog 3 ty3 := .mk' (.int .i64) [.int .i64 0] (by kernel_rfl) Try.underlying3 (by decide) rfl (fun _ => rfl) rfl rfl rfl rfl
def ty4 : Ty := ⟨false, 1, [.bool false], .bool⟩  -- bool
theorem ty4_ok : TyOk Try.prog 4 ty4 := .mk' .bool [.bool false] (by kernel_rfl) Try.underlying4 (by decide) rfl (fun _ => rfl) rfl rfl rfl rfl
def ty5 : Ty := ⟨false, 1, [.int .u8 0], .int .u8⟩  -- uint8
theorem ty5_ok : TyOk Try.prog 5 ty5 := .mk' (.int .u8) [.int .u8 0] (by kernel_rfl) Try.underlying5 (by decide) rfl (fun _ => rfl) rfl rfl rfl rfl
def ty9 : Ty := ⟨false, 1, [.str []], .str⟩  -- string
theorem ty9_ok : TyOk Try.prog 9 ty9 := .mk' .string [.string ⟨#[]⟩] (by kernel_rfl) Try.underlying9 (by decide) rfl (fun _ => rfl) rfl rfl rfl rfl
def ty22 : Ty := ⟨false, 1, [.nils], .slice 5 1 1 true⟩  -- []uint8
theorem ty22_ok : TyOk Try.prog 22 ty22 := .mk' (.slice 5) [.slice none 0 0] (by kernel_rfl) Try.underlying22 (by decide) rfl (fun _ => rfl) rfl rfl rfl ⟨rfl, by decide, (fun _ => Try.underlying5), tag_slice (by kernel_rfl)⟩
def ty24 : Ty := ⟨true, 2, [.nils, .bool false], .struct [(0, 1), (1, 1)] false⟩  -- api.Reader
theorem ty24_ok : TyOk Try.prog 24 ty24 := .mk' _ [.slice none 0 0, .bool false] (by kernel_rfl) Try.underlying24 (by decide) rfl (fun h => by cases h) rfl rfl rfl ⟨(fun h => by cases h), tag_struct (by kernel_rfl)⟩
def ty26 : Ty := ⟨false, 1, [.int .i64 0], .int .i64⟩  -- api.Errno
theorem ty26_ok : TyOk Try.prog 26 ty26 := .mk' (.int .i64) [.int .i64 0] (by kernel_rfl) Try.underlying26 (by decide) rfl (fun _ => rfl) rfl rfl rfl rfl
def ty30 : Ty := ⟨false, 1, [.nils], .slice 22 1 24 false⟩  -- [][]uint8
theorem ty30_ok : TyOk Try.prog 30 ty30 := .mk' (.slice 22) [.slice none 0 0] (by kernel_rfl) Try.underlying30 (by decide) rfl (fun _ => rfl) rfl rfl rfl ⟨rfl, by decide, (fun h => by cases h), tag_slice (by kernel_rfl)⟩
def ty39 : Ty := ⟨false, 1, [.int .u16 0], .int .u16⟩  -- uint16
theorem ty39_ok : TyOk Try.prog 39 ty39 := .mk' (.int .u16) [.int .u16 0] (by kernel_rfl) Try.underlying39 (by decide) rfl (fun _ => rfl) rfl rfl rfl rfl
def ty42 : Ty := ⟨false, 1, [.int .u64 0], .int .u64⟩  -- uint64
theorem ty42_ok : TyOk Try.prog 42 ty42 := .mk' (.int .u64) [.int .u64 0] (by kernel_rfl) Try.underlying42 (by decide) rfl (fun _ => rfl) rfl rfl rfl rfl
def ty43 : Ty := ⟨false, 1, [.int .u32 0], .int .u32⟩  -- uint32
theorem ty43_ok : TyOk Try.prog 43 ty43 := .mk' (.int .u32) [.int .u32 0] (by kernel_rfl) Try.underlying43 (by decide) rfl (fun _ => rfl) rfl rfl rfl rfl
def ty45 : Ty := ⟨true, 6, [.int .i64 0, .str [], .int .u64 0, .int .u32 0, .str [], .str []], .struct [(0, 1), (1, 1), (2, 1), (3, 1), (4, 1), (5, 1)] true⟩  -- api.Deal
theorem ty45_ok : TyOk Try.prog 45 ty45 := .mk' _ [.int .i64 0, .string ⟨#[]⟩, .int .u64 0, .int .u32 0, .string ⟨#[]⟩, .string ⟨#[]⟩] (by kernel_rfl) Try.underlying45 (by decide) rfl (fun h => by cases h) rfl rfl rfl ⟨(fun _ => eqOk_plain (by kernel_rfl) Try.underlying45 (by kernel_rfl) (.int (by decide) rfl Try.underlying3 (.str (by decide) rfl Try.underlying9 (.int (by decide) rfl Try.underlying42 (.int (by decide) rfl Try.underlying43 (.str (by decide) rfl Try.underlying9 (.str (by decide) rfl Try.underlying9 .nil))))))), tag_struct (by kernel_rfl)⟩
def ty47 : Ty := ⟨true, 2, [.int .u32 0, .str []], .struct [(0, 1), (1, 1)] true⟩  -- api.Key
theorem ty47_ok : TyOk Try.prog 47 ty47 := .mk' _ [.int .u32 0, .string ⟨#[]⟩] (by kernel_rfl) Try.underlying47 (by decide) rfl (fun h => by cases h) rfl rfl rfl ⟨(fun _ => eqOk_plain (by kernel_rfl) Try.underlying47 (by kernel_rfl) (.int (by decide) rfl Try.underlying43 (.str (by decide) rfl Try.underlying9 .nil))), tag_struct (by kernel_rfl)⟩
def ty54 : Ty := ⟨false, 1, [.int .u64 0], .int .u64⟩  -- uint
theorem ty54_ok : TyOk Try.prog 54 ty54 := .mk' (.int .u64) [.int .u64 0] (by kernel_rfl) Try.underlying54 (by decide) rfl (fun _ => rfl) rfl rfl rfl rfl
def ty67 : Ty := ⟨true, 3, [.int .i64 0, .int .i64 0, .int .i64 0], .struct [(0, 1), (1, 1), (2, 1)] true⟩  -- api.Def
theorem ty67_ok : TyOk Try.prog 67 ty67 := .mk' _ [.int .i64 0, .int .i64 0, .int .i64 0] (by kernel_rfl) Try.underlying67 (by decide) rfl (fun h => by cases h) rfl rfl rfl ⟨(fun _ => eqOk_plain (by kernel_rfl) Try.underlying67 (by kernel_rfl) (.int (by decide) rfl Try.underlying3 (.int (by decide) rfl Try.underlying3 (.int (by decide) rfl Try.underlying3 .nil)))), tag_struct (by kernel_rfl)⟩
def ty70 : Ty := ⟨false, 1, [.nils], .slice 3 1 8 false⟩  -- []int
theorem ty70_ok : TyOk Try.prog 70 ty70 := .mk' (.slice 3) [.slice none 0 0] (by kernel_rfl) Try.underlying70 (by decide) rfl (fun _ => rfl) rfl rfl rfl ⟨rfl, by decide, (fun h => by cases h), tag_slice (by kernel_rfl)⟩
def seatTy : Nat → Option Ty := fun n => match n with
  | 3 => some ty3
  | 4 => some ty4
  | 5 => some ty5
  | 9 => some ty9
  | 22 => some ty22
  | 24 => some ty24
  | 26 => some ty26
  | 30 => some ty30
  | 39 => some ty39
  | 42 => some ty42
  | 43 => some ty43
  | 45 => some ty45
  | 47 => some ty47
  | 54 => some ty54
  | 67 => some ty67
  | 70 => some ty70
  | _ => none
/-- What stands in the package variables that are known: fields, kinds and sizes; types. -/
def knownL : List Int := [2, 3, 19, 3, 1, 6, 4, 1, 12, 7, 1, 10, 11, 1, 6, 12, 1, 6, 37, 2, 12, 38, 2, 6, 39, 2, 2, 41, 2, 8, 44, 4, 25, 48, 5, 999, 49, 1, 3, 90, 1, 42, 120, 5, 999]
def typesL : List (List UInt8) := [[48, 49, 48, 48], [48, 49, 49, 48], [48, 52, 48, 48], [48, 52, 49, 48], [48, 52, 50, 48], [48, 52, 50, 49], [48, 52, 51, 48]]
def gl0 : Nat → SV := fun g => .val (.pointer (some ⟨g, 0, none⟩))
def seatT : Tys := ⟨seatTy, gl0⟩
theorem seatT_ok : TysOk Try.prog seatT := by
  intro t ty h
  have h : seatTy t = some ty := h
  unfold seatTy at h
  split at h <;> cases h
  · exact ty3_ok
  · exact ty4_ok
  · exact ty5_ok
  · exact ty9_ok
  · exact ty22_ok
  · exact ty24_ok
  · exact ty26_ok
  · exact ty30_ok
  · exact ty39_ok
  · exact ty42_ok
  · exact ty43_ok
  · exact ty45_ok
  · exact ty47_ok
  · exact ty54_ok
  · exact ty67_ok
  · exact ty70_ok
theorem mixed : Try.prog.follows .mixedOrders = true := by kernel_rfl
theorem gl0_ok (w : World) (rw : Nat → Prop) : GlOk gl0 w rw := ⟨fun g ρ N => .val _, fun g k f e => by cases e⟩
end Go.Vd
