/- The types of the seat, as the generator asks for them (printed by mktys.py). -/
import Derived.Test.YthebeokidnlnbaaVdSeat
import Derived.Test.YthebeokidnlnbaaProg
set_option linter.unusedVariables false
set_option maxRecDepth 100000
namespace Go.Vd
open Go.Proofs

def ty3 : Ty := ⟨false, 1, [.int .i64 0], .int .i64⟩  -- int
theorem ty3_ok : TyOk Try.prog 3 ty3 := .mk' (.int .i64) [.int .i64 0] (by kernel_rfl) Try.underlying3 (by decide) rfl (fun _ => rfl) rfl rfl rfl rfl
def ty4 : Ty := ⟨false, 1, [.bool false], .bool⟩  -- bool
theorem ty4_ok : TyOk Try.prog 4 ty4 := .mk' .bool [.bool false] (by kernel_rfl) Try.underlying4 (by decide) rfl (fun _ => rfl) rfl rfl rfl rfl
def ty5 : Ty := ⟨false, 1, [.int .u8 0], .int .u8⟩  -- uint8
theorem ty5_ok : TyOk Try.prog 5 ty5 := .mk' (.int .u8) [.int .u8 0] (by kernel_rfl) Try.underlying5 (by decide) rfl (fun _ => rfl) rfl rfl rfl rfl
def ty9 : Ty := ⟨false, 1, [.str []], .str⟩  -- string
theorem ty9_ok : TyOk Try.prog 9 ty9 := .mk' .string [.string ⟨#[]⟩] (by kernel_rfl) Try.underlying9 (by decide) rfl (fun _ => rfl) rfl rfl rfl rfl
def ty22 : Ty := ⟨false, 1, [.int .u64 0], .int .u64⟩  -- uint64
theorem ty22_ok : TyOk Try.prog 22 ty22 := .mk' (.int .u64) [.int .u64 0] (by kernel_rfl) Try.underlying22 (by decide) rfl (fun _ => rfl) rfl rfl rfl rfl
def ty24 : Ty := ⟨true, 2, [.int .u64 0, .int .u64 0], .struct [(0, 1), (1, 1)] true⟩  -- api.Bitmap
theorem ty24_ok : TyOk Try.prog 24 ty24 := .mk' _ [.int .u64 0, .int .u64 0] (by kernel_rfl) Try.underlying24 (by decide) rfl (fun h => by cases h) rfl rfl rfl ⟨(fun _ => eqOk_plain (by kernel_rfl) Try.underlying24 (by kernel_rfl) (.int (by decide) rfl Try.underlying22 (.int (by decide) rfl Try.underlying22 .nil))), tag_struct (by kernel_rfl)⟩
def ty25 : Ty := ⟨false, 1, [.nils], .slice 3 1 8 false⟩  -- []int
theorem ty25_ok : TyOk Try.prog 25 ty25 := .mk' (.slice 3) [.slice none 0 0] (by kernel_rfl) Try.underlying25 (by decide) rfl (fun _ => rfl) rfl rfl rfl ⟨rfl, by decide, (fun h => by cases h), tag_slice (by kernel_rfl)⟩
def ty26 : Ty := ⟨false, 1, [.nils], .slice 5 1 1 true⟩  -- []uint8
theorem ty26_ok : TyOk Try.prog 26 ty26 := .mk' (.slice 5) [.slice none 0 0] (by kernel_rfl) Try.underlying26 (by decide) rfl (fun _ => rfl) rfl rfl rfl ⟨rfl, by decide, (fun _ => Try.underlying5), tag_slice (by kernel_rfl)⟩
def ty28 : Ty := ⟨false, 1, [.int .i64 0], .int .i64⟩  -- api.Errno
theorem ty28_ok : TyOk Try.prog 28 ty28 := .mk' (.int .i64) [.int .i64 0] (by kernel_rfl) Try.underlying28 (by decide) rfl (fun _ => rfl) rfl rfl rfl rfl
def seatTy : Nat → Option Ty := fun n => match n with
  | 3 => some ty3
  | 4 => some ty4
  | 5 => some ty5
  | 9 => some ty9
  | 22 => some ty22
  | 24 => some ty24
  | 25 => some ty25
  | 26 => some ty26
  | 28 => some ty28
  | _ => none
def gl0 : Nat → SV := fun g => .val (.pointer (some ⟨g, 0, none⟩))
def seatT : Tys := ⟨seatTy, gl0⟩
theorem seatT_ok : TysOk Try.prog seatT := by
  intro t ty h
  have h : seatTy t = some ty := h
  unfold seatTy at h
  split at h <;> cases h
  · exact ty3_ok
  · exact ty4_ok
  · exact ty5_ok
  · exact ty9_ok
  · exact ty22_ok
  · exact ty24_ok
  · exact ty25_ok
  · exact ty26_ok
  · exact ty28_ok
theorem mixed : Try.prog.follows .mixedOrders = true := by kernel_rfl
theorem gl0_ok (w : World) (rw : Nat → Prop) : GlOk gl0 w rw := fun g ρ N => .val _
end Go.Vd
