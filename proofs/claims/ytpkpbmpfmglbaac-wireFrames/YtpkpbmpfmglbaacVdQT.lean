/- The types of the seat, as the generator asks for them (printed by mktys.py). -/
import Derived.Test.YtpkpbmpfmglbaacVdSeat
import Derived.Test.YtpkpbmpfmglbaacProg
set_option linter.unusedVariables false
set_option maxRecDepth 100000
namespace Go.Vd
open Go.Proofs

def ty3 : Ty := ⟨false, 1, [.int .i64 0], .int .i64⟩  -- int
theorem ty3_ok : TyOk Try.prog 3 ty3 := .mk' (.int .i64) [.int .i64 0] (by kernel_rfl) Try.underlying3 (by decide) rfl (fun _ => rfl) rfl rfl rfl rfl
def ty4 : Ty := ⟨false, 1, [.bool false], .bool⟩  -- bool
theorem ty4_ok : TyOk Try.prog 4 ty4 := .mk' .bool [.bool false] (by kernel_rfl) Try.underlying4 (by decide) rfl (fun _ => rfl) rfl rfl rfl rfl
def ty5 : Ty := ⟨false, 1, [.int .u8 0], .int .u8⟩  -- uint8
theorem ty5_ok : TyOk Try.prog 5 ty5 := .mk' (.int .u8) [.int .u8 0] (by kernel_rfl) Try.underlying5 (by decide) rfl (fun _ => rfl) rfl rfl rfl rfl
def ty9 : Ty := ⟨false, 1, [.str []], .str⟩  -- string
theorem ty9_ok : TyOk Try.prog 9 ty9 := .mk' .string [.string ⟨#[]⟩] (by kernel_rfl) Try.underlying9 (by decide) rfl (fun _ => rfl) rfl rfl rfl rfl
def ty22 : Ty := ⟨false, 1, [.nils], .slice 35 1 24 false⟩  -- [][]uint8
theorem ty22_ok : TyOk Try.prog 22 ty22 := .mk' (.slice 35) [.slice none 0 0] (by kernel_rfl) Try.underlying22 (by decide) rfl (fun _ => rfl) rfl rfl rfl ⟨rfl, by decide, (fun h => by cases h), tag_slice (by kernel_rfl)⟩
def ty24 : Ty := ⟨true, 2, [.int .i64 0, .nils], .struct [(0, 1), (1, 1)] false⟩  -- api.Queue
theorem ty24_ok : TyOk Try.prog 24 ty24 := .mk' _ [.int .i64 0, .slice none 0 0] (by kernel_rfl) Try.underlying24 (by decide) rfl (fun h => by cases h) rfl rfl rfl ⟨(fun h => by cases h), tag_struct (by kernel_rfl)⟩
def ty27 : Ty := ⟨false, 1, [.int .i64 0], .int .i64⟩  -- api.Errno
theorem ty27_ok : TyOk Try.prog 27 ty27 := .mk' (.int .i64) [.int .i64 0] (by kernel_rfl) Try.underlying27 (by decide) rfl (fun _ => rfl) rfl rfl rfl rfl
def ty35 : Ty := ⟨false, 1, [.nils], .slice 5 1 1 true⟩  -- []uint8
theorem ty35_ok : TyOk Try.prog 35 ty35 := .mk' (.slice 5) [.slice none 0 0] (by kernel_rfl) Try.underlying35 (by decide) rfl (fun _ => rfl) rfl rfl rfl ⟨rfl, by decide, (fun _ => Try.underlying5), tag_slice (by kernel_rfl)⟩
def ty45 : Ty := ⟨true, 1, [.nils], .struct [(0, 1)] false⟩  -- api.Wire
theorem ty45_ok : TyOk Try.prog 45 ty45 := .mk' _ [.slice none 0 0] (by kernel_rfl) Try.underlying45 (by decide) rfl (fun h => by cases h) rfl rfl rfl ⟨(fun h => by cases h), tag_struct (by kernel_rfl)⟩
def seatTy : Nat → Option Ty := fun n => match n with
  | 3 => some ty3
  | 4 => some ty4
  | 5 => some ty5
  | 9 => some ty9
  | 22 => some ty22
  | 24 => some ty24
  | 27 => some ty27
  | 35 => some ty35
  | 45 => some ty45
  | _ => none
def gl0 : Nat → SV := fun g => .val (.pointer (some ⟨g, 0, none⟩))
def seatT : Tys := ⟨seatTy, gl0⟩
theorem seatT_ok : TysOk Try.prog seatT := by
  intro t ty h
  have h : seatTy t = some ty := h
  unfold seatTy at h
  split at h <;> cases h
  · exact ty3_ok
  · exact ty4_ok
  · exact ty5_ok
  · exact ty9_ok
  · exact ty22_ok
  · exact ty24_ok
  · exact ty27_ok
  · exact ty35_ok
  · exact ty45_ok
theorem mixed : Try.prog.follows .mixedOrders = true := by kernel_rfl
theorem gl0_ok (w : World) (rw : Nat → Prop) : GlOk gl0 w rw := fun g ρ N => .val _
end Go.Vd
