/- Types and small functions of the key's layer. -/
import Derived.Test.YtfdpbeojmmjgladVcSeat
import Derived.Test.YtfdpbeojmmjgladProg
set_option linter.unusedVariables false
namespace Go.Vc
open Go.Proofs

def tInt (k : IntKind) : Ty := ⟨false, 1, [.int k 0], .int k⟩
def tBool : Ty := ⟨false, 1, [.bool false], .bool⟩
def tStr : Ty := ⟨false, 1, [.str []], .str⟩
def tKey : Ty := ⟨true, 2, [.int .u32 0, .str []], .struct [(0, 1), (1, 1)] true⟩
def tDeal : Ty := ⟨true, 6, [.int .i64 0, .str [], .int .u64 0, .int .u32 0, .str [], .str []], .struct [(0, 1), (1, 1), (2, 1), (3, 1), (4, 1), (5, 1)] false⟩
def tInts : Ty := ⟨false, 1, [.nils], .slice 3 1 8 false⟩
def keyTys : Tys := fun n => match n with
  | 3 => some (tInt .i64)
  | 4 => some tBool
  | 5 => some (tInt .u8)
  | 9 => some tStr
  | 23 => some (tInt .u32)
  | 25 => some tDeal
  | 27 => some tKey
  | 106 => some tInts
  | _ => none
theorem ty3 : TyOk Try.prog 3 (tInt .i64) := .mk' (.int .i64) [.int .i64 0] (by kernel_rfl) Try.underlying3 (by decide) rfl (fun _ => rfl) rfl rfl rfl rfl
theorem ty5 : TyOk Try.prog 5 (tInt .u8) := .mk' (.int .u8) [.int .u8 0] (by kernel_rfl) Try.underlying5 (by decide) rfl (fun _ => rfl) rfl rfl rfl rfl
theorem ty23 : TyOk Try.prog 23 (tInt .u32) := .mk' (.int .u32) [.int .u32 0] (by kernel_rfl) Try.underlying23 (by decide) rfl (fun _ => rfl) rfl rfl rfl rfl
theorem ty4 : TyOk Try.prog 4 tBool := .mk' .bool [.bool false] (by kernel_rfl) Try.underlying4 (by decide) rfl (fun _ => rfl) rfl rfl rfl rfl
theorem ty9 : TyOk Try.prog 9 tStr := .mk' .string [.string ⟨#[]⟩] (by kernel_rfl) Try.underlying9 (by decide) rfl (fun _ => rfl) rfl rfl rfl rfl
theorem ty27 : TyOk Try.prog 27 tKey := .mk' _ [.int .u32 0, .string ⟨#[]⟩] (by kernel_rfl) Try.underlying27 (by decide) rfl (fun h => by cases h) rfl rfl rfl
  ⟨fun _ => eqOk_plain (by kernel_rfl) Try.underlying27 (by kernel_rfl) (.int (by decide) rfl Try.underlying23 (.str (by decide) rfl Try.underlying9 .nil)), tag_struct (by kernel_rfl)⟩
theorem ty25 : TyOk Try.prog 25 tDeal := .mk' _ [.int .i64 0, .string ⟨#[]⟩, .int .u64 0, .int .u32 0, .string ⟨#[]⟩, .string ⟨#[]⟩] (by kernel_rfl) Try.underlying25 (by decide) rfl (fun h => by cases h) rfl rfl rfl
  ⟨(fun h => by cases h), tag_struct (by kernel_rfl)⟩
theorem ty106 : TyOk Try.prog 106 tInts := .mk' (.slice 3) [.slice none 0 0] (by kernel_rfl) Try.underlying106 (by decide) rfl (fun _ => rfl) rfl rfl rfl
  ⟨rfl, by decide, (fun h => by cases h), tag_slice (by kernel_rfl)⟩
theorem keyTys_ok : TysOk Try.prog keyTys := by
  intro t ty h
  unfold keyTys at h
  split at h <;> cases h
  · exact ty3
  · exact ty4
  · exact ty5
  · exact ty9
  · exact ty23
  · exact ty25
  · exact ty27
  · exact ty106
theorem key_mixed : Try.prog.follows .mixedOrders = true := by kernel_rfl

/-! ### Callees: what they answer -/
def ordI (a b : Int) : Int := if a < b then -1 else if b < a then 1 else 0
def ordS (a b : List UInt8) : Int := if Op.bytesLess a b then -1 else if Op.bytesLess b a then 1 else 0
def mixK (h b : Int) : Int := IntKind.u32.wrap (bits .xor .u32 h (IntKind.u32.wrap b) * 16777619)
def none0 : Pu := fun _ _ => none
theorem none0_ok : PuOk Try.prog none0 := fun f args p r h => by cases h

set_option maxRecDepth 100000
theorem good74 (a : Int) : GoodP Try.prog 74 [.int .u32 a] (.bool false) := by
  refine fn_sound' keyTys_ok none0_ok key_mixed Try.func74 fun A q hA hq => ?_
  cbv
  subst hA hq; simp [std]
theorem good75 (a : List UInt8) : GoodP Try.prog 75 [.str a] (.bool false) := by
  refine fn_sound' keyTys_ok none0_ok key_mixed Try.func75 fun A q hA hq => ?_
  cbv
  subst hA hq; simp [std]
theorem good51 (h b : Int) : GoodP Try.prog 51 [.int .u32 h, .int .u8 b] (.int .u32 (mixK h b)) := by
  refine fn_sound' keyTys_ok none0_ok key_mixed Try.func51 fun A q hA hq => ?_
  cbv
  subst hA hq; simp [std, mixK]
theorem good10 (s : Int) (r : List UInt8) : GoodP Try.prog 10 [.agg [.int .u32 s, .str r]] (.bool (decide (r.length ≤ 300))) := by
  refine fn_sound' keyTys_ok none0_ok key_mixed Try.func10 fun A q hA hq => ?_
  cbv
  subst hA hq
  simp [std]
  omega
theorem good11 (a c s : Int) (b r e : List UInt8) : GoodP Try.prog 11 [.agg [.int .i64 a, .str b, .int .u64 c, .int .u32 s, .str r, .str e]] (.agg [.int .u32 s, .str r]) := by
  refine fn_sound' keyTys_ok none0_ok key_mixed Try.func11 fun A q hA hq => ?_
  cbv
  exact hq.symm
def g1 (mix : Int → Int → Int) : Pu := fun f args => match f, args with
  | 74, [.int .u32 _] => some (none, .bool false)
  | 75, [.str _] => some (none, .bool false)
  | 51, [.int .u32 h, .int .u8 b] => some (none, .int .u32 (mix h b))
  | _, _ => none
theorem g1_ok : PuOk Try.prog (g1 mixK) := by
  intro f args p r h hp
  unfold g1 at h
  split at h <;> cases h
  · exact ⟨⟨_, Try.func74, rfl, by decide⟩, good74 _⟩
  · exact ⟨⟨_, Try.func75, rfl, by decide⟩, good75 _⟩
  · exact ⟨⟨_, Try.func51, rfl, by decide⟩, good51 _ _⟩
end Go.Vc
