/- The types of the seat, as the generator asks for them (printed by mktys.py). -/
import Derived.Test.YtnndgblnbhlplaaVdEq
import Derived.Lib.ItoaNum
import Derived.Test.YtnndgblnbhlplaaProg
import Derived.Test.YtnndgblnbhlplaaVdSimp
import Derived.Test.YtnndgblnbhlplaaVdLib
import GoSem.Core.Float
import Ieee.Arith
set_option linter.unusedVariables false
set_option maxRecDepth 100000
namespace Go.Vd
open Go.Proofs

def ty2 : Ty := ⟨false, 1, [.int .i64 0], .int .i64⟩  -- int64
theorem ty2_ok : TyOk Try.prog 2 ty2 := .mk' (.int .i64) [.int .i64 0] (by kernel_rfl) Try.underlying2 (by decide) rfl (fun _ => rfl) rfl rfl rfl rfl
def ty3 : Ty := ⟨false, 1, [.int .i64 0], .int .i64⟩  -- int
theorem ty3_ok : TyOk Try.prog 3 ty3 := .mk' (.int .i64) [.int .i64 0] (by kernel_rfl) Try.underlying3 (by decide) rfl (fun _ => rfl) rfl rfl rfl rfl
def ty4 : Ty := ⟨false, 1, [.bool false], .bool⟩  -- bool
theorem ty4_ok : TyOk Try.prog 4 ty4 := .mk' .bool [.bool false] (by kernel_rfl) Try.underlying4 (by decide) rfl (fun _ => rfl) rfl rfl rfl rfl
def ty5 : Ty := ⟨false, 1, [.int .u8 0], .int .u8⟩  -- uint8
theorem ty5_ok : TyOk Try.prog 5 ty5 := .mk' (.int .u8) [.int .u8 0] (by kernel_rfl) Try.underlying5 (by decide) rfl (fun _ => rfl) rfl rfl rfl rfl
def ty9 : Ty := ⟨false, 1, [.str []], .str⟩  -- string
theorem ty9_ok : TyOk Try.prog 9 ty9 := .mk' .string [.string ⟨#[]⟩] (by kernel_rfl) Try.underlying9 (by decide) rfl (fun _ => rfl) rfl rfl rfl rfl
def ty21 : Ty := ⟨false, 1, [.int .i32 0], .int .i32⟩  -- int32
theorem ty21_ok : TyOk Try.prog 21 ty21 := .mk' (.int .i32) [.int .i32 0] (by kernel_rfl) Try.underlying21 (by decide) rfl (fun _ => rfl) rfl rfl rfl rfl
def ty22 : Ty := ⟨false, 1, [.int .u64 0], .int .u64⟩  -- uint64
theorem ty22_ok : TyOk Try.prog 22 ty22 := .mk' (.int .u64) [.int .u64 0] (by kernel_rfl) Try.underlying22 (by decide) rfl (fun _ => rfl) rfl rfl rfl rfl
def ty23 : Ty := ⟨false, 1, [.nils], .slice 58 3 32 false⟩  -- []api.Timer
theorem ty23_ok : TyOk Try.prog 23 ty23 := .mk' (.slice 58) [.slice none 0 0] (by kernel_rfl) Try.underlying23 (by decide) rfl (fun _ => rfl) rfl rfl rfl ⟨rfl, by decide, (fun h => by cases h), tag_slice (by kernel_rfl)⟩
def ty24 : Ty := ⟨true, 64, [.nrun 64], .array 64 23 1⟩  -- [64][]api.Timer
theorem ty24_ok : TyOk Try.prog 24 ty24 := .mk' (.array 64 23) [.slice none 0 0, .slice none 0 0, .slice none 0 0, .slice none 0 0, .slice none 0 0, .slice none 0 0, .slice none 0 0, .slice none 0 0, .slice none 0 0, .slice none 0 0, .slice none 0 0, .slice none 0 0, .slice none 0 0, .slice none 0 0, .slice none 0 0, .slice none 0 0, .slice none 0 0, .slice none 0 0, .slice none 0 0, .slice none 0 0, .slice none 0 0, .slice none 0 0, .slice none 0 0, .slice none 0 0, .slice none 0 0, .slice none 0 0, .slice none 0 0, .slice none 0 0, .slice none 0 0, .slice none 0 0, .slice none 0 0, .slice none 0 0, .slice none 0 0, .slice none 0 0, .slice none 0 0, .slice none 0 0, .slice none 0 0, .slice none 0 0, .slice none 0 0, .slice none 0 0, .slice none 0 0, .slice none 0 0, .slice none 0 0, .slice none 0 0, .slice none 0 0, .slice none 0 0, .slice none 0 0, .slice none 0 0, .slice none 0 0, .slice none 0 0, .slice none 0 0, .slice none 0 0, .slice none 0 0, .slice none 0 0, .slice none 0 0, .slice none 0 0, .slice none 0 0, .slice none 0 0, .slice none 0 0, .slice none 0 0, .slice none 0 0, .slice none 0 0, .slice none 0 0, .slice none 0 0] (by kernel_rfl) Try.underlying24 (by decide) rfl (fun h => by cases h) rfl rfl rfl ⟨rfl, tag_array (by kernel_rfl)⟩
def ty26 : Ty := ⟨true, 130, [.int .u64 0, .int .i64 0, .nrun 64, .nrun 64], .struct [(0, 1), (1, 1), (2, 64), (66, 64)] false⟩  -- api.Wheel
theorem ty26_ok : TyOk Try.prog 26 ty26 := .mk' _ [.int .u64 0, .int .i64 0, .slice none 0 0, .slice none 0 0, .slice none 0 0, .slice none 0 0, .slice none 0 0, .slice none 0 0, .slice none 0 0, .slice none 0 0, .slice none 0 0, .slice none 0 0, .slice none 0 0, .slice none 0 0, .slice none 0 0, .slice none 0 0, .slice none 0 0, .slice none 0 0, .slice none 0 0, .slice none 0 0, .slice none 0 0, .slice none 0 0, .slice none 0 0, .slice none 0 0, .slice none 0 0, .slice none 0 0, .slice none 0 0, .slice none 0 0, .slice none 0 0, .slice none 0 0, .slice none 0 0, .slice none 0 0, .slice none 0 0, .slice none 0 0, .slice none 0 0, .slice none 0 0, .slice none 0 0, .slice none 0 0, .slice none 0 0, .slice none 0 0, .slice none 0 0, .slice none 0 0, .slice none 0 0, .slice none 0 0, .slice none 0 0, .slice none 0 0, .slice none 0 0, .slice none 0 0, .slice none 0 0, .slice none 0 0, .slice none 0 0, .slice none 0 0, .slice none 0 0, .slice none 0 0, .slice none 0 0, .slice none 0 0, .slice none 0 0, .slice none 0 0, .slice none 0 0, .slice none 0 0, .slice none 0 0, .slice none 0 0, .slice none 0 0, .slice none 0 0, .slice none 0 0, .slice none 0 0, .slice none 0 0, .slice none 0 0, .slice none 0 0, .slice none 0 0, .slice none 0 0, .slice none 0 0, .slice none 0 0, .slice none 0 0, .slice none 0 0, .slice none 0 0, .slice none 0 0, .slice none 0 0, .slice none 0 0, .slice none 0 0, .slice none 0 0, .slice none 0 0, .slice none 0 0, .slice none 0 0, .slice none 0 0, .slice none 0 0, .slice none 0 0, .slice none 0 0, .slice none 0 0, .slice none 0 0, .slice none 0 0, .slice none 0 0, .slice none 0 0, .slice none 0 0, .slice none 0 0, .slice none 0 0, .slice none 0 0, .slice none 0 0, .slice none 0 0, .slice none 0 0, .slice none 0 0, .slice none 0 0, .slice none 0 0, .slice none 0 0, .slice none 0 0, .slice none 0 0, .slice none 0 0, .slice none 0 0, .slice none 0 0, .slice none 0 0, .slice none 0 0, .slice none 0 0, .slice none 0 0, .slice none 0 0, .slice none 0 0, .slice none 0 0, .slice none 0 0, .slice none 0 0, .slice none 0 0, .slice none 0 0, .slice none 0 0, .slice none 0 0, .slice none 0 0, .slice none 0 0, .slice none 0 0, .slice none 0 0, .slice none 0 0, .slice none 0 0, .slice none 0 0, .slice none 0 0] (by kernel_rfl) Try.underlying26 (by decide) rfl (fun h => by cases h) rfl rfl rfl ⟨(fun h => by cases h), tag_struct (by kernel_rfl)⟩
def ty27 : Ty := ⟨false, 1, [.int .u32 0], .int .u32⟩  -- uint32
theorem ty27_ok : TyOk Try.prog 27 ty27 := .mk' (.int .u32) [.int .u32 0] (by kernel_rfl) Try.underlying27 (by decide) rfl (fun _ => rfl) rfl rfl rfl rfl
def ty29 : Ty := ⟨true, 2, [.int .u32 0, .str []], .struct [(0, 1), (1, 1)] true⟩  -- api.Key
theorem ty29_ok : TyOk Try.prog 29 ty29 := .mk' _ [.int .u32 0, .string ⟨#[]⟩] (by kernel_rfl) Try.underlying29 (by decide) rfl (fun h => by cases h) rfl rfl rfl ⟨(fun _ => eqOk_plain (by kernel_rfl) Try.underlying29 (by kernel_rfl) (.int (by decide) rfl Try.underlying27 (.str (by decide) rfl Try.underlying9 .nil))), tag_struct (by kernel_rfl)⟩
def ty33 : Ty := ⟨false, 1, [.int .i64 0], .int .i64⟩  -- api.Errno
theorem ty33_ok : TyOk Try.prog 33 ty33 := .mk' (.int .i64) [.int .i64 0] (by kernel_rfl) Try.underlying33 (by decide) rfl (fun _ => rfl) rfl rfl rfl rfl
def ty53 : Ty := ⟨false, 1, [.nils], .slice 29 2 24 false⟩  -- []api.Key
theorem ty53_ok : TyOk Try.prog 53 ty53 := .mk' (.slice 29) [.slice none 0 0] (by kernel_rfl) Try.underlying53 (by decide) rfl (fun _ => rfl) rfl rfl rfl ⟨rfl, by decide, (fun h => by cases h), tag_slice (by kernel_rfl)⟩
def ty54 : Ty := ⟨false, 1, [.nils], .slice 55 1 2 false⟩  -- []uint16
theorem ty54_ok : TyOk Try.prog 54 ty54 := .mk' (.slice 55) [.slice none 0 0] (by kernel_rfl) Try.underlying54 (by decide) rfl (fun _ => rfl) rfl rfl rfl ⟨rfl, by decide, (fun h => by cases h), tag_slice (by kernel_rfl)⟩
def ty55 : Ty := ⟨false, 1, [.int .u16 0], .int .u16⟩  -- uint16
theorem ty55_ok : TyOk Try.prog 55 ty55 := .mk' (.int .u16) [.int .u16 0] (by kernel_rfl) Try.underlying55 (by decide) rfl (fun _ => rfl) rfl rfl rfl rfl
def ty58 : Ty := ⟨true, 3, [.int .u32 0, .str [], .int .u64 0], .struct [(0, 2), (2, 1)] true⟩  -- api.Timer
theorem ty58_ok : TyOk Try.prog 58 ty58 := .mk' _ [.int .u32 0, .string ⟨#[]⟩, .int .u64 0] (by kernel_rfl) Try.underlying58 (by decide) rfl (fun h => by cases h) rfl rfl rfl ⟨(fun _ => eqOk_plain2 (by kernel_rfl) Try.underlying58 (by kernel_rfl) (Plain2.sub (z := [.int .u32 0, .str []]) (z' := [.int .u64 0]) (by decide) rfl Try.underlying29 (by kernel_rfl) (by kernel_rfl) (.int (by decide) rfl Try.underlying27 (.str (by decide) rfl Try.underlying9 .nil)) (.int (by decide) rfl Try.underlying22 .nil))), tag_struct (by kernel_rfl)⟩
def ty66 : Ty := ⟨false, 1, [.nilp], .other⟩  -- *[64][]api.Timer
theorem ty66_ok : TyOk Try.prog 66 ty66 := .mk' _ [.pointer none] (by kernel_rfl) Try.underlying66 (by decide) rfl (fun _ => rfl) rfl rfl rfl trivial
def ty67 : Ty := ⟨false, 1, [.val .nilFunc], .other⟩  -- func(complex128) float64
theorem ty67_ok : TyOk Try.prog 67 ty67 := .mk' _ [.nilFunc] (by kernel_rfl) Try.underlying67 (by decide) rfl (fun _ => rfl) rfl rfl rfl trivial
def ty69 : Ty := ⟨true, 4, [.nilp, .val .nilFunc, .int .u64 0, .int .u64 0], .struct [(0, 1), (1, 1), (2, 1), (3, 1)] false⟩  -- wheel.level
theorem ty69_ok : TyOk Try.prog 69 ty69 := .mk' _ [.pointer none, .nilFunc, .int .u64 0, .int .u64 0] (by kernel_rfl) Try.underlying69 (by decide) rfl (fun h => by cases h) rfl rfl rfl ⟨(fun h => by cases h), tag_struct (by kernel_rfl)⟩
def ty71 : Ty := ⟨false, 1, [.nilp], .other⟩  -- *api.Wheel
theorem ty71_ok : TyOk Try.prog 71 ty71 := .mk' _ [.pointer none] (by kernel_rfl) Try.underlying71 (by decide) rfl (fun _ => rfl) rfl rfl rfl trivial
def ty74 : Ty := ⟨false, 1, [.val (.map none)], .map 29 4 true⟩  -- map[api.Key]bool
theorem ty74_ok : TyOk Try.prog 74 ty74 := .mk' (.map 29 4) [.map none] (by kernel_rfl) Try.underlying74 (by decide) rfl (fun _ => rfl) rfl rfl rfl ⟨rfl, keyOk_of Try.underlying29 (f1 := _) (f2 := _) rfl (by decide) (by decide) rfl rfl Try.underlying27 Try.underlying9 (eqOk_plain (by kernel_rfl) Try.underlying29 (by kernel_rfl) (.int (by decide) rfl Try.underlying27 (.str (by decide) rfl Try.underlying9 .nil))), by kernel_rfl⟩
def ty80 : Ty := ⟨false, 1, [.int .u64 0], .int .u64⟩  -- uint
theorem ty80_ok : TyOk Try.prog 80 ty80 := .mk' (.int .u64) [.int .u64 0] (by kernel_rfl) Try.underlying80 (by decide) rfl (fun _ => rfl) rfl rfl rfl rfl
def ty99 : Ty := ⟨false, 1, [.nils], .slice 3 1 8 false⟩  -- []int
theorem ty99_ok : TyOk Try.prog 99 ty99 := .mk' (.slice 3) [.slice none 0 0] (by kernel_rfl) Try.underlying99 (by decide) rfl (fun _ => rfl) rfl rfl rfl ⟨rfl, by decide, (fun h => by cases h), tag_slice (by kernel_rfl)⟩
def ty103 : Ty := ⟨false, 1, [.flt 0], .flt⟩  -- float64
theorem ty103_ok : TyOk Try.prog 103 ty103 := .mk' (.float .f64) [.float .f64 0] (by kernel_rfl) Try.underlying103 (by decide) rfl (fun _ => rfl) rfl rfl rfl rfl
def ty104 : Ty := ⟨false, 1, [.cpx 0 0], .other⟩  -- complex128
theorem ty104_ok : TyOk Try.prog 104 ty104 := .mk' _ [.complex .f64 0 0] (by kernel_rfl) Try.underlying104 (by decide) rfl (fun _ => rfl) rfl rfl rfl trivial
def ty114 : Ty := ⟨false, 1, [.val .nilFunc], .other⟩  -- func(string) bool
theorem ty114_ok : TyOk Try.prog 114 ty114 := .mk' _ [.nilFunc] (by kernel_rfl) Try.underlying114 (by decide) rfl (fun _ => rfl) rfl rfl rfl trivial
def seatTy : Nat → Option Ty := fun n => match n with
  | 2 => some ty2
  | 3 => some ty3
  | 4 => some ty4
  | 5 => some ty5
  | 9 => some ty9
  | 21 => some ty21
  | 22 => some ty22
  | 23 => some ty23
  | 24 => some ty24
  | 26 => some ty26
  | 27 => some ty27
  | 29 => some ty29
  | 33 => some ty33
  | 53 => some ty53
  | 54 => some ty54
  | 55 => some ty55
  | 58 => some ty58
  | 66 => some ty66
  | 67 => some ty67
  | 69 => some ty69
  | 71 => some ty71
  | 74 => some ty74
  | 80 => some ty80
  | 99 => some ty99
  | 103 => some ty103
  | 104 => some ty104
  | 114 => some ty114
  | _ => none
def gl0 : Nat → SV := fun g => .val (.pointer (some ⟨g, 0, none⟩))
def seatFl : Nat → Nat → Option Nat := fun t i => match t, i with
  | 26, 0 => some 22
  | 26, 1 => some 3
  | 26, 2 => some 24
  | 26, 3 => some 24
  | 29, 0 => some 27
  | 29, 1 => some 9
  | 58, 0 => some 29
  | 58, 1 => some 22
  | 69, 0 => some 66
  | 69, 1 => some 67
  | 69, 2 => some 22
  | 69, 3 => some 22
  | _, _ => none
def seatT : Tys := { ty := seatTy, gl := gl0, fl := seatFl }
theorem seatTy_ok : ∀ t ty, seatTy t = some ty → TyOk Try.prog t ty := by
  intro t ty h
  unfold seatTy at h
  split at h <;> cases h
  · exact ty2_ok
  · exact ty3_ok
  · exact ty4_ok
  · exact ty5_ok
  · exact ty9_ok
  · exact ty21_ok
  · exact ty22_ok
  · exact ty23_ok
  · exact ty24_ok
  · exact ty26_ok
  · exact ty27_ok
  · exact ty29_ok
  · exact ty33_ok
  · exact ty53_ok
  · exact ty54_ok
  · exact ty55_ok
  · exact ty58_ok
  · exact ty66_ok
  · exact ty67_ok
  · exact ty69_ok
  · exact ty71_ok
  · exact ty74_ok
  · exact ty80_ok
  · exact ty99_ok
  · exact ty103_ok
  · exact ty104_ok
  · exact ty114_ok
theorem seatFl_ok : ∀ t i u, seatFl t i = some u → ∃ (fs : Array Field) (f : Field), Try.prog.underlying t = some (.struct fs) ∧ fs[i]? = some f ∧ f.type = u := by
  intro t i u h
  unfold seatFl at h
  split at h <;> cases h
  · exact ⟨_, _, Try.underlying26, rfl, rfl⟩
  · exact ⟨_, _, Try.underlying26, rfl, rfl⟩
  · exact ⟨_, _, Try.underlying26, rfl, rfl⟩
  · exact ⟨_, _, Try.underlying26, rfl, rfl⟩
  · exact ⟨_, _, Try.underlying29, rfl, rfl⟩
  · exact ⟨_, _, Try.underlying29, rfl, rfl⟩
  · exact ⟨_, _, Try.underlying58, rfl, rfl⟩
  · exact ⟨_, _, Try.underlying58, rfl, rfl⟩
  · exact ⟨_, _, Try.underlying69, rfl, rfl⟩
  · exact ⟨_, _, Try.underlying69, rfl, rfl⟩
  · exact ⟨_, _, Try.underlying69, rfl, rfl⟩
  · exact ⟨_, _, Try.underlying69, rfl, rfl⟩
theorem seatT_ok : TysOk Try.prog seatT := ⟨seatTy_ok, seatFl_ok⟩
theorem mixed : Try.prog.follows .mixedOrders = true := by kernel_rfl
theorem gl0_ok (w : World) (rw : Nat → Prop) : GlOk gl0 w rw := ⟨fun g ρ N => .val _, fun g k f e => by cases e⟩
end Go.Vd

set_option linter.unusedVariables false
set_option linter.unusedSimpArgs false
namespace Go.Vd
/-! ### Luhn's sum -/
end Go.Vd

set_option linter.unusedVariables false
set_option linter.unusedSimpArgs false
namespace Go.Vd
def ordI (a b : Int) : Int := if a < b then -1 else if b < a then 1 else 0
def ordS (a b : List UInt8) : Int := if a < b then -1 else if b < a then 1 else 0
theorem bytesLess_eq : ∀ (x y : List UInt8), Op.bytesLess x y = decide (x < y)
  | _, [] => by simp [Op.bytesLess]
  | [], _ :: _ => by simp [Op.bytesLess]
  | a :: x, b :: y => by simp only [Op.bytesLess, bytesLess_eq x y, List.cons_lt_cons_iff]; rw [Bool.eq_iff_iff]; simp
theorem triS (a b : List UInt8) : (a < b ∧ a ≠ b ∧ ordS a b = -1) ∨ (a = b ∧ ordS a b = 0) ∨ (b < a ∧ a ≠ b ∧ ordS a b = 1) := by
  unfold ordS
  by_cases h : a < b
  · exact .inl ⟨h, fun e => List.lt_irrefl _ (e ▸ h), if_pos h⟩
  · rw [if_neg h]
    rcases List.le_iff_lt_or_eq.1 (List.not_lt.1 h) with h1 | h1
    · exact .inr (.inr ⟨h1, fun e => List.lt_irrefl _ (e ▸ h1), if_pos h1⟩)
    · subst h1; exact .inr (.inl ⟨rfl, if_neg h⟩)
/-- The first that isn't 0. -/
def orL : List Int → Int
  | [] => 0
  | x :: l => if x = 0 then orL l else x
theorem orL_zero : ∀ {L : List Int} {i : Nat}, (∀ x ∈ L.take i, x = 0) → i < L.length → orL L = if L.getD i 0 = 0 then orL (L.drop (i + 1)) else L.getD i 0
  | [], i, _, h => by simp at h
  | x :: l, 0, _, _ => by simp [orL]
  | x :: l, i + 1, h, hi => by
    have hx : x = 0 := h x (by simp)
    have := orL_zero (L := l) (i := i) (fun y hy => h y (by simp [hy])) (by simpa using hi)
    simpa [orL, hx] using this
theorem orL_all : ∀ {L : List Int}, (∀ x ∈ L, x = 0) → orL L = 0
  | [], _ => rfl
  | x :: l, h => by simp [orL, h x (by simp), orL_all (L := l) fun y hy => h y (by simp [hy])]
def ordK (s : Int) (r : List UInt8) (s' : Int) (r' : List UInt8) : Int := if ordI s s' = 0 then ordS r r' else ordI s s'
theorem ordK_or (s : Int) (r : List UInt8) (s' : Int) (r' : List UInt8) : orL [ordI s s', ordS r r'] = ordK s r s' r' := by
  simp only [orL, ordK]
  split
  · split
    · rename_i h; exact h.symm
    · rfl
  · rfl
theorem ordK_eq (s : Int) (r : List UInt8) (s' : Int) (r' : List UInt8) : ordK s r s' r' = if s = s' ∧ r = r' then 0 else if s < s' ∨ (s = s' ∧ r < r') then -1 else 1 := by
  unfold ordK
  rcases Int.lt_trichotomy s s' with h | h | h
  · have e : ordI s s' = -1 := if_pos h
    rw [e, if_neg (by omega), if_neg (fun h' => by omega), if_pos (.inl h)]
  · have e : ordI s s' = 0 := by rw [h]; simp [ordI]
    rw [e, if_pos rfl]
    rcases triS r r' with ⟨h1, n, e1⟩ | ⟨n, e1⟩ | ⟨h1, n, e1⟩ <;> rw [e1]
    · rw [if_neg (fun h' => n h'.2), if_pos (.inr ⟨h, h1⟩)]
    · rw [if_pos ⟨h, n⟩]
    · rw [if_neg (fun h' => n h'.2), if_neg]
      rintro (h' | h')
      · omega
      · exact List.lt_irrefl _ (List.lt_trans h1 h'.2)
  · have e : ordI s s' = 1 := by unfold ordI; rw [if_neg (by omega), if_pos h]
    rw [e, if_neg (by omega), if_neg (fun h' => by omega), if_neg (fun h' => by omega)]
/-! ### Signs -/
/-! ### Shards -/
end Go.Vd

set_option linter.unusedVariables false
set_option linter.unusedSimpArgs false
set_option maxRecDepth 100000
set_option maxHeartbeats 4000000
namespace Go.Vd
open Go.Proofs
structure Tm where
  s : Int
  r : List UInt8
  u : Int
  deriving DecidableEq
def T0 : Tm := ⟨0, [], 0⟩
abbrev Sl := List (List Tm)
def eT : En Tm := fun A x => [.int .u32 (A.ti fun _ => (x ()).s), .str (A.ts fun _ => (x ()).r), .int .u64 (A.ti fun _ => (x ()).u)]
theorem inj_eT : Inj eT 3 := fun x y h => by
  obtain ⟨s0, a0, b0⟩ := h 0 (by omega)
  obtain ⟨s1, a1, b1⟩ := h 1 (by omega)
  obtain ⟨s2, a2, b2⟩ := h 2 (by omega)
  have a0 : Ceq s0 (.int .u32 x.s) := a0
  have b0 : Ceq s0 (.int .u32 y.s) := b0
  have a1 : Ceq s1 (.str x.r) := a1
  have b1 : Ceq s1 (.str y.r) := b1
  have a2 : Ceq s2 (.int .u64 x.u) := a2
  have b2 : Ceq s2 (.int .u64 y.u) := b2
  rw [Ceq.int] at a0 b0 a2 b2
  rw [Ceq.str] at a1 b1
  subst a0 a1 a2
  cases x
  cases y
  simp at b0 b1 b2
  simp only [Tm.mk.injEq]
  exact ⟨b0, b1, b2⟩
theorem cell_eT (e : Tm) : ∀ j, j < 3 → Ceq (getAt [SV.int .u32 e.s, SV.str e.r, SV.int .u64 e.u] j) (getAt (eT std fun _ => e) j) := by
  intro j hj
  rcases (show j = 0 ∨ j = 1 ∨ j = 2 by omega) with rfl | rfl | rfl <;> exact .refl _
theorem lstOf_M (L : List Tm) : lstOf eT T0 3 L.length (rowF eT { s := 0, r := [], u := 0 } std fun _ => L) = L := lstOf_lit inj_eT L
theorem isRow_M (L : List Tm) : isRow eT T0 3 L.length (rowF eT { s := 0, r := [], u := 0 } std fun _ => L) := isRow_lit L
def eTs : En (List Tm) := fun A b => [rowS eT T0 3 A b]
theorem inj_eTs : Inj eTs 1 := fun x y h => by
  obtain ⟨s, h1, h2⟩ := h 0 (by omega)
  exact inj_eT.row (d := T0) h1 h2
theorem lstOf_X (T : Sl) : lstOf eTs [] 1 T.length (rowF eTs [] std fun _ => T) = T := lstOf_lit inj_eTs T
theorem isRow_X (T : Sl) : isRow eTs [] 1 T.length (rowF eTs [] std fun _ => T) := isRow_lit T
theorem lstOf_X64 {T : Sl} (h : T.length = 64) : lstOf eTs [] 1 64 (rowF eTs [] std fun _ => T) = T := by rw [← h]; exact lstOf_X T
theorem isRow_X64 {T : Sl} (h : T.length = 64) : isRow eTs [] 1 64 (rowF eTs [] std fun _ => T) := by rw [← h]; exact isRow_X T
def tmS (A : Ar) (t : Tm) : SV := .agg [.int .u32 t.s, .str t.r, .int .u64 t.u]
def sKey (A : Ar) (s : Int) (r : List UInt8) : SV := .agg [.int .u32 s, .str r]
def whS (A : Ar) (n m : Int) (I O : Sl) : SV := .agg [.int .u64 n, .int .i64 m, .run 64 (rowF eTs [] A fun _ => I), .run 64 (rowF eTs [] A fun _ => O)]
attribute [local irreducible] vc
theorem good_nan64 (a : Int) : GoodP Try.prog gl0 64 [.int .u64 a] (.bool false) := by
  refine fn_sound' (T := seatT) (G := noC) (X := noX) seatT_ok noC_ok noX_ok noI_ok mixed Try.func64 (.one) (fun A => [.int .u64 a]) (fun A => .bool false) fun A hA => ?_
  cbv
  repeat' (first | with_reducible exact True.intro | with_reducible exact dr_ok hA (by kernel_rfl) | with_reducible exact eqv_refl hA _ | with_reducible refine And.intro ?_ ?_ | (intro hc; cbv))
  all_goals (subst hA; simp [-List.getD_eq_getElem?_getD, sS])
theorem good_nan32 (a : Int) : GoodP Try.prog gl0 76 [.int .u32 a] (.bool false) := by
  refine fn_sound' (T := seatT) (G := noC) (X := noX) seatT_ok noC_ok noX_ok noI_ok mixed Try.func76 (.one) (fun A => [.int .u32 a]) (fun A => .bool false) fun A hA => ?_
  cbv
  repeat' (first | with_reducible exact True.intro | with_reducible exact dr_ok hA (by kernel_rfl) | with_reducible exact eqv_refl hA _ | with_reducible refine And.intro ?_ ?_ | (intro hc; cbv))
  all_goals (subst hA; simp [-List.getD_eq_getElem?_getD, sS])
theorem good_nanS (a : List UInt8) : GoodP Try.prog gl0 77 [.str a] (.bool false) := by
  refine fn_sound' (T := seatT) (G := noC) (X := noX) seatT_ok noC_ok noX_ok noI_ok mixed Try.func77 (.one) (fun A => [.str a]) (fun A => .bool false) fun A hA => ?_
  cbv
  repeat' (first | with_reducible exact True.intro | with_reducible exact dr_ok hA (by kernel_rfl) | with_reducible exact eqv_refl hA _ | with_reducible refine And.intro ?_ ?_ | (intro hc; cbv))
  all_goals (subst hA; simp [-List.getD_eq_getElem?_getD, sS])
noncomputable def c_nan64 : Ct := fun A args => match args with
  | [.int .u64 a] => some (none, .bool false)
  | _ => none
noncomputable def c_nan32 : Ct := fun A args => match args with
  | [.int .u32 a] => some (none, .bool false)
  | _ => none
noncomputable def c_nanS : Ct := fun A args => match args with
  | [.str a] => some (none, .bool false)
  | _ => none
noncomputable def gw1 : Ar → Pu := addC 64 c_nan64 (addC 76 c_nan32 (addC 77 c_nanS (noC)))
theorem gw1_ok : PuOk Try.prog gl0 (gw1 std) := by
  refine addC_ok (addC_ok (addC_ok (noC_ok) ⟨_, Try.func77, rfl, by decide⟩ ?_) ⟨_, Try.func76, rfl, by decide⟩ ?_) ⟨_, Try.func64, rfl, by decide⟩ ?_
  · intro args p r h hp
    unfold c_nanS at h
    split at h <;> cases h
    exact good_nanS _
  · intro args p r h hp
    unfold c_nan32 at h
    split at h <;> cases h
    exact good_nan32 _
  · intro args p r h hp
    unfold c_nan64 at h
    split at h <;> cases h
    exact good_nan64 _
theorem good_cmp64 (a b : Int) : GoodP Try.prog gl0 44 [.int .u64 a, .int .u64 b] (.int .i64 (std.ti fun _ => ordI a b)) := by
  refine fn_sound' (T := seatT) (G := gw1) (X := noX) seatT_ok gw1_ok noX_ok noI_ok mixed Try.func44 (.one) (fun A => [.int .u64 a, .int .u64 b]) (fun A => .int .i64 (A.ti fun _ => ordI a b)) fun A hA => ?_
  cbv
  repeat' (first | with_reducible exact True.intro | with_reducible exact dr_ok hA (by kernel_rfl) | with_reducible exact eqv_refl hA _ | with_reducible refine And.intro ?_ ?_ | (intro hc; cbv))
  all_goals (subst hA; simp [sS] at *)
  all_goals (unfold ordI)
  all_goals first
    | (rw [if_pos (by assumption)]; done)
    | (rw [if_neg (by omega), if_pos (by omega)]; done)
    | (rw [if_neg (by omega), if_neg (by omega)]; done)
    | trace_state
theorem good_cmp32 (a b : Int) : GoodP Try.prog gl0 65 [.int .u32 a, .int .u32 b] (.int .i64 (std.ti fun _ => ordI a b)) := by
  refine fn_sound' (T := seatT) (G := gw1) (X := noX) seatT_ok gw1_ok noX_ok noI_ok mixed Try.func65 (.one) (fun A => [.int .u32 a, .int .u32 b]) (fun A => .int .i64 (A.ti fun _ => ordI a b)) fun A hA => ?_
  cbv
  repeat' (first | with_reducible exact True.intro | with_reducible exact dr_ok hA (by kernel_rfl) | with_reducible exact eqv_refl hA _ | with_reducible refine And.intro ?_ ?_ | (intro hc; cbv))
  all_goals (subst hA; simp [sS] at *)
  all_goals (unfold ordI)
  all_goals first
    | (rw [if_pos (by assumption)]; done)
    | (rw [if_neg (by omega), if_pos (by omega)]; done)
    | (rw [if_neg (by omega), if_neg (by omega)]; done)
    | trace_state
theorem good_cmpS (a b : List UInt8) : GoodP Try.prog gl0 66 [.str a, .str b] (.int .i64 (std.ti fun _ => ordS a b)) := by
  refine fn_sound' (T := seatT) (G := gw1) (X := noX) seatT_ok gw1_ok noX_ok noI_ok mixed Try.func66 (.one) (fun A => [.str a, .str b]) (fun A => .int .i64 (A.ti fun _ => ordS a b)) fun A hA => ?_
  cbv
  repeat' (first | with_reducible exact True.intro | with_reducible exact dr_ok hA (by kernel_rfl) | with_reducible exact eqv_refl hA _ | with_reducible refine And.intro ?_ ?_ | (intro hc; cbv))
  all_goals (subst hA; simp only [sS, bytesLess_eq] at *)
  all_goals (try simp only [decide_eq_true_eq, decide_eq_false_iff_not, Bool.not_eq_false', Bool.not_eq_true', Bool.or_eq_true, Bool.or_eq_false_iff, beq_iff_eq, beq_eq_false_iff_ne] at *)
  all_goals first
    | (simp at *; done)
    | (rcases triS a b with ⟨h1, n, e⟩ | ⟨n, e⟩ | ⟨h1, n, e⟩ <;> (first | (rw [e]; done) | exact absurd h1 (by assumption) | (exfalso; subst n; simp_all [List.lt_irrefl]; done) | (exfalso; simp_all; done) | (exfalso; exact List.lt_irrefl _ (List.lt_trans h1 (by assumption))) | (exfalso; (rcases (by assumption : a < b ∨ a = b) with h4 | h4); (exact List.lt_irrefl _ (List.lt_trans h1 h4)); exact n h4)))
    | trace_state
theorem good_cOr (L : List Int) (hL : L.length ≤ 1000) : GoodP Try.prog gl0 43 [rowS eZ 0 1 std fun _ => L] (.int .i64 (std.ti fun _ => orL L)) := by
  refine fn_sound' (T := seatT) (G := noC) (X := noX) seatT_ok noC_ok noX_ok noI_ok mixed Try.func43 (.one) (fun A => [rowS eZ 0 1 A fun _ => L]) (fun A => .int .i64 (A.ti fun _ => orL L)) fun A hA => ?_
  cbv
  repeat' (first | with_reducible exact True.intro | with_reducible exact dr_ok hA (by kernel_rfl) | with_reducible exact eqv_refl hA _ | with_reducible refine And.intro ?_ ?_ | (intro hc; cbv))
  refine ⟨⟨{i : Nat // i ≤ L.length ∧ ∀ x ∈ L.take i, x = 0}, fun b i => [(8, .int .i64 (i.1 : Nat))], fun b i => [], fun i => L.length - i.1, true⟩, ⟨⟨0, by omega, by simp⟩, ?_⟩, ?_⟩
  · cbv
    subst hA
    simp [-List.getD_eq_getElem?_getD, sS]
  · rintro ⟨i, hi, hz⟩
    cbv
    repeat' (first | with_reducible exact True.intro | with_reducible exact dr_ok hA (by kernel_rfl) | with_reducible exact eqv_refl hA _ | with_reducible refine And.intro ?_ ?_ | (intro hc; cbv))
    rotate_right 2
    · have hlt : i < L.length := by subst hA; simp [sS] at *; omega
      have h0 : L.getD i 0 = 0 := by subst hA; simpa [-List.getD_eq_getElem?_getD, sS] using hc
      refine ⟨⟨i + 1, by omega, fun x hx => ?_⟩, ?_, show L.length - (i + 1) < L.length - i by omega⟩
      · rw [← take_snoc (d := 0) hlt] at hx
        rcases List.mem_append.1 hx with hx | hx
        · exact hz x hx
        · rw [List.mem_singleton.1 hx]; exact h0
      · cbv
        subst hA
        simp [sS]
        exact w64 (by omega)
    · have hie : i = L.length := by subst hA; simp [sS] at *; omega
      subst hie
      rw [List.take_length] at hz
      subst hA
      simp [sS, orL_all hz]
    · subst hA; simp [sS] at *; omega
    · have hlt : i < L.length := by subst hA; simp [sS] at *; omega
      have h0 : ¬L.getD i 0 = 0 := by subst hA; simpa [-List.getD_eq_getElem?_getD, sS] using hc
      have h1 := orL_zero hz hlt
      rw [if_neg h0] at h1
      subst hA
      simp [-List.getD_eq_getElem?_getD, sS, h1]
noncomputable def c_cmp64 : Ct := fun A args => match args with
  | [.int .u64 a, .int .u64 b] => some (none, .int .i64 (A.ti fun _ => ordI a b))
  | _ => none
noncomputable def c_cmp32 : Ct := fun A args => match args with
  | [.int .u32 a, .int .u32 b] => some (none, .int .i64 (A.ti fun _ => ordI a b))
  | _ => none
noncomputable def c_cmpS : Ct := fun A args => match args with
  | [.str a, .str b] => some (none, .int .i64 (A.ti fun _ => ordS a b))
  | _ => none
noncomputable def c_cOr : Ct := fun A args => match args with
  | [.slc n 1 f] => some (some (A.tp fun _ => isRow eZ 0 1 n f ∧ n ≤ 1000), .int .i64 (A.ti fun _ => orL (lstOf eZ 0 1 n f)))
  | _ => none
noncomputable def gw2 : Ar → Pu := addC 44 c_cmp64 (addC 65 c_cmp32 (addC 66 c_cmpS (addC 43 c_cOr (gw1))))
theorem gw2_ok : PuOk Try.prog gl0 (gw2 std) := by
  refine addC_ok (addC_ok (addC_ok (addC_ok (gw1_ok) ⟨_, Try.func43, rfl, by decide⟩ ?_) ⟨_, Try.func66, rfl, by decide⟩ ?_) ⟨_, Try.func65, rfl, by decide⟩ ?_) ⟨_, Try.func44, rfl, by decide⟩ ?_
  · intro args p r h hp
    unfold c_cOr at h
    split at h <;> cases h
    exact good_sv (good_cOr _ (by rw [lstOf_length hp.1]; exact hp.2)) ⟨hp.1.sv, trivial⟩
  · intro args p r h hp
    unfold c_cmpS at h
    split at h <;> cases h
    exact good_cmpS _ _
  · intro args p r h hp
    unfold c_cmp32 at h
    split at h <;> cases h
    exact good_cmp32 _ _
  · intro args p r h hp
    unfold c_cmp64 at h
    split at h <;> cases h
    exact good_cmp64 _ _
theorem q2 (x y : Int) : Reps eZ 0 1 2 (lstS [[SV.int .i64 x], [SV.int .i64 y]]) [x, y] := Reps.lst (l := [_, _]) (L := [x, y]) ⟨cell_eZ x, cell_eZ y, trivial⟩
theorem good_kOrder (s t : Int) (r q : List UInt8) : GoodP Try.prog gl0 45 [sKey std s r, sKey std t q] (.int .i64 (std.ti fun _ => ordK s r t q)) := by
  refine fn_sound' (T := seatT) (G := gw2) (X := noX) seatT_ok gw2_ok noX_ok noI_ok mixed Try.func45 (.one) (fun A => [sKey A s r, sKey A t q]) (fun A => .int .i64 (A.ti fun _ => ordK s r t q)) fun A hA => ?_
  cbv
  repeat' (first | with_reducible exact True.intro | with_reducible exact dr_ok hA (by kernel_rfl) | with_reducible exact eqv_refl hA _ | with_reducible refine And.intro ?_ ?_ | (intro hc; cbv))
  all_goals (subst hA; simp only [sS])
  · exact ⟨⟨_, q2 _ _⟩, by omega⟩
  · rw [lstOf_eq inj_eZ (q2 _ _), ordK_or]
theorem good_rkOrder (s t : Int) (r q : List UInt8) : GoodP Try.prog gl0 67 [sKey std s r, sKey std t q] (.int .i64 (std.ti fun _ => ordK s r t q)) := by
  refine fn_sound' (T := seatT) (G := noC) (X := noX) seatT_ok noC_ok noX_ok noI_ok mixed Try.func67 (.one) (fun A => [sKey A s r, sKey A t q]) (fun A => .int .i64 (A.ti fun _ => ordK s r t q)) fun A hA => ?_
  cbv
  repeat' (first | with_reducible exact True.intro | with_reducible exact dr_ok hA (by kernel_rfl) | with_reducible exact eqv_refl hA _ | with_reducible refine And.intro ?_ ?_ | (intro hc; cbv))
  all_goals (subst hA; simp [sS, bytesLess_eq] at *)
  all_goals first
    | omega
    | (rw [ordK_eq, if_pos (by assumption)]; done)
    | (rw [ordK_eq, if_neg (fun h => (by assumption : s = t → ¬r = q) h.1 h.2), if_pos hc]; done)
    | (rw [ordK_eq, if_neg (fun h => (by assumption : s = t → ¬r = q) h.1 h.2), if_pos (by rcases Int.lt_or_le s t with h | h; (exact .inl h); exact .inr (hc h))]; done)
    | (rw [ordK_eq, if_neg (fun h => (by assumption : s = t → ¬r = q) h.1 h.2), if_neg (by rintro (h | h); (exact absurd h (by omega)); exact hc.2 h.1 h.2)]; done)
    | trace_state
theorem good_kShort (s : Int) (r : List UInt8) : GoodP Try.prog gl0 8 [sKey std s r] (.bool (std.tb fun _ => decide (r.length ≤ 300))) := by
  refine fn_sound' (T := seatT) (G := noC) (X := noX) seatT_ok noC_ok noX_ok noI_ok mixed Try.func8 (.one) (fun A => [sKey A s r]) (fun A => .bool (A.tb fun _ => decide (r.length ≤ 300))) fun A hA => ?_
  cbv
  repeat' (first | with_reducible exact True.intro | with_reducible exact dr_ok hA (by kernel_rfl) | with_reducible exact eqv_refl hA _ | with_reducible refine And.intro ?_ ?_ | (intro hc; cbv))
  all_goals (subst hA; simp [sS] at *)
  all_goals omega
noncomputable def c_kOrder : Ct := fun A args => match args with
  | [.agg [.int .u32 s, .str r], .agg [.int .u32 t, .str q]] => some (none, .int .i64 (A.ti fun _ => ordK s r t q))
  | _ => none
noncomputable def c_rkOrder : Ct := fun A args => match args with
  | [.agg [.int .u32 s, .str r], .agg [.int .u32 t, .str q]] => some (none, .int .i64 (A.ti fun _ => ordK s r t q))
  | _ => none
noncomputable def c_kShort : Ct := fun A args => match args with
  | [.agg [.int .u32 s, .str r]] => some (none, .bool (A.tb fun _ => decide (r.length ≤ 300)))
  | _ => none
noncomputable def gw3 : Ar → Pu := addC 45 c_kOrder (addC 67 c_rkOrder (addC 8 c_kShort (gw2)))
theorem gw3_ok : PuOk Try.prog gl0 (gw3 std) := by
  refine addC_ok (addC_ok (addC_ok (gw2_ok) ⟨_, Try.func8, rfl, by decide⟩ ?_) ⟨_, Try.func67, rfl, by decide⟩ ?_) ⟨_, Try.func45, rfl, by decide⟩ ?_
  · intro args p r h hp
    unfold c_kShort at h
    split at h <;> cases h
    exact good_kShort _ _
  · intro args p r h hp
    unfold c_rkOrder at h
    split at h <;> cases h
    exact good_rkOrder _ _ _ _
  · intro args p r h hp
    unfold c_kOrder at h
    split at h <;> cases h
    exact good_kOrder _ _ _ _
/-- By their tick, then by their key. -/
def ordT (a b : Tm) : Int := if ordI a.u b.u = 0 then ordK a.s a.r b.s b.r else ordI a.u b.u
theorem ordT_or (a b : Tm) : orL [ordI a.u b.u, ordK a.s a.r b.s b.r] = ordT a b := by
  simp only [orL, ordT]
  split
  · split
    · rename_i h; exact h.symm
    · rfl
  · rfl
theorem good_wOrder (a b : Tm) : GoodP Try.prog gl0 29 [tmS std a, tmS std b] (.int .i64 (std.ti fun _ => ordT a b)) := by
  refine fn_sound' (T := seatT) (G := gw3) (X := noX) seatT_ok gw3_ok noX_ok noI_ok mixed Try.func29 (.one) (fun A => [tmS A a, tmS A b]) (fun A => .int .i64 (A.ti fun _ => ordT a b)) fun A hA => ?_
  cbv
  repeat' (first | with_reducible exact True.intro | with_reducible exact dr_ok hA (by kernel_rfl) | with_reducible exact eqv_refl hA _ | with_reducible refine And.intro ?_ ?_ | (intro hc; cbv))
  all_goals (subst hA; simp only [sS])
  · exact ⟨⟨_, q2 _ _⟩, by omega⟩
  · rw [lstOf_eq inj_eZ (q2 _ _), ordT_or]
def lessT (a b : Tm) : Bool := decide (ordT a b < 0)
theorem lessT_eq (a b : Tm) : lessT a b = decide (a.u < b.u ∨ a.u = b.u ∧ ordK a.s a.r b.s b.r < 0) := by
  unfold lessT ordT
  congr 1
  rw [eq_iff_iff]
  by_cases h : ordI a.u b.u = 0
  · rw [if_pos h]
    have : a.u = b.u := by unfold ordI at h; split at h; omega; split at h <;> omega
    constructor
    · intro h2; exact .inr ⟨this, h2⟩
    · rintro (h2 | h2); omega; exact h2.2
  · rw [if_neg h]
    unfold ordI at h ⊢
    constructor
    · intro h2; split at h2; (rename_i h3; exact .inl h3); split at h2 <;> omega
    · rintro (h2 | h2)
      · rw [if_pos h2]; omega
      · rw [if_neg (by omega), if_neg (by omega)] at h; omega
theorem less_bif (a b : Tm) : (bif decide (a.u < b.u) then true else bif a.u == b.u then decide (ordK a.s a.r b.s b.r < 0) else false) = decide (a.u < b.u ∨ a.u = b.u ∧ ordK a.s a.r b.s b.r < 0) := by
  by_cases h1 : a.u < b.u
  · simp [h1]
  · by_cases h2 : a.u = b.u
    · simp [h2]
    · simp [h1, h2]
theorem good_rLess (a b : Tm) : GoodP Try.prog gl0 46 [tmS std a, tmS std b] (.bool (std.tb fun _ => lessT a b)) := by
  refine fn_sound' (T := seatT) (G := gw3) (X := noX) seatT_ok gw3_ok noX_ok noI_ok mixed Try.func46 (.one) (fun A => [tmS A a, tmS A b]) (fun A => .bool (A.tb fun _ => lessT a b)) fun A hA => ?_
  cbv
  repeat' (first | with_reducible exact True.intro | with_reducible exact dr_ok hA (by kernel_rfl) | with_reducible exact eqv_refl hA _ | with_reducible refine And.intro ?_ ?_ | (intro hc; cbv))
  all_goals (subst hA; simp only [sS, lessT_eq] at *)
  all_goals first
    | (simp; done)
    | exact less_bif a b
    | (simp at *; omega)
    | trace_state
noncomputable def c_wOrder : Ct := fun A args => match args with
  | [.agg [.int .u32 s, .str r, .int .u64 u], .agg [.int .u32 s', .str r', .int .u64 u']] => some (none, .int .i64 (A.ti fun _ => ordT ⟨s, r, u⟩ ⟨s', r', u'⟩))
  | _ => none
noncomputable def c_rLess : Ct := fun A args => match args with
  | [.agg [.int .u32 s, .str r, .int .u64 u], .agg [.int .u32 s', .str r', .int .u64 u']] => some (none, .bool (A.tb fun _ => lessT ⟨s, r, u⟩ ⟨s', r', u'⟩))
  | _ => none
noncomputable def gw4 : Ar → Pu := addC 29 c_wOrder (addC 46 c_rLess (gw3))
theorem gw4_ok : PuOk Try.prog gl0 (gw4 std) := by
  refine addC_ok (addC_ok (gw3_ok) ⟨_, Try.func46, rfl, by decide⟩ ?_) ⟨_, Try.func29, rfl, by decide⟩ ?_
  · intro args p r h hp
    unfold c_rLess at h
    split at h <;> cases h
    exact good_rLess ⟨_, _, _⟩ ⟨_, _, _⟩
  · intro args p r h hp
    unfold c_wOrder at h
    split at h <;> cases h
    exact good_wOrder ⟨_, _, _⟩ ⟨_, _, _⟩
end Go.Vd

set_option linter.unusedVariables false
set_option linter.unusedSimpArgs false
namespace Go.Vd
open Ieee

theorem log2_mul_pow {V : Nat} (h : V ≠ 0) (e : Nat) : (V * 2 ^ e).log2 = V.log2 + e := by
  have hp : 0 < 2 ^ e := Nat.two_pow_pos e
  have hne : V * 2 ^ e ≠ 0 := Nat.mul_ne_zero h (by omega)
  rw [Nat.log2_eq_iff hne]
  have h1 := Nat.log2_self_le h
  have h2 := @Nat.lt_log2_self V
  refine ⟨by rw [Nat.pow_add]; exact Nat.mul_le_mul_right _ h1, ?_⟩
  rw [show V.log2 + e + 1 = (V.log2 + 1) + e by omega, Nat.pow_add]
  exact Nat.mul_lt_mul_of_pos_right h2 hp
theorem cut_exact (way : Toward) (neg : Bool) (n d : Nat) : way.cut neg (n * 2 ^ d) d = n := by
  unfold Toward.cut
  rcases Nat.eq_zero_or_pos n with rfl | hn
  · simp
    cases way <;> simp
  · have hl : (n * 2 ^ d).log2 = n.log2 + d := log2_mul_pow (by omega) d
    have hm : min d ((n * 2 ^ d).log2 + 2) = d := by rw [hl]; omega
    have hp : 0 < 2 ^ d := Nat.two_pow_pos d
    simp only [hm, Nat.one_shiftLeft, Nat.mul_div_cancel _ hp, Nat.mul_mod_left]
    cases way <;> simp <;> omega
theorem cut_zero (way : Toward) (neg : Bool) (n : Nat) : way.cut neg n 0 = n := by
  have := cut_exact way neg n 0
  simpa using this

/-- The rung of a whole number. -/
def rungOf (V : Nat) : Nat := (V.log2 + 1022) * 4503599627370496 + V * 2 ^ (52 - V.log2)
theorem log2_le {V : Nat} (h0 : V ≠ 0) (hV : V < 9007199254740992) : V.log2 ≤ 52 := by
  have : V.log2 < 53 := (Nat.log2_lt h0).2 (by simpa using hV)
  omega
theorem kept_lo {V : Nat} (h0 : V ≠ 0) (hV : V < 9007199254740992) : 4503599627370496 ≤ V * 2 ^ (52 - V.log2) ∧ V * 2 ^ (52 - V.log2) < 9007199254740992 := by
  have hl := log2_le h0 hV
  have h1 := Nat.log2_self_le h0
  have h2 := @Nat.lt_log2_self V
  constructor
  · have := Nat.mul_le_mul_right (2 ^ (52 - V.log2)) h1
    rw [← Nat.pow_add, show V.log2 + (52 - V.log2) = 52 by omega] at this
    simpa using this
  · have := Nat.mul_lt_mul_of_pos_right h2 (Nat.two_pow_pos (52 - V.log2))
    rw [← Nat.pow_add, show V.log2 + 1 + (52 - V.log2) = 53 by omega] at this
    simpa using this
theorem nearest_whole (s : Bool) {V : Nat} (h0 : V ≠ 0) (hV : V < 9007199254740992) (e : Nat) : double.nearest s (V * 2 ^ e) (-(e : Int)) = double.word s (rungOf V) := by
  have hl := log2_le h0 hV
  obtain ⟨k1, k2⟩ := kept_lo h0 hV
  have hne : V * 2 ^ e ≠ 0 := Nat.mul_ne_zero h0 (by have := Nat.two_pow_pos e; omega)
  have hfb : double.fractionBits = 52 := rfl
  have hlp : double.leastPlace = -1074 := by rfl
  have hbin : double.binade = 4503599627370496 := by rfl
  have hinf : double.infRung = 9218868437227405312 := by rfl
  have hlast : max (-(e : Int) + ((V * 2 ^ e).log2 : Nat) - (double.fractionBits : Nat)) double.leastPlace = (V.log2 : Int) - 52 := by
    rw [log2_mul_pow h0, hfb, hlp]; omega
  unfold Format.nearest
  rw [if_neg hne]
  simp only [hlast]
  have hkept : Toward.even.cut s ((V * 2 ^ e) <<< (-(e : Int) - ((V.log2 : Int) - 52)).toNat) (((V.log2 : Int) - 52) - -(e : Int)).toNat = V * 2 ^ (52 - V.log2) := by
    rcases Nat.lt_or_ge (52 - V.log2) e with hc | hc
    · have e1 : (-(e : Int) - ((V.log2 : Int) - 52)).toNat = 0 := by omega
      have e2 : (((V.log2 : Int) - 52) - -(e : Int)).toNat = e - (52 - V.log2) := by omega
      rw [e1, e2, Nat.shiftLeft_zero]
      have e3 : V * 2 ^ e = (V * 2 ^ (52 - V.log2)) * 2 ^ (e - (52 - V.log2)) := by
        rw [Nat.mul_assoc, ← Nat.pow_add, show 52 - V.log2 + (e - (52 - V.log2)) = e by omega]
      rw [e3, cut_exact]
    · have e1 : (-(e : Int) - ((V.log2 : Int) - 52)).toNat = 52 - V.log2 - e := by omega
      have e2 : (((V.log2 : Int) - 52) - -(e : Int)).toNat = 0 := by omega
      rw [e1, e2, cut_zero, Nat.shiftLeft_eq, Nat.mul_assoc, ← Nat.pow_add, show e + (52 - V.log2 - e) = 52 - V.log2 by omega]
  rw [hkept, hlp, hbin, hinf]
  have e4 : ((V.log2 : Int) - 52 - -1074).toNat = V.log2 + 1022 := by omega
  rw [e4]
  have e5 : min ((V.log2 + 1022) * 4503599627370496 + V * 2 ^ (52 - V.log2)) 9218868437227405312 = rungOf V := by
    unfold rungOf
    generalize V * 2 ^ (52 - V.log2) = K at k1 k2 ⊢
    clear hkept hlast hne
    generalize V.log2 = l at hl ⊢
    clear hlp hbin hinf
    omega
  rw [e5]
theorem read_word (s : Bool) {V : Nat} (h0 : V ≠ 0) (hV : V < 9007199254740992) : double.read (double.word s (rungOf V)) = .number s (V * 2 ^ (52 - V.log2)) (-((52 - V.log2 : Nat) : Int)) := by
  have hl := log2_le h0 hV
  obtain ⟨k1, k2⟩ := kept_lo h0 hV
  have hlp : double.leastPlace = -1074 := by rfl
  have hbin : double.binade = 4503599627370496 := by rfl
  have hinf : double.infRung = 9218868437227405312 := by rfl
  have hsw : double.signWeight = 9223372036854775808 := by rfl
  have hr : rungOf V < 9218868437227405312 ∧ 4503599627370496 ≤ rungOf V := by
    unfold rungOf
    generalize V * 2 ^ (52 - V.log2) = K at k1 k2 ⊢
    generalize V.log2 = l at hl ⊢
    clear hlp hbin hinf hsw
    omega
  have hr0 : rungOf V < 9223372036854775808 := Nat.lt_trans hr.1 (by decide)
  have hneg : (double.word s (rungOf V) / double.signWeight % 2 == 1) = s := by
    unfold Format.word
    rw [hsw]
    cases s
    · simp [Nat.div_eq_of_lt hr0]
    · simp only [if_true]
      rw [Nat.add_div_left _ (by decide : 0 < 9223372036854775808), Nat.div_eq_of_lt hr0]
      rfl
  have hrung : double.word s (rungOf V) % double.signWeight = rungOf V := by
    unfold Format.word
    rw [hsw]
    cases s
    · simp [Nat.mod_eq_of_lt hr0]
    · simp only [if_true]
      rw [Nat.add_mod_left, Nat.mod_eq_of_lt hr0]
  unfold Format.read
  simp only [hneg, hrung]
  rw [if_neg (by rw [hbin]; exact Nat.not_lt.2 hr.2), if_pos (by rw [hinf]; exact hr.1), hbin, hlp]
  obtain ⟨K, hK⟩ : ∃ K, K = V * 2 ^ (52 - V.log2) := ⟨_, rfl⟩
  have hru : rungOf V / 4503599627370496 = V.log2 + 1023 ∧ rungOf V % 4503599627370496 = K - 4503599627370496 := by
    unfold rungOf
    rw [← hK] at k1 k2 ⊢
    clear hneg hrung hr hr0 hlp hbin hinf hsw hK
    generalize V.log2 = l at hl ⊢
    omega
  rw [hru.1, hru.2, ← hK]
  rw [← hK] at k1
  have q1 : 4503599627370496 + (K - 4503599627370496) = K := by omega
  have q2 : (-1074 : Int) + ((V.log2 + 1023 - 1 : Nat) : Int) = -((52 - V.log2 : Nat) : Int) := by omega
  rw [q1, q2]
/-- 2 ^ e, as an integer. -/
def pw (e : Nat) : Int := Int.ofNat (2 ^ e)
/-- The word says the whole number. -/
def isZ (x : Nat) (n : Int) : Prop := ∃ (s : Bool) (e : Nat), double.read x = .number s (n.natAbs * 2 ^ e) (-(e : Int)) ∧ (n < 0 → s = true) ∧ (0 < n → s = false)
theorem read_zero (s : Bool) : double.read (double.word s 0) = .number s 0 (-1074) := by cases s <;> decide
theorem write_isZ (s : Bool) {n : Int} (hn : n.natAbs < 9007199254740992) (e : Nat) (h1 : n < 0 → s = true) (h2 : 0 < n → s = false) : isZ (double.write (.number s (n.natAbs * 2 ^ e) (-(e : Int)))) n := by
  unfold Format.write
  simp only
  rcases Nat.eq_zero_or_pos n.natAbs with h0 | h0
  · rw [h0, Nat.zero_mul]
    obtain ⟨k, hk⟩ : ∃ k : Nat, k = 1074 := ⟨_, rfl⟩
    refine ⟨s, k, ?_, h1, h2⟩
    unfold Format.nearest
    rw [if_pos rfl, read_zero, h0, Nat.zero_mul, hk]
    rfl
  · rw [nearest_whole s (by omega) hn]
    exact ⟨s, _, read_word s (by omega) hn, h1, h2⟩
theorem signed_isZ {s : Bool} {n : Int} {e u : Nat} (h1 : n < 0 → s = true) (h2 : 0 < n → s = false) : signed s (n.natAbs * 2 ^ e) u = n * pw (e + u) := by
  have key : ((n.natAbs * 2 ^ e) <<< u : Nat) = n.natAbs * 2 ^ (e + u) := by rw [Nat.shiftLeft_eq, Nat.mul_assoc, ← Nat.pow_add]
  unfold signed
  rw [key, Int.natCast_mul]
  have hq : ((2 ^ (e + u) : Nat) : Int) = pw (e + u) := rfl
  rw [hq]
  rcases Int.lt_trichotomy n 0 with hn | hn | hn
  · rw [h1 hn, if_pos rfl, ← Int.neg_mul, show -((n.natAbs : Nat) : Int) = n by omega]
  · subst hn; cases s <;> simp
  · rw [h2 hn, if_neg (by simp), show ((n.natAbs : Nat) : Int) = n by omega]
theorem isZ_fOf {n : Int} (hn : n.natAbs < 9007199254740992) : isZ (FloatKind.f64.nearest n) n := by
  have := write_isZ (decide (n < 0)) hn 0 (fun h => decide_eq_true h) (fun h => decide_eq_false (by omega))
  simpa [FloatKind.nearest, FloatKind.encode, FloatKind.format] using this
theorem isZ_toInt {x : Nat} {n : Int} (hx : isZ x n) : (FloatKind.f64.decode x).toInt .zero = some n := by
  obtain ⟨s, e, r1, h1, h2⟩ := hx
  have : FloatKind.f64.decode x = .number s (n.natAbs * 2 ^ e) (-(e : Int)) := r1
  rw [this]
  unfold Datum.toInt Datum.integral
  have e1 : (-(e : Int)).toNat = 0 := by omega
  have e2 : (- -(e : Int)).toNat = e := by omega
  simp only [e1, e2, Nat.shiftLeft_zero, cut_exact]
  have := signed_isZ (s := s) (e := 0) (u := 0) h1 h2
  rw [Nat.pow_zero, Nat.mul_one, show pw (0 + 0) = 1 from rfl, Int.mul_one] at this
  rw [this]
end Go.Vd

set_option linter.unusedVariables false
set_option linter.unusedSimpArgs false
namespace Go.Vd
open Ieee
end Go.Vd

set_option linter.unusedVariables false
set_option linter.unusedSimpArgs false
set_option maxRecDepth 100000
set_option maxHeartbeats 4000000
namespace Go.Vd
open Go.Proofs Ieee
/-- A pointer in a struct's first cell that nobody looks at. -/
theorem good_ptr1 {P : Program} {gl : Nat → SV} {f : FuncId} {k o : Nat} {l rest : List SV} {r : SV} (h : GoodP P gl f (.agg (.any :: l) :: rest) r) : GoodP P gl f (.agg (.ptr k o :: l) :: rest) r := by
  intro w ρ rw N vs hfr hrw hg ha
  refine h w ρ rw N vs hfr hrw hg ?_
  match vs, ha with
  | v :: vs, ⟨h1, h2⟩ =>
    refine ⟨?_, h2⟩
    cases h1 with
    | agg cs _ hl hone hh hm =>
      refine .agg cs _ hl hone (fun i v s hv hs => ?_) fun s hs hr => ?_
      · cases i with
        | zero => cases hs; exact .any _
        | succ i => exact hh (i + 1) v s hv hs
      · rcases List.mem_cons.1 hs with rfl | hs
        · cases hr
        · exact hm s (List.mem_cons_of_mem _ hs) hr
attribute [local irreducible] vc
theorem good_quick (a b : Nat) : GoodP Try.prog gl0 51 [.cpx a b] (.flt (std.tn fun _ => b)) := by
  refine fn_sound' (T := seatT) (G := noC) (X := noX) seatT_ok noC_ok noX_ok noI_ok mixed Try.func51 (.one) (fun A => [.cpx a b]) (fun A => .flt (A.tn fun _ => b)) fun A hA => ?_
  cbv
  repeat' (first | with_reducible exact True.intro | with_reducible exact dr_ok hA (by kernel_rfl) | with_reducible exact eqv_refl hA _ | with_reducible refine And.intro ?_ ?_ | (intro hc; cbv))
  all_goals (subst hA; simp only [sS])
theorem good_slow (a b : Nat) : GoodP Try.prog gl0 52 [.cpx a b] (.flt (std.tn fun _ => a)) := by
  refine fn_sound' (T := seatT) (G := noC) (X := noX) seatT_ok noC_ok noX_ok noI_ok mixed Try.func52 (.one) (fun A => [.cpx a b]) (fun A => .flt (A.tn fun _ => a)) fun A hA => ?_
  cbv
  repeat' (first | with_reducible exact True.intro | with_reducible exact dr_ok hA (by kernel_rfl) | with_reducible exact eqv_refl hA _ | with_reducible refine And.intro ?_ ?_ | (intro hc; cbv))
  all_goals (subst hA; simp only [sS])
def ofR (t : Int) : Nat := FloatKind.f64.nearest (t / 64 % 64)
def ofI (t : Int) : Nat := FloatKind.f64.nearest (t % 64)
theorem wU {n : Int} (h : 0 ≤ n ∧ n < 18446744073709551616) : IntKind.u64.wrap n = n := by rw [IntKind.wrap_u64]; omega
theorem good_hOf (t : Int) (h0 : 0 ≤ t ∧ t < 18446744073709551616) : GoodP Try.prog gl0 68 [.int .u64 t] (.cpx (std.tn fun _ => ofR t) (std.tn fun _ => ofI t)) := by
  refine fn_sound' (T := seatT) (G := noC) (X := noX) seatT_ok noC_ok noX_ok noI_ok mixed Try.func68 (.one) (fun A => [.int .u64 t]) (fun A => .cpx (A.tn fun _ => ofR t) (A.tn fun _ => ofI t)) fun A hA => ?_
  cbv
  repeat' (first | with_reducible exact True.intro | with_reducible exact dr_ok hA (by kernel_rfl) | with_reducible exact eqv_refl hA _ | with_reducible refine And.intro ?_ ?_ | (intro hc; cbv))
  all_goals (subst hA; simp only [sS] at *)
  all_goals first
    | decide
    | (unfold ofR; congr 1; rw [Int.tdiv_eq_ediv_of_nonneg h0.1, wU (by omega), Int.tmod_eq_emod_of_nonneg (by omega)])
    | (unfold ofI; congr 1; rw [Int.tmod_eq_emod_of_nonneg h0.1])
    | trace_state
noncomputable def c_quick : Ct := fun A args => match args with
  | [.cpx a b] => some (none, .flt (A.tn fun _ => b))
  | _ => none
noncomputable def c_slow : Ct := fun A args => match args with
  | [.cpx a b] => some (none, .flt (A.tn fun _ => a))
  | _ => none
noncomputable def c_hOf : Ct := fun A args => match args with
  | [.int .u64 t] => some (some (A.tp fun _ => 0 ≤ t ∧ t < 18446744073709551616), .cpx (A.tn fun _ => ofR t) (A.tn fun _ => ofI t))
  | _ => none
noncomputable def gw5 : Ar → Pu := addC 51 c_quick (addC 52 c_slow (addC 68 c_hOf (gw4)))
theorem gw5_ok : PuOk Try.prog gl0 (gw5 std) := by
  refine addC_ok (addC_ok (addC_ok (gw4_ok) ⟨_, Try.func68, rfl, by decide⟩ ?_) ⟨_, Try.func52, rfl, by decide⟩ ?_) ⟨_, Try.func51, rfl, by decide⟩ ?_
  · intro args p r h hp
    unfold c_hOf at h
    split at h <;> cases h
    exact good_hOf _ hp
  · intro args p r h hp
    unfold c_slow at h
    split at h <;> cases h
    exact good_slow _ _
  · intro args p r h hp
    unfold c_quick at h
    split at h <;> cases h
    exact good_quick _ _
theorem fTo_of {x : Nat} {n : Int} (h : isZ x n) : ((FloatKind.f64.decode x).toInt .zero).getD 0 = n := by
  have h2 := isZ_toInt h
  have h2 : (FloatKind.f64.decode x).toInt .zero = some n := h2
  rw [h2]; rfl
theorem fTv_of {x : Nat} {n : Int} (h : isZ x n) (hb : 0 ≤ n ∧ n < 64) : ∃ n, (FloatKind.f64.decode x).toInt .zero = some n ∧ IntKind.i64.min ≤ n ∧ n ≤ IntKind.i64.max := by
  refine ⟨n, isZ_toInt h, ?_, ?_⟩
  · have : IntKind.i64.min = -9223372036854775808 := by decide
    omega
  · have : IntKind.i64.max = 9223372036854775807 := by decide
    omega
theorem z_ofI {t : Int} (h : 0 ≤ t) : isZ (ofI t) (t % 64) := isZ_fOf (by omega)
theorem z_ofR {t : Int} (h : 0 ≤ t) : isZ (ofR t) (t / 64 % 64) := isZ_fOf (by omega)
theorem good_slotQ (a b t : Int) (h0 : 0 ≤ t ∧ t < 18446744073709551616) : GoodP Try.prog gl0 48 [.agg [.any, .clo 51 [], .int .u64 a, .int .u64 b], .int .u64 t] (.int .i64 (std.ti fun _ => t % 64)) := by
  refine fn_sound' (T := seatT) (G := gw5) (X := noX) seatT_ok gw5_ok noX_ok noI_ok mixed Try.func48 (.one) (fun A => [.agg [.any, .clo 51 [], .int .u64 a, .int .u64 b], .int .u64 t]) (fun A => .int .i64 (A.ti fun _ => t % 64)) fun A hA => ?_
  cbv
  repeat' (first | with_reducible exact True.intro | with_reducible exact dr_ok hA (by kernel_rfl) | with_reducible exact eqv_refl hA _ | with_reducible refine And.intro ?_ ?_ | (intro hc; cbv))
  all_goals (subst hA; simp only [sS] at *)
  all_goals first
    | exact h0
    | exact fTv_of (z_ofI h0.1) (by omega)
    | exact fTo_of (z_ofI h0.1)
    | trace_state
theorem good_slotS (a b t : Int) (h0 : 0 ≤ t ∧ t < 18446744073709551616) : GoodP Try.prog gl0 48 [.agg [.any, .clo 52 [], .int .u64 a, .int .u64 b], .int .u64 t] (.int .i64 (std.ti fun _ => t / 64 % 64)) := by
  refine fn_sound' (T := seatT) (G := gw5) (X := noX) seatT_ok gw5_ok noX_ok noI_ok mixed Try.func48 (.one) (fun A => [.agg [.any, .clo 52 [], .int .u64 a, .int .u64 b], .int .u64 t]) (fun A => .int .i64 (A.ti fun _ => t / 64 % 64)) fun A hA => ?_
  cbv
  repeat' (first | with_reducible exact True.intro | with_reducible exact dr_ok hA (by kernel_rfl) | with_reducible exact eqv_refl hA _ | with_reducible refine And.intro ?_ ?_ | (intro hc; cbv))
  all_goals (subst hA; simp only [sS] at *)
  all_goals first
    | exact h0
    | exact fTv_of (z_ofR h0.1) (by omega)
    | exact fTo_of (z_ofR h0.1)
    | trace_state
/-- The slot of a tick, by the hand. -/
def slotI (q : Bool) (t : Int) : Int := if q = true then t % 64 else t / 64 % 64
def isPA : SV → Bool
  | .ptr _ _ => true
  | .any => true
  | _ => false
noncomputable def c_slot : Ct := fun A args => match args with
  | [.agg [x, .clo f [], .int .u64 a, .int .u64 b], .int .u64 t] => bif isPA x then (bif Nat.beq f 51 then some (some (A.tp fun _ => 0 ≤ t ∧ t < 18446744073709551616), .int .i64 (A.ti fun _ => slotI true t))
      else bif Nat.beq f 52 then some (some (A.tp fun _ => 0 ≤ t ∧ t < 18446744073709551616), .int .i64 (A.ti fun _ => slotI false t)) else none) else none
  | _ => none
theorem c_slot_good {args : List SV} {p : Option Prop} {r : SV} (h : c_slot std args = some (p, r)) (hp : holds p) : GoodP Try.prog gl0 48 args r := by
  unfold c_slot at h
  split at h
  · rename_i x f a b t
    cases hb : isPA x <;> rw [hb] at h <;> simp only [cond_true, cond_false, reduceCtorEq] at h
    have key : ∀ {f' : Nat} {r' : SV}, GoodP Try.prog gl0 48 [.agg [.any, .clo f' [], .int .u64 a, .int .u64 b], .int .u64 t] r' → GoodP Try.prog gl0 48 [.agg [x, .clo f' [], .int .u64 a, .int .u64 b], .int .u64 t] r' := fun hg => by
      unfold isPA at hb
      split at hb
      · exact good_ptr1 hg
      · exact hg
      · cases hb
    cases hq : Nat.beq f 51 <;> rw [hq] at h <;> simp only [cond_true, cond_false, reduceCtorEq] at h
    · cases hs : Nat.beq f 52 <;> rw [hs] at h <;> simp only [cond_true, cond_false, reduceCtorEq, Option.some.injEq, Prod.mk.injEq] at h
      obtain ⟨rfl, rfl⟩ := h
      obtain rfl := Nat.eq_of_beq_eq_true hs
      exact key (good_slotS _ _ _ hp)
    · simp only [Option.some.injEq, Prod.mk.injEq] at h
      obtain ⟨rfl, rfl⟩ := h
      obtain rfl := Nat.eq_of_beq_eq_true hq
      exact key (good_slotQ _ _ _ hp)
  · cases h
noncomputable def gw6 : Ar → Pu := addC 48 c_slot gw5
theorem gw6_ok : PuOk Try.prog gl0 (gw6 std) := addC_ok gw5_ok ⟨_, Try.func48, rfl, by decide⟩ fun args p r h hp => c_slot_good h hp
theorem good_turns (n t : Int) (h : 0 ≤ n ∧ n ≤ t ∧ t < 18446744073709551616) : GoodP Try.prog gl0 33 [.int .u64 n, .int .u64 t] (.int .u64 (std.ti fun _ => t / 64 - n / 64)) := by
  refine fn_sound' (T := seatT) (G := noC) (X := noX) seatT_ok noC_ok noX_ok noI_ok mixed Try.func33 (.one) (fun A => [.int .u64 n, .int .u64 t]) (fun A => .int .u64 (A.ti fun _ => t / 64 - n / 64)) fun A hA => ?_
  cbv
  repeat' (first | with_reducible exact True.intro | with_reducible exact dr_ok hA (by kernel_rfl) | with_reducible exact eqv_refl hA _ | with_reducible refine And.intro ?_ ?_ | (intro hc; cbv))
  all_goals (subst hA; simp only [sS] at *)
  all_goals first
    | decide
    | (rw [Int.tdiv_eq_ediv_of_nonneg (by omega), Int.tdiv_eq_ediv_of_nonneg (by omega), wU (n := t / 64) (by omega), wU (n := n / 64) (by omega), wU (by omega)])
    | trace_state
theorem good_rRoom (m : Int) : GoodP Try.prog gl0 25 [.int .i64 m] (.bool (std.tb fun _ => decide (0 ≤ m ∧ m ≤ 256))) := by
  refine fn_sound' (T := seatT) (G := noC) (X := noX) seatT_ok noC_ok noX_ok noI_ok mixed Try.func25 (.one) (fun A => [.int .i64 m]) (fun A => .bool (A.tb fun _ => decide (0 ≤ m ∧ m ≤ 256))) fun A hA => ?_
  cbv
  repeat' (first | with_reducible exact True.intro | with_reducible exact dr_ok hA (by kernel_rfl) | with_reducible exact eqv_refl hA _ | with_reducible refine And.intro ?_ ?_ | (intro hc; cbv))
  all_goals (subst hA; simp only [sS] at *)
  all_goals first
    | exact id
    | (intro h; exact h)
    | (intro h; exact ⟨h, h⟩)
    | (by_cases h1 : (0 : Int) ≤ m <;> simp [h1])
    | trace_state
noncomputable def c_turns : Ct := fun A args => match args with
  | [.int .u64 n, .int .u64 t] => some (some (A.tp fun _ => 0 ≤ n ∧ n ≤ t ∧ t < 18446744073709551616), .int .u64 (A.ti fun _ => t / 64 - n / 64))
  | _ => none
noncomputable def c_rRoom : Ct := fun A args => match args with
  | [.int .i64 m] => some (none, .bool (A.tb fun _ => decide (0 ≤ m ∧ m ≤ 256)))
  | _ => none
noncomputable def gw7 : Ar → Pu := addC 33 c_turns (addC 25 c_rRoom (gw6))
theorem gw7_ok : PuOk Try.prog gl0 (gw7 std) := by
  refine addC_ok (addC_ok (gw6_ok) ⟨_, Try.func25, rfl, by decide⟩ ?_) ⟨_, Try.func33, rfl, by decide⟩ ?_
  · intro args p r h hp
    unfold c_rRoom at h
    split at h <;> cases h
    exact good_rRoom _
  · intro args p r h hp
    unfold c_turns at h
    split at h <;> cases h
    exact good_turns _ _ hp
/-- May a timer of tick t stand in slot i of the quick hand's level, or of the slow one's, at tick n? -/
def belI (q : Bool) (t n i : Int) : Bool :=
  if t ≤ n then false else (if q = true then decide (t / 64 - n / 64 = 0) else decide (1 ≤ t / 64 - n / 64 ∧ t / 64 - n / 64 ≤ 63)) && decide (slotI q t = i)
theorem belI_no {q : Bool} {t n i : Int} (h : t ≤ n) : belI q t n i = false := by unfold belI; rw [if_pos h]
theorem belI_yes {t n i : Int} (h : ¬t ≤ n) : (bif bif decide (0 ≤ t / 64 - n / 64) then decide (t / 64 - n / 64 ≤ 0) else false then slotI true t == i else false) = belI true t n i := by
  unfold belI
  rw [if_neg h, if_pos rfl, Bool.eq_iff_iff]
  by_cases h1 : t / 64 - n / 64 ≤ 0
  · have h2 : t / 64 - n / 64 = 0 := by omega
    simp [h2]
  · have h2 : ¬t / 64 - n / 64 = 0 := by omega
    simp [h1, h2]
theorem belI_yesS {t n i : Int} (h : ¬t ≤ n) : (bif bif decide (1 ≤ t / 64 - n / 64) then decide (t / 64 - n / 64 ≤ 63) else false then slotI false t == i else false) = belI false t n i := by
  unfold belI
  rw [if_neg h, if_neg (by decide), Bool.eq_iff_iff]
  by_cases h1 : 1 ≤ t / 64 - n / 64 <;> by_cases h2 : t / 64 - n / 64 ≤ 63 <;> simp [h1, h2]
theorem good_belQ (s u i n : Int) (r : List UInt8) (hu : 0 ≤ u ∧ u < 18446744073709551616) (hn : 0 ≤ n) : GoodP Try.prog gl0 53 [.agg [.any, .clo 51 [], .int .u64 0, .int .u64 0], .agg [.int .u32 s, .str r, .int .u64 u], .int .i64 i, .int .u64 n] (.bool (std.tb fun _ => belI true u n i)) := by
  refine fn_sound' (T := seatT) (G := gw7) (X := noX) seatT_ok gw7_ok noX_ok noI_ok mixed Try.func53 (.one) (fun A => [.agg [.any, .clo 51 [], .int .u64 0, .int .u64 0], .agg [.int .u32 s, .str r, .int .u64 u], .int .i64 i, .int .u64 n]) (fun A => .bool (A.tb fun _ => belI true u n i)) fun A hA => ?_
  cbv
  repeat' (first | with_reducible exact True.intro | with_reducible exact dr_ok hA (by kernel_rfl) | with_reducible exact eqv_refl hA _ | with_reducible refine And.intro ?_ ?_ | (intro hc; cbv))
  all_goals (subst hA; simp only [sS] at *)
  all_goals first
    | exact hu
    | exact id
    | (intro h; exact ⟨h, h⟩)
    | (intro h; exact ⟨⟨h, h⟩, hu⟩)
    | (intro h; rw [h]; rfl)
    | (intro h; rw [h]; exact ⟨rfl, rfl⟩)
    | exact (belI_no (of_decide_eq_true hc)).symm
    | exact belI_yes (of_decide_eq_false hc)
    | exact belI_yesS (of_decide_eq_false hc)
    | (have := of_decide_eq_false hc; exact ⟨by omega, by omega, by omega⟩)
    | trace_state
theorem good_belS (s u i n : Int) (r : List UInt8) (hu : 0 ≤ u ∧ u < 18446744073709551616) (hn : 0 ≤ n) : GoodP Try.prog gl0 53 [.agg [.any, .clo 52 [], .int .u64 1, .int .u64 63], .agg [.int .u32 s, .str r, .int .u64 u], .int .i64 i, .int .u64 n] (.bool (std.tb fun _ => belI false u n i)) := by
  refine fn_sound' (T := seatT) (G := gw7) (X := noX) seatT_ok gw7_ok noX_ok noI_ok mixed Try.func53 (.one) (fun A => [.agg [.any, .clo 52 [], .int .u64 1, .int .u64 63], .agg [.int .u32 s, .str r, .int .u64 u], .int .i64 i, .int .u64 n]) (fun A => .bool (A.tb fun _ => belI false u n i)) fun A hA => ?_
  cbv
  repeat' (first | with_reducible exact True.intro | with_reducible exact dr_ok hA (by kernel_rfl) | with_reducible exact eqv_refl hA _ | with_reducible refine And.intro ?_ ?_ | (intro hc; cbv))
  all_goals (subst hA; simp only [sS] at *)
  all_goals first
    | exact hu
    | exact id
    | (intro h; exact ⟨h, h⟩)
    | (intro h; exact ⟨⟨h, h⟩, hu⟩)
    | (intro h; rw [h]; rfl)
    | (intro h; rw [h]; exact ⟨rfl, rfl⟩)
    | exact (belI_no (of_decide_eq_true hc)).symm
    | exact belI_yes (of_decide_eq_false hc)
    | exact belI_yesS (of_decide_eq_false hc)
    | (have := of_decide_eq_false hc; exact ⟨by omega, by omega, by omega⟩)
    | trace_state
noncomputable def c_bel : Ct := fun A args => match args with
  | [.agg [x, .clo f [], .int .u64 a, .int .u64 b], .agg [.int .u32 s, .str r, .int .u64 u], .int .i64 i, .int .u64 n] => bif isPA x then (bif Nat.beq f 51 then some (some (A.tp fun _ => (a = 0 ∧ b = 0) ∧ (0 ≤ u ∧ u < 18446744073709551616) ∧ 0 ≤ n), .bool (A.tb fun _ => belI true u n i))
      else bif Nat.beq f 52 then some (some (A.tp fun _ => (a = 1 ∧ b = 63) ∧ (0 ≤ u ∧ u < 18446744073709551616) ∧ 0 ≤ n), .bool (A.tb fun _ => belI false u n i)) else none) else none
  | _ => none
theorem c_bel_good {args : List SV} {p : Option Prop} {r : SV} (h : c_bel std args = some (p, r)) (hp : holds p) : GoodP Try.prog gl0 53 args r := by
  unfold c_bel at h
  split at h
  · rename_i x f a b s r u i n
    cases hb : isPA x <;> rw [hb] at h <;> simp only [cond_true, cond_false, reduceCtorEq] at h
    have key : ∀ {l rest : List SV} {r' : SV}, GoodP Try.prog gl0 53 (.agg (.any :: l) :: rest) r' → GoodP Try.prog gl0 53 (.agg (x :: l) :: rest) r' := fun hg => by
      unfold isPA at hb
      split at hb
      · exact good_ptr1 hg
      · exact hg
      · cases hb
    cases hq : Nat.beq f 51 <;> rw [hq] at h <;> simp only [cond_true, cond_false, reduceCtorEq] at h
    · cases hs : Nat.beq f 52 <;> rw [hs] at h <;> simp only [cond_true, cond_false, reduceCtorEq, Option.some.injEq, Prod.mk.injEq] at h
      obtain ⟨rfl, rfl⟩ := h
      obtain rfl := Nat.eq_of_beq_eq_true hs
      obtain ⟨⟨rfl, rfl⟩, h1, h2⟩ := hp
      exact key (good_belS _ _ _ _ _ h1 h2)
    · simp only [Option.some.injEq, Prod.mk.injEq] at h
      obtain ⟨rfl, rfl⟩ := h
      obtain rfl := Nat.eq_of_beq_eq_true hq
      obtain ⟨⟨rfl, rfl⟩, h1, h2⟩ := hp
      exact key (good_belQ _ _ _ _ _ h1 h2)
  · cases h
noncomputable def gw8 : Ar → Pu := addC 53 c_bel gw7
theorem gw8_ok : PuOk Try.prog gl0 (gw8 std) := addC_ok gw7_ok ⟨_, Try.func53, rfl, by decide⟩ fun args p r h hp => c_bel_good h hp
def E64 : Sl := List.replicate 64 []
/-- A new wheel. -/
def okRm (m : Int) : Bool := decide (0 ≤ m ∧ m ≤ 256)
def newN (n m : Int) : Int := if okRm m = true then n else 0
def newM (m : Int) : Int := if okRm m = true then m else 0
def newC (m : Int) : Int := if okRm m = true then 0 else 1
theorem E64_get (i : Nat) : E64.getD i [] = [] := by
  unfold E64
  rw [List.getD_eq_getElem?_getD, List.getElem?_replicate]
  split <;> rfl
theorem E64_eqr : eqrS 64 1 (fun _ _ => SV.nils) (rowF eTs [] std fun _ => E64) := fun i j hi hj => by
  obtain rfl : j = 0 := by omega
  have e : rowF eTs [] std (fun _ => E64) i 0 = rowS eT T0 3 std fun _ => [] := by
    show rowS eT T0 3 std (fun _ => E64.getD i []) = _
    rw [E64_get]
  rw [e]
  exact .nils _ _
theorem good_wNew (n m : Int) : GoodP Try.prog gl0 10 [.int .u64 n, .int .i64 m] (.tup [whS std (std.ti fun _ => newN n m) (std.ti fun _ => newM m) E64 E64, .int .i64 (std.ti fun _ => newC m)]) := by
  refine fn_sound' (T := seatT) (G := gw8) (X := noX) seatT_ok gw8_ok noX_ok noI_ok mixed Try.func10 (.none) (fun A => [.int .u64 n, .int .i64 m]) (fun A => .tup [whS A (A.ti fun _ => newN n m) (A.ti fun _ => newM m) E64 E64, .int .i64 (A.ti fun _ => newC m)]) fun A hA => ?_
  cbv
  repeat' (first | with_reducible exact True.intro | with_reducible exact dr_ok hA (by kernel_rfl) | with_reducible exact eqv_refl hA _ | with_reducible refine And.intro ?_ ?_ | (intro hc; cbv))
  all_goals (subst hA; simp only [sS] at *)
  all_goals first
    | exact E64_eqr
    | (have h1 : okRm m = true := by simpa [okRm] using hc
       first | (unfold newN; rw [if_pos h1]; done) | (unfold newM; rw [if_pos h1]; done) | (unfold newC; rw [if_pos h1]; done))
    | (have h1 : ¬okRm m = true := by
         have hc' : (!okRm m) = true := hc
         rw [Bool.not_eq_true'] at hc'
         rw [hc']; decide
       first | (unfold newN; rw [if_neg h1]; done) | (unfold newM; rw [if_neg h1]; done) | (unfold newC; rw [if_neg h1]; done))
    | trace_state
noncomputable def c_wNew : Ct := fun A args => match args with
  | [.int .u64 n, .int .i64 m] => some (none, .tup [whS A (A.ti fun _ => newN n m) (A.ti fun _ => newM m) E64 E64, .int .i64 (A.ti fun _ => newC m)])
  | _ => none
noncomputable def gw9 : Ar → Pu := addC 10 c_wNew (gw8)
theorem gw9_ok : PuOk Try.prog gl0 (gw9 std) := by
  refine addC_ok (gw8_ok) ⟨_, Try.func10, rfl, by decide⟩ ?_
  · intro args p r h hp
    unfold c_wNew at h
    split at h <;> cases h
    exact good_wNew _ _
end Go.Vd

set_option linter.unusedVariables false
set_option linter.unusedSimpArgs false
set_option maxRecDepth 100000
set_option maxHeartbeats 8000000
namespace Go.Vd
open Go.Proofs
theorem w_succ' {a b : Nat} (h : b = a + 1) (hb : a ≤ 1000000000000) : IntKind.i64.wrap ((a : Int) + 1) = (b : Int) := by
  rw [w64 (by omega)]; omega
theorem nb_t {b : Bool} (h : (!b) = false) : b = true := by cases b <;> simp at h ⊢
theorem nb_f {b : Bool} (h : (!b) = true) : b = false := by cases b <;> simp at h ⊢
theorem run_sv {T : Sl} {f : Nat → Nat → SV} (h : isRow eTs [] 1 64 f) : sv1 (.run 64 f) (.run 64 (rowF eTs [] std fun _ => lstOf eTs [] 1 64 f)) := ⟨_, rfl, h.reps.2⟩
theorem whS_sv {n m : Int} {f g : Nat → Nat → SV} (hf : isRow eTs [] 1 64 f) (hg : isRow eTs [] 1 64 g) : sv2 (.agg [.int .u64 n, .int .i64 m, .run 64 f, .run 64 g]) (whS std n m (lstOf eTs [] 1 64 f) (lstOf eTs [] 1 64 g)) :=
  ⟨_, rfl, rfl, rfl, run_sv (T := []) hf, run_sv (T := []) hg, trivial⟩
def rCloneM (A : Ar) (L : Unit → List Tm) : SV := .frs 58 3 (A.tn fun _ => (L ()).length) (rowF eT T0 A L)
attribute [local irreducible] vc
theorem good_CloneM (L : List Tm) (hL : L.length ≤ 1000000) : GoodP Try.prog gl0 47 [rowS eT T0 3 std fun _ => L] (rCloneM std fun _ => L) := by
  refine fn_sound' (T := seatT) (G := noC) (X := noX) seatT_ok noC_ok noX_ok noI_ok mixed Try.func47 (.fresh 58 3) (fun A => [rowS eT T0 3 A fun _ => L]) (fun A => rCloneM A fun _ => L) fun A hA => ?_
  cbv
  repeat' (first | with_reducible exact True.intro | with_reducible exact dr_ok hA (by kernel_rfl) | with_reducible exact eqv_refl hA _ | with_reducible refine And.intro ?_ ?_ | (intro hc; cbv))
  all_goals (subst hA; simp [sS] at *)
  all_goals first
    | omega
    | (have hq := hc (by assumption); rw [hq]; rfl)
    | (have hq := hc (by assumption); rw [hq]; intro i j hi; exact absurd hi (by simp))
    | (apply eqr_of; (exact (Reps.nil.cat (Reps.lit L)).congr rfl (List.nil_append L)); (first | (simp; done) | omega | rfl); rfl)
    | trace_state
/-- The timers of the first slots, one slot behind the other. -/
def sl (T : Sl) (i : Nat) : List Tm := T.getD i []
def allN (I O : Sl) : Nat → List Tm
  | 0 => []
  | n + 1 => allN I O n ++ (sl I n ++ sl O n)
@[irreducible] def allT (I O : Sl) : List Tm := allN I O 64
theorem allT_eq (I O : Sl) : allT I O = allN I O 64 := by unfold allT; rfl
theorem allN_len (I O : Sl) : ∀ {n m : Nat}, n ≤ m → (allN I O n).length ≤ (allN I O m).length
  | n, 0, h => by obtain rfl : n = 0 := by omega
                  exact Nat.le_refl _
  | n, m + 1, h => by
    rcases Nat.lt_or_ge n (m + 1) with h1 | h1
    · have := allN_len I O (n := n) (m := m) (by omega)
      simp only [allN, List.length_append]
      omega
    · obtain rfl : n = m + 1 := by omega
      exact Nat.le_refl _
def tmQ (t : Tm) : Prop := 0 ≤ t.u ∧ t.u < 18446744073709551616
def whQ (I O : Sl) : Prop := (I.length = 64 ∧ O.length = 64) ∧ ((allT I O).length ≤ 100000 ∧ ∀ t ∈ allT I O, tmQ t)
theorem allN_at {I O : Sl} {i n : Nat} (h : i < n) : (sl I i).length + (sl O i).length + (allN I O i).length ≤ (allN I O n).length := by
  have := allN_len I O (n := i + 1) (m := n) (by omega)
  simp only [allN, List.length_append] at this
  omega
theorem wh_at {I O : Sl} (h : whQ I O) {i : Nat} (hi : i < 64) : (sl I i).length + (sl O i).length + (allN I O i).length ≤ 100000 := by have h1 := h.2.1; rw [allT_eq] at h1; exact Nat.le_trans (allN_at hi) h1
theorem mem_allN {I O : Sl} {t : Tm} : ∀ {n : Nat}, t ∈ allN I O n ↔ ∃ i, i < n ∧ (t ∈ sl I i ∨ t ∈ sl O i)
  | 0 => by simp [allN]
  | n + 1 => by
    simp only [allN, List.mem_append, mem_allN (n := n)]
    constructor
    · rintro (⟨i, hi, h⟩ | h)
      · exact ⟨i, by omega, h⟩
      · exact ⟨n, by omega, h⟩
    · rintro ⟨i, hi, h⟩
      rcases Nat.lt_or_ge i n with h1 | h1
      · exact .inl ⟨i, h1, h⟩
      · obtain rfl : i = n := by omega
        exact .inr h
noncomputable def c_CloneM : Ct := fun A args => match args with
  | [.slc n 3 f] => some (some (A.tp fun _ => isRow eT T0 3 n f ∧ n ≤ 1000000), rCloneM A fun _ => lstOf eT T0 3 n f)
  | _ => none
noncomputable def gwa : Ar → Pu := addC 47 c_CloneM (gw9)
theorem gwa_ok : PuOk Try.prog gl0 (gwa std) := by
  refine addC_ok (gw9_ok) ⟨_, Try.func47, rfl, by decide⟩ ?_
  · intro args p r h hp
    unfold c_CloneM at h
    split at h <;> cases h
    exact good_sv (good_CloneM _ (by rw [lstOf_length hp.1]; exact hp.2)) ⟨hp.1.sv, trivial⟩
theorem good_wAll (n m : Int) (I O : Sl) (hQ : whQ I O) : GoodP Try.prog gl0 27 [whS std n m I O] (rCloneM std fun _ => allT I O) := by
  refine fn_sound' (T := seatT) (G := noC) (X := noX) seatT_ok noC_ok noX_ok noI_ok mixed Try.func27 (.fresh 58 3) (fun A => [whS A n m I O]) (fun A => rCloneM A fun _ => allT I O) fun A hA => ?_
  cbv
  repeat' (first | with_reducible exact True.intro | with_reducible exact dr_ok hA (by kernel_rfl) | with_reducible exact eqv_refl hA _ | with_reducible refine And.intro ?_ ?_ | (intro hc; cbv))
  refine ⟨⟨{p : Nat × List Tm // p.1 ≤ 64 ∧ p.2 = allN I O p.1}, fun b p => [(3, .own b), (5, .int .i64 (p.1.1 : Nat))], fun b p => [(b, .row 58 3 (A.tn fun _ => p.1.2.length) (rowF eT T0 A fun _ => p.1.2))], fun p => 64 - p.1.1, true⟩, ⟨⟨(0, []), Nat.zero_le _, rfl⟩, ?_⟩, ?_⟩
  · cbv
    subst hA
    simp [-List.getD_eq_getElem?_getD, sS]
  · rintro ⟨⟨i, M⟩, hx⟩
    have hi : i ≤ 64 := hx.1
    have hM : M = allN I O i := hx.2
    rcases Nat.lt_or_ge i 64 with hlt | hge
    · have hb := wh_at hQ hlt
      rw [← hM] at hb
      obtain ⟨i', hi'⟩ : ∃ i', i' = i + 1 := ⟨_, rfl⟩
      obtain ⟨L1, hL1⟩ : ∃ L1, L1 = sl I i := ⟨_, rfl⟩
      obtain ⟨L2, hL2⟩ : ∃ L2, L2 = sl O i := ⟨_, rfl⟩
      rw [← hL1, ← hL2] at hb
      have e1 : I.getD i [] = L1 := hL1.symm
      have e2 : O.getD i [] = L2 := hL2.symm
      obtain ⟨M', hM'⟩ : ∃ M', M' = M ++ (L1 ++ L2) := ⟨_, rfl⟩
      have hMM : M' = allN I O i' := by rw [hM', hi', hM, hL1, hL2]; rfl
      cbv
      repeat' (first | with_reducible exact True.intro | with_reducible exact dr_ok hA (by kernel_rfl) | with_reducible exact eqv_refl hA _ | with_reducible refine And.intro ?_ ?_ | (intro hc; cbv))
      all_goals first
        | (fail_if_success (refine Exists.intro ?_ ?_)
           subst hA
           simp only [sS, Int.ofNat_eq_natCast, Int.toNat_natCast, e1, e2] at *
           first
             | exact ⟨by omega, by omega⟩
             | omega)
        | (exfalso
           subst hA
           simp only [sS, Int.ofNat_eq_natCast, Int.toNat_natCast] at *
           have := of_decide_eq_false hc
           omega)
        | (refine ⟨⟨(i', M'), by show i' ≤ 64; omega, hMM⟩, ?_, show 64 - i' < 64 - i by omega⟩
           cbv
           subst hA
           simp [-List.getD_eq_getElem?_getD, sS, e1, e2]
           refine ⟨w_succ' hi' (by omega), ?_, ?_⟩
           · rw [hM']; simp; omega
           · exact eqr_of (((Reps.lit M).cat (Reps.lit L1)).cat (Reps.lit L2)) (by rw [hM']; simp; omega) (by rw [hM', List.append_assoc]))
        | trace_state
    · have hie : i = 64 := by omega
      subst hie
      cbv
      repeat' (first | with_reducible exact True.intro | with_reducible exact dr_ok hA (by kernel_rfl) | with_reducible exact eqv_refl hA _ | with_reducible refine And.intro ?_ ?_ | (intro hc; cbv))
      all_goals first
        | (exfalso
           subst hA
           simp only [sS, Int.ofNat_eq_natCast, Int.toNat_natCast] at *
           have hq : decide ((64 : Int) < 64) = true := by assumption
           have := of_decide_eq_true hq
           omega)
        | (subst hA
           simp only [sS]
           rw [hM, ← allT_eq]
           first
             | done
             | exact (Reps.lit _).eqr)
        | trace_state
noncomputable def c_wAll : Ct := fun A args => match args with
  | [.agg [.int .u64 n, .int .i64 m, .run 64 f, .run 64 g]] => some (some (A.tp fun _ => (isRow eTs [] 1 64 f ∧ isRow eTs [] 1 64 g) ∧ whQ (lstOf eTs [] 1 64 f) (lstOf eTs [] 1 64 g)), rCloneM A fun _ => allT (lstOf eTs [] 1 64 f) (lstOf eTs [] 1 64 g))
  | _ => none
noncomputable def gwb : Ar → Pu := addC 27 c_wAll (gwa)
theorem gwb_ok : PuOk Try.prog gl0 (gwb std) := by
  refine addC_ok (gwa_ok) ⟨_, Try.func27, rfl, by decide⟩ ?_
  · intro args p r h hp
    unfold c_wAll at h
    split at h <;> cases h
    exact good_sv (good_wAll _ _ _ _ hp.2) ⟨whS_sv hp.1.1 hp.1.2, trivial⟩
end Go.Vd

