/- Numbers and bits, as the conditions ask for them. -/
import Derived.Test.YtjgfkbmplgiinaaDoorVdSeat
import Derived.Laws.Bits64b
set_option linter.unusedVariables false
set_option linter.unusedSimpArgs false
namespace Go.Vd

def r64 (x : Int) : Prop := 0 ≤ x ∧ x < 18446744073709551616
theorem r64_nat {x : Int} (h : r64 x) : ∃ n : Nat, x = n ∧ n < 18446744073709551616 := ⟨x.toNat, by have := h.1; omega, by have := h.1; have := h.2; omega⟩
theorem r64_of {n : Nat} (h : n < 18446744073709551616) : r64 (n : Int) := ⟨by omega, by omega⟩
theorem w64 {n : Int} (h : -9223372036854775808 ≤ n ∧ n ≤ 9223372036854775807) : IntKind.i64.wrap n = n := by rw [IntKind.wrap_i64]; omega
theorem wu64 {n : Int} (h : r64 n) : IntKind.u64.wrap n = n := by
  have h1 := h.1
  have h2 := h.2
  simp only [IntKind.wrap, IntKind.signed, IntKind.bits, Bool.false_and, Bool.false_eq_true, if_false]
  exact Int.emod_eq_of_lt h1 h2
theorem pow_lt64 {k : Nat} (h : k ≤ 63) : 2 ^ k < 18446744073709551616 := Nat.lt_of_le_of_lt (Nat.pow_le_pow_right (by decide) h) (by decide)
theorem shl1 {k : Nat} (h : k ≤ 63) : IntKind.u64.wrap (1 * 2 ^ k) = ((2 ^ k : Nat) : Int) := by
  have e : (1 * 2 ^ k : Int) = ((2 ^ k : Nat) : Int) := by simp
  rw [e, wu64 (r64_of (pow_lt64 h))]
theorem band_pow {h k : Nat} : ((h &&& 2 ^ k : Nat) = 0) ↔ h.testBit k = false := by
  constructor
  · intro e
    have := congrArg (·.testBit k) e
    simp only [Nat.testBit_and, Nat.testBit_two_pow_self, Bool.and_true, Nat.zero_testBit] at this
    exact this
  · intro e
    apply Nat.eq_of_testBit_eq
    intro i
    rw [Nat.testBit_and, Nat.testBit_two_pow]
    by_cases hi : k = i
    · subst hi; simp [e]
    · simp [hi]
theorem band_top {h : Nat} : ((h &&& 9223372036854775808 : Nat) = 0) ↔ h.testBit 63 = false := band_pow (k := 63)

/-! ### Rows of bytes and of numbers -/
def toI : SV → Int
  | .int _ n => n
  | _ => 0
/-- A row of bytes; of numbers. -/
def bsF (A : Ar) (L : Unit → List UInt8) : Nat → Nat → SV := fun i _ => .int .u8 (A.ti fun _ => ((L ()).getD i 0).toNat)
def zsF (A : Ar) (L : Unit → List Int) : Nat → Nat → SV := fun i _ => .int .i64 (A.ti fun _ => (L ()).getD i 0)
def bsS (A : Ar) (L : Unit → List UInt8) : SV := .slc (A.tn fun _ => (L ()).length) 1 (bsF A L)
def zsS (A : Ar) (L : Unit → List Int) : SV := .slc (A.tn fun _ => (L ()).length) 1 (zsF A L)
def isBs (n : Nat) (f : Nat → Nat → SV) : Prop := ∀ i, i < n → ∃ b : UInt8, f i 0 = .int .u8 (b.toNat : Int)
def isZs (n : Nat) (f : Nat → Nat → SV) : Prop := ∀ i, i < n → ∃ z : Int, f i 0 = .int .i64 z
def bsL (n : Nat) (f : Nat → Nat → SV) : List UInt8 := (List.range n).map fun i => UInt8.ofNat (toI (f i 0)).toNat
def zsL (n : Nat) (f : Nat → Nat → SV) : List Int := (List.range n).map fun i => toI (f i 0)
theorem bsL_length (n : Nat) (f : Nat → Nat → SV) : (bsL n f).length = n := by simp [bsL]
theorem zsL_length (n : Nat) (f : Nat → Nat → SV) : (zsL n f).length = n := by simp [zsL]
theorem bs_sv {n : Nat} {f : Nat → Nat → SV} (h : isBs n f) : sv1 (.slc n 1 f) (bsS std fun _ => bsL n f) := by
  refine ⟨bsF std fun _ => bsL n f, ?_, fun i j hi hj => ?_⟩
  · show SV.slc (bsL n f).length 1 _ = _
    rw [bsL_length]
  · obtain rfl : j = 0 := by omega
    obtain ⟨b, hb⟩ := h i hi
    rw [hb]
    refine .of_eq ?_
    show SV.int .u8 _ = SV.int .u8 (((bsL n f).getD i 0).toNat : Int)
    have : (bsL n f).getD i 0 = b := by
      simp [bsL, List.getD_eq_getElem?_getD, hi, hb, toI]
    rw [this]
theorem zs_sv {n : Nat} {f : Nat → Nat → SV} (h : isZs n f) : sv1 (.slc n 1 f) (zsS std fun _ => zsL n f) := by
  refine ⟨zsF std fun _ => zsL n f, ?_, fun i j hi hj => ?_⟩
  · show SV.slc (zsL n f).length 1 _ = _
    rw [zsL_length]
  · obtain rfl : j = 0 := by omega
    obtain ⟨b, hb⟩ := h i hi
    rw [hb]
    refine .of_eq ?_
    show SV.int .i64 _ = SV.int .i64 ((zsL n f).getD i 0)
    have : (zsL n f).getD i 0 = b := by
      simp [zsL, List.getD_eq_getElem?_getD, hi, hb, toI]
    rw [this]
theorem bsL_bsF (L : List UInt8) : bsL L.length (bsF std fun _ => L) = L := by
  apply List.ext_getElem
  · simp [bsL]
  · intro i h1 h2
    simp [bsL, bsF, toI, std, catS, lstS, isBS, rsetS, rcopyS, shiftS, eqrS, strOfS, bytesOfS, List.getD_eq_getElem?_getD, h2]
theorem zsL_zsF (L : List Int) : zsL L.length (zsF std fun _ => L) = L := by
  apply List.ext_getElem
  · simp [zsL]
  · intro i h1 h2
    simp [zsL, zsF, toI, std, catS, lstS, isBS, rsetS, rcopyS, shiftS, eqrS, strOfS, bytesOfS, List.getD_eq_getElem?_getD, h2]
theorem isBs_bsF (L : List UInt8) (n : Nat) : isBs n (bsF std fun _ => L) := fun i hi => ⟨L.getD i 0, rfl⟩
theorem isZs_zsF (L : List Int) (n : Nat) : isZs n (zsF std fun _ => L) := fun i hi => ⟨_, rfl⟩
/-- One number more. -/
theorem snoc_z (L : List Int) (x : Int) : ∀ i, i < L.length + 1 → (if i < L.length then SV.int .i64 (L[i]?.getD 0) else getAt ([[SV.int .i64 x]][i - L.length]?.getD []) 0) = SV.int .i64 ((L ++ [x])[i]?.getD 0) := by
  intro i hi
  rw [List.getElem?_append]
  split
  · rfl
  · rw [show i - L.length = 0 by omega]; rfl
theorem snoc_b (L : List UInt8) (x : UInt8) (z : Int) (hz : z = x.toNat) : ∀ i, i < L.length + 1 → (if i < L.length then SV.int .u8 ((L[i]?.getD 0).toNat : Int) else getAt ([[SV.int .u8 z]][i - L.length]?.getD []) 0) = SV.int .u8 (((L ++ [x])[i]?.getD 0).toNat : Int) := by
  intro i hi
  subst hz
  rw [List.getElem?_append]
  split
  · rfl
  · rw [show i - L.length = 0 by omega]; rfl
end Go.Vd

