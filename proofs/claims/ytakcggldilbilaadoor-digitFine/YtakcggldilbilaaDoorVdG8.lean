/- DigitBack's answer. -/
import Derived.Test.YtakcggldilbilaaDoorVdG7
import Derived.Test.YtakcggldilbilaaDoorVdKM
set_option linter.unusedVariables false
set_option linter.unusedSimpArgs false
set_option maxRecDepth 100000
set_option maxHeartbeats 2000000
namespace Go.Vd
open Go.Proofs
def kOf (n : Int) : Nat := n.toNat % 19 + 1
theorem kOf_eq {n : Int} (h : 0 ≤ n ∧ n < 256) : IntKind.i64.wrap ((IntKind.i64.wrap n).tmod 19 + 1) = (kOf n : Int) := by
  rw [w64 (n := n) (by omega), Int.tmod_eq_emod_of_nonneg h.1, w64 (by omega)]
  unfold kOf
  omega
theorem kOf_le (n : Int) : 1 ≤ kOf n ∧ kOf n ≤ 19 := by unfold kOf; omega
theorem p19' {k : Nat} (h : k ≤ 19) : 10 ^ k ≤ 10000000000000000000 := p19 h
theorem pu_ok {v : Int} {k : Nat} (hv : 0 ≤ v) (hk : 1 ≤ k ∧ k ≤ 19) (h : puE v k = 0) : puS v k = decs k v.toNat ∧ v.toNat < 10 ^ k := by
  have h1 : ¬((k : Int) < 1 ∨ 19 < (k : Int)) := by omega
  by_cases h2 : 10 ^ (k : Int).toNat ≤ v.toNat
  · rw [(pu2 h1 h2).2] at h; omega
  · rw [(pu3 h1 h2).1, Int.toNat_natCast]
    rw [Int.toNat_natCast] at h2
    exact ⟨rfl, by omega⟩
theorem get_decs {k V : Nat} (hk : 1 ≤ k ∧ k ≤ 19) (h : V < 10 ^ k) : gErr (decs k V) = 0 ∧ gVal (decs k V) = V := by
  have h1 := gE3 (L := decs k V) (by rw [decs_len]; omega) (decs_is hk.1)
  rw [h1.2, dVal_decs, Nat.mod_eq_of_lt h]
  exact ⟨h1.1, rfl⟩
theorem get_no {L : List UInt8} (h : ¬gErr L = 0) : gVal L = 0 := by
  by_cases h0 : L = []
  · exact (gE0 h0).2
  · by_cases h1 : 19 < L.length
    · exact (gE1 h0 h1).2
    · cases h2 : isD L
      · exact (gE2 h0 h1 h2).2
      · exact absurd (gE3 h1 h2).1 h
theorem get_yes {L : List UInt8} (h : gErr L = 0) : isD L = true ∧ 1 ≤ L.length ∧ L.length ≤ 19 ∧ gVal L = dVal L ∧ dVal L < 10 ^ L.length := by
  by_cases h0 : L = []
  · rw [(gE0 h0).1] at h; omega
  · by_cases h1 : 19 < L.length
    · rw [(gE1 h0 h1).1] at h; omega
    · cases h2 : isD L
      · rw [(gE2 h0 h1 h2).1] at h; omega
      · have := List.length_pos_iff.2 h0
        exact ⟨rfl, this, by omega, (gE3 h1 h2).2, dVal_lt L (isD_iff.1 h2).2⟩
theorem get_put {L : List UInt8} (h : gErr L = 0) : puE (gVal L : Int) (L.length : Int) = 0 ∧ puS (gVal L : Int) (L.length : Int) = L := by
  obtain ⟨h1, h2, h3, h4, h5⟩ := get_yes h
  have h6 := pu3 (v := (gVal L : Int)) (n := (L.length : Int)) (by omega) (by rw [Int.toNat_natCast, Int.toNat_natCast, h4]; omega)
  rw [h6.1, h6.2, Int.toNat_natCast, Int.toNat_natCast, h4, decs_dVal L (isD_iff.1 h1).2]
  exact ⟨rfl, rfl⟩
theorem get_lt (L : List UInt8) : gVal L < 18446744073709551616 := by
  by_cases h : gErr L = 0
  · obtain ⟨h1, h2, h3, h4, h5⟩ := get_yes h
    have := p19 h3
    omega
  · rw [get_no h]; omega
theorem get_put_pre {L : List UInt8} (h : gErr L = 0) : ((gVal L : Nat) : Int) < 18446744073709551616 ∧ ((L.length : Nat) : Int) < 9223372036854775808 := by
  have h1 := get_lt L
  have h2 := get_yes h
  exact ⟨by omega, by omega⟩
theorem put_lt {v w : Int} (hv : 0 ≤ v) (hw : 0 ≤ w) {k : Nat} (hk : 1 ≤ k ∧ k ≤ 19) (h : puE v k = 0) (h' : puE w k = 0) : Op.bytesLess (puS v k) (puS w k) = decide (v < w) := by
  obtain ⟨e1, l1⟩ := pu_ok hv hk h
  obtain ⟨e2, l2⟩ := pu_ok hw hk h'
  rw [bytesLess_eq, e1, e2, decide_eq_decide, decs_lt l1 l2]
  omega
theorem pu_all {v : Int} {k : Nat} (hv : 0 ≤ v) (hk : 1 ≤ k ∧ k ≤ 19) (h : puE v k = 0) : gErr (puS v k) = 0 ∧ ((gVal (puS v k) : Nat) : Int) = v ∧ (puS v k).length = k ∧ isD (puS v k) = true := by
  obtain ⟨e1, l1⟩ := pu_ok hv hk h
  obtain ⟨h1, h2⟩ := get_decs hk l1
  rw [e1, h1, h2, decs_len]
  exact ⟨rfl, by omega, rfl, decs_is hk.1⟩
end Go.Vd
