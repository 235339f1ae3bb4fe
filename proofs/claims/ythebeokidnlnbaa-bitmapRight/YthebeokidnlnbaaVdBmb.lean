/- The reference's functions of the bitmap: bits. -/
import Derived.Test.YthebeokidnlnbaaVdBma
set_option linter.unusedVariables false
set_option linter.unusedSimpArgs false
set_option maxRecDepth 100000
set_option maxHeartbeats 1000000
namespace Go.Vd
open Go.Proofs
theorem good24 (n : Int) : GoodP Try.prog gl0 24 [.int .i64 n] (r22 std n) := by
  refine fn_sound' (T := seatT) (G := noC) (X := noX) seatT_ok noC_ok noX_ok noI_ok mixed Try.func24 .one (fun A => [.int .i64 n]) (fun A => r22 A n) fun A hA => ?_
  cbv
  repeat with_reducible refine And.intro (dr_ok hA (by kernel_rfl)) ?_
  subst hA
  simp [std, bfield]
  rw [Bool.eq_iff_iff]
  simp
  omega
def bbit (h l : Nat) (n : Int) : Bool := if n ≤ 64 then h.testBit (64 - n).toNat else l.testBit (128 - n).toNat
def r25 (A : Ar) (h l n : Int) : SV := .bool (A.tb fun _ => bbit h.toNat l.toNat n)
theorem quo2 (a : Nat) (ha : a < 18446744073709551616) : IntKind.u64.wrap ((a : Int).tdiv 2) = ((a / 2 : Nat) : Int) := by
  rw [show ((a : Int).tdiv 2) = ((a / 2 : Nat) : Int) from rfl, wu64 ⟨by omega, by omega⟩]
theorem rem2 (a : Nat) : ((a : Int).tmod 2 == 1) = decide (a % 2 = 1) := by
  rw [show ((a : Int).tmod 2) = ((a % 2 : Nat) : Int) from rfl]
  by_cases h : a % 2 = 1
  · simp [h]
  · have : a % 2 = 0 := by omega
    simp [this]
theorem good25 {h l : Int} (n : Int) (hh : r64 h) (hl : r64 l) (h1 : 1 ≤ n) (h2 : n ≤ 128) : GoodP Try.prog gl0 25 [.agg [.int .u64 h, .int .u64 l], .int .i64 n] (r25 std h l n) := by
  obtain ⟨h, rfl, lh⟩ := r64_nat hh
  obtain ⟨l, rfl, ll⟩ := r64_nat hl
  refine fn_sound' (T := seatT) (G := noC) (X := noX) seatT_ok noC_ok noX_ok noI_ok mixed Try.func25 .one (fun A => [.agg [.int .u64 h, .int .u64 l], .int .i64 n]) (fun A => r25 A h l n) fun A hA => ?_
  cbv
  repeat' (first | with_reducible exact True.intro | with_reducible exact dr_ok hA (by kernel_rfl) | with_reducible refine And.intro ?_ ?_ | (intro hc; cbv))
  · have hn : 64 < n := by subst hA; simp [std] at hc; omega
    refine ⟨⟨{k : Nat // k ≤ (128 - n).toNat}, fun _ k => [(5, .int .u64 (A.ti fun _ => (l / 2 ^ k.1 : Nat))), (6, .int .i64 (A.ti fun _ => n - 64 + Int.ofNat k.1))], fun _ _ => [], fun k => (128 - n).toNat - k.1, true⟩, ⟨⟨0, by omega⟩, ?_⟩, ?_⟩
    · cbv
      subst hA
      simp [std]
      rw [w64 (by omega)]
    · rintro ⟨k, hk⟩
      cbv
      repeat' (first | with_reducible exact True.intro | with_reducible exact dr_ok hA (by kernel_rfl) | with_reducible refine And.intro ?_ ?_ | (intro hc; cbv))
      all_goals try (subst hA; simp [std]; done)
      · have hlt : k < (128 - n).toNat := by subst hA; simp [std] at hc; omega
        refine ⟨⟨k + 1, by omega⟩, ?_, show (128 - n).toNat - (k + 1) < (128 - n).toNat - k by omega⟩
        cbv
        repeat' (first | with_reducible exact True.intro | with_reducible exact dr_ok hA (by kernel_rfl) | with_reducible refine And.intro ?_ ?_)
        all_goals (subst hA; simp only [std])
        · have := quo2 (l / 2 ^ k) (Nat.lt_of_le_of_lt (Nat.div_le_self _ _) ll)
          rw [Nat.div_div_eq_div_mul, ← Nat.pow_succ] at this
          exact this
        · rw [w64 (by simp only [Int.ofNat_eq_natCast]; omega)]
          show n - 64 + Int.ofNat k + 1 = n - 64 + Int.ofNat (k + 1)
          simp only [Int.ofNat_eq_natCast]
          omega
      · have hk8 : k = (128 - n).toNat := by subst hA; simp [std] at hc; omega
        subst hA
        simp only [std]
        have := rem2 (l / 2 ^ k)
        show (((l / 2 ^ k : Nat) : Int).tmod 2 == 1) = bbit h l n
        rw [this, bbit, if_neg (by omega), ← hk8, Nat.testBit_eq_decide_div_mod_eq]
  · have hn : n ≤ 64 := by subst hA; simp [std] at hc; omega
    refine ⟨⟨{k : Nat // k ≤ (64 - n).toNat}, fun _ k => [(5, .int .u64 (A.ti fun _ => (h / 2 ^ k.1 : Nat))), (6, .int .i64 (A.ti fun _ => n + Int.ofNat k.1))], fun _ _ => [], fun k => (64 - n).toNat - k.1, true⟩, ⟨⟨0, by omega⟩, ?_⟩, ?_⟩
    · cbv
      subst hA
      simp [std]
    · rintro ⟨k, hk⟩
      cbv
      repeat' (first | with_reducible exact True.intro | with_reducible exact dr_ok hA (by kernel_rfl) | with_reducible refine And.intro ?_ ?_ | (intro hc; cbv))
      all_goals try (subst hA; simp [std]; done)
      · have hlt : k < (64 - n).toNat := by subst hA; simp [std] at hc; omega
        refine ⟨⟨k + 1, by omega⟩, ?_, show (64 - n).toNat - (k + 1) < (64 - n).toNat - k by omega⟩
        cbv
        repeat' (first | with_reducible exact True.intro | with_reducible exact dr_ok hA (by kernel_rfl) | with_reducible refine And.intro ?_ ?_)
        all_goals (subst hA; simp only [std])
        · have := quo2 (h / 2 ^ k) (Nat.lt_of_le_of_lt (Nat.div_le_self _ _) lh)
          rw [Nat.div_div_eq_div_mul, ← Nat.pow_succ] at this
          exact this
        · rw [w64 (by simp only [Int.ofNat_eq_natCast]; omega)]
          show n + Int.ofNat k + 1 = n + Int.ofNat (k + 1)
          simp only [Int.ofNat_eq_natCast]
          omega
      · have hk8 : k = (64 - n).toNat := by subst hA; simp [std] at hc; omega
        subst hA
        simp only [std]
        have := rem2 (h / 2 ^ k)
        show (((h / 2 ^ k : Nat) : Int).tmod 2 == 1) = bbit h l n
        rw [this, bbit, if_pos (by omega), ← hk8, Nat.testBit_eq_decide_div_mod_eq]
def r26 (A : Ar) (n : Int) : SV := .int .u64 (A.ti fun _ => (2 ^ n.toNat : Nat))
theorem good26 (n : Int) (h1 : 0 ≤ n) (h2 : n ≤ 63) : GoodP Try.prog gl0 26 [.int .i64 n] (r26 std n) := by
  refine fn_sound' (T := seatT) (G := noC) (X := noX) seatT_ok noC_ok noX_ok noI_ok mixed Try.func26 .one (fun A => [.int .i64 n]) (fun A => r26 A n) fun A hA => ?_
  cbv
  refine ⟨⟨{k : Nat // k ≤ n.toNat}, fun _ k => [(3, .int .u64 (A.ti fun _ => (2 ^ k.1 : Nat))), (4, .int .i64 (k.1 : Nat))], fun _ _ => [], fun k => n.toNat - k.1, true⟩, ⟨⟨0, by omega⟩, ?_⟩, ?_⟩
  · cbv
    subst hA
    simp [std]
  · rintro ⟨k, hk⟩
    cbv
    repeat' (first | with_reducible exact True.intro | with_reducible exact dr_ok hA (by kernel_rfl) | with_reducible refine And.intro ?_ ?_ | (intro hc; cbv))
    · have hlt : k < n.toNat := by subst hA; simp [std] at hc; omega
      refine ⟨⟨k + 1, by omega⟩, ?_, show n.toNat - (k + 1) < n.toNat - k by omega⟩
      cbv
      repeat' (first | with_reducible exact True.intro | with_reducible exact dr_ok hA (by kernel_rfl) | with_reducible refine And.intro ?_ ?_)
      all_goals (subst hA; simp only [std])
      · have := pow_lt64 (show k + 1 ≤ 63 by omega)
        show IntKind.u64.wrap (2 * ((2 ^ k : Nat) : Int)) = ((2 ^ (k + 1) : Nat) : Int)
        rw [Nat.pow_succ] at this ⊢
        rw [wu64 ⟨by omega, by omega⟩]
        omega
      · show IntKind.i64.wrap ((k : Int) + 1) = ((k + 1 : Nat) : Int)
        rw [w64 (by omega)]
        omega
    · have hk8 : k = n.toNat := by subst hA; simp [std] at hc; omega
      subst hA hk8
      simp only [std]
end Go.Vd
