/- The reference's functions of the bitmap: bytes and back. -/
import Derived.Test.YthebeokidnlnbaaVdBmd
set_option linter.unusedVariables false
set_option linter.unusedSimpArgs false
set_option maxRecDepth 100000
set_option maxHeartbeats 1000000
namespace Go.Vd
open Go.Proofs
theorem good32 (L : List UInt8) (hn : 8 ≤ L.length) : GoodP Try.prog gl0 32 [bsS std fun _ => L] (r31 std fun _ => L) := by
  refine fn_sound' (T := seatT) (G := noC) (X := noX) seatT_ok noC_ok noX_ok noI_ok mixed Try.func32 .one (fun A => [bsS A fun _ => L]) (fun A => r31 A fun _ => L) fun A hA => ?_
  cbv
  refine ⟨⟨{k : Nat // k ≤ 8}, fun _ k => [(3, .int .u64 (A.ti fun _ => numTo L k.1)), (4, .int .i64 (k.1 : Nat))], fun _ _ => [], fun k => 8 - k.1, true⟩, ⟨⟨0, by omega⟩, ?_⟩, ?_⟩
  · cbv
    subst hA
    simp [std, numTo]
  · rintro ⟨k, hk⟩
    cbv
    repeat' (first | with_reducible exact True.intro | with_reducible exact dr_ok hA (by kernel_rfl) | with_reducible refine And.intro ?_ ?_ | (intro hc; cbv))
    · subst hA; simp [std] at hc ⊢; omega
    · have hlt : k < 8 := by subst hA; simp [std] at hc; omega
      refine ⟨⟨k + 1, by omega⟩, ?_, show 8 - (k + 1) < 8 - k by omega⟩
      cbv
      repeat' (first | with_reducible exact True.intro | with_reducible exact dr_ok hA (by kernel_rfl) | with_reducible refine And.intro ?_ ?_)
      all_goals (subst hA; simp [std])
      · have h1 := numTo_lt L k (by omega)
        have h3 : 256 ^ k * 256 ≤ 256 ^ 8 := by rw [← Nat.pow_succ]; exact Nat.pow_le_pow_right (by decide) hlt
        have hs := numTo_succ L k (by omega)
        rw [List.getD_eq_getElem?_getD] at hs
        have hb := UInt8.toNat_lt (L[k]?.getD 0)
        generalize (L[k]?.getD 0).toNat = b at hs hb
        rw [wu64 (n := (b : Int)) ⟨by omega, by omega⟩, wu64 (n := 256 * (numTo L k : Int)) ⟨by omega, by omega⟩, wu64 ⟨by omega, by omega⟩, hs]
        show 256 * (numTo L k : Int) + (b : Int) = ((numTo L k * 256 + b : Nat) : Int)
        omega
      · rw [w64 (by omega)]
    · have : k = 8 := by subst hA; simp [std] at hc; omega
      subst hA this
      simp [std]
def beFrom (v k : Nat) : List UInt8 := (List.range 8).map fun i => if 8 - k ≤ i then byteAt v i else 0
theorem beFrom_get (v k i : Nat) (h : i < 8) : (beFrom v k)[i]?.getD 0 = if 8 - k ≤ i then byteAt v i else 0 := by simp [beFrom, h]
theorem beFrom_all (v : Nat) : beFrom v 8 = be8 v := by simp [beFrom, be8]
def r30 (A : Ar) (v : Int) : SV := .frs 5 1 8 (bsF A fun _ => be8 v.toNat)
theorem good30 {v : Int} (hv : r64 v) : GoodP Try.prog gl0 30 [.int .u64 v] (r30 std v) := by
  obtain ⟨v, rfl, lv⟩ := r64_nat hv
  refine fn_sound' (T := seatT) (G := noC) (X := noX) seatT_ok noC_ok noX_ok noI_ok mixed Try.func30 .one (fun A => [.int .u64 v]) (fun A => r30 A v) fun A hA => ?_
  cbv
  repeat' (first | with_reducible exact True.intro | with_reducible exact dr_ok hA (by kernel_rfl) | with_reducible refine And.intro ?_ ?_ | (intro hc; cbv))
  · subst hA; simp [std]
  · refine ⟨⟨{k : Nat // k ≤ 8}, fun b k => [(0, .int .u64 (A.ti fun _ => (v / 256 ^ k.1 : Nat))), (3, .own 1), (4, .int .i64 (A.ti fun _ => 7 - Int.ofNat k.1))], fun b k => [(1, .row 5 1 8 (bsF A fun _ => beFrom v k.1))], fun k => 8 - k.1, true⟩, ⟨⟨0, by omega⟩, ?_⟩, ?_⟩
    · cbv
      repeat' (first | with_reducible exact True.intro | with_reducible exact dr_ok hA (by kernel_rfl) | with_reducible refine And.intro ?_ ?_)
      all_goals (subst hA; simp [std, bsF])
      intro i hi
      rw [beFrom_get v 0 i hi, if_neg (by omega)]
      rfl
    · rintro ⟨k, hk⟩
      cbv
      repeat' (first | with_reducible exact True.intro | with_reducible exact dr_ok hA (by kernel_rfl) | with_reducible refine And.intro ?_ ?_ | (intro hc; cbv))
      all_goals try (subst hA; simp [std]; done)
      all_goals try (subst hA; simp [std] at hc ⊢; omega)
      · have hlt : k < 8 := by subst hA; simp [std] at hc; omega
        refine ⟨⟨k + 1, by omega⟩, ?_, show 8 - (k + 1) < 8 - k by omega⟩
        cbv
        repeat' (first | with_reducible exact True.intro | with_reducible exact dr_ok hA (by kernel_rfl) | with_reducible refine And.intro ?_ ?_)
        all_goals (subst hA; simp [std, bsF])
        · rw [show (v : Int) / 256 ^ (k + 1) = ((v / 256 ^ (k + 1) : Nat) : Int) by simp, show (v : Int) / 256 ^ k = ((v / 256 ^ k : Nat) : Int) by simp, show ((v / 256 ^ k : Nat) : Int).tdiv 256 = ((v / 256 ^ k / 256 : Nat) : Int) from rfl, Nat.div_div_eq_div_mul, ← Nat.pow_succ]
          have := Nat.lt_of_le_of_lt (Nat.div_le_self v (256 ^ (k + 1))) lv
          generalize v / 256 ^ (k + 1) = m at this ⊢
          exact wu64 ⟨by omega, by omega⟩
        · rw [w64 (by omega)]; omega
        · intro i hi
          by_cases e : i = 7 - k
          · rw [if_pos e, beFrom_get _ _ _ hi, if_pos (by omega), byteAt_nat, show 7 - i = k by omega, show (v : Int) / 256 ^ k = ((v / 256 ^ k : Nat) : Int) by simp, show ((v / 256 ^ k : Nat) : Int).tmod 256 = ((v / 256 ^ k % 256 : Nat) : Int) from rfl, wu8, Nat.mod_mod]
            rfl
          · rw [if_neg e, beFrom_get _ _ _ hi, beFrom_get _ _ _ hi]
            by_cases h2 : 8 - k ≤ i
            · rw [if_pos h2, if_pos (by omega)]
            · rw [if_neg h2, if_neg (by omega)]
      all_goals (have : k = 8 := by subst hA; simp [std] at hc; omega)
      all_goals (subst hA this; simp [std, bsF, beFrom_all])
def c30 : Ct := fun A args => match args with
  | [.int .u64 v] => some (some (A.tp fun _ => r64 v), r30 A v)
  | _ => none
def ga : Ar → Pu := addC 30 c30 (addC 32 c31 g9)
theorem ga_ok : PuOk Try.prog gl0 (ga std) := by
  refine addC_ok (addC_ok g9_ok ⟨_, Try.func32, rfl, by decide⟩ ?_) ⟨_, Try.func30, rfl, by decide⟩ ?_
  · intro args p r h hp
    unfold c31 at h
    split at h <;> cases h
    exact good_sv (good32 _ (by rw [bsL_length]; exact hp.2)) ⟨bs_sv hp.1, trivial⟩
  · intro args p r h hp
    unfold c30 at h
    split at h <;> cases h
    exact good30 hp
end Go.Vd
