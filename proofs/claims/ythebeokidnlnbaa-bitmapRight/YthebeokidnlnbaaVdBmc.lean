/- The reference's functions of the bitmap: right, has, put. -/
import Derived.Test.YthebeokidnlnbaaVdBmb
set_option linter.unusedVariables false
set_option linter.unusedSimpArgs false
set_option maxRecDepth 100000
set_option maxHeartbeats 1000000
namespace Go.Vd
open Go.Proofs
def c25 : Ct := fun A args => match args with
  | [.agg [.int .u64 h, .int .u64 l], .int .i64 n] => some (some (A.tp fun _ => r64 h ∧ r64 l ∧ 1 ≤ n ∧ n ≤ 128), r25 A h l n)
  | _ => none
def c26 : Ct := fun A args => match args with
  | [.int .i64 n] => some (some (A.tp fun _ => 0 ≤ n ∧ n ≤ 63), r26 A n)
  | _ => none
def g7 : Ar → Pu := addC 24 c22 (addC 25 c25 (addC 26 c26 g6))
theorem g7_ok : PuOk Try.prog gl0 (g7 std) := by
  refine addC_ok (addC_ok (addC_ok g6_ok ⟨_, Try.func26, rfl, by decide⟩ ?_) ⟨_, Try.func25, rfl, by decide⟩ ?_) ⟨_, Try.func24, rfl, by decide⟩ ?_
  · intro args p r h hp
    unfold c26 at h
    split at h <;> cases h
    exact good26 _ hp.1 hp.2
  · intro args p r h hp
    unfold c25 at h
    split at h <;> cases h
    exact good25 _ hp.1 hp.2.1 hp.2.2.1 hp.2.2.2
  · intro args p r h hp
    unfold c22 at h
    split at h <;> cases h
    exact good24 _
theorem bright_bits (h l : Nat) : bright h l = (!bbit h l 65 && (bbit h l 1 == decide (0 < l))) := by
  have e1 : bbit h l 65 = l.testBit 63 := rfl
  have e2 : bbit h l 1 = h.testBit 63 := rfl
  rw [e1, e2, bright]
  congr 2
  rw [decide_eq_decide]; omega
theorem bhas_bit (h l : Nat) (n : Int) : bhas h l n = (bfield n && bbit h l n) := rfl
theorem good12 {h l : Int} (hh : r64 h) (hl : r64 l) : GoodP Try.prog gl0 12 [.agg [.int .u64 h, .int .u64 l]] (r11 std h l) := by
  obtain ⟨h, rfl, lh⟩ := r64_nat hh
  obtain ⟨l, rfl, ll⟩ := r64_nat hl
  refine fn_sound' (T := seatT) (G := g7) (X := noX) seatT_ok g7_ok noX_ok noI_ok mixed Try.func12 .one (fun A => [.agg [.int .u64 h, .int .u64 l]]) (fun A => r11 A h l) fun A hA => ?_
  cbv
  repeat with_reducible refine And.intro (dr_ok hA (by kernel_rfl)) ?_
  subst hA
  simp [std, hh, hl, bright_bits]
theorem good14 {h l : Int} (n : Int) (hh : r64 h) (hl : r64 l) : GoodP Try.prog gl0 14 [.agg [.int .u64 h, .int .u64 l], .int .i64 n] (r13 std h l n) := by
  obtain ⟨h, rfl, lh⟩ := r64_nat hh
  obtain ⟨l, rfl, ll⟩ := r64_nat hl
  refine fn_sound' (T := seatT) (G := g7) (X := noX) seatT_ok g7_ok noX_ok noI_ok mixed Try.func14 .one (fun A => [.agg [.int .u64 h, .int .u64 l], .int .i64 n]) (fun A => r13 A h l n) fun A hA => ?_
  cbv
  repeat with_reducible refine And.intro (dr_ok hA (by kernel_rfl)) ?_
  subst hA
  simp [std, bhas_bit]
  cases hf : bfield n
  · simp
  · have hf' := bfield_iff.1 hf
    simp [hh, hl]
    omega
def g8 : Ar → Pu := addC 12 c11 (addC 14 c13 g7)
theorem g8_ok : PuOk Try.prog gl0 (g8 std) := by
  refine addC_ok (addC_ok g7_ok ⟨_, Try.func14, rfl, by decide⟩ ?_) ⟨_, Try.func12, rfl, by decide⟩ ?_
  · intro args p r h hp
    unfold c13 at h
    split at h <;> cases h
    exact good14 _ hp.1 hp.2
  · intro args p r h hp
    unfold c11 at h
    split at h <;> cases h
    exact good12 hp.1 hp.2
theorem add_or (k : Nat) : ∀ a : Nat, a.testBit k = false → a + 2 ^ k = a ||| 2 ^ k := by
  induction k with
  | zero =>
    intro a h
    apply Nat.eq_of_testBit_eq
    intro i
    have h0 : a % 2 = 0 := by
      rw [Nat.testBit_zero] at h
      have := of_decide_eq_false h
      omega
    cases i with
    | zero => rw [Nat.testBit_or, Nat.testBit_zero, Nat.testBit_zero, Nat.testBit_zero]; simp; omega
    | succ i =>
      rw [Nat.testBit_or, Nat.testBit_succ, Nat.testBit_succ, Nat.testBit_succ]
      rw [show (a + 2 ^ 0) / 2 = a / 2 by simp; omega]
      simp
  | succ k ih =>
    intro a h
    rw [Nat.testBit_succ] at h
    have := ih (a / 2) h
    apply Nat.eq_of_testBit_eq
    intro i
    have hp : 2 ^ (k + 1) = 2 * 2 ^ k := by rw [Nat.pow_succ, Nat.mul_comm]
    cases i with
    | zero => rw [Nat.testBit_or, Nat.testBit_zero, Nat.testBit_zero, Nat.testBit_zero, hp]; simp
    | succ i =>
      rw [Nat.testBit_or, Nat.testBit_succ, Nat.testBit_succ, Nat.testBit_succ, hp]
      rw [show (a + 2 * 2 ^ k) / 2 = a / 2 + 2 ^ k by omega, show 2 * 2 ^ k / 2 = 2 ^ k by omega, this, Nat.testBit_or]
theorem or_same (k : Nat) (a : Nat) (h : a.testBit k = true) : a ||| 2 ^ k = a := by
  apply Nat.eq_of_testBit_eq
  intro i
  rw [Nat.testBit_or, Nat.testBit_two_pow]
  by_cases e : k = i
  · subst e; simp [h]
  · simp [e]
/-- What putting does, by sums. -/
theorem put_had {h l : Nat} {n : Int} (hb : bright h l = true) (hf : bfield n = true) (hq : bbit h l n = true) : bput h l n = (h, l) := by
  have h0 := bright_iff.1 hb
  unfold bbit at hq
  unfold bput
  rw [hb, hf]
  simp only [Bool.and_self, if_true]
  by_cases hn : n ≤ 64
  · rw [if_pos hn] at hq
    simp only [bhi, blo, hn, if_true, Nat.or_zero]
    rw [or_same _ _ hq]
    by_cases hl : l = 0
    · simp [hl]
    · have ht : h.testBit 63 = true := by rw [h0.2]; simp [hl]
      have := or_same 63 h ht
      simp [hl]
      exact this
  · rw [if_neg hn] at hq
    simp only [bhi, blo, hn, if_false, Nat.or_zero]
    rw [or_same _ _ hq]
    have hl : l ≠ 0 := by intro e; subst e; simp at hq
    have ht : h.testBit 63 = true := by rw [h0.2]; simp [hl]
    have := or_same 63 h ht
    simp [hl]
    exact this
theorem put_hi {h l : Nat} {n : Int} (hb : bright h l = true) (hf : bfield n = true) (hq : bbit h l n = false) (hn : n ≤ 64) : bput h l n = (h + 2 ^ (64 - n).toNat, l) := by
  have h0 := bright_iff.1 hb
  have h1 := bfield_iff.1 hf
  unfold bbit at hq
  rw [if_pos hn] at hq
  unfold bput
  rw [hb, hf, add_or _ _ hq]
  simp only [Bool.and_self, if_true, bhi, blo, hn, Nat.or_zero]
  by_cases hl : l = 0
  · simp [hl]
  · have ht : (h ||| 2 ^ (64 - n).toNat).testBit 63 = true := by rw [Nat.testBit_or, h0.2]; simp [hl]
    have := or_same 63 _ ht
    simp [hl]
    exact this
theorem put_lo {h l : Nat} {n : Int} (hb : bright h l = true) (hf : bfield n = true) (hq : bbit h l n = false) (hn : ¬ n ≤ 64) : bput h l n = (if l = 0 then h + 2 ^ 63 else h, l + 2 ^ (128 - n).toNat) := by
  have h0 := bright_iff.1 hb
  have h1 := bfield_iff.1 hf
  unfold bbit at hq
  rw [if_neg hn] at hq
  unfold bput
  rw [hb, hf, add_or _ _ hq]
  have hne : l ||| 2 ^ (128 - n).toNat ≠ 0 := fun e => by
    have := (or_zero_iff.1 e).2
    have := Nat.two_pow_pos (128 - n).toNat
    omega
  simp only [Bool.and_self, if_true, bhi, blo, hn, if_false, Nat.or_zero, hne, ne_eq, not_false_eq_true]
  by_cases hl : l = 0
  · have ht : h.testBit 63 = false := by rw [h0.2]; simp [hl]
    have := add_or 63 h ht
    simp [hl]
    exact this.symm
  · have ht : h.testBit 63 = true := by rw [h0.2]; simp [hl]
    have := or_same 63 h ht
    simp [hl]
    exact this
theorem wsum {a k : Nat} (hb : a + 2 ^ k < 18446744073709551616) : IntKind.u64.wrap ((a : Int) + 2 ^ k) = ((a + 2 ^ k : Nat) : Int) := by
  have e : (a : Int) + 2 ^ k = ((a + 2 ^ k : Nat) : Int) := by simp
  rw [e]
  generalize a + 2 ^ k = m at hb ⊢
  exact wu64 ⟨by omega, by omega⟩
theorem good8 {h l : Int} (n : Int) (hh : r64 h) (hl : r64 l) : GoodP Try.prog gl0 8 [.agg [.int .u64 h, .int .u64 l], .int .i64 n] (r7 std h l n) := by
  obtain ⟨h, rfl, lh⟩ := r64_nat hh
  obtain ⟨l, rfl, ll⟩ := r64_nat hl
  refine fn_sound' (T := seatT) (G := g8) (X := noX) seatT_ok g8_ok noX_ok noI_ok mixed Try.func8 .one (fun A => [.agg [.int .u64 h, .int .u64 l], .int .i64 n]) (fun A => r7 A h l n) fun A hA => ?_
  cbv
  repeat' (first | with_reducible exact True.intro | with_reducible exact dr_ok hA (by kernel_rfl) | with_reducible refine And.intro ?_ ?_ | (intro hc; cbv))
  all_goals (subst hA; simp [std] at *)
  all_goals have hlt := bput_lt n lh ll
  all_goals first
    | exact ⟨hh, hl⟩
    | (have hq : (bright h l && bfield n) = false := by rcases hc with hc | hc <;> simp [hc]
       simp [bput, berr, hq]; done)
    | (have := bfield_iff.1 hc.2
       exact ⟨hh, hl, by omega, by omega⟩)
    | (rename_i hc1
       rw [put_had hc1.1 hc1.2 hc])
    | (rename_i hc1
       simp [berr, hc1.1, hc1.2]; done)
    | (rename_i hc2 hc1
       have hf := bfield_iff.1 hc2.2
       rw [w64 (by omega)]
       omega)
    | (rename_i hc2 hc1
       have hf := bfield_iff.1 hc2.2
       rw [put_hi hc2.1 hc2.2 hc1 hc] at hlt ⊢
       try (rw [w64 (by omega)]; exact wsum hlt.1)
       done)
    | (rename_i hc2 hc1
       simp [berr, hc2.1, hc2.2]; done)
    | (rename_i hc3 hc2 hc1
       have hf := bfield_iff.1 hc3.2
       rw [w64 (by omega)]
       omega)
    | (rename_i hc3 hc2 hc1
       simp [berr, hc3.1, hc3.2]; done)
    | (rename_i hc3 hc2 hc1
       have hf := bfield_iff.1 hc3.2
       rw [put_lo hc3.1 hc3.2 hc2 (by omega)] at hlt ⊢
       first
         | (rw [w64 (by omega)]; exact wsum hlt.2)
         | (simp only [hc, if_true] at hlt ⊢
            have := wsum hlt.1
            simpa using this)
         | (simp only [hc, if_false]; done))
def g9 : Ar → Pu := addC 8 c7 g8
theorem g9_ok : PuOk Try.prog gl0 (g9 std) := by
  refine addC_ok g8_ok ⟨_, Try.func8, rfl, by decide⟩ ?_
  intro args p r h hp
  unfold c7 at h
  split at h <;> cases h
  exact good8 _ hp.1 hp.2
end Go.Vd
