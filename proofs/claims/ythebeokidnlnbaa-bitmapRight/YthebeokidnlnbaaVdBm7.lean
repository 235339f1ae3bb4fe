/- What putting does: BitmapPuts. -/
import Derived.Test.YthebeokidnlnbaaVdBm6
set_option linter.unusedVariables false
set_option linter.unusedSimpArgs false
set_option maxRecDepth 100000
set_option maxHeartbeats 1000000
namespace Go.Vd
open Go.Proofs
theorem bhi_bit (n : Int) (i : Nat) : (bhi n).testBit i = (decide (n ≤ 64) && decide (i = (64 - n).toNat)) := by
  unfold bhi
  split
  · rename_i h
    simp only [h, decide_true, Bool.true_and, Nat.testBit_two_pow, decide_eq_decide]
    omega
  · rename_i h; simp [h]
theorem blo_bit (n : Int) (i : Nat) : (blo n).testBit i = (decide (64 < n) && decide (i = (128 - n).toNat)) := by
  unfold blo
  split
  · rename_i h
    have : ¬ 64 < n := by omega
    simp [this]
  · rename_i h
    have : 64 < n := by omega
    simp only [this, decide_true, Bool.true_and, Nat.testBit_two_pow, decide_eq_decide]
    omega
theorem top_bit (i : Nat) : (9223372036854775808 : Nat).testBit i = decide (i = 63) := by
  rw [show (9223372036854775808 : Nat) = 2 ^ 63 from rfl, Nat.testBit_two_pow, decide_eq_decide]
  omega
theorem or_zero_iff {a b : Nat} : a ||| b = 0 ↔ a = 0 ∧ b = 0 := by
  constructor
  · intro h
    constructor
    · apply Nat.eq_of_testBit_eq; intro i
      have := congrArg (fun x => x.testBit i) h
      simp only [Nat.testBit_or, Nat.zero_testBit, Bool.or_eq_false_iff] at this
      simp [this.1]
    · apply Nat.eq_of_testBit_eq; intro i
      have := congrArg (fun x => x.testBit i) h
      simp only [Nat.testBit_or, Nat.zero_testBit, Bool.or_eq_false_iff] at this
      simp [this.2]
  · rintro ⟨rfl, rfl⟩; rfl
theorem bput_no {h l : Nat} {n : Int} (hq : (bright h l && bfield n) = false) : bput h l n = (h, l) := by simp [bput, hq]
theorem bput_snd {h l : Nat} {n : Int} (hb : bright h l = true) (hf : bfield n = true) : (bput h l n).2 = l ||| blo n := by simp [bput, hb, hf]
theorem bput_fst {h l : Nat} {n : Int} (hb : bright h l = true) (hf : bfield n = true) (i : Nat) : (bput h l n).1.testBit i = (h.testBit i || (bhi n).testBit i || (decide (i = 63) && decide (l ||| blo n ≠ 0))) := by
  simp only [bput, hb, hf, Bool.and_self, if_true]
  split
  · rename_i h0; simp [Nat.testBit_or, top_bit, h0]
  · rename_i h0
    simp only [ne_eq, Decidable.not_not] at h0
    simp [Nat.testBit_or, h0]
theorem bright_iff {h l : Nat} : bright h l = true ↔ l.testBit 63 = false ∧ (h.testBit 63 = decide (l ≠ 0)) := by
  simp [bright]
theorem bput_bright {h l : Nat} {n : Int} (hb : bright h l = true) (hf : bfield n = true) : bright (bput h l n).1 (bput h l n).2 = true := by
  have h0 := bright_iff.1 hb
  have h1 := bfield_iff.1 hf
  refine bright_iff.2 ⟨?_, ?_⟩
  · rw [bput_snd hb hf, Nat.testBit_or, h0.1, blo_bit]
    simp; omega
  · rw [bput_fst hb hf, h0.2, bhi_bit, bput_snd hb hf]
    have : ¬ (63 = (64 - n).toNat) := by omega
    simp only [this, decide_false, Bool.and_false, Bool.or_false, decide_true, Bool.true_and]
    by_cases hl : l = 0
    · simp [hl]
    · have : ¬ (l ||| blo n = 0) := fun e => hl (or_zero_iff.1 e).1
      simp [hl, this]
theorem or_self3 (a b : Nat) : (a ||| b) ||| b = a ||| b := by rw [Nat.or_assoc, Nat.or_self]
theorem bput_again {h l : Nat} {n : Int} (hb : bright h l = true) (hf : bfield n = true) : bput (bput h l n).1 (bput h l n).2 n = bput h l n := by
  have hb' := bput_bright hb hf
  apply Prod.ext
  · apply Nat.eq_of_testBit_eq; intro i
    rw [bput_fst hb' hf, bput_fst hb hf, bput_snd hb hf, or_self3]
    cases h.testBit i <;> cases (bhi n).testBit i <;> simp
  · rw [bput_snd hb' hf, bput_snd hb hf, or_self3]
theorem bput_comm {h l : Nat} {n o : Int} (hb : bright h l = true) (hf : bfield n = true) (hg : bfield o = true) : bput (bput h l n).1 (bput h l n).2 o = bput (bput h l o).1 (bput h l o).2 n := by
  have hb1 := bput_bright hb hf
  have hb2 := bput_bright hb hg
  have hc : l ||| blo n ||| blo o = l ||| blo o ||| blo n := by rw [Nat.or_assoc, Nat.or_comm (blo n), ← Nat.or_assoc]
  apply Prod.ext
  · apply Nat.eq_of_testBit_eq; intro i
    rw [bput_fst hb1 hg, bput_fst hb hf, bput_snd hb hf, bput_fst hb2 hf, bput_fst hb hg, bput_snd hb hg, hc]
    by_cases hi : i = 63
    · subst hi
      by_cases h1 : l ||| blo n = 0
      · by_cases h2 : l ||| blo o = 0
        · simp [h1, h2, Bool.or_comm, Bool.or_left_comm, Bool.or_assoc]
        · have : ¬ (l ||| blo o ||| blo n = 0) := fun e => h2 (or_zero_iff.1 e).1
          simp [this]
      · have : ¬ (l ||| blo o ||| blo n = 0) := fun e => h1 (by rw [← hc] at e; exact (or_zero_iff.1 e).1)
        simp [this]
    · simp [hi, Bool.or_comm, Bool.or_left_comm, Bool.or_assoc]
  · rw [bput_snd hb1 hg, bput_snd hb hf, bput_snd hb2 hf, bput_snd hb hg, hc]
theorem bput_has {h l : Nat} {n : Int} (hb : bright h l = true) (hf : bfield n = true) : bhas (bput h l n).1 (bput h l n).2 n = true := by
  unfold bhas
  rw [hf, bput_fst hb hf, bput_snd hb hf, Nat.testBit_or, bhi_bit, blo_bit]
  by_cases hn : n ≤ 64
  · simp [hn]
  · have : 64 < n := by omega
    simp [hn, this]
theorem bput_other {h l : Nat} {n o : Int} (hb : bright h l = true) (hf : bfield n = true) (hne : o ≠ n) : bhas (bput h l n).1 (bput h l n).2 o = bhas h l o := by
  unfold bhas
  cases hg : bfield o
  · rfl
  · have h1 := bfield_iff.1 hf
    have h2 := bfield_iff.1 hg
    rw [bput_fst hb hf, bput_snd hb hf, Nat.testBit_or, bhi_bit, blo_bit]
    by_cases hn : o ≤ 64
    · have e1 : ¬ ((64 - o).toNat = 63) := by omega
      have e2 : (decide (n ≤ 64) && decide ((64 - o).toNat = (64 - n).toNat)) = false := by simp; omega
      simp only [hn, if_true, e1, e2, decide_false, Bool.false_and, Bool.or_false]
    · have e2 : (decide (64 < n) && decide ((128 - o).toNat = (128 - n).toNat)) = false := by simp; omega
      simp only [hn, if_false, e2, Bool.or_false]
end Go.Vd
