/- Bytes and back: what BitmapBack says. -/
import Derived.Test.YthebeokidnlnbaaVdBm8
set_option linter.unusedVariables false
set_option linter.unusedSimpArgs false
set_option maxRecDepth 100000
set_option maxHeartbeats 1000000
namespace Go.Vd
open Go.Proofs
theorem be8_len (v : Nat) : (be8 v).length = 8 := by simp [be8]
theorem be8_get (v i : Nat) (h : i < 8) (r : List UInt8) : (be8 v ++ r).getD i 0 = byteAt v i := by
  rw [List.getD_eq_getElem?_getD, List.getElem?_append_left (by rw [be8_len]; exact h)]
  simp [be8, h]
theorem byteAt_nat (v i : Nat) : (byteAt v i).toNat = v / 256 ^ (7 - i) % 256 := by simp [byteAt]
theorem numTo_be8 (v : Nat) (hv : v < 18446744073709551616) (r : List UInt8) : ∀ k, k ≤ 8 → numTo (be8 v ++ r) k = v / 256 ^ (8 - k)
  | 0, _ => by
    simp only [numTo, List.take_zero, List.foldl_nil]
    rw [Nat.div_eq_of_lt]; exact hv
  | k + 1, h => by
    rw [numTo_succ _ _ (by simp [be8_len]; omega), numTo_be8 v hv r k (by omega), be8_get v k (by omega), byteAt_nat]
    rw [show 8 - k = (7 - k) + 1 by omega, Nat.pow_succ, ← Nat.div_div_eq_div_mul, show 8 - (k + 1) = 7 - k by omega]
    omega
theorem numTo_back (v : Nat) (hv : v < 18446744073709551616) (r : List UInt8) : numTo (be8 v ++ r) 8 = v := by
  rw [numTo_be8 v hv r 8 (by omega)]; simp
theorem numTo_div (L : List UInt8) (k : Nat) : ∀ d, k + d ≤ L.length → numTo L (k + d) / 256 ^ d = numTo L k
  | 0, _ => by simp
  | d + 1, h => by
    rw [← Nat.add_assoc, numTo_succ _ _ (by omega), Nat.pow_succ, Nat.mul_comm (256 ^ d), ← Nat.div_div_eq_div_mul]
    have := UInt8.toNat_lt (L.getD (k + d) 0)
    rw [show (numTo L (k + d) * 256 + (L.getD (k + d) 0).toNat) / 256 = numTo L (k + d) by omega]
    exact numTo_div L k d (by omega)
theorem byteAt_num (L : List UInt8) (h : 8 ≤ L.length) (i : Nat) (hi : i < 8) : byteAt (numTo L 8) i = L.getD i 0 := by
  apply UInt8.toNat_inj.1
  rw [byteAt_nat]
  have := numTo_div L (i + 1) (7 - i) (by omega)
  rw [show i + 1 + (7 - i) = 8 by omega] at this
  rw [this, numTo_succ _ _ (by omega)]
  have := UInt8.toNat_lt (L.getD i 0)
  omega
theorem be8_num (L : List UInt8) (h : 8 ≤ L.length) : be8 (numTo L 8) = L.take 8 := by
  apply List.ext_getElem
  · rw [be8_len]; simp; omega
  · intro i h1 h2
    rw [be8_len] at h1
    have := byteAt_num L h i h1
    rw [List.getD_eq_getElem?_getD, List.getElem?_eq_getElem (by omega)] at this
    simpa [be8] using this
theorem numTo_take (L : List UInt8) (c k : Nat) (h : k ≤ c) : numTo (L.take c) k = numTo L k := by
  unfold numTo
  rw [List.take_take, Nat.min_eq_left h]

theorem bb_len {h l : Nat} (hb : bright h l = true) : (bbytes h l).length = if h.testBit 63 then 16 else 8 := by
  unfold bbytes
  rw [hb]
  cases h.testBit 63 <;> simp [be8_len]
theorem bright_lo {h l : Nat} (hb : bright h l = true) (ht : h.testBit 63 = false) : l = 0 := by
  have := (bright_iff.1 hb).2
  rw [ht] at this
  have := of_decide_eq_false this.symm
  omega
/-- Read back, whatever is behind. -/
theorem read_back {h l : Nat} (hh : h < 18446744073709551616) (hl : l < 18446744073709551616) (hb : bright h l = true) (r : List UInt8) :
    brE (bbytes h l ++ r) = 0 ∧ br1 (bbytes h l ++ r) = h ∧ br2 (bbytes h l ++ r) = l ∧ brN (bbytes h l ++ r) = (bbytes h l).length := by
  have hlen := bb_len hb
  cases ht : h.testBit 63
  · have e : bbytes h l = be8 h := by simp [bbytes, hb, ht]
    rw [ht] at hlen
    simp only [Bool.false_eq_true, if_false] at hlen
    rw [e]
    rw [e] at hlen
    have hH : brH (be8 h ++ r) = h := numTo_back h hh r
    have hM : brM (be8 h ++ r) = false := by unfold brM; rw [hH, ht]
    have hL : brL (be8 h ++ r) = l := by unfold brL; rw [hM, bright_lo hb ht]; rfl
    have hE : brE (be8 h ++ r) = 0 := by
      unfold brE
      rw [hM, hH, hL, hb, if_neg (by simp [hlen])]; simp
    refine ⟨hE, ?_, ?_, ?_⟩
    · unfold br1; rw [hE, hH]; simp
    · unfold br2; rw [hE, hL]; simp
    · unfold brN; rw [hE, hM, hlen]; simp
  · have e : bbytes h l = be8 h ++ be8 l := by simp [bbytes, hb, ht]
    rw [ht] at hlen
    simp only [if_true] at hlen
    rw [e] at hlen ⊢
    rw [List.append_assoc]
    have hH : brH (be8 h ++ (be8 l ++ r)) = h := numTo_back h hh _
    have hM : brM (be8 h ++ (be8 l ++ r)) = true := by unfold brM; rw [hH, ht]
    have hL : brL (be8 h ++ (be8 l ++ r)) = l := by
      unfold brL; rw [hM, if_pos rfl, List.drop_append_of_le_length (by rw [be8_len]; exact Nat.le_refl _), List.drop_of_length_le (by rw [be8_len]; exact Nat.le_refl _), List.nil_append]
      exact numTo_back l hl r
    have hE : brE (be8 h ++ (be8 l ++ r)) = 0 := by
      unfold brE
      rw [hM, hH, hL, hb, if_neg (by simp [be8_len] <;> omega), if_neg (by simp [be8_len] <;> omega)]; simp
    refine ⟨hE, ?_, ?_, ?_⟩
    · unfold br1; rw [hE, hH]; simp
    · unfold br2; rw [hE, hL]; simp
    · unfold brN; rw [hE, hM, hlen]; simp
/-- Cut, too short. -/
theorem read_cut {h l : Nat} (hh : h < 18446744073709551616) (hb : bright h l = true) (c : Nat) (hc : c < (bbytes h l).length) : brE ((bbytes h l).take c) = 2 := by
  have hlen := bb_len hb
  have hl2 : ((bbytes h l).take c).length = c := by simp; omega
  unfold brE
  rw [hl2]
  by_cases h8 : c < 8
  · rw [if_pos h8]
  · rw [if_neg h8]
    cases ht : h.testBit 63
    · rw [ht] at hlen; simp only [Bool.false_eq_true, if_false] at hlen; omega
    · rw [ht] at hlen; simp only [if_true] at hlen
      have e : bbytes h l = be8 h ++ be8 l := by simp [bbytes, hb, ht]
      have hM : brM ((bbytes h l).take c) = true := by
        unfold brM brH
        rw [numTo_take _ _ _ (by omega), e, numTo_back h hh, ht]
      rw [hM, if_pos (by simp; omega)]
/-- What is read has just these bytes. -/
theorem read_bytes (L : List UInt8) (h : brE L = 0) : bright (br1 L) (br2 L) = true ∧ bbytes (br1 L) (br2 L) = L.take (brN L).toNat ∧ 0 < brN L ∧ brN L ≤ L.length ∧ br1 L < 18446744073709551616 ∧ br2 L < 18446744073709551616 := by
  have e1 : br1 L = brH L := by unfold br1; rw [h]; simp
  have e2 : br2 L = brL L := by unfold br2; rw [h]; simp
  have e3 : brN L = if brM L then 16 else 8 := by unfold brN; rw [h]; simp
  have h8 : 8 ≤ L.length := by
    refine Nat.le_of_not_lt fun hlt => ?_
    unfold brE at h; rw [if_pos hlt] at h; cases h
  have h16 : brM L = true → 16 ≤ L.length := by
    intro hM
    refine Nat.le_of_not_lt fun hlt => ?_
    unfold brE at h; rw [if_neg (by omega), hM, if_pos (by simp; omega)] at h; cases h
  have hb : bright (brH L) (brL L) = true := by
    cases hb : bright (brH L) (brL L)
    · unfold brE at h
      rw [if_neg (by omega), if_neg (by
        cases hM : brM L
        · simp
        · have := h16 hM; simp; omega), hb] at h
      cases h
    · rfl
  have r1 : brH L < 18446744073709551616 := Nat.lt_of_lt_of_le (numTo_lt L 8 h8) (by decide)
  rw [e1, e2, e3]
  refine ⟨hb, ?_, ?_, ?_, r1, ?_⟩
  · unfold bbytes
    rw [hb, if_pos rfl]
    cases hM : brM L
    · have : (brH L).testBit 63 = false := hM
      rw [this]
      simp only [Bool.false_eq_true, if_false]
      exact be8_num L h8
    · have : (brH L).testBit 63 = true := hM
      have hl := h16 hM
      rw [this]
      simp only [if_true]
      have hx : brL L = numTo (L.drop 8) 8 := by unfold brL; rw [hM]; rfl
      rw [hx, be8_num (L.drop 8) (by simp; omega), show brH L = numTo L 8 from rfl, be8_num L h8]
      have := List.take_add (l := L) (i := 8) (j := 8)
      exact this.symm
  · cases brM L <;> decide
  · cases hM : brM L
    · simp; omega
    · have := h16 hM; simp; omega
  · unfold brL
    cases hM : brM L
    · simp
    · have := h16 hM
      exact Nat.lt_of_lt_of_le (numTo_lt (L.drop 8) 8 (by simp; omega)) (by decide)

/-! ### The bitmap of its fields -/
theorem bright_ext {h l h' l' : Nat} (hh : h < 18446744073709551616) (hl : l < 18446744073709551616) (hh' : h' < 18446744073709551616) (hl' : l' < 18446744073709551616)
    (hb : bright h l = true) (hb' : bright h' l' = true) (hs : ∀ q : Int, bhas h l q = bhas h' l' q) : h = h' ∧ l = l' := by
  have e : l = l' := by
    apply Nat.eq_of_testBit_eq
    intro i
    by_cases hi : i < 63
    · have := hs (128 - i)
      have hf : bfield (128 - (i : Int)) = true := bfield_iff.2 ⟨by omega, by omega, by omega⟩
      unfold bhas at this
      rw [hf, if_neg (by omega), if_neg (by omega), show (128 - (128 - (i : Int))).toNat = i by omega] at this
      simpa using this
    · by_cases h63 : i = 63
      · subst h63; rw [(bright_iff.1 hb).1, (bright_iff.1 hb').1]
      · rw [Nat.testBit_lt_two_pow (Nat.lt_of_lt_of_le hl (by have := Nat.pow_le_pow_right (n := 2) (by decide) (show 64 ≤ i by omega); exact this)), Nat.testBit_lt_two_pow (Nat.lt_of_lt_of_le hl' (by have := Nat.pow_le_pow_right (n := 2) (by decide) (show 64 ≤ i by omega); exact this))]
  refine ⟨?_, e⟩
  apply Nat.eq_of_testBit_eq
  intro i
  by_cases hi : i < 63
  · have := hs (64 - i)
    have hf : bfield (64 - (i : Int)) = true := bfield_iff.2 ⟨by omega, by omega, by omega⟩
    unfold bhas at this
    rw [hf, if_pos (by omega), if_pos (by omega), show (64 - (64 - (i : Int))).toNat = i by omega] at this
    simpa using this
  · by_cases h63 : i = 63
    · subst h63; rw [(bright_iff.1 hb).2, (bright_iff.1 hb').2, e]
    · rw [Nat.testBit_lt_two_pow (Nat.lt_of_lt_of_le hh (by have := Nat.pow_le_pow_right (n := 2) (by decide) (show 64 ≤ i by omega); exact this)), Nat.testBit_lt_two_pow (Nat.lt_of_lt_of_le hh' (by have := Nat.pow_le_pow_right (n := 2) (by decide) (show 64 ≤ i by omega); exact this))]
theorem bofS_snoc (L : List Int) (n : Int) : bofS (L ++ [n]) = (bofS L).bind fun m => if bright m.1 m.2 && bfield n then some (bput m.1 m.2 n) else none := by
  unfold bofS
  rw [List.foldl_append]
  rfl
theorem of_fieldsTo (h l : Nat) : ∀ d, d ≤ 127 → ∃ a b, bofS (bfieldsTo h l (2 + d)) = some (a, b) ∧ bright a b = true ∧ a < 18446744073709551616 ∧ b < 18446744073709551616 ∧ ∀ q : Int, bhas a b q = (bhas h l q && decide (q < 2 + d))
  | 0, _ => by
    refine ⟨0, 0, rfl, by decide, by decide, by decide, fun q => ?_⟩
    have h0 : bhas 0 0 q = false := by unfold bhas; split <;> simp
    rw [h0]
    cases hb : bhas h l q
    · simp
    · have hf : bfield q = true := by unfold bhas at hb; simp at hb; exact hb.1
      have := (bfield_iff.1 hf).1
      simp; omega
  | d + 1, hd => by
    obtain ⟨a, b, h1, h2, h3, h4, h5⟩ := of_fieldsTo h l d (by omega)
    have hs := bfieldsTo_succ h l (2 + d) (by omega)
    rw [show 2 + (d + 1) = 2 + d + 1 by omega]
    cases hb : bhas h l ((2 + d : Nat) : Int)
    · rw [hb] at hs
      refine ⟨a, b, by rw [hs]; simpa using h1, h2, h3, h4, fun q => ?_⟩
      rw [h5]
      by_cases hq : q = ((2 + d : Nat) : Int)
      · subst hq; rw [hb]; simp
      · congr 1
        rw [decide_eq_decide]; omega
    · rw [hb, if_pos rfl] at hs
      have hf : bfield ((2 + d : Nat) : Int) = true := by unfold bhas at hb; simp only [Bool.and_eq_true] at hb; exact hb.1
      refine ⟨(bput a b ((2 + d : Nat) : Int)).1, (bput a b ((2 + d : Nat) : Int)).2, ?_, bput_bright h2 hf, (bput_lt _ h3 h4).1, (bput_lt _ h3 h4).2, fun q => ?_⟩
      · rw [hs, bofS_snoc, h1]
        simp only [Option.bind_some, h2, hf, Bool.and_self, if_true]
      · by_cases hq : q = ((2 + d : Nat) : Int)
        · subst hq; rw [bput_has h2 hf, hb]; simp; omega
        · rw [bput_other h2 hf hq, h5]
          congr 1
          rw [decide_eq_decide]; omega
theorem of_fields {h l : Nat} (hh : h < 18446744073709551616) (hl : l < 18446744073709551616) (hb : bright h l = true) : bofS (bfields h l) = some (h, l) := by
  obtain ⟨a, b, h1, h2, h3, h4, h5⟩ := of_fieldsTo h l 127 (by omega)
  have := bright_ext h3 h4 hh hl h2 hb (fun q => by
    rw [h5]
    cases hq : bhas h l q
    · rfl
    · have hf : bfield q = true := by unfold bhas at hq; simp only [Bool.and_eq_true] at hq; exact hq.1
      have := (bfield_iff.1 hf).2.1
      simp; omega)
  rw [this.1, this.2] at h1
  exact h1
end Go.Vd
