/- The bitmap's functions: bits. -/
import Derived.Test.YthebeokidnlnbaaVdBmT
import Derived.Test.YthebeokidnlnbaaVdLib
set_option linter.unusedVariables false
set_option linter.unusedSimpArgs false
set_option maxRecDepth 100000
namespace Go.Vd
open Go.Proofs

def bfield (n : Int) : Bool := decide (2 ≤ n) && decide (n ≤ 128) && !(n == 65)
def bhi (n : Int) : Nat := if n ≤ 64 then 2 ^ (64 - n).toNat else 0
def blo (n : Int) : Nat := if n ≤ 64 then 0 else 2 ^ (128 - n).toNat
def bright (h l : Nat) : Bool := !l.testBit 63 && (h.testBit 63 == decide (l ≠ 0))
def bhas (h l : Nat) (n : Int) : Bool := bfield n && (if n ≤ 64 then h.testBit (64 - n).toNat else l.testBit (128 - n).toNat)
/-- A field more. -/
def bput (h l : Nat) (n : Int) : Nat × Nat :=
  if bright h l && bfield n then (if l ||| blo n ≠ 0 then (h ||| bhi n) ||| 9223372036854775808 else h ||| bhi n, l ||| blo n) else (h, l)
def berr (h l : Nat) (n : Int) : Int := if bright h l && bfield n then 0 else 1

theorem bfield_iff {n : Int} : bfield n = true ↔ 2 ≤ n ∧ n ≤ 128 ∧ n ≠ 65 := by simp [bfield, and_assoc]
theorem bhi_lt (n : Int) (h : 2 ≤ n) : bhi n < 18446744073709551616 := by
  unfold bhi; split
  · exact pow_lt64 (by omega)
  · decide
theorem blo_lt (n : Int) (h : n ≤ 128) : blo n < 18446744073709551616 := by
  unfold blo; split
  · decide
  · exact pow_lt64 (by omega)
theorem or_lt64 {a b : Nat} (ha : a < 18446744073709551616) (hb : b < 18446744073709551616) : a ||| b < 18446744073709551616 := Nat.or_lt_two_pow (n := 64) ha hb
theorem bput_lt {h l : Nat} (n : Int) (hh : h < 18446744073709551616) (hl : l < 18446744073709551616) : (bput h l n).1 < 18446744073709551616 ∧ (bput h l n).2 < 18446744073709551616 := by
  unfold bput
  split
  · rename_i hb
    simp only [Bool.and_eq_true] at hb
    have hf := bfield_iff.1 hb.2
    refine ⟨?_, or_lt64 hl (blo_lt n hf.2.1)⟩
    simp only
    split
    · exact or_lt64 (or_lt64 hh (bhi_lt n hf.1)) (by decide)
    · exact or_lt64 hh (bhi_lt n hf.1)
  · exact ⟨hh, hl⟩
theorem band0 (l : Nat) (hl : l < 18446744073709551616) : (bits .and .u64 (l : Int) 9223372036854775808 == 0) = !l.testBit 63 := by
  have := bits_and_u64_nat l 9223372036854775808 hl (by decide)
  have e : ((9223372036854775808 : Nat) : Int) = 9223372036854775808 := rfl
  rw [e] at this
  rw [this]
  have h2 := band_top (h := l)
  cases hb : l.testBit 63
  · rw [h2.2 hb]; rfl
  · have h3 : ¬ (l &&& 9223372036854775808 = 0) := fun e => by rw [h2.1 e] at hb; cases hb
    simp only [Bool.not_true, beq_eq_false_iff_ne]; omega

def r22 (A : Ar) (n : Int) : SV := .bool (A.tb fun _ => bfield n)
theorem good22 (n : Int) : GoodP Try.prog gl0 22 [.int .i64 n] (r22 std n) := by
  refine fn_sound' (T := seatT) (G := noC) (X := noX) seatT_ok noC_ok noX_ok noI_ok mixed Try.func22 .one (fun A => [.int .i64 n]) (fun A => r22 A n) fun A hA => ?_
  cbv
  repeat with_reducible refine And.intro (dr_ok hA (by kernel_rfl)) ?_
  subst hA
  simp [std, bfield, bne]
def r23 (A : Ar) (n : Int) : SV := .agg [.int .u64 (A.ti fun _ => bhi n), .int .u64 (A.ti fun _ => blo n)]
theorem good23 (n : Int) (h1 : 2 ≤ n) (h2 : n ≤ 128) : GoodP Try.prog gl0 23 [.int .i64 n] (r23 std n) := by
  refine fn_sound' (T := seatT) (G := noC) (X := noX) seatT_ok noC_ok noX_ok noI_ok mixed Try.func23 .one (fun A => [.int .i64 n]) (fun A => r23 A n) fun A hA => ?_
  cbv
  refine ⟨fun hc => ?_, fun hc => ?_⟩ <;> cbv <;> subst hA <;> simp [std] at hc ⊢
  · rw [w64 (by omega)]
    refine ⟨by omega, ?_, ?_⟩
    · rw [show min (64 - n).toNat IntKind.u64.bits = (64 - n).toNat by simp [IntKind.bits]; omega]
      have := shl1 (k := (64 - n).toNat) (by omega)
      simpa [bhi, hc] using this
    · simp [blo, hc]
  · rw [w64 (by omega)]
    refine ⟨by omega, ?_, ?_⟩
    · rw [show bhi n = 0 by unfold bhi; rw [if_neg (by omega)]]; rfl
    · rw [show min (128 - n).toNat IntKind.u64.bits = (128 - n).toNat by simp [IntKind.bits]; omega]
      have := shl1 (k := (128 - n).toNat) (by omega)
      rw [show blo n = 2 ^ (128 - n).toNat by unfold blo; rw [if_neg (by omega)]]
      simpa using this
def r27 (A : Ar) (h : Int) : SV := .bool (A.tb fun _ => h.toNat.testBit 63)
theorem good27 {h : Int} (l : Int) (hh : r64 h) : GoodP Try.prog gl0 27 [.agg [.int .u64 h, .int .u64 l]] (r27 std h) := by
  obtain ⟨h, rfl, lh⟩ := r64_nat hh
  refine fn_sound' (T := seatT) (G := noC) (X := noX) seatT_ok noC_ok noX_ok noI_ok mixed Try.func27 .one (fun A => [.agg [.int .u64 h, .int .u64 l]]) (fun A => r27 A h) fun A hA => ?_
  cbv
  repeat with_reducible refine And.intro (dr_ok hA (by kernel_rfl)) ?_
  subst hA
  have := band0 h lh
  simp only [std, bne, Int.ofNat_eq_natCast, Int.toNat_natCast]
  rw [this]
  simp
def r28 (A : Ar) (a b c d : Int) : SV := .agg [.int .u64 (A.ti fun _ => (a.toNat &&& c.toNat : Nat)), .int .u64 (A.ti fun _ => (b.toNat &&& d.toNat : Nat))]
theorem good28 {a b c d : Int} (ha : r64 a) (hb : r64 b) (hc : r64 c) (hd : r64 d) : GoodP Try.prog gl0 28 [.agg [.int .u64 a, .int .u64 b], .agg [.int .u64 c, .int .u64 d]] (r28 std a b c d) := by
  obtain ⟨a, rfl, la⟩ := r64_nat ha
  obtain ⟨b, rfl, lb⟩ := r64_nat hb
  obtain ⟨c, rfl, lc⟩ := r64_nat hc
  obtain ⟨d, rfl, ld⟩ := r64_nat hd
  refine fn_sound' (T := seatT) (G := noC) (X := noX) seatT_ok noC_ok noX_ok noI_ok mixed Try.func28 .one (fun A => [.agg [.int .u64 a, .int .u64 b], .agg [.int .u64 c, .int .u64 d]]) (fun A => r28 A a b c d) fun A hA => ?_
  cbv
  repeat with_reducible refine And.intro (dr_ok hA (by kernel_rfl)) ?_
  subst hA
  simp [std, bits_and_u64_nat, la, lb, lc, ld]

/-! ### Their contracts -/
def c22 : Ct := fun A args => match args with
  | [.int .i64 n] => some (none, r22 A n)
  | _ => none
def c23 : Ct := fun A args => match args with
  | [.int .i64 n] => some (some (A.tp fun _ => 2 ≤ n ∧ n ≤ 128), r23 A n)
  | _ => none
def c27 : Ct := fun A args => match args with
  | [.agg [.int .u64 h, .int .u64 l]] => some (some (A.tp fun _ => r64 h), r27 A h)
  | _ => none
def c28 : Ct := fun A args => match args with
  | [.agg [.int .u64 a, .int .u64 b], .agg [.int .u64 c, .int .u64 d]] => some (some (A.tp fun _ => r64 a ∧ r64 b ∧ r64 c ∧ r64 d), r28 A a b c d)
  | _ => none
def g1 : Ar → Pu := addC 22 c22 (addC 23 c23 (addC 27 c27 (addC 28 c28 noC)))
theorem g1_ok : PuOk Try.prog gl0 (g1 std) := by
  refine addC_ok (addC_ok (addC_ok (addC_ok noC_ok ⟨_, Try.func28, rfl, by decide⟩ ?_) ⟨_, Try.func27, rfl, by decide⟩ ?_) ⟨_, Try.func23, rfl, by decide⟩ ?_) ⟨_, Try.func22, rfl, by decide⟩ ?_
  · intro args p r h hp
    unfold c28 at h
    split at h <;> cases h
    exact good28 hp.1 hp.2.1 hp.2.2.1 hp.2.2.2
  · intro args p r h hp
    unfold c27 at h
    split at h <;> cases h
    exact good27 _ hp
  · intro args p r h hp
    unfold c23 at h
    split at h <;> cases h
    exact good23 _ hp.1 hp.2
  · intro args p r h hp
    unfold c22 at h
    split at h <;> cases h
    exact good22 _
def r11 (A : Ar) (h l : Int) : SV := .bool (A.tb fun _ => bright h.toNat l.toNat)
theorem good11 {h l : Int} (hh : r64 h) (hl : r64 l) : GoodP Try.prog gl0 11 [.agg [.int .u64 h, .int .u64 l]] (r11 std h l) := by
  obtain ⟨h, rfl, lh⟩ := r64_nat hh
  obtain ⟨l, rfl, ll⟩ := r64_nat hl
  refine fn_sound' (T := seatT) (G := g1) (X := noX) seatT_ok g1_ok noX_ok noI_ok mixed Try.func11 .one (fun A => [.agg [.int .u64 h, .int .u64 l]]) (fun A => r11 A h l) fun A hA => ?_
  cbv
  repeat with_reducible refine And.intro (dr_ok hA (by kernel_rfl)) ?_
  subst hA
  have e0 : (Int.ofNat l : Int) = (l : Int) := rfl
  simp only [std, e0, band0 l ll]
  simp [hh, hl, bright]
  cases hb : l.testBit 63 <;> simp [bne, Bool.beq_eq_decide_eq]
def r13 (A : Ar) (h l n : Int) : SV := .bool (A.tb fun _ => bhas h.toNat l.toNat n)
theorem good13 {h l : Int} (n : Int) (hh : r64 h) (hl : r64 l) : GoodP Try.prog gl0 13 [.agg [.int .u64 h, .int .u64 l], .int .i64 n] (r13 std h l n) := by
  obtain ⟨h, rfl, lh⟩ := r64_nat hh
  obtain ⟨l, rfl, ll⟩ := r64_nat hl
  refine fn_sound' (T := seatT) (G := g1) (X := noX) seatT_ok g1_ok noX_ok noI_ok mixed Try.func13 .one (fun A => [.agg [.int .u64 h, .int .u64 l], .int .i64 n]) (fun A => r13 A h l n) fun A hA => ?_
  cbv
  repeat with_reducible refine And.intro (dr_ok hA (by kernel_rfl)) ?_
  subst hA
  simp [std]
  cases hf : bfield n
  · simp [bhas, hf]
  · have hf' := bfield_iff.1 hf
    have h1 := bhi_lt n hf'.1
    have h2 := blo_lt n hf'.2.1
    simp [hh, hl, r64_of h1, r64_of h2, hf'.1, hf'.2.1, bhas, hf]
    by_cases hn : n ≤ 64
    · simp only [bhi, blo, hn, if_true]
      have := band_pow (h := h) (k := (64 - n).toNat)
      cases hb : h.testBit (64 - n).toNat
      · simp [this.2 hb]
      · have h3 : ¬ (h &&& 2 ^ (64 - n).toNat = 0) := fun e => by rw [this.1 e] at hb; cases hb
        simp [h3]
    · simp only [bhi, blo, hn, if_false]
      have := band_pow (h := l) (k := (128 - n).toNat)
      cases hb : l.testBit (128 - n).toNat
      · simp [this.2 hb]
      · have h3 : ¬ (l &&& 2 ^ (128 - n).toNat = 0) := fun e => by rw [this.1 e] at hb; cases hb
        simp [h3]
def c11 : Ct := fun A args => match args with
  | [.agg [.int .u64 h, .int .u64 l]] => some (some (A.tp fun _ => r64 h ∧ r64 l), r11 A h l)
  | _ => none
def c13 : Ct := fun A args => match args with
  | [.agg [.int .u64 h, .int .u64 l], .int .i64 n] => some (some (A.tp fun _ => r64 h ∧ r64 l), r13 A h l n)
  | _ => none
def g2 : Ar → Pu := addC 11 c11 (addC 13 c13 g1)
theorem g2_ok : PuOk Try.prog gl0 (g2 std) := by
  refine addC_ok (addC_ok g1_ok ⟨_, Try.func13, rfl, by decide⟩ ?_) ⟨_, Try.func11, rfl, by decide⟩ ?_
  · intro args p r h hp
    unfold c13 at h
    split at h <;> cases h
    exact good13 _ hp.1 hp.2
  · intro args p r h hp
    unfold c11 at h
    split at h <;> cases h
    exact good11 hp.1 hp.2
def r7 (A : Ar) (h l n : Int) : SV := .tup [.agg [.int .u64 (A.ti fun _ => (bput h.toNat l.toNat n).1), .int .u64 (A.ti fun _ => (bput h.toNat l.toNat n).2)], .int .i64 (A.ti fun _ => berr h.toNat l.toNat n)]
theorem good7 {h l : Int} (n : Int) (hh : r64 h) (hl : r64 l) : GoodP Try.prog gl0 7 [.agg [.int .u64 h, .int .u64 l], .int .i64 n] (r7 std h l n) := by
  obtain ⟨h, rfl, lh⟩ := r64_nat hh
  obtain ⟨l, rfl, ll⟩ := r64_nat hl
  refine fn_sound' (T := seatT) (G := g2) (X := noX) seatT_ok g2_ok noX_ok noI_ok mixed Try.func7 .one (fun A => [.agg [.int .u64 h, .int .u64 l], .int .i64 n]) (fun A => r7 A h l n) fun A hA => ?_
  cbv
  repeat' (first | with_reducible exact dr_ok hA (by kernel_rfl) | with_reducible refine And.intro ?_ ?_ | (intro hc; cbv))
  all_goals (subst hA; simp [std] at *)
  all_goals first
    | exact ⟨hh, hl⟩
    | skip
  all_goals first
    | (have : (bright h l && bfield n) = false := by rcases hc with hc | hc <;> simp [hc]
       simp [bput, berr, this]; done)
    | (have := bfield_iff.1 hc.2; exact ⟨this.1, this.2.1⟩)
    | (rename_i hc1
       have hf := bfield_iff.1 hc1.2
       have e1 := bits_or_u64_nat h (bhi n) lh (bhi_lt n hf.1)
       have e2 := bits_or_u64_nat l (blo n) ll (blo_lt n hf.2.1)
       have e3 := bits_or_u64_nat (h ||| bhi n) 9223372036854775808 (or_lt64 lh (bhi_lt n hf.1)) (by decide)
       rw [e2] at hc
       have e4 : ((9223372036854775808 : Nat) : Int) = 9223372036854775808 := rfl
       rw [e4] at e3
       by_cases hne : l ||| blo n = 0
       · first
           | (exact absurd (by rw [hne]; rfl) hc)
           | (simp only [bput, berr, hc1.1, hc1.2, Bool.and_self, if_true, hne, ne_eq, not_true_eq_false, if_false, e1, e2]; done)
           | (simp only [bput, berr, hc1.1, hc1.2, Bool.and_self, if_true, hne, ne_eq, not_true_eq_false, if_false, e1, e2]; rfl)
       · first
           | (simp only [bput, berr, hc1.1, hc1.2, Bool.and_self, if_true, hne, ne_eq, not_false_eq_true, e1, e2, e3]; done)
           | (exact absurd (by exact_mod_cast hc) hne))
def c7 : Ct := fun A args => match args with
  | [.agg [.int .u64 h, .int .u64 l], .int .i64 n] => some (some (A.tp fun _ => r64 h ∧ r64 l), r7 A h l n)
  | _ => none
def g3 : Ar → Pu := addC 7 c7 g2
theorem g3_ok : PuOk Try.prog gl0 (g3 std) := by
  refine addC_ok g2_ok ⟨_, Try.func7, rfl, by decide⟩ ?_
  intro args p r h hp
  unfold c7 at h
  split at h <;> cases h
  exact good7 _ hp.1 hp.2
end Go.Vd
