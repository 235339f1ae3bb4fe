/- The reference's bytes of a bitmap, and the bitmap of bytes. -/
import Derived.Test.YthebeokidnlnbaaVdBme
set_option linter.unusedVariables false
set_option linter.unusedSimpArgs false
set_option maxRecDepth 100000
set_option maxHeartbeats 1000000
namespace Go.Vd
open Go.Proofs
/-- One cast, one form. -/
theorem ncast (n : Nat) : @NatCast.natCast Int instNatCastInt n = (n : Int) := rfl
/-- The bytes of a bitmap that is right, as the reference has them. -/
def bref (h l : Nat) : List UInt8 := if l = 0 then be8 h else be8 h ++ be8 l
def r19 (A : Ar) (h l : Int) : SV := bsS A fun _ => bref h.toNat l.toNat
theorem good19 {h l : Int} (hh : r64 h) (hl : r64 l) : GoodP Try.prog gl0 19 [.agg [.int .u64 h, .int .u64 l]] (r19 std h l) := by
  obtain ⟨h, rfl, lh⟩ := r64_nat hh
  obtain ⟨l, rfl, ll⟩ := r64_nat hl
  refine fn_sound' (T := seatT) (G := ga) (X := noX) seatT_ok ga_ok noX_ok noI_ok mixed Try.func19 .none (fun A => [.agg [.int .u64 h, .int .u64 l]]) (fun A => r19 A h l) fun A hA => ?_
  cbv
  repeat' (first | with_reducible exact True.intro | with_reducible exact dr_ok hA (by kernel_rfl) | with_reducible refine And.intro ?_ ?_ | (intro hc; cbv))
  all_goals (subst hA; simp [std, bsF_eq] at *)
  all_goals first
    | assumption
    | (simp [bref, hc, be8_len]; done)
    | (intro i hi
       simp only [bref, hc, if_false, List.getElem?_append, be8_len]
       split <;> rfl)
theorem brM_iff (L : List UInt8) (h : 8 ≤ L.length) : brM L = decide (128 ≤ (L.getD 0 0).toNat) := by
  have h1 := numTo_div L 1 7 (by omega)
  have h2 : numTo L 1 = (L.getD 0 0).toNat := by
    rw [numTo_succ L 0 (by omega)]; simp [numTo]
  have h3 := UInt8.toNat_lt (L.getD 0 0)
  rw [h2] at h1
  unfold brM brH
  rw [Nat.testBit_eq_decide_div_mod_eq]
  have h4 : numTo L 8 / 2 ^ 63 = (L.getD 0 0).toNat / 128 := by
    rw [← h1, Nat.div_div_eq_div_mul]
  rw [h4]
  congr 1
  apply propext
  omega
theorem good21 (L : List UInt8) (hn : L.length ≤ 9223372036854775807) : GoodP Try.prog gl0 21 [bsS std fun _ => L] (r20 std fun _ => L) := by
  refine fn_sound' (T := seatT) (G := ga) (X := noX) seatT_ok ga_ok noX_ok noI_ok mixed Try.func21 .one (fun A => [bsS A fun _ => L]) (fun A => r20 A fun _ => L) fun A hA => ?_
  cbv
  repeat' (first | with_reducible exact True.intro | with_reducible exact dr_ok hA (by kernel_rfl) | with_reducible refine And.intro ?_ ?_ | (intro hc; cbv))
  all_goals (subst hA; simp [std, ncast, bsF_eq, bsL_lit, isBs_lit, isBs_lit2, bsL_drop] at *)
  all_goals try omega
  · by_cases e : L.length < 8
    · simp [br1, brE, e]
    · have hb : brM L = true := by rw [brM_iff L (by omega)]; simp; omega
      simp [br1, brE, e, hb, show L.length < 16 by omega]
  · by_cases e : L.length < 8
    · simp [br2, brE, e]
    · have hb : brM L = true := by rw [brM_iff L (by omega)]; simp; omega
      simp [br2, brE, e, hb, show L.length < 16 by omega]
  · by_cases e : L.length < 8
    · simp [brN, brE, e]
    · have hb : brM L = true := by rw [brM_iff L (by omega)]; simp; omega
      simp [brN, brE, e, hb, show L.length < 16 by omega]
  · by_cases e : L.length < 8
    · simp [brE, e]
    · have hb : brM L = true := by rw [brM_iff L (by omega)]; simp; omega
      simp [brE, e, hb, show L.length < 16 by omega]
  all_goals first
    | exact ⟨numTo_r _ (by omega), numTo_r _ (by simp; omega)⟩
    | exact ⟨numTo_r _ (by omega), r64_of (by decide)⟩
    | (have hb : brM L = true := by rw [brM_iff L (by omega)]; simp; omega
       have e1 : ¬ L.length < 8 := by omega
       have e2 : ¬ L.length < 16 := by omega
       simp [br1, br2, brN, brE, brL, e1, e2, hb, brH, hc]; done)
    | (have hb : brM L = false := by rw [brM_iff L (by omega)]; simp; omega
       have e1 : ¬ L.length < 8 := by omega
       simp [br1, br2, brN, brE, brL, e1, hb, brH, hc]; done)
theorem bright_ne {h l : Nat} (hb : bright h l = true) : bref h l = bbytes h l := by
  have := bright_iff.1 hb
  unfold bref bbytes
  rw [hb, this.2]
  by_cases e : l = 0 <;> simp [e]
def c19 : Ct := fun A args => match args with
  | [.agg [.int .u64 h, .int .u64 l]] => some (some (A.tp fun _ => r64 h ∧ r64 l), r19 A h l)
  | _ => none
def gb : Ar → Pu := addC 19 c19 (addC 21 c20 (addC 10 c9 (addC 17 c16 ga)))
theorem gb_ok : PuOk Try.prog gl0 (gb std) := by
  refine addC_ok (addC_ok (addC_ok (addC_ok ga_ok ⟨_, Try.func17, rfl, by decide⟩ ?_) ⟨_, Try.func10, rfl, by decide⟩ ?_) ⟨_, Try.func21, rfl, by decide⟩ ?_) ⟨_, Try.func19, rfl, by decide⟩ ?_
  · intro args p r h hp
    unfold c16 at h
    split at h <;> cases h
    exact good17 hp.1 hp.2
  · intro args p r h hp
    unfold c9 at h
    split at h <;> cases h
    exact good_sv (good10 _ (by rw [zsL_length]; exact hp.2)) ⟨zs_sv hp.1, trivial⟩
  · intro args p r h hp
    unfold c20 at h
    split at h <;> cases h
    exact good_sv (good21 _ (by rw [bsL_length]; exact hp.2)) ⟨bs_sv hp.1, trivial⟩
  · intro args p r h hp
    unfold c19 at h
    split at h <;> cases h
    exact good19 hp.1 hp.2
theorem good3 {h l : Int} (n : Int) (m : List Int) (b : List UInt8) (hh : r64 h) (hl : r64 l) (hm : m.length ≤ 9223372036854775807) (hb : b.length ≤ 9223372036854775807) : GoodP Try.prog gl0 3 [.agg [.int .u64 h, .int .u64 l], .int .i64 n, zsS std fun _ => m, bsS std fun _ => b] (rT std) := by
  obtain ⟨h, rfl, lh⟩ := r64_nat hh
  obtain ⟨l, rfl, ll⟩ := r64_nat hl
  refine fn_sound' (T := seatT) (G := gb) (X := noX) seatT_ok gb_ok noX_ok noI_ok mixed Try.func3 .one (fun A => [.agg [.int .u64 h, .int .u64 l], .int .i64 n, zsS A fun _ => m, bsS A fun _ => b]) (fun A => rT A) fun A hA => ?_
  cbv
  repeat' (first | with_reducible exact True.intro | with_reducible exact dr_ok hA (by kernel_rfl) | with_reducible refine And.intro ?_ ?_ | (intro hc; cbv))
  all_goals (subst hA; simp [std, ncast, bsF_eq, bsL_lit, isBs_lit, isBs_lit2, bsL_drop, zsF_eq, zsL_lit, isZs_lit, bsL_cat, isBs_cat, str_lit] at *)
  all_goals have hfl := bf_le h l
  all_goals first
    | exact ⟨hh, hl⟩
    | assumption
    | omega
    | (have f1 : bright h l = true → bbErr h l = 0 ∧ bbytes h l = bref h l := fun e => ⟨by simp [bbErr, e], (bright_ne e).symm⟩
       have f2 : bright h l = false → bbErr h l = 1 ∧ bbytes h l = [] := fun e => ⟨by simp [bbErr, e], by simp [bbytes, e]⟩
       cases e : bright h l
       · simp [e, f2 e, hh, hl] at *
       · simp [e, f1 e, hh, hl] at *)
end Go.Vd
