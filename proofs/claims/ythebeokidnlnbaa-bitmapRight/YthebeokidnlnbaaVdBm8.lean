/- BitmapPuts. -/
import Derived.Test.YthebeokidnlnbaaVdBm7
set_option linter.unusedVariables false
set_option linter.unusedSimpArgs false
set_option maxRecDepth 100000
set_option maxHeartbeats 1000000
namespace Go.Vd
open Go.Proofs
def rT (A : Ar) : SV := .bool (A.tb fun _ => true)
theorem bput_r {h l : Nat} (n : Int) (hh : h < 18446744073709551616) (hl : l < 18446744073709551616) : r64 ((bput h l n).1 : Nat) ∧ r64 ((bput h l n).2 : Nat) :=
  ⟨r64_of (bput_lt n hh hl).1, r64_of (bput_lt n hh hl).2⟩
theorem berr_ok {h l : Nat} {n : Int} : berr h l n = 0 ↔ bright h l = true ∧ bfield n = true := by
  unfold berr
  cases bright h l <;> cases bfield n <;> simp
theorem puts_no {h l : Nat} {n : Int} (hq : ¬ berr h l n = 0) : bput h l n = (h, l) ∧ berr h l n = 1 := by
  have hn : (bright h l && bfield n) = false := by
    cases hx : (bright h l && bfield n)
    · rfl
    · simp only [Bool.and_eq_true] at hx
      exact absurd (berr_ok.2 hx) hq
  refine ⟨bput_no hn, ?_⟩
  simp [berr, hn]
theorem puts_yes {h l : Nat} {n : Int} (o q : Int) (hq : berr h l n = 0) :
    berr (bput h l n).1 (bput h l n).2 n = 0 ∧ bput (bput h l n).1 (bput h l n).2 n = bput h l n ∧ bright (bput h l n).1 (bput h l n).2 = true ∧
    bhas (bput h l n).1 (bput h l n).2 n = true ∧ (¬ q = n → bhas (bput h l n).1 (bput h l n).2 q = bhas h l q) ∧
    berr (bput h l n).1 (bput h l n).2 o = berr h l o ∧ berr (bput h l o).1 (bput h l o).2 n = 0 ∧
    bput (bput h l n).1 (bput h l n).2 o = bput (bput h l o).1 (bput h l o).2 n := by
  obtain ⟨hb, hf⟩ := berr_ok.1 hq
  have hb' := bput_bright hb hf
  refine ⟨berr_ok.2 ⟨hb', hf⟩, bput_again hb hf, hb', bput_has hb hf, fun hne => bput_other hb hf hne, ?_, ?_, ?_⟩
  · simp [berr, hb, hb']
  · cases hg : bfield o
    · rw [bput_no (n := o) (by simp [hg])]; exact hq
    · exact berr_ok.2 ⟨bput_bright hb hg, hf⟩
  · cases hg : bfield o
    · rw [bput_no (n := o) (by simp [hg]), bput_no (n := o) (by simp [hg])]
    · exact bput_comm hb hf hg
theorem good5 {h l : Int} (n o q : Int) (hh : r64 h) (hl : r64 l) : GoodP Try.prog gl0 5 [.agg [.int .u64 h, .int .u64 l], .int .i64 n, .int .i64 o, .int .i64 q] (rT std) := by
  obtain ⟨h, rfl, lh⟩ := r64_nat hh
  obtain ⟨l, rfl, ll⟩ := r64_nat hl
  refine fn_sound' (T := seatT) (G := g6) (X := noX) seatT_ok g6_ok noX_ok noI_ok mixed Try.func5 .one (fun A => [.agg [.int .u64 h, .int .u64 l], .int .i64 n, .int .i64 o, .int .i64 q]) (fun A => rT A) fun A hA => ?_
  cbv
  repeat' (first | with_reducible exact True.intro | with_reducible exact dr_ok hA (by kernel_rfl) | with_reducible refine And.intro ?_ ?_ | (intro hc; cbv))
  all_goals (subst hA; simp [std] at *)
  all_goals first
    | exact ⟨hh, hl⟩
    | exact bput_r n lh ll
    | exact bput_r o lh ll
    | (obtain ⟨e1, e2⟩ := puts_no hc
       simp [e1, e2]; done)
    | (obtain ⟨k1, k2, k3, k4, k5, k6, k7, k8⟩ := puts_yes o q hc
       have r1 := bput_r n lh ll
       simp [k1, k2, k3, k4, r1, hh, hl]; done)
    | (rename_i hc1
       obtain ⟨k1, k2, k3, k4, k5, k6, k7, k8⟩ := puts_yes o q hc1
       simp [k1, k2, k3, k4, k6, k7, k8]; done)
    | (rename_i hc1
       obtain ⟨k1, k2, k3, k4, k5, k6, k7, k8⟩ := puts_yes o q hc1
       simp [k1, k2, k3, k4] at hc
       exact hc.2 (k5 hc.1))
end Go.Vd
