/- The reference's functions of the bitmap: fields, of. -/
import Derived.Test.YthebeokidnlnbaaVdBmc
set_option linter.unusedVariables false
set_option linter.unusedSimpArgs false
set_option maxRecDepth 100000
set_option maxHeartbeats 1000000
namespace Go.Vd
open Go.Proofs
theorem bfieldsTo_step (h l n : Nat) (hn : 1 ≤ n) : bfieldsTo h l (n + 1) = if bhas h l n then bfieldsTo h l n ++ [(n : Int)] else bfieldsTo h l n := by
  by_cases h2 : 2 ≤ n
  · exact bfieldsTo_succ h l n h2
  · have : n = 1 := by omega
    subst this
    have hb : bhas h l ((1 : Nat) : Int) = false := by
      have : bfield ((1 : Nat) : Int) = false := by decide
      unfold bhas
      rw [this]
      rfl
    rw [hb]
    rfl
theorem good17 {h l : Int} (hh : r64 h) (hl : r64 l) : GoodP Try.prog gl0 17 [.agg [.int .u64 h, .int .u64 l]] (r16 std h l) := by
  obtain ⟨h, rfl, lh⟩ := r64_nat hh
  obtain ⟨l, rfl, ll⟩ := r64_nat hl
  refine fn_sound' (T := seatT) (G := g9) (X := noX) seatT_ok g9_ok noX_ok noI_ok mixed Try.func17 .none (fun A => [.agg [.int .u64 h, .int .u64 l]]) (fun A => r16 A h l) fun A hA => ?_
  cbv
  refine ⟨⟨{n : Nat // 1 ≤ n ∧ n ≤ 129}, fun b n => [(3, .own b), (4, .int .i64 (n.1 : Nat))], fun b n => [(b, .row 3 1 (A.tn fun _ => (bfieldsTo h l n.1).length) (zsF A fun _ => bfieldsTo h l n.1))], fun n => 129 - n.1, true⟩, ⟨⟨1, by omega⟩, ?_⟩, ?_⟩
  · cbv
    subst hA
    simp [std, bfieldsTo]
  · rintro ⟨n, hn1, hn2⟩
    cbv
    repeat' (first | with_reducible exact True.intro | with_reducible exact dr_ok hA (by kernel_rfl) | with_reducible refine And.intro ?_ ?_ | (intro hc; cbv))
    · subst hA; exact ⟨hh, hl⟩
    · have := bfieldsTo_len h l n
      subst hA
      simp [std]; omega
    · rename_i hc1
      have hlt : n < 129 := by subst hA; simp [std] at hc1; omega
      have hb : bhas h l n = true := by subst hA; simpa [std] using hc
      refine ⟨⟨n + 1, by omega, by omega⟩, ?_, show 129 - (n + 1) < 129 - n by omega⟩
      have hs := bfieldsTo_step h l n hn1
      rw [hb, if_pos rfl] at hs
      cbv
      repeat' (first | with_reducible exact True.intro | with_reducible exact dr_ok hA (by kernel_rfl) | with_reducible refine And.intro ?_ ?_)
      all_goals (subst hA; simp [std, zsF, hs])
      · rw [w64 (by omega)]
      · exact snoc_z _ _
    · rename_i hc1
      have hlt : n < 129 := by subst hA; simp [std] at hc1; omega
      have hb : bhas h l n = false := by subst hA; simpa [std] using hc
      refine ⟨⟨n + 1, by omega, by omega⟩, ?_, show 129 - (n + 1) < 129 - n by omega⟩
      have hs := bfieldsTo_step h l n hn1
      rw [hb, if_neg (by simp)] at hs
      cbv
      repeat' (first | with_reducible exact True.intro | with_reducible exact dr_ok hA (by kernel_rfl) | with_reducible refine And.intro ?_ ?_)
      all_goals (subst hA; simp [std, zsF, hs])
      · rw [w64 (by omega)]
    all_goals (have : n = 129 := by subst hA; simp [std] at hc; omega)
    all_goals (subst hA this; simp [std, bfields, zsF])
theorem bof_r (L : List Int) : ∀ k m, bofTo L k = some m → k ≤ L.length → m.1 < 18446744073709551616 ∧ m.2 < 18446744073709551616 := by
  intro k
  induction k with
  | zero => intro m hm _; simp [bofTo, bofS] at hm; subst hm; decide
  | succ k ih =>
    intro m hm hk
    rw [bofTo_succ L k (by omega)] at hm
    cases hq : bofTo L k with
    | none => rw [hq] at hm; cases hm
    | some m' =>
      rw [hq] at hm
      simp only [Option.bind_some] at hm
      split at hm
      · cases hm
        have := ih m' hq (by omega)
        exact bput_lt _ this.1 this.2
      · cases hm
theorem good10 (L : List Int) (hL : L.length ≤ 9223372036854775807) : GoodP Try.prog gl0 10 [zsS std fun _ => L] (r9 std fun _ => L) := by
  refine fn_sound' (T := seatT) (G := g9) (X := noX) seatT_ok g9_ok noX_ok noI_ok mixed Try.func10 .one (fun A => [zsS A fun _ => L]) (fun A => r9 A fun _ => L) fun A hA => ?_
  cbv
  refine ⟨⟨{p : Nat × Nat × Nat // p.1 ≤ L.length ∧ bofTo L p.1 = some p.2}, fun _ p => [(5, .int .i64 (p.1.1 : Nat))], fun _ p => [(2, .box 24 [.int .u64 (p.1.2.1 : Nat), .int .u64 (p.1.2.2 : Nat)])], fun p => L.length - p.1.1, true⟩, ⟨⟨(0, 0, 0), by omega, rfl⟩, ?_⟩, ?_⟩
  · cbv
    subst hA
    simp [std, zsF]
  · rintro ⟨⟨k, h, l⟩, hk, hm⟩
    simp only at hk hm
    cbv
    have hb : (k : Nat) < L.length → (berr h l (L.getD k 0) = 0 ↔ bofTo L (k + 1) = some (bput h l (L.getD k 0))) ∧ (berr h l (L.getD k 0) ≠ 0 → berr h l (L.getD k 0) = 1 ∧ bofTo L (k + 1) = none) := by
      intro hlt
      have hs := bofTo_succ L k hlt
      rw [hm] at hs
      simp only [Option.bind_some] at hs
      unfold berr
      cases hq : (bright h l && bfield (L.getD k 0))
      · rw [hq] at hs; simp [hs]
      · rw [hq] at hs; simp [hs]
    have hr : r64 (h : Nat) ∧ r64 (l : Nat) := by
      have := bof_r L k _ hm hk
      exact ⟨r64_of this.1, r64_of this.2⟩
    repeat' (first | with_reducible exact True.intro | with_reducible exact dr_ok hA (by kernel_rfl) | with_reducible refine And.intro ?_ ?_ | (intro hc; cbv))
    · subst hA; simp [std] at hc ⊢; omega
    · subst hA; exact hr
    · rename_i hc1
      have hlt : k < L.length := by subst hA; simp [std] at hc1; omega
      have h2 : berr h l (L.getD k 0) ≠ 0 := by subst hA; simp [std] at hc ⊢; exact hc
      have h3 := bofTo_stop L (k + 1) L.length hlt ((hb hlt).2 h2).2
      rw [bofTo_all] at h3
      subst hA; simp [std, bof, h3]
    · rename_i hc1
      have hlt : k < L.length := by subst hA; simp [std] at hc1; omega
      have h2 : berr h l (L.getD k 0) ≠ 0 := by subst hA; simp [std] at hc ⊢; exact hc
      have h3 := bofTo_stop L (k + 1) L.length hlt ((hb hlt).2 h2).2
      rw [bofTo_all] at h3
      subst hA; simp [std, bof, h3]
    · rename_i hc1
      have hlt : k < L.length := by subst hA; simp [std] at hc1; omega
      have h2 : berr h l (L.getD k 0) ≠ 0 := by subst hA; simp [std] at hc ⊢; exact hc
      have h3 := bofTo_stop L (k + 1) L.length hlt ((hb hlt).2 h2).2
      rw [bofTo_all] at h3
      have h4 := ((hb hlt).2 h2).1
      subst hA; simp [std, boferr, h3] at h4 ⊢; exact h4
    · rename_i hc1
      have hlt : k < L.length := by subst hA; simp [std] at hc1; omega
      have h2 : berr h l (L.getD k 0) = 0 := by subst hA; simp [std] at hc ⊢; exact hc
      have hx := (hb hlt).1.1 h2
      clear hb
      obtain ⟨b, hbq⟩ : ∃ b, b = bput h l (L.getD k 0) := ⟨_, rfl⟩
      have hx' : k + 1 ≤ L.length ∧ bofTo L (k + 1) = some b := ⟨hlt, by rw [hbq]; exact hx⟩
      refine ⟨⟨(k + 1, b), hx'⟩, ?_, ?_⟩
      rotate_left
      · show L.length - (k + 1) < L.length - k
        omega
      cbv
      repeat' (first | with_reducible exact True.intro | with_reducible exact dr_ok hA (by kernel_rfl) | with_reducible refine And.intro ?_ ?_)
      all_goals (subst hA; simp [std, zsF])
      · rw [w64 (by omega)]
      · rw [hbq, List.getD_eq_getElem?_getD]
      · rw [hbq, List.getD_eq_getElem?_getD]
    all_goals (have : k = L.length := by subst hA; simp [std] at hc; omega)
    all_goals (subst this; rw [bofTo_all] at hm; subst hA; simp [std, bof, boferr, hm])
end Go.Vd
