/- Wheels: the reference's advance comes to the same. -/
import Derived.Test.YtnndgblnbhlplaaVdWU
import Derived.Test.YtnndgblnbhlplaaVdWL
import Derived.Test.YtnndgblnbhlplaaVdRow2
import Derived.Lib.SmallJoins
set_option linter.unusedVariables false
set_option linter.unusedSimpArgs false
set_option maxRecDepth 100000
set_option maxHeartbeats 8000000
namespace Go.Vd
open Go.Proofs
theorem cut_at {L : List Tm} (h : ascT L) {E : Int} {c : Nat} (hc : c ≤ L.length) (h1 : ∀ j, j < c → (L.getD j T0).u ≤ E) (h2 : c < L.length → E < (L.getD c T0).u) : L.take c = L.filter (duT E) ∧ L.drop c = L.filter (laT E) := by
  have ht : ∀ t ∈ L.take c, t.u ≤ E := fun t ht => by
    obtain ⟨i, hi, rfl⟩ := List.getElem_of_mem ht
    rw [List.length_take] at hi
    have := h1 i (by omega)
    rw [List.getD_eq_getElem?_getD, List.getElem?_eq_getElem (show i < L.length by omega)] at this
    rw [List.getElem_take]
    exact this
  have hd : ∀ t ∈ L.drop c, E < t.u := fun t ht => by
    obtain ⟨i, hi, rfl⟩ := List.getElem_of_mem ht
    rw [List.length_drop] at hi
    rw [List.getElem_drop]
    have h3 := h2 (by omega)
    rcases Nat.eq_zero_or_pos i with h4 | h4
    · subst h4
      rw [List.getD_eq_getElem?_getD, List.getElem?_eq_getElem (show c < L.length by omega)] at h3
      exact h3
    · have h5 := asc_at h (show c < c + i by omega) (show c + i < L.length by omega)
      have h6 : (L.getD c T0).u ≤ (L.getD (c + i) T0).u := by
        rcases h5 with h5 | h5 <;> omega
      rw [List.getD_eq_getElem?_getD (i := c + i), List.getElem?_eq_getElem (show c + i < L.length by omega)] at h6
      have h7 : (L.getD c T0).u ≤ (L[c + i]).u := h6
      omega
  have e : ∀ p : Tm → Bool, L.filter p = (L.take c).filter p ++ (L.drop c).filter p := fun p => by rw [← List.filter_append, List.take_append_drop]
  constructor
  · rw [e (duT E), filter_all (p := duT E) fun t h => decide_eq_true (ht t h), filter_none (p := duT E) fun t h => decide_eq_false (by have := hd t h; omega), List.append_nil]
  · rw [e (laT E), filter_none (p := laT E) fun t h => decide_eq_false (by have := ht t h; omega), filter_all (p := laT E) fun t h => decide_eq_true (hd t h), List.nil_append]
attribute [local irreducible] vc
theorem good_rAdv (n m k : Int) (I O : Sl) (hQ : whQ I O) (hn : 0 ≤ n ∧ n < 18446744073709551616) (hk : 0 ≤ k ∧ k < 18446744073709551616) : GoodP Try.prog gl0 23 [whS std n m I O, .int .u64 k] (.tup [whT std (std.ti fun _ => advN n m I O k) m (fun _ => advI n m I O k) (fun _ => advO n m I O k), rowS eT T0 3 std fun _ => advL n m I O k, .int .i64 (std.ti fun _ => advC n m I O k)]) := by
  refine fn_sound' (T := seatT) (G := gwk) (X := noX) seatT_ok gwk_ok noX_ok noI_ok mixed Try.func23 (.none) (fun A => [whS A n m I O, .int .u64 k]) (fun A => .tup [whT A (A.ti fun _ => advN n m I O k) m (fun _ => advI n m I O k) (fun _ => advO n m I O k), rowS eT T0 3 A fun _ => advL n m I O k, .int .i64 (A.ti fun _ => advC n m I O k)]) fun A hA => ?_
  obtain ⟨L, hL⟩ : ∃ L, L = lstW I O := ⟨_, rfl⟩
  have hLl : L.length ≤ 100000 := by rw [hL]; unfold lstW; rw [srtT_len]; exact hQ.2.1
  have hLT : ∀ t ∈ L, tmQ t := fun t ht => hQ.2.2 t (srtT_mem.1 (by rw [hL] at ht; exact ht))
  obtain ⟨E, hE⟩ : ∃ E, E = IntKind.u64.wrap (n + k) := ⟨_, rfl⟩
  have hEv : (18446744073709551615 - n < k → E < n) ∧ (¬18446744073709551615 - n < k → E = n + k ∧ ¬E < n) := by
    rw [hE, IntKind.wrap_u64]
    omega
  have hE2 : 0 ≤ E ∧ E < 18446744073709551616 := by rw [hE, IntKind.wrap_u64]; omega
  cbv
  repeat' (first | with_reducible exact True.intro | with_reducible exact dr_ok hA (by kernel_rfl) | with_reducible exact eqv_refl hA _ | with_reducible refine And.intro ?_ ?_ | (intro hc; cbv))
  all_goals first
    | (fail_if_success (refine Exists.intro ?_ ?_)
       subst hA
       simp only [sS, isRow_X64 hQ.1.1, isRow_X64 hQ.1.2, lstOf_X64 hQ.1.1, lstOf_X64 hQ.1.2, isRow_M, lstOf_M, ← hL, ← hE] at *
       first
         | done
         | exact ⟨⟨⟨trivial, trivial⟩, hQ⟩, hn⟩
         | exact ⟨⟨trivial, trivial⟩, hQ⟩
         | (have hR : (!wR n m I O) = true := by assumption
            have h1 := adv_1 (k := k) (nb_f hR)
            have h2 := adv_no (by rw [h1]; decide)
            first
              | (rw [h1]; done)
              | (rw [h2.1]; done)
              | (rw [h2.2.1]; exact eqrS_rfl)
              | (rw [h2.2.2.1]; exact eqrS_rfl)
              | (rw [h2.2.2.2]; rfl)
              | (rw [h2.2.2.2]; done))
         | (have hR : (!wR n m I O) = false := by assumption
            have hK : decide (E < n) = true := by assumption
            have hK := of_decide_eq_true hK
            have h1 := adv_10 (nb_t hR) (by
              rcases Int.lt_or_le (18446744073709551615 - n) k with h | h
              · exact h
              · exact absurd hK (hEv.2 (by omega)).2)
            have h2 := adv_no (by rw [h1]; decide)
            first
              | (rw [h1]; done)
              | (rw [h2.1]; done)
              | (rw [h2.2.1]; exact eqrS_rfl)
              | (rw [h2.2.2.1]; exact eqrS_rfl)
              | (rw [h2.2.2.2]; rfl)
              | (rw [h2.2.2.2]; done))
         | trace_state)
    | skip
  have hRH : wR n m I O = true ∧ ¬18446744073709551615 - n < k := by
    subst hA
    simp only [sS, isRow_X64 hQ.1.1, isRow_X64 hQ.1.2, lstOf_X64 hQ.1.1, lstOf_X64 hQ.1.2, isRow_M, lstOf_M, ← hL, ← hE] at *
    have hR : (!wR n m I O) = false := by assumption
    have hK : decide (E < n) = false := by assumption
    have hK := of_decide_eq_false hK
    exact ⟨nb_t hR, fun h => hK (hEv.1 h)⟩
  have hEe := (hEv.2 hRH.2).1
  have h0 := adv_0 hRH.1 hRH.2
  have hadv := adv_yes h0
  have hcan := (wOk_can hQ.1.1 hQ.1.2 (wR_iff.1 hRH.1)).1
  rw [← hL] at hadv hcan
  rw [← hEe] at hadv
  clear hEv
  refine ⟨⟨{c : Nat // c ≤ L.length ∧ ∀ j, j < c → (L.getD j T0).u ≤ E}, fun b c => [(7, rowS eT T0 3 A fun _ => L), (8, .int .i64 (c.1 : Nat))], fun b c => [], fun c => L.length - c.1, true⟩, ⟨⟨0, Nat.zero_le _, fun j hj => absurd hj (by omega)⟩, ?_⟩, ?_⟩
  · cbv
    subst hA
    simp [-List.getD_eq_getElem?_getD, sS, lstOf_X64 hQ.1.1, lstOf_X64 hQ.1.2, ← hL]
  · rintro ⟨c, hx⟩
    have hc1 : c ≤ L.length := hx.1
    have hc2 := hx.2
    obtain ⟨c', hc'⟩ : ∃ c', c' = c + 1 := ⟨_, rfl⟩
    obtain ⟨t, ht⟩ : ∃ t, t = L.getD c T0 := ⟨_, rfl⟩
    have hgt : L.getD c { s := 0, r := [], u := 0 } = t := ht.symm
    have hgo : t.u ≤ E → ∀ j, j < c' → (L.getD j T0).u ≤ E := fun h j hj => by
      rcases Nat.lt_or_ge j c with h1 | h1
      · exact hc2 j h1
      · obtain rfl : j = c := by omega
        rw [← ht]; exact h
    have hend : (c < L.length → ¬t.u ≤ E) → L.take c = L.filter (duT E) ∧ L.drop c = L.filter (laT E) := fun h => cut_at hcan.1 hc1 hc2 fun h1 => by have := h h1; rw [← ht]; omega
    obtain ⟨Dr, hDr⟩ : ∃ D, D = L.drop c := ⟨_, rfl⟩
    have hDl : Dr.length = L.length - c := by rw [hDr, List.length_drop]
    have hDT : ∀ t ∈ Dr, tmQ t := fun t h => hLT t (by rw [hDr] at h; exact List.mem_of_mem_drop h)
    have hRd : Reps eT T0 3 (L.length - c) (fun i j => rowF eT T0 std (fun _ => L) (c + i) j) Dr := by rw [hDr]; exact (Reps.lit L).shift' c hc1
    have hRi : isRow eT T0 3 (L.length - c) (fun i => rowF eT { s := 0, r := [], u := 0 } std (fun _ => L) (c + i)) := ⟨Dr, hRd⟩
    have hRl : lstOf eT T0 3 (L.length - c) (fun i => rowF eT { s := 0, r := [], u := 0 } std (fun _ => L) (c + i)) = Dr := lstOf_eq inj_eT hRd
    cbv
    repeat' (first | with_reducible exact True.intro | with_reducible exact dr_ok hA (by kernel_rfl) | with_reducible exact eqv_refl hA _ | with_reducible refine And.intro ?_ ?_ | (intro hc; cbv))
    all_goals first
      | (fail_if_success (refine Exists.intro ?_ ?_)
         subst hA
         clear hgo
         simp only [sS, Int.ofNat_eq_natCast, Int.toNat_natCast, hgt, ← hE, hRi, hRl] at *
         first
           | done
           | exact fun h => h
           | exact fun h => ⟨h, h⟩
           | (intro h; have h2 : c < L.length := by simpa using h
              first
                | exact ⟨⟨h, h⟩, (show (0 : Int) ≤ ((c : Nat) : Int) by omega), (show ((c : Nat) : Int) < ((L.length : Nat) : Int) by omega)⟩
                | exact ⟨h, h⟩)
           | (intro h; rw [h]; rfl)
           | exact ⟨(show (0 : Int) ≤ ((c : Nat) : Int) by omega), (show ((c : Nat) : Int) < ((L.length + 1 : Nat) : Int) by omega)⟩
           | exact ⟨⟨⟨trivial, by omega⟩, hDT⟩, hE2⟩
           | (have hq : (bif decide ((c : Int) < (L.length : Int)) then decide (t.u ≤ E) else false) = false := by assumption
              have hfin := hend fun h1 h2 => by
                rw [decide_eq_true (show (c : Int) < (L.length : Int) by omega), decide_eq_true h2] at hq
                cases hq
              rw [← hDr] at hfin
              first
                | exact hadv.1.symm
                | exact h0.symm
                | (rw [hadv.2.1, hfin.2]; exact eqrS_rfl)
                | (rw [hadv.2.2.1, hfin.2]; exact eqrS_rfl)
                | (rw [hadv.2.2.2, ← hfin.1, List.length_take]; omega)
                | (rw [hadv.2.2.2, ← hfin.1]; exact eqr_of ((Reps.lit L).take c hc1) (by rw [List.length_take]; omega) rfl)
                | trace_state)
           | trace_state)
      | (have hq : c < L.length ∧ t.u ≤ E := by
           subst hA
           clear hgo hend
           simp only [sS, Int.ofNat_eq_natCast, Int.toNat_natCast, hgt, ← hE] at *
           rcases Nat.lt_or_ge c L.length with h | h
           · rw [decide_eq_true (show (c : Int) < (L.length : Int) by omega)] at hc
             exact ⟨h, of_decide_eq_true (p := t.u ≤ E) hc⟩
           · rw [decide_eq_false (by omega)] at hc; cases hc
         refine ⟨⟨c', by omega, hgo hq.2⟩, ?_, show L.length - c' < L.length - c by omega⟩
         cbv
         subst hA
         simp [-List.getD_eq_getElem?_getD, sS]
         exact w_succ' hc' (by omega))
      | trace_state
end Go.Vd

set_option linter.unusedVariables false
set_option linter.unusedSimpArgs false
set_option maxRecDepth 100000
set_option maxHeartbeats 8000000
namespace Go.Vd
open Go.Proofs
def shS (L : List Tm) : Prop := ∀ t ∈ L, t.r.length ≤ 300
def shN (I O : Sl) (k : Nat) : Prop := ∀ i, i < k → ((sl I i).length ≤ 60 ∧ (sl O i).length ≤ 60) ∧ shS (sl I i) ∧ shS (sl O i)
def shQ (I O : Sl) : Prop := shN I O 64 ∧ (allT I O).length ≤ 300
open Classical in
noncomputable def shW (I O : Sl) : Bool := decide (shQ I O)
theorem shW_iff {I O : Sl} : shW I O = true ↔ shQ I O := by unfold shW; exact @decide_eq_true_iff _ (Classical.propDecidable _)
theorem shW_no {I O : Sl} (h : ¬shN I O 64) : shW I O = false := by
  cases hb : shW I O
  · rfl
  · exact absurd (shW_iff.1 hb).1 h
theorem shW_end {I O : Sl} (h : shN I O 64) : shW I O = decide (((allN I O 64).length : Int) ≤ 300) := by
  rw [Bool.eq_iff_iff, shW_iff, decide_eq_true_eq, ← allT_eq]
  constructor
  · intro hq; have := hq.2; omega
  · intro hq; exact ⟨h, by omega⟩
theorem shS_take {L : List Tm} {k : Nat} (h : shS (L.take k)) (hk : k < L.length) (ht : (L.getD k T0).r.length ≤ 300) : shS (L.take (k + 1)) := fun t h1 => by
  rw [← take_snoc (d := T0) hk] at h1
  rcases List.mem_append.1 h1 with h1 | h1
  · exact h t h1
  · rw [List.mem_singleton.1 h1]; exact ht
theorem shN_len {I O : Sl} : ∀ {k : Nat}, shN I O k → (allN I O k).length ≤ 120 * k
  | 0, _ => Nat.le_refl _
  | k + 1, h => by
    have ih := shN_len (k := k) fun i hi => h i (by omega)
    have := (h k (by omega)).1
    simp only [allN, List.length_append]
    omega
attribute [local irreducible] vc
theorem good_rShortW (n m : Int) (I O : Sl) (hI : I.length = 64) (hO : O.length = 64) : GoodP Try.prog gl0 7 [whS std n m I O] (.bool (std.tb fun _ => shW I O)) := by
  refine fn_sound' (T := seatT) (G := gwk) (X := noX) seatT_ok gwk_ok noX_ok noI_ok mixed Try.func7 (.one) (fun A => [whS A n m I O]) (fun A => .bool (A.tb fun _ => shW I O)) fun A hA => ?_
  cbv
  repeat' (first | with_reducible exact True.intro | with_reducible exact dr_ok hA (by kernel_rfl) | with_reducible exact eqv_refl hA _ | with_reducible refine And.intro ?_ ?_ | (intro hc; cbv))
  refine ⟨⟨{p : Nat × Nat // p.1 ≤ 64 ∧ shN I O p.1 ∧ p.2 = (allN I O p.1).length}, fun b p => [(3, .int .i64 (p.1.2 : Nat)), (4, .int .i64 (p.1.1 : Nat))], fun b p => [], fun p => 64 - p.1.1, true⟩, ⟨⟨(0, 0), Nat.zero_le _, fun i hi => absurd hi (by omega), rfl⟩, ?_⟩, ?_⟩
  · cbv
    subst hA
    simp [-List.getD_eq_getElem?_getD, sS]
  · rintro ⟨⟨i, q⟩, hx⟩
    have hi : i ≤ 64 := hx.1
    have hN : shN I O i := hx.2.1
    have hq : q = (allN I O i).length := hx.2.2
    have hqb := shN_len hN
    rcases Nat.lt_or_ge i 64 with hlt | hge
    · obtain ⟨i', hi'⟩ : ∃ i', i' = i + 1 := ⟨_, rfl⟩
      obtain ⟨L, hL⟩ : ∃ L, L = sl I i := ⟨_, rfl⟩
      obtain ⟨L', hL'⟩ : ∃ L', L' = sl O i := ⟨_, rfl⟩
      have e1 : I.getD i [] = L := hL.symm
      have e2 : O.getD i [] = L' := hL'.symm
      have hno60 : ¬(L.length ≤ 60 ∧ L'.length ≤ 60) → shW I O = false := fun h => shW_no fun hq => h (by rw [hL, hL']; exact (hq i hlt).1)
      rcases Classical.em (L.length ≤ 60 ∧ L'.length ≤ 60) with h60 | h60
      rotate_left
      · cbv
        repeat' (first | with_reducible exact True.intro | with_reducible exact dr_ok hA (by kernel_rfl) | with_reducible exact eqv_refl hA _ | with_reducible refine And.intro ?_ ?_ | (intro hc; cbv))
        all_goals first
          | (exfalso
             subst hA
             simp only [sS, Int.ofNat_eq_natCast, Int.toNat_natCast, e1, e2] at *
             first
               | (have hq : decide ((i : Int) < 64) = false := by assumption
                  have := of_decide_eq_false hq
                  omega)
               | (have hq : (bif decide (60 < (L.length : Int)) then true else decide (60 < (L'.length : Int))) = false := by assumption
                  rcases Nat.lt_or_ge 60 L.length with h | h
                  · rw [decide_eq_true (by omega)] at hq; cases hq
                  · rw [decide_eq_false (by omega)] at hq
                    have := of_decide_eq_false (p := 60 < (L'.length : Int)) hq
                    omega))
          | (fail_if_success (refine Exists.intro ?_ ?_)
             subst hA
             simp only [sS, Int.ofNat_eq_natCast, Int.toNat_natCast, e1, e2] at *
             first
               | done
               | exact fun h => h
               | exact fun h => ⟨h, h⟩
               | exact fun h => ⟨h, by omega, by omega⟩
               | exact fun h => ⟨⟨h, h⟩, by omega, by omega⟩
               | (intro h; rw [h]; rfl)
               | exact ⟨by omega, by omega⟩
               | exact (hno60 h60).symm
               | trace_state)
          | trace_state
      obtain ⟨n', hn'⟩ : ∃ n', n' = q + (L.length + L'.length) := ⟨_, rfl⟩
      have hnn : n' = (allN I O i').length := by rw [hn', hi', hq, hL, hL']; simp [allN]
      have hnext : shS L → shS L' → shN I O i' := fun h1 h2 j hj => by
        rcases Nat.lt_or_ge j i with h3 | h3
        · exact hN j h3
        · obtain rfl : j = i := by omega
          rw [← hL, ← hL']; exact ⟨h60, h1, h2⟩
      have wq1 : IntKind.i64.wrap ((q : Int) + (L.length : Int)) = (q : Int) + (L.length : Int) := w64 (by omega)
      have wq2 : IntKind.i64.wrap ((q : Int) + (L.length : Int) + (L'.length : Int)) = (n' : Int) := by rw [w64 (by omega)]; omega
      clear hno60
      cbv
      repeat' (first | with_reducible exact True.intro | with_reducible exact dr_ok hA (by kernel_rfl) | with_reducible exact eqv_refl hA _ | with_reducible refine And.intro ?_ ?_ | (intro hc; cbv))
      all_goals first
        | (exfalso
           subst hA
           simp only [sS, Int.ofNat_eq_natCast, Int.toNat_natCast, e1, e2] at *
           first
             | (have hq : decide ((i : Int) < 64) = false := by assumption
                have := of_decide_eq_false hq
                omega)
             | (have hq : (bif decide (60 < (L.length : Int)) then true else decide (60 < (L'.length : Int))) = true := by assumption
                rw [decide_eq_false (show ¬60 < (L.length : Int) by omega)] at hq
                have := of_decide_eq_true (p := 60 < (L'.length : Int)) hq
                omega))
        | (fail_if_success (refine Exists.intro ?_ ?_)
           subst hA
           simp only [sS, Int.ofNat_eq_natCast, Int.toNat_natCast, e1, e2] at *
           first
             | done
             | exact fun h => h
             | exact fun h => ⟨h, h⟩
             | exact fun h => ⟨h, by omega, by omega⟩
             | exact fun h => ⟨⟨h, h⟩, by omega, by omega⟩
             | (intro h; rw [h]; rfl)
             | exact ⟨by omega, by omega⟩
             | trace_state)
        | skip
      refine ⟨⟨{k : Nat // k ≤ L.length ∧ shS (L.take k)}, fun b k => [(5, .int .i64 (k.1 : Nat))], fun b k => [], fun k => L.length - k.1, true⟩, ⟨⟨0, Nat.zero_le _, fun t ht => by simp at ht⟩, ?_⟩, ?_⟩
      · cbv
        subst hA
        simp [-List.getD_eq_getElem?_getD, sS]
      · rintro ⟨k, hy⟩
        have hk : k ≤ L.length := hy.1
        have hS : shS (L.take k) := hy.2
        rcases Nat.lt_or_ge k L.length with hltk | hgek
        · obtain ⟨k', hk'⟩ : ∃ k', k' = k + 1 := ⟨_, rfl⟩
          obtain ⟨t, ht⟩ : ∃ t, t = L.getD k T0 := ⟨_, rfl⟩
          have hgt : L.getD k { s := 0, r := [], u := 0 } = t := ht.symm
          have hyes : t.r.length ≤ 300 → shS (L.take k') := fun h => by rw [hk']; exact shS_take hS hltk (ht ▸ h)
          have hno : ¬t.r.length ≤ 300 → shW I O = false := fun h => shW_no fun hq => h ((hq i hlt).2.1 t (by rw [ht, ← hL]; exact mem_at hltk))
          cbv
          repeat' (first | with_reducible exact True.intro | with_reducible exact dr_ok hA (by kernel_rfl) | with_reducible exact eqv_refl hA _ | with_reducible refine And.intro ?_ ?_ | (intro hc; cbv))
          all_goals first
            | (exfalso
               subst hA
               simp only [sS, Int.ofNat_eq_natCast, Int.toNat_natCast, e1] at *
               have hq : decide ((k : Int) < (L.length : Int)) = false := by assumption
               have := of_decide_eq_false hq
               omega)
            | (fail_if_success (refine Exists.intro ?_ ?_)
               subst hA
               clear hyes
               simp only [sS, Int.ofNat_eq_natCast, Int.toNat_natCast, e1, hgt] at *
               first
                 | done
                 | exact ⟨by omega, by omega⟩
                 | (refine (hno fun e => ?_).symm
                    rw [decide_eq_true e] at hc
                    cases hc)
                 | trace_state)
            | (have hok : t.r.length ≤ 300 := by
                 subst hA
                 clear hyes hno
                 simp only [sS, Int.ofNat_eq_natCast, Int.toNat_natCast, e1, hgt] at *
                 have := nb_t hc
                 exact of_decide_eq_true this
               refine ⟨⟨k', by omega, hyes hok⟩, ?_, show L.length - k' < L.length - k by omega⟩
               cbv
               subst hA
               simp [-List.getD_eq_getElem?_getD, sS]
               exact w_succ' hk' (by omega))
            | trace_state
        · have hke : k = L.length := by omega
          rw [hke, List.take_length] at hS
          have hs1 := hS
          cbv
          repeat' (first | with_reducible exact True.intro | with_reducible exact dr_ok hA (by kernel_rfl) | with_reducible exact eqv_refl hA _ | with_reducible refine And.intro ?_ ?_ | (intro hc; cbv))
          all_goals first
            | (exfalso
               subst hA
               simp only [sS, Int.ofNat_eq_natCast, Int.toNat_natCast, e1] at *
               have hq : decide ((k : Int) < (L.length : Int)) = true := by assumption
               have := of_decide_eq_true hq
               omega)
            | (fail_if_success (refine Exists.intro ?_ ?_)
               subst hA
               simp only [sS, Int.ofNat_eq_natCast, Int.toNat_natCast, e1] at *
               first
                 | done
                 | exact ⟨by omega, by omega⟩
                 | trace_state)
            | skip
          refine ⟨⟨{k : Nat // k ≤ L'.length ∧ shS (L'.take k)}, fun b k => [(6, .int .i64 (k.1 : Nat))], fun b k => [], fun k => L'.length - k.1, true⟩, ⟨⟨0, Nat.zero_le _, fun t ht => by simp at ht⟩, ?_⟩, ?_⟩
          · cbv
            subst hA
            simp [-List.getD_eq_getElem?_getD, sS]
          · rintro ⟨k, hy⟩
            have hk : k ≤ L'.length := hy.1
            have hS : shS (L'.take k) := hy.2
            rcases Nat.lt_or_ge k L'.length with hltk | hgek
            · obtain ⟨k', hk'⟩ : ∃ k', k' = k + 1 := ⟨_, rfl⟩
              obtain ⟨t, ht⟩ : ∃ t, t = L'.getD k T0 := ⟨_, rfl⟩
              have hgt : L'.getD k { s := 0, r := [], u := 0 } = t := ht.symm
              have hyes : t.r.length ≤ 300 → shS (L'.take k') := fun h => by rw [hk']; exact shS_take hS hltk (ht ▸ h)
              have hno : ¬t.r.length ≤ 300 → shW I O = false := fun h => shW_no fun hq => h ((hq i hlt).2.2 t (by rw [ht, ← hL']; exact mem_at hltk))
              cbv
              repeat' (first | with_reducible exact True.intro | with_reducible exact dr_ok hA (by kernel_rfl) | with_reducible exact eqv_refl hA _ | with_reducible refine And.intro ?_ ?_ | (intro hc; cbv))
              all_goals first
                | (exfalso
                   subst hA
                   simp only [sS, Int.ofNat_eq_natCast, Int.toNat_natCast, e2] at *
                   have hq : decide ((k : Int) < (L'.length : Int)) = false := by assumption
                   have := of_decide_eq_false hq
                   omega)
                | (fail_if_success (refine Exists.intro ?_ ?_)
                   subst hA
                   clear hyes
                   simp only [sS, Int.ofNat_eq_natCast, Int.toNat_natCast, e2, hgt] at *
                   first
                     | done
                     | exact ⟨by omega, by omega⟩
                     | (refine (hno fun e => ?_).symm
                        rw [decide_eq_true e] at hc
                        cases hc)
                     | trace_state)
                | (have hok : t.r.length ≤ 300 := by
                     subst hA
                     clear hyes hno
                     simp only [sS, Int.ofNat_eq_natCast, Int.toNat_natCast, e2, hgt] at *
                     have := nb_t hc
                     exact of_decide_eq_true this
                   refine ⟨⟨k', by omega, hyes hok⟩, ?_, show L'.length - k' < L'.length - k by omega⟩
                   cbv
                   subst hA
                   simp [-List.getD_eq_getElem?_getD, sS]
                   exact w_succ' hk' (by omega))
                | trace_state
            · have hke : k = L'.length := by omega
              rw [hke, List.take_length] at hS
              have hs2 := hS
              cbv
              repeat' (first | with_reducible exact True.intro | with_reducible exact dr_ok hA (by kernel_rfl) | with_reducible exact eqv_refl hA _ | with_reducible refine And.intro ?_ ?_ | (intro hc; cbv))
              all_goals first
                | (exfalso
                   subst hA
                   simp only [sS, Int.ofNat_eq_natCast, Int.toNat_natCast, e2] at *
                   have hq : decide ((k : Int) < (L'.length : Int)) = true := by assumption
                   have := of_decide_eq_true hq
                   omega)
                | (fail_if_success (refine Exists.intro ?_ ?_)
                   subst hA
                   simp only [sS, Int.ofNat_eq_natCast, Int.toNat_natCast, e2] at *
                   first
                     | done
                     | exact ⟨by omega, by omega⟩
                     | trace_state)
                | skip
              refine ⟨⟨(i', n'), by show i' ≤ 64; omega, hnext hs1 hs2, hnn⟩, ?_, show 64 - i' < 64 - i by omega⟩
              cbv
              subst hA
              simp [-List.getD_eq_getElem?_getD, sS, e1, e2]
              exact ⟨by rw [wq1]; exact wq2, w_succ' hi' (by omega)⟩
    · have hie : i = 64 := by omega
      subst hie
      have hf := shW_end hN
      cbv
      repeat' (first | with_reducible exact True.intro | with_reducible exact dr_ok hA (by kernel_rfl) | with_reducible exact eqv_refl hA _ | with_reducible refine And.intro ?_ ?_ | (intro hc; cbv))
      all_goals first
        | (exfalso
           subst hA
           simp only [sS, Int.ofNat_eq_natCast, Int.toNat_natCast] at *
           have hq : decide ((64 : Int) < 64) = true := by assumption
           have := of_decide_eq_true hq
           omega)
        | (subst hA
           simp only [sS, hq, Int.ofNat_eq_natCast]
           exact hf.symm)
        | trace_state
end Go.Vd

set_option linter.unusedVariables false
set_option linter.unusedSimpArgs false
set_option maxRecDepth 100000
set_option maxHeartbeats 8000000
namespace Go.Vd
open Go.Proofs
theorem advI_len {n m k : Int} {I O : Sl} (h : I.length = 64) : (advI n m I O k).length = 64 := by unfold advI; split; exact bI_len _ _; exact h
theorem advO_len {n m k : Int} {I O : Sl} (h : O.length = 64) : (advO n m I O k).length = 64 := by unfold advO; split; exact bO_len _ _; exact h
theorem wR_len {n m : Int} {I O : Sl} (h : wR n m I O = true) : (lstW I O).length ≤ 256 ∧ ((lstW I O).length : Int) ≤ m ∧ okRm m = true := by
  have h1 := wR_iff.1 h
  have h2 := okRm_iff.1 h1.1
  have h3 := h1.2.2.2
  have h4 : (lstW I O).length = (allT I O).length := srtT_len _
  exact ⟨by omega, by omega, h1.1⟩
theorem sch_R {n m s u : Int} {I O : Sl} {r : List UInt8} (h : schC n m I O s r u = 0) : wR n m I O = true := by
  cases hw : wR n m I O
  · rw [sch_1 hw] at h; cases h
  · rfl
theorem adv_R {n m k : Int} {I O : Sl} (h : advC n m I O k = 0) : wR n m I O = true := by
  cases hw : wR n m I O
  · rw [adv_1 hw] at h; cases h
  · rfl
theorem sch_f {n m s u : Int} {I O : Sl} {r : List UInt8} (h : schC n m I O s r u = 0) : hkT (allT I O) s r = false ∧ ¬u ≤ n ∧ ¬63 < u / 64 - n / 64 ∧ ¬m ≤ ((allT I O).length : Int) := by
  have hw := sch_R h
  cases h1 : hkT (allT I O) s r
  · by_cases h2 : u ≤ n
    · rw [sch_1b hw h1 h2] at h; cases h
    · by_cases h3 : 63 < u / 64 - n / 64
      · rw [sch_9 hw h1 h2 h3] at h; cases h
      · by_cases h4 : m ≤ ((allT I O).length : Int)
        · rw [sch_7 hw h1 h2 h3 h4] at h; cases h
        · exact ⟨rfl, h2, h3, h4⟩
  · rw [sch_6 hw h1] at h; cases h
theorem lst_mem {I O : Sl} {t : Tm} : t ∈ lstW I O ↔ t ∈ allT I O := srtT_mem
theorem sch_next {n m s u : Int} {I O : Sl} {r : List UInt8} (hI : I.length = 64) (hO : O.length = 64) (h : schC n m I O s r u = 0) (hu : 0 ≤ u) : wR n m (schI n m I O s r u) (schO n m I O s r u) = true ∧ lstW (schI n m I O s r u) (schO n m I O s r u) = insT (lstW I O) ⟨s, r, u⟩ := by
  have hw := sch_R h
  obtain ⟨f1, f2, f3, f4⟩ := sch_f h
  obtain ⟨L, hL, hc, e1, e2, hl, hm⟩ := wOk_can' hI hO (wR_iff.1 hw)
  have hx : ∀ x ∈ L, unlT x ⟨s, r, u⟩ := fun x hx => by rw [hL] at hx; exact (hkT_no (t := ⟨s, r, u⟩)).1 f1 x (lst_mem.1 hx)
  have hc2 := can_ins hc (t := ⟨s, r, u⟩) ⟨by show n < u; omega, by show u / 64 - n / 64 ≤ 63; omega⟩ hx
  have hlen : (insT L ⟨s, r, u⟩).length = L.length + 1 := (insT_perm _ _).length_eq
  have hll : L.length = (allT I O).length := by rw [hL]; exact srtT_len _
  obtain ⟨g1, g2⟩ := sch_ref hI hO h hu
  rw [← g1, ← g2, ← hL]
  exact ⟨wR_iff.2 (can_ok hc2 hm (by omega)), can_lst hc2⟩
theorem adv_next {n m k : Int} {I O : Sl} (hI : I.length = 64) (hO : O.length = 64) (h : advC n m I O k = 0) (hk : 0 ≤ k) : wR (advN n m I O k) m (advI n m I O k) (advO n m I O k) = true ∧ lstW (advI n m I O k) (advO n m I O k) = (lstW I O).filter (laT (n + k)) := by
  have hw := adv_R h
  obtain ⟨L, hL, hc, e1, e2, hl, hm⟩ := wOk_can' hI hO (wR_iff.1 hw)
  obtain ⟨g1, g2, g3, g4⟩ := adv_yes h
  have hc2 := can_la hc (n' := n + k) (by omega)
  have hlen := List.length_filter_le (laT (n + k)) L
  rw [g1, g2, g3, ← hL]
  exact ⟨wR_iff.2 (can_ok hc2 hm (by omega)), can_lst hc2⟩
theorem whQ_sch {n m s u : Int} {I O : Sl} {r : List UInt8} (hQ : whQ I O) (hu : 0 ≤ u ∧ u < 18446744073709551616) : whQ (schI n m I O s r u) (schO n m I O s r u) := by
  by_cases h : schC n m I O s r u = 0
  · have hl := wR_len (sch_R h)
    obtain ⟨g1, g2⟩ := sch_ref hQ.1.1 hQ.1.2 h hu.1
    rw [← g1, ← g2]
    have hlen : (insT (lstW I O) ⟨s, r, u⟩).length = (lstW I O).length + 1 := (insT_perm _ _).length_eq
    refine whQ_b (by omega) fun t ht => ?_
    rcases List.mem_cons.1 ((insT_perm _ _).mem_iff.1 ht) with e | e
    · subst e; exact hu
    · exact hQ.2.2 t (lst_mem.1 e)
  · obtain ⟨g1, g2⟩ := sch_no h
    rw [g1, g2]
    exact hQ
theorem whQ_adv {n m k : Int} {I O : Sl} (hQ : whQ I O) : whQ (advI n m I O k) (advO n m I O k) := by
  by_cases h : advC n m I O k = 0
  · have hl := wR_len (adv_R h)
    obtain ⟨_, g1, g2, _⟩ := adv_yes h
    rw [g1, g2]
    have hlen := List.length_filter_le (laT (n + k)) (lstW I O)
    exact whQ_b (by omega) fun t ht => hQ.2.2 t (lst_mem.1 (List.mem_filter.1 ht).1)
  · obtain ⟨_, g1, g2, _⟩ := adv_no h
    rw [g1, g2]
    exact hQ
noncomputable def c_wSched : Ct := fun A args => match args with
  | [.agg [.int .u64 n, .int .i64 m, .run 64 f, .run 64 g], .agg [.int .u32 s, .str r], .int .u64 u] => some (some (A.tp fun _ => ((isRow eTs [] 1 64 f ∧ isRow eTs [] 1 64 g) ∧ whQ (lstOf eTs [] 1 64 f) (lstOf eTs [] 1 64 g)) ∧ (0 ≤ n ∧ n < 18446744073709551616) ∧ 0 ≤ u ∧ u < 18446744073709551616), .tup [whT A n m (fun _ => schI n m (lstOf eTs [] 1 64 f) (lstOf eTs [] 1 64 g) s r u) (fun _ => schO n m (lstOf eTs [] 1 64 f) (lstOf eTs [] 1 64 g) s r u), .int .i64 (A.ti fun _ => schC n m (lstOf eTs [] 1 64 f) (lstOf eTs [] 1 64 g) s r u)])
  | _ => none
noncomputable def c_rSched : Ct := fun A args => match args with
  | [.agg [.int .u64 n, .int .i64 m, .run 64 f, .run 64 g], .agg [.int .u32 s, .str r], .int .u64 u] => some (some (A.tp fun _ => ((isRow eTs [] 1 64 f ∧ isRow eTs [] 1 64 g) ∧ whQ (lstOf eTs [] 1 64 f) (lstOf eTs [] 1 64 g)) ∧ (0 ≤ n ∧ n < 18446744073709551616) ∧ 0 ≤ u ∧ u < 18446744073709551616), .tup [whT A n m (fun _ => schI n m (lstOf eTs [] 1 64 f) (lstOf eTs [] 1 64 g) s r u) (fun _ => schO n m (lstOf eTs [] 1 64 f) (lstOf eTs [] 1 64 g) s r u), .int .i64 (A.ti fun _ => schC n m (lstOf eTs [] 1 64 f) (lstOf eTs [] 1 64 g) s r u)])
  | _ => none
noncomputable def c_wCancel : Ct := fun A args => match args with
  | [.agg [.int .u64 n, .int .i64 m, .run 64 f, .run 64 g], .agg [.int .u32 s, .str r]] => some (some (A.tp fun _ => ((isRow eTs [] 1 64 f ∧ isRow eTs [] 1 64 g) ∧ whQ (lstOf eTs [] 1 64 f) (lstOf eTs [] 1 64 g)) ∧ 0 ≤ n ∧ n < 18446744073709551616), .tup [whT A n m (fun _ => canI n m (lstOf eTs [] 1 64 f) (lstOf eTs [] 1 64 g) s r) (fun _ => canO n m (lstOf eTs [] 1 64 f) (lstOf eTs [] 1 64 g) s r), .int .i64 (A.ti fun _ => canC n m (lstOf eTs [] 1 64 f) (lstOf eTs [] 1 64 g) s r)])
  | _ => none
noncomputable def c_rCancel : Ct := fun A args => match args with
  | [.agg [.int .u64 n, .int .i64 m, .run 64 f, .run 64 g], .agg [.int .u32 s, .str r]] => some (some (A.tp fun _ => ((isRow eTs [] 1 64 f ∧ isRow eTs [] 1 64 g) ∧ whQ (lstOf eTs [] 1 64 f) (lstOf eTs [] 1 64 g)) ∧ 0 ≤ n ∧ n < 18446744073709551616), .tup [whT A n m (fun _ => canI n m (lstOf eTs [] 1 64 f) (lstOf eTs [] 1 64 g) s r) (fun _ => canO n m (lstOf eTs [] 1 64 f) (lstOf eTs [] 1 64 g) s r), .int .i64 (A.ti fun _ => canC n m (lstOf eTs [] 1 64 f) (lstOf eTs [] 1 64 g) s r)])
  | _ => none
noncomputable def c_wAdv : Ct := fun A args => match args with
  | [.agg [.int .u64 n, .int .i64 m, .run 64 f, .run 64 g], .int .u64 k] => some (some (A.tp fun _ => ((isRow eTs [] 1 64 f ∧ isRow eTs [] 1 64 g) ∧ whQ (lstOf eTs [] 1 64 f) (lstOf eTs [] 1 64 g)) ∧ (0 ≤ n ∧ n < 18446744073709551616) ∧ 0 ≤ k ∧ k < 18446744073709551616), .tup [whT A (A.ti fun _ => advN n m (lstOf eTs [] 1 64 f) (lstOf eTs [] 1 64 g) k) m (fun _ => advI n m (lstOf eTs [] 1 64 f) (lstOf eTs [] 1 64 g) k) (fun _ => advO n m (lstOf eTs [] 1 64 f) (lstOf eTs [] 1 64 g) k), rowS eT T0 3 A fun _ => advL n m (lstOf eTs [] 1 64 f) (lstOf eTs [] 1 64 g) k, .int .i64 (A.ti fun _ => advC n m (lstOf eTs [] 1 64 f) (lstOf eTs [] 1 64 g) k)])
  | _ => none
noncomputable def c_rAdv : Ct := fun A args => match args with
  | [.agg [.int .u64 n, .int .i64 m, .run 64 f, .run 64 g], .int .u64 k] => some (some (A.tp fun _ => ((isRow eTs [] 1 64 f ∧ isRow eTs [] 1 64 g) ∧ whQ (lstOf eTs [] 1 64 f) (lstOf eTs [] 1 64 g)) ∧ (0 ≤ n ∧ n < 18446744073709551616) ∧ 0 ≤ k ∧ k < 18446744073709551616), .tup [whT A (A.ti fun _ => advN n m (lstOf eTs [] 1 64 f) (lstOf eTs [] 1 64 g) k) m (fun _ => advI n m (lstOf eTs [] 1 64 f) (lstOf eTs [] 1 64 g) k) (fun _ => advO n m (lstOf eTs [] 1 64 f) (lstOf eTs [] 1 64 g) k), rowS eT T0 3 A fun _ => advL n m (lstOf eTs [] 1 64 f) (lstOf eTs [] 1 64 g) k, .int .i64 (A.ti fun _ => advC n m (lstOf eTs [] 1 64 f) (lstOf eTs [] 1 64 g) k)])
  | _ => none
noncomputable def c_wNewT : Ct := fun A args => match args with
  | [.int .u64 n, .int .i64 m] => some (none, .tup [whT A (A.ti fun _ => newN n m) (A.ti fun _ => newM m) (fun _ => E64) (fun _ => E64), .int .i64 (A.ti fun _ => newC m)])
  | _ => none
noncomputable def c_rShW : Ct := fun A args => match args with
  | [.agg [.int .u64 n, .int .i64 m, .run 64 f, .run 64 g]] => some (some (A.tp fun _ => isRow eTs [] 1 64 f ∧ isRow eTs [] 1 64 g), .bool (A.tb fun _ => shW (lstOf eTs [] 1 64 f) (lstOf eTs [] 1 64 g)))
  | _ => none
noncomputable def gwt : Ar → Pu := addC 10 c_wNewT (addC 17 c_wSched (addC 18 c_rSched (addC 19 c_wCancel (addC 20 c_rCancel (addC 22 c_wAdv (addC 23 c_rAdv (addC 7 c_rShW (gwl))))))))
theorem gwt_ok : PuOk Try.prog gl0 (gwt std) := by
  refine addC_ok (addC_ok (addC_ok (addC_ok (addC_ok (addC_ok (addC_ok (addC_ok (gwl_ok) ⟨_, Try.func7, rfl, by decide⟩ ?_) ⟨_, Try.func23, rfl, by decide⟩ ?_) ⟨_, Try.func22, rfl, by decide⟩ ?_) ⟨_, Try.func20, rfl, by decide⟩ ?_) ⟨_, Try.func19, rfl, by decide⟩ ?_) ⟨_, Try.func18, rfl, by decide⟩ ?_) ⟨_, Try.func17, rfl, by decide⟩ ?_) ⟨_, Try.func10, rfl, by decide⟩ ?_
  · intro args p r h hp
    unfold c_rShW at h
    split at h <;> cases h
    exact good_sv (good_rShortW _ _ _ _ (lstOf_length hp.1) (lstOf_length hp.2)) ⟨whS_sv hp.1 hp.2, trivial⟩
  · intro args p r h hp
    unfold c_rAdv at h
    split at h <;> cases h
    exact good_sv (good_rAdv _ _ _ _ _ hp.1.2 hp.2.1 hp.2.2) ⟨whS_sv hp.1.1.1 hp.1.1.2, rfl, trivial⟩
  · intro args p r h hp
    unfold c_wAdv at h
    split at h <;> cases h
    exact good_sv (good_wAdv _ _ _ _ _ hp.1.2 hp.2.1 hp.2.2) ⟨whS_sv hp.1.1.1 hp.1.1.2, rfl, trivial⟩
  · intro args p r h hp
    unfold c_rCancel at h
    split at h <;> cases h
    exact good_sv (good_rCancel _ _ _ _ _ _ hp.1.2 hp.2) ⟨whS_sv hp.1.1.1 hp.1.1.2, ⟨_, rfl, rfl, rfl, trivial⟩, trivial⟩
  · intro args p r h hp
    unfold c_wCancel at h
    split at h <;> cases h
    exact good_sv (good_wCancel _ _ _ _ _ _ hp.1.2 hp.2) ⟨whS_sv hp.1.1.1 hp.1.1.2, ⟨_, rfl, rfl, rfl, trivial⟩, trivial⟩
  · intro args p r h hp
    unfold c_rSched at h
    split at h <;> cases h
    exact good_sv (good_rSched _ _ _ _ _ _ _ hp.1.2 hp.2.1 hp.2.2) ⟨whS_sv hp.1.1.1 hp.1.1.2, ⟨_, rfl, rfl, rfl, trivial⟩, rfl, trivial⟩
  · intro args p r h hp
    unfold c_wSched at h
    split at h <;> cases h
    exact good_sv (good_wSched _ _ _ _ _ _ _ hp.1.2 hp.2.1 hp.2.2) ⟨whS_sv hp.1.1.1 hp.1.1.2, ⟨_, rfl, rfl, rfl, trivial⟩, rfl, trivial⟩
  · intro args p r h hp
    unfold c_wNewT at h
    split at h <;> cases h
    exact good_wNew _ _
end Go.Vd

set_option linter.unusedVariables false
set_option linter.unusedSimpArgs false
set_option maxRecDepth 100000
set_option maxHeartbeats 8000000
namespace Go.Vd
open Go.Proofs
def wt0 : Tm := ⟨1, [], 64⟩
@[irreducible] def aI : Sl := bI 60 []
@[irreducible] def aO : Sl := bO 60 [wt0]
theorem E64_b (n : Int) : E64 = bI n [] ∧ E64 = bO n [] := by
  constructor
  · refine sl_ext (by simp [E64]) (bI_len _ _) fun i hi => ?_
    rw [bI_at hi, sl, E64_get]; rfl
  · refine sl_ext (by simp [E64]) (bO_len _ _) fun i hi => ?_
    rw [bO_at hi, sl, E64_get]; rfl
theorem E64_len : E64.length = 64 := by simp [E64]
theorem can_0' (n : Int) : canT n [] := ⟨List.Pairwise.nil, List.Pairwise.nil, fun t h => by simp at h⟩
theorem new_R {n m : Int} (hm : okRm m = true) : wR n m E64 E64 = true := by
  have h := can_ok (can_0' n) hm (by have := okRm_iff.1 hm; simp; omega)
  rw [← (E64_b n).1, ← (E64_b n).2] at h
  exact wR_iff.2 h
theorem new_lst : lstW E64 E64 = [] := by
  have h := can_lst (can_0' 0)
  rw [← (E64_b 0).1, ← (E64_b 0).2] at h
  exact h
theorem new_all : allT E64 E64 = [] := by
  have h : (lstW E64 E64).length = (allT E64 E64).length := srtT_len _
  rw [new_lst] at h
  exact List.length_eq_zero_iff.1 h.symm
theorem whQ_0 : whQ E64 E64 := ⟨⟨E64_len, E64_len⟩, by rw [new_all]; simp, by rw [new_all]; intro t h; simp at h⟩
theorem ok2 : okRm 2 = true := by decide
theorem a_all0 : hkT (allT E64 E64) 1 [] = false := by rw [new_all]; rfl
theorem a_c1 : schC 60 2 E64 E64 1 [] 64 = 0 := sch_0 (new_R ok2) a_all0 (by decide) (by decide) (by rw [new_all]; decide)
theorem a_n1 : wR 60 2 (schI 60 2 E64 E64 1 [] 64) (schO 60 2 E64 E64 1 [] 64) = true ∧ lstW (schI 60 2 E64 E64 1 [] 64) (schO 60 2 E64 E64 1 [] 64) = [wt0] := by
  have h := sch_next E64_len E64_len a_c1 (by decide)
  rw [new_lst] at h
  exact h
theorem a_b1 : schI 60 2 E64 E64 1 [] 64 = bI 60 [wt0] ∧ schO 60 2 E64 E64 1 [] 64 = bO 60 [wt0] := by
  obtain ⟨g1, g2⟩ := sch_ref E64_len E64_len a_c1 (by decide)
  rw [new_lst] at g1 g2
  exact ⟨g1.symm, g2.symm⟩
theorem a_R : wR 60 2 (bI 60 [wt0]) (bO 60 [wt0]) = true ∧ lstW (bI 60 [wt0]) (bO 60 [wt0]) = [wt0] := by
  have h := a_n1
  rw [a_b1.1, a_b1.2] at h
  exact h
theorem a_all : allT (bI 60 [wt0]) (bO 60 [wt0]) = [wt0] := List.perm_singleton.1 (bIO_all 60 [wt0])
theorem a_c2 : advC 60 2 (bI 60 [wt0]) (bO 60 [wt0]) 3 = 0 := adv_0 a_R.1 (by decide)
theorem a_y2 : advN 60 2 (bI 60 [wt0]) (bO 60 [wt0]) 3 = 63 ∧ advI 60 2 (bI 60 [wt0]) (bO 60 [wt0]) 3 = bI 63 [wt0] ∧ advO 60 2 (bI 60 [wt0]) (bO 60 [wt0]) 3 = bO 63 [wt0] ∧ advL 60 2 (bI 60 [wt0]) (bO 60 [wt0]) 3 = [] := by
  obtain ⟨g1, g2, g3, g4⟩ := adv_yes a_c2
  rw [a_R.2] at g2 g3 g4
  exact ⟨g1, g2, g3, g4⟩
theorem a_R2 : wR 63 2 (bI 63 [wt0]) (bO 63 [wt0]) = true ∧ lstW (bI 63 [wt0]) (bO 63 [wt0]) = [wt0] := by
  have h := adv_next (bI_len _ _) (bO_len _ _) a_c2 (by decide)
  rw [a_R.2, a_y2.1, a_y2.2.1, a_y2.2.2.1] at h
  exact h
theorem a_c3 : advC 63 2 (bI 63 [wt0]) (bO 63 [wt0]) 1 = 0 := adv_0 a_R2.1 (by decide)
theorem a_y3 : advN 63 2 (bI 63 [wt0]) (bO 63 [wt0]) 1 = 64 ∧ advI 63 2 (bI 63 [wt0]) (bO 63 [wt0]) 1 = bI 64 [] ∧ advO 63 2 (bI 63 [wt0]) (bO 63 [wt0]) 1 = bO 64 [] ∧ advL 63 2 (bI 63 [wt0]) (bO 63 [wt0]) 1 = [wt0] := by
  obtain ⟨g1, g2, g3, g4⟩ := adv_yes a_c3
  rw [a_R2.2] at g2 g3 g4
  exact ⟨g1, g2, g3, g4⟩
theorem a_R3 : wR 64 2 (bI 64 []) (bO 64 []) = true := by
  have h := adv_next (bI_len _ _) (bO_len _ _) a_c3 (by decide)
  rw [a_y3.1, a_y3.2.1, a_y3.2.2.1] at h
  exact h.1
theorem a_6 : schC 60 2 (bI 60 [wt0]) (bO 60 [wt0]) 1 [] 99 = 6 := sch_6 a_R.1 (by rw [a_all]; rfl)
theorem a_9 : schC 60 2 (bI 60 [wt0]) (bO 60 [wt0]) 2 [] 4096 = 9 := sch_9 a_R.1 (by rw [a_all]; rfl) (by decide) (by decide)
theorem a_s1 : (bO 60 [wt0]).getD 1 [] = [wt0] := by
  have h := bO_at (n := 60) (L := [wt0]) (i := 1) (by decide)
  unfold sl at h
  rw [h]; rfl
theorem a_s2 : (bO 64 []).getD 1 [] = [] := by
  have h := bO_at (n := 64) (L := []) (i := 1) (by decide)
  unfold sl at h
  rw [h]; rfl
theorem a_q (n : Int) : whQ (bI n [wt0]) (bO n [wt0]) := whQ_b (by simp) fun t h => by simp only [List.mem_singleton] at h; subst h; exact ⟨by decide, by decide⟩
theorem a_q0 (n : Int) : whQ (bI n []) (bO n []) := whQ_b (by simp) fun t h => by simp at h
theorem isRow_E : isRow eTs [] 1 64 (rowF eTs [] std fun _ => E64) := isRow_X64 E64_len
theorem lstOf_E : lstOf eTs [] 1 64 (rowF eTs [] std fun _ => E64) = E64 := lstOf_X64 E64_len
@[irreducible] def aBI (u : Int) : Sl := bI 60 [wt0]
@[irreducible] def aBO (u : Int) : Sl := bO 60 [wt0]
def aBC (u : Int) : Int := if u = 64 then 0 else if u = 99 then 6 else 9
def aBP (n m s u : Int) (r : List UInt8) (I O : Sl) : Prop := (n = 60 ∧ m = 2 ∧ r = []) ∧ ((u = 64 ∧ s = 1 ∧ I = E64 ∧ O = E64) ∨ (u = 99 ∧ s = 1 ∧ I = bI 60 [wt0] ∧ O = bO 60 [wt0]) ∨ (u = 4096 ∧ s = 2 ∧ I = bI 60 [wt0] ∧ O = bO 60 [wt0]))
theorem aB_q {n m s u : Int} {r : List UInt8} {I O : Sl} (h : aBP n m s u r I O) : whQ I O ∧ (0 ≤ n ∧ n < 18446744073709551616) ∧ (0 ≤ u ∧ u < 18446744073709551616) := by
  obtain ⟨⟨rfl, rfl, rfl⟩, ⟨rfl, rfl, rfl, rfl⟩ | ⟨rfl, rfl, rfl, rfl⟩ | ⟨rfl, rfl, rfl, rfl⟩⟩ := h
  · exact ⟨whQ_0, by decide, by decide⟩
  · exact ⟨a_q _, by decide, by decide⟩
  · exact ⟨a_q _, by decide, by decide⟩
theorem aB_y {n m s u : Int} {r : List UInt8} {I O : Sl} (h : aBP n m s u r I O) : schI n m I O s r u = aBI u ∧ schO n m I O s r u = aBO u ∧ schC n m I O s r u = aBC u := by
  unfold aBI aBO aBC
  obtain ⟨⟨rfl, rfl, rfl⟩, ⟨rfl, rfl, rfl, rfl⟩ | ⟨rfl, rfl, rfl, rfl⟩ | ⟨rfl, rfl, rfl, rfl⟩⟩ := h
  · exact ⟨a_b1.1, a_b1.2, a_c1⟩
  · have h := sch_no (n := 60) (m := 2) (s := 1) (u := 99) (I := bI 60 [wt0]) (O := bO 60 [wt0]) (r := []) (by rw [a_6]; decide)
    exact ⟨h.1, h.2, a_6⟩
  · have h := sch_no (n := 60) (m := 2) (s := 2) (u := 4096) (I := bI 60 [wt0]) (O := bO 60 [wt0]) (r := []) (by rw [a_9]; decide)
    exact ⟨h.1, h.2, a_9⟩
def aVN (k : Int) : Int := if k = 3 then 63 else 64
@[irreducible] def aVI (k : Int) : Sl := if k = 3 then bI 63 [wt0] else bI 64 []
@[irreducible] def aVO (k : Int) : Sl := if k = 3 then bO 63 [wt0] else bO 64 []
@[irreducible] def aVL (k : Int) : List Tm := if k = 3 then [] else [wt0]
def aVP (n m k : Int) (I O : Sl) : Prop := m = 2 ∧ ((k = 3 ∧ n = 60 ∧ I = bI 60 [wt0] ∧ O = bO 60 [wt0]) ∨ (k = 1 ∧ n = 63 ∧ I = bI 63 [wt0] ∧ O = bO 63 [wt0]))
theorem aV_q {n m k : Int} {I O : Sl} (h : aVP n m k I O) : whQ I O ∧ (0 ≤ n ∧ n < 18446744073709551616) ∧ (0 ≤ k ∧ k < 18446744073709551616) := by
  obtain ⟨rfl, ⟨rfl, rfl, rfl, rfl⟩ | ⟨rfl, rfl, rfl, rfl⟩⟩ := h
  · exact ⟨a_q _, by decide, by decide⟩
  · exact ⟨a_q _, by decide, by decide⟩
theorem aV_y {n m k : Int} {I O : Sl} (h : aVP n m k I O) : advN n m I O k = aVN k ∧ advI n m I O k = aVI k ∧ advO n m I O k = aVO k ∧ advL n m I O k = aVL k ∧ advC n m I O k = 0 := by
  unfold aVN aVI aVO aVL
  obtain ⟨rfl, ⟨rfl, rfl, rfl, rfl⟩ | ⟨rfl, rfl, rfl, rfl⟩⟩ := h
  · exact ⟨a_y2.1, a_y2.2.1, a_y2.2.2.1, a_y2.2.2.2, a_c2⟩
  · exact ⟨a_y3.1, a_y3.2.1, a_y3.2.2.1, a_y3.2.2.2, a_c3⟩
theorem a_new : GoodP Try.prog gl0 10 [.int .u64 60, .int .i64 2] (.tup [whT std 60 2 (fun _ => E64) (fun _ => E64), .int .i64 0]) := good_wNew 60 2
theorem a_sch (n m s u : Int) (I O : Sl) (r : List UInt8) (h : aBP n m s u r I O) : GoodP Try.prog gl0 17 [whS std n m I O, sKey std s r, .int .u64 u] (.tup [whT std n m (fun _ => aBI u) (fun _ => aBO u), .int .i64 (aBC u)]) := by
  have q := aB_q h
  have g := good_wSched n m s u I O r q.1 q.2.1 q.2.2
  have e := aB_y h
  rw [e.1, e.2.1, e.2.2] at g
  exact g
theorem a_adv (n m k : Int) (I O : Sl) (h : aVP n m k I O) : GoodP Try.prog gl0 22 [whS std n m I O, .int .u64 k] (.tup [whT std (aVN k) m (fun _ => aVI k) (fun _ => aVO k), rowS eT T0 3 std fun _ => aVL k, .int .i64 0]) := by
  have q := aV_q h
  have g := good_wAdv n m k I O q.1 q.2.1 q.2.2
  have e := aV_y h
  rw [e.1, e.2.1, e.2.2.1, e.2.2.2.1, e.2.2.2.2] at g
  exact g
theorem a_rgt (n m : Int) (I O : Sl) (h : n = 64 ∧ m = 2 ∧ I = bI 64 [] ∧ O = bO 64 []) : GoodP Try.prog gl0 21 [whS std n m I O] (.bool true) := by
  obtain ⟨rfl, rfl, rfl, rfl⟩ := h
  have g := good_wRight 64 2 (bI 64 []) (bO 64 []) (a_q0 _) (by decide)
  rw [a_R3] at g
  exact g
noncomputable def c_aNew : Ct := fun A args => match args with
  | [.int .u64 60, .int .i64 2] => some (none, .tup [whT A 60 2 (fun _ => E64) (fun _ => E64), .int .i64 0])
  | _ => none
noncomputable def c_aSch : Ct := fun A args => match args with
  | [.agg [.int .u64 n, .int .i64 m, .run 64 f, .run 64 g], .agg [.int .u32 s, .str r], .int .u64 u] => some (some (A.tp fun _ => (isRow eTs [] 1 64 f ∧ isRow eTs [] 1 64 g) ∧ aBP n m s u r (lstOf eTs [] 1 64 f) (lstOf eTs [] 1 64 g)), .tup [whT A n m (fun _ => aBI u) (fun _ => aBO u), .int .i64 (aBC u)])
  | _ => none
noncomputable def c_aAdv : Ct := fun A args => match args with
  | [.agg [.int .u64 n, .int .i64 m, .run 64 f, .run 64 g], .int .u64 k] => some (some (A.tp fun _ => (isRow eTs [] 1 64 f ∧ isRow eTs [] 1 64 g) ∧ aVP n m k (lstOf eTs [] 1 64 f) (lstOf eTs [] 1 64 g)), .tup [whT A (aVN k) m (fun _ => aVI k) (fun _ => aVO k), rowS eT T0 3 A fun _ => aVL k, .int .i64 0])
  | _ => none
noncomputable def c_aRgt : Ct := fun A args => match args with
  | [.agg [.int .u64 n, .int .i64 m, .run 64 f, .run 64 g]] => some (some (A.tp fun _ => (isRow eTs [] 1 64 f ∧ isRow eTs [] 1 64 g) ∧ n = 64 ∧ m = 2 ∧ lstOf eTs [] 1 64 f = bI 64 [] ∧ lstOf eTs [] 1 64 g = bO 64 []), .bool true)
  | _ => none
noncomputable def gaw : Ar → Pu := addC 10 c_aNew (addC 17 c_aSch (addC 22 c_aAdv (addC 21 c_aRgt (noC))))
theorem gaw_ok : PuOk Try.prog gl0 (gaw std) := by
  refine addC_ok (addC_ok (addC_ok (addC_ok (noC_ok) ⟨_, Try.func21, rfl, by decide⟩ ?_) ⟨_, Try.func22, rfl, by decide⟩ ?_) ⟨_, Try.func17, rfl, by decide⟩ ?_) ⟨_, Try.func10, rfl, by decide⟩ ?_
  · intro args p r h hp
    unfold c_aRgt at h
    split at h <;> cases h
    exact good_sv (a_rgt _ _ _ _ hp.2) ⟨whS_sv hp.1.1 hp.1.2, trivial⟩
  · intro args p r h hp
    unfold c_aAdv at h
    split at h <;> cases h
    exact good_sv (a_adv _ _ _ _ _ hp.2) ⟨whS_sv hp.1.1 hp.1.2, rfl, trivial⟩
  · intro args p r h hp
    unfold c_aSch at h
    split at h <;> cases h
    exact good_sv (a_sch _ _ _ _ _ _ _ hp.2) ⟨whS_sv hp.1.1 hp.1.2, ⟨_, rfl, rfl, rfl, trivial⟩, rfl, trivial⟩
  · intro args p r h hp
    unfold c_aNew at h
    split at h <;> cases h
    exact a_new
attribute [local irreducible] aBP aVP E64
theorem aI_len (u : Int) : (aBI u).length = 64 ∧ (aBO u).length = 64 := by unfold aBI aBO; exact ⟨bI_len _ _, bO_len _ _⟩
theorem aV_len (k : Int) : (aVI k).length = 64 ∧ (aVO k).length = 64 := by unfold aVI aVO; constructor <;> split <;> first | exact bI_len _ _ | exact bO_len _ _
theorem isRow_aI (u : Int) : isRow eTs [] 1 64 (rowF eTs [] std fun _ => aBI u) := isRow_X64 (aI_len u).1
theorem isRow_aO (u : Int) : isRow eTs [] 1 64 (rowF eTs [] std fun _ => aBO u) := isRow_X64 (aI_len u).2
theorem lstOf_aI (u : Int) : lstOf eTs [] 1 64 (rowF eTs [] std fun _ => aBI u) = aBI u := lstOf_X64 (aI_len u).1
theorem lstOf_aO (u : Int) : lstOf eTs [] 1 64 (rowF eTs [] std fun _ => aBO u) = aBO u := lstOf_X64 (aI_len u).2
theorem isRow_aVI (u : Int) : isRow eTs [] 1 64 (rowF eTs [] std fun _ => aVI u) := isRow_X64 (aV_len u).1
theorem isRow_aVO (u : Int) : isRow eTs [] 1 64 (rowF eTs [] std fun _ => aVO u) := isRow_X64 (aV_len u).2
theorem lstOf_aVI (u : Int) : lstOf eTs [] 1 64 (rowF eTs [] std fun _ => aVI u) = aVI u := lstOf_X64 (aV_len u).1
theorem lstOf_aVO (u : Int) : lstOf eTs [] 1 64 (rowF eTs [] std fun _ => aVO u) = aVO u := lstOf_X64 (aV_len u).2
theorem aL_1 : aVL 3 = [] ∧ aVL 1 = [wt0] := by unfold aVL; exact ⟨rfl, rfl⟩
theorem aS_1 : (aBO 64).getD 1 [] = [wt0] ∧ (aVO 1).getD 1 [] = [] := by unfold aBO aVO; exact ⟨a_s1, a_s2⟩
theorem aP_1 : aBP 60 2 1 64 [] E64 E64 := by unfold aBP; exact ⟨⟨rfl, rfl, rfl⟩, .inl ⟨rfl, rfl, rfl, rfl⟩⟩
theorem aP_2 : aBP 60 2 1 99 [] (aBI 64) (aBO 64) := by unfold aBP aBI aBO; exact ⟨⟨rfl, rfl, rfl⟩, .inr (.inl ⟨rfl, rfl, rfl, rfl⟩)⟩
theorem aP_3 : aBP 60 2 2 4096 [] (aBI 64) (aBO 64) := by unfold aBP aBI aBO; exact ⟨⟨rfl, rfl, rfl⟩, .inr (.inr ⟨rfl, rfl, rfl, rfl⟩)⟩
theorem aP_4 : aVP 60 2 3 (aBI 64) (aBO 64) := by unfold aVP aBI aBO; exact ⟨rfl, .inl ⟨rfl, rfl, rfl, rfl⟩⟩
theorem aP_5 : aVP 63 2 1 (aVI 3) (aVO 3) := by unfold aVP aVI aVO; exact ⟨rfl, .inr ⟨rfl, rfl, rfl, rfl⟩⟩
theorem aP_6 : (64 : Int) = 64 ∧ (2 : Int) = 2 ∧ aVI 1 = bI 64 [] ∧ aVO 1 = bO 64 [] := by unfold aVI aVO; exact ⟨rfl, rfl, rfl, rfl⟩
theorem vcFn_of {A : Ar} {T : Tys} {G : Pu} {X : Xt} {I : Nat → Option Func} {how : How} {fn : Func} {args : List SV} {R : SV} {c : Code} (hb : fn.body = some c) (h1 : (closedA args && Nat.ble (len args) fn.ntmps) = true) (h : vc A T G X (inl A T G X I 12) .run c (start fn args) { nrm := answered A T fn how R, ret := answered A T fn how R, ext := fun _ _ => False, gto := fun _ _ => False, lbl := fun _ => False }) : vcFn A T G X I how fn args R := by
  unfold vcFn
  rw [hb]
  simp only [h1, cond_true]
  exact h
/-- A walk cut in two. -/
theorem seq_hold {A : Ar} {T : Tys} {G : Pu} {X : Xt} {C : Cl} {a b : Code} {s : St} {K : Ks} (h : ∀ H : St → (St → Prop) → Prop, (H = fun s f => f s) → vc A T G X C .run a s { K with nrm := fun s' => H s' fun s => vc A T G X C .run b s K }) : vc A T G X C .run (.seq a b) s K := by
  rw [vc]
  exact h _ rfl
def vcOpsN (A : Ar) (T : Tys) (G : Pu) (X : Xt) (all : List Oper) (base : Nat) : Nat → Nat → List Oper → St → (Nat → List Oper → St → Prop) → Prop
  | 0, i, l, s, K => K i l s
  | n + 1, i, [], s, K => K i [] s
  | n + 1, i, o :: l, s, K => match stepX A T G X all base i o s with
    | some (p, s') => match both (hotC A (hotQ (ev T.gl s.tmps) all o.op) fun _ => free1 (clashH X.wl (hot (ev T.gl s.tmps) o.op)) all o i (i + 1) l [] || !hot2 (ev T.gl s.tmps) all o.op) p with
      | none => vcOpsN A T G X all base n (i + 1) l s' K
      | some q => q ∧ vcOpsN A T G X all base n (i + 1) l s' K
    | none => False
theorem vcOpsN_ok {A : Ar} {T : Tys} {G : Pu} {X : Xt} {all : List Oper} {base : Nat} {K : St → Prop} : ∀ (n i : Nat) (l : List Oper) (s : St), (vcOpsN A T G X all base n i l s fun i l s => vcOps A T G X all base i l s K) = vcOps A T G X all base i l s K
  | 0, i, l, s => by rw [vcOpsN]
  | n + 1, i, [], s => by rw [vcOpsN]
  | n + 1, i, o :: l, s => by
    rw [vcOpsN, vcOps]
    simp only [vcOpsN_ok n]
    first
      | rfl
      | (split <;> rename_i h0 <;> rw [h0] <;> rfl)
/-- A drawn region's walk cut in two. -/
theorem draw_hold {A : Ar} {T : Tys} {G : Pu} {X : Xt} {C : Cl} {ops : Array Oper} {p : _} {s : St} {K : Ks} (n : Nat) (hg : goes X ops.toList = false) (hd : A.dr fun _ => drawOk T X.wl ops.toList)
    (h : ∀ H : Nat → List Oper → St → (Nat → List Oper → St → Prop) → Prop, (H = fun i l s f => f i l s) → vcOpsN A T G X ops.toList s.next n 0 ops.toList { s with next := s.next + ops.toList.length } fun i l s' => H i l s' fun i l s' => vcOps A T G X ops.toList s.next i l s' K.nrm) : vc A T G X C .run (.region p ops true) s K := by
  rw [vc]
  have h1 := h _ rfl
  rw [vcOpsN_ok] at h1
  rw [hg]
  exact ⟨hd, h1⟩
theorem opsN_hold {A : Ar} {T : Tys} {G : Pu} {X : Xt} {all : List Oper} {base i : Nat} {l : List Oper} {s : St} {K : St → Prop} (n : Nat)
    (h : ∀ H : Nat → List Oper → St → (Nat → List Oper → St → Prop) → Prop, (H = fun i l s f => f i l s) → vcOpsN A T G X all base n i l s fun i l s' => H i l s' fun i l s' => vcOps A T G X all base i l s' K) : vcOps A T G X all base i l s K := by
  have h1 := h _ rfl
  rw [vcOpsN_ok] at h1
  exact h1
theorem tn1 : Int.toNat 1 = 1 := rfl
attribute [local irreducible] vc
theorem good_wAwake  : GoodP Try.prog gl0 6 [] (.bool true) := by
  refine fn_sound' (T := seatT) (G := gaw) (X := noX) seatT_ok gaw_ok noX_ok noI_ok mixed Try.func6 (.one) (fun A => []) (fun A => .bool true) fun A hA => ?_
  refine vcFn_of rfl rfl ?_
  refine seq_hold fun H hH => ?_
  cbv
  repeat' (first | with_reducible exact True.intro | with_reducible exact dr_ok hA (by kernel_rfl) | with_reducible exact eqv_refl hA _ | with_reducible refine And.intro ?_ ?_ | (intro hc; cbv))
  all_goals first
    | (subst hH; refine seq_hold fun H hH => ?_; cbv; repeat' (first | with_reducible exact True.intro | with_reducible exact dr_ok hA (by kernel_rfl) | with_reducible exact eqv_refl hA _ | with_reducible refine And.intro ?_ ?_ | (intro hc; cbv)))
    | skip
  all_goals first
    | (subst hH; refine seq_hold fun H hH => ?_; cbv; repeat' (first | with_reducible exact True.intro | with_reducible exact dr_ok hA (by kernel_rfl) | with_reducible exact eqv_refl hA _ | with_reducible refine And.intro ?_ ?_ | (intro hc; cbv)))
    | skip
  all_goals first
    | (subst hH; refine seq_hold fun H hH => ?_; cbv; repeat' (first | with_reducible exact True.intro | with_reducible exact dr_ok hA (by kernel_rfl) | with_reducible exact eqv_refl hA _ | with_reducible refine And.intro ?_ ?_ | (intro hc; cbv)))
    | skip
  all_goals first
    | (subst hH; refine seq_hold fun H hH => ?_; cbv; repeat' (first | with_reducible exact True.intro | with_reducible exact dr_ok hA (by kernel_rfl) | with_reducible exact eqv_refl hA _ | with_reducible refine And.intro ?_ ?_ | (intro hc; cbv)))
    | skip
  all_goals first
    | (subst hH; refine seq_hold fun H hH => ?_; cbv; repeat' (first | with_reducible exact True.intro | with_reducible exact dr_ok hA (by kernel_rfl) | with_reducible exact eqv_refl hA _ | with_reducible refine And.intro ?_ ?_ | (intro hc; cbv)))
    | skip
  all_goals first
    | (subst hH; refine seq_hold fun H hH => ?_; cbv; repeat' (first | with_reducible exact True.intro | with_reducible exact dr_ok hA (by kernel_rfl) | with_reducible exact eqv_refl hA _ | with_reducible refine And.intro ?_ ?_ | (intro hc; cbv)))
    | skip
  all_goals first
    | (subst hH; refine seq_hold fun H hH => ?_; cbv; repeat' (first | with_reducible exact True.intro | with_reducible exact dr_ok hA (by kernel_rfl) | with_reducible exact eqv_refl hA _ | with_reducible refine And.intro ?_ ?_ | (intro hc; cbv)))
    | skip
  all_goals first
    | (subst hH; refine seq_hold fun H hH => ?_; refine draw_hold 30 (by kernel_rfl) (dr_ok hA (by kernel_rfl)) fun H2 hH2 => ?_; cbv; repeat' (first | with_reducible exact True.intro | with_reducible exact dr_ok hA (by kernel_rfl) | with_reducible exact eqv_refl hA _ | with_reducible refine And.intro ?_ ?_ | (intro hc; cbv)))
    | skip
  all_goals first
    | (subst hH2; refine opsN_hold 25 fun H2 hH2 => ?_; cbv; repeat' (first | with_reducible exact True.intro | with_reducible exact dr_ok hA (by kernel_rfl) | with_reducible exact eqv_refl hA _ | with_reducible refine And.intro ?_ ?_ | (intro hc; cbv)))
    | skip
  all_goals first
    | (subst hH2; cbv; repeat' (first | with_reducible exact True.intro | with_reducible exact dr_ok hA (by kernel_rfl) | with_reducible exact eqv_refl hA _ | with_reducible refine And.intro ?_ ?_ | (intro hc; cbv)))
    | skip
  all_goals first
    | (subst hH; cbv; repeat' (first | with_reducible exact True.intro | with_reducible exact dr_ok hA (by kernel_rfl) | with_reducible exact eqv_refl hA _ | with_reducible refine And.intro ?_ ?_ | (intro hc; cbv)))
    | skip
  all_goals (subst hA; simp only [sS, isRow_E, lstOf_E, isRow_aI, isRow_aO, lstOf_aI, lstOf_aO, isRow_aVI, isRow_aVO, lstOf_aVI, lstOf_aVO, aL_1.1, aL_1.2, tn1, aS_1.1, aS_1.2] at *)
  all_goals first
    | done
    | decide
    | exact fun h => h
    | exact fun h => by rw [h]; rfl
    | exact fun h => ⟨h, ⟨trivial, trivial⟩, trivial, trivial, aP_6.2.2⟩
    | exact ⟨⟨trivial, trivial⟩, aP_1⟩
    | exact ⟨⟨trivial, trivial⟩, aP_2⟩
    | exact ⟨⟨trivial, trivial⟩, aP_3⟩
    | exact ⟨⟨trivial, trivial⟩, aP_4⟩
    | exact ⟨⟨trivial, trivial⟩, aP_5⟩
    | exact ⟨⟨trivial, trivial⟩, aP_6⟩
    | exact ⟨⟨trivial, trivial⟩, trivial, trivial, aP_6.2.2⟩
    | trace_state
noncomputable def c_wAwake : Ct := fun A args => match args with
  | [] => some (none, .bool true)
  | _ => none
noncomputable def gwu : Ar → Pu := addC 6 c_wAwake (gwt)
theorem gwu_ok : PuOk Try.prog gl0 (gwu std) := by
  refine addC_ok (gwt_ok) ⟨_, Try.func6, rfl, by decide⟩ ?_
  · intro args p r h hp
    unfold c_wAwake at h
    split at h <;> cases h
    exact good_wAwake
end Go.Vd

set_option linter.unusedVariables false
set_option linter.unusedSimpArgs false
set_option maxRecDepth 100000
set_option maxHeartbeats 8000000
namespace Go.Vd
open Go.Proofs
theorem isRow_vI {n m k : Int} {I O : Sl} (h : I.length = 64) : isRow eTs [] 1 64 (rowF eTs [] std fun _ => advI n m I O k) := isRow_X64 (advI_len h)
theorem isRow_vO {n m k : Int} {I O : Sl} (h : O.length = 64) : isRow eTs [] 1 64 (rowF eTs [] std fun _ => advO n m I O k) := isRow_X64 (advO_len h)
theorem lstOf_vI {n m k : Int} {I O : Sl} (h : I.length = 64) : lstOf eTs [] 1 64 (rowF eTs [] std fun _ => advI n m I O k) = advI n m I O k := lstOf_X64 (advI_len h)
theorem lstOf_vO {n m k : Int} {I O : Sl} (h : O.length = 64) : lstOf eTs [] 1 64 (rowF eTs [] std fun _ => advO n m I O k) = advO n m I O k := lstOf_X64 (advO_len h)
attribute [local irreducible] vc
end Go.Vd

set_option linter.unusedVariables false
set_option linter.unusedSimpArgs false
set_option maxRecDepth 100000
set_option maxHeartbeats 8000000
namespace Go.Vd
open Go.Proofs
def emc (s t : SV) : Prop := ∃ k f k' g, s = .slc 0 k f ∧ t = .slc 0 k' g
def svm1 : SV → SV → Prop
  | .run n f, t => (∃ g, t = .run n g ∧ ∀ i j, i < n → j < 1 → Ceq (f i j) (g i j)) ∨ (∃ g, t = .run n g ∧ ∀ i, i < n → emc (f i 0) (g i 0))
  | s, t => s = t
theorem svm1_seg {w : World} {ρ : Nat → Value} {rw N : Nat → Prop} {s t : SV} (e : svm1 s t) : SegLe (Rel w ρ rw N) (Rel w ρ rw N) s t ∧ (isRun t = true → ∀ k, ment0 k t → isRun s = true ∧ ment0 k s) := by
  cases s with
  | run n f =>
    rcases e with e | ⟨g, rfl, he⟩
    · exact sv1_seg e
    · refine ⟨⟨rfl, fun i v hi hv => ?_⟩, fun _ k hk => hk.elim⟩
      obtain ⟨k, f', k', g', e1, e2⟩ := he i hi
      have hv : Rel w ρ rw N v (cl (f i 0)) := hv
      show Rel w ρ rw N v (cl (g i 0))
      rw [e1] at hv
      rw [e2]
      have hv : Rel w ρ rw N v (.slc 0 k f') := hv
      show Rel w ρ rw N v (.slc 0 k' g')
      cases hv with
      | slc a _ c _ _ g2 hn hc ha hr => exact .slc a 0 c k' g' (fun _ _ => undef) hn (fun i j hi => absurd hi (by omega)) (fun h => absurd h (by omega)) (fun i j hi => absurd hi (by omega))
  | _ => cases e; exact ⟨⟨rfl, fun i v _ hv => hv⟩, fun h k hk => ⟨h, hk⟩⟩
def svm2 : SV → SV → Prop
  | .agg l, t => ∃ m, t = .agg m ∧ All2 svm1 l m
  | s, t => s = t
theorem svm2_rel {w : World} {ρ : Nat → Value} {rw N : Nat → Prop} {v : Value} {s t : SV} (h : Rel w ρ rw N v s) (e : svm2 s t) : Rel w ρ rw N v t := by
  cases s with
  | agg l =>
    obtain ⟨m, rfl, he⟩ := e
    generalize hs : SV.agg l = s at h
    cases h with
    | agg cs l' hl h1 hh hm =>
      cases hs
      have hlen := he.length
      obtain ⟨q1, q2⟩ := SegLe.lift (R := Rel w ρ rw N) (R' := Rel w ρ rw N) hlen fun j s t hs ht => (svm1_seg (he.get j s t hs ht)).1
      refine .agg _ _ (by omega) h1 (fun i v t hv ht => q2 (cs := cs.toList) (by simpa using hh) i v t (by simpa using hv) ht) fun t ht hr k hk => ?_
      obtain ⟨j, hj⟩ := List.mem_iff_getElem?.1 ht
      have hjl : j < l.length := by have := (List.getElem?_eq_some_iff.1 hj).1; omega
      obtain ⟨p1, p2⟩ := (svm1_seg (w := w) (ρ := ρ) (rw := rw) (N := N) (he.get j _ t (List.getElem?_eq_getElem hjl) hj)).2 hr k hk
      exact hm _ (List.getElem_mem _) p1 k p2
    | _ => cases hs
  | _ => cases e; exact h
theorem good_svm {P : Program} {gl : Nat → SV} {f : FuncId} {args args' : List SV} {r : SV} (h : GoodP P gl f args' r) (he : All2 svm2 args args') : GoodP P gl f args r := by
  intro w ρ rw N vs hfr hrw hg hargs
  refine h w ρ rw N vs hfr hrw hg ?_
  have key : ∀ {vs : List Value} {l m : List SV}, All2 (Rel w ρ rw N) vs l → All2 svm2 l m → All2 (Rel w ρ rw N) vs m := by
    intro vs
    induction vs with
    | nil => intro l m h1 h2; cases l with
      | nil => cases m with
        | nil => trivial
        | cons => exact h2.elim
      | cons => exact h1.elim
    | cons v vs ih => intro l m h1 h2; cases l with
      | nil => exact h1.elim
      | cons s l => cases m with
        | nil => exact h2.elim
        | cons t m => exact ⟨svm2_rel h1.1 h2.1, ih h1.2 h2.2⟩
  exact key hargs he
def isEm (f : Nat → Nat → SV) : Prop := ∀ i, i < 64 → ∃ k h, f i 0 = .slc 0 k h
open Classical in
noncomputable def lsR (f : Nat → Nat → SV) : Sl := if isEm f then E64 else lstOf eTs [] 1 64 f
def isRw (f : Nat → Nat → SV) : Prop := isEm f ∨ isRow eTs [] 1 64 f
theorem rw_ok {f : Nat → Nat → SV} (h : isRw f) : svm1 (.run 64 f) (.run 64 (rowF eTs [] std fun _ => lsR f)) := by
  by_cases he : isEm f
  · have e : lsR f = E64 := by unfold lsR; rw [if_pos he]
    rw [e]
    refine .inr ⟨_, rfl, fun i hi => ?_⟩
    obtain ⟨k, f', e1⟩ := he i hi
    have e2 : rowF eTs [] std (fun _ => E64) i 0 = rowS eT T0 3 std fun _ => [] := by
      show rowS eT T0 3 std (fun _ => E64.getD i []) = _
      rw [E64_get]
    exact ⟨k, f', _, _, e1, e2⟩
  · have e : lsR f = lstOf eTs [] 1 64 f := by unfold lsR; rw [if_neg he]
    rw [e]
    rcases h with h | h
    · exact absurd h he
    · exact .inl ⟨_, rfl, h.reps.2⟩
noncomputable def c_rSame2 : Ct := fun A args => match args with
  | [.agg [.int .u64 n, .int .i64 m, .run 64 f, .run 64 g], .agg [.int .u64 n', .int .i64 m', .run 64 f', .run 64 g']] => some (some (A.tp fun _ => ((isRow eTs [] 1 64 f ∧ isRow eTs [] 1 64 g) ∧ whQ (lstOf eTs [] 1 64 f) (lstOf eTs [] 1 64 g)) ∧ ((isRw f' ∧ isRw g') ∧ whQ (lsR f') (lsR g'))), .bool (A.tb fun _ => eqW n m (lstOf eTs [] 1 64 f) (lstOf eTs [] 1 64 g) n' m' (lsR f') (lsR g')))
  | _ => none
noncomputable def gwv : Ar → Pu := addC 11 c_rSame2 (gwu)
theorem gwv_ok : PuOk Try.prog gl0 (gwv std) := by
  refine addC_ok (gwu_ok) ⟨_, Try.func11, rfl, by decide⟩ ?_
  · intro args p r h hp
    unfold c_rSame2 at h
    split at h <;> cases h
    exact good_svm (good_rSameW _ _ _ _ _ _ _ _ hp.1.2 hp.2.2) ⟨⟨_, rfl, rfl, rfl, .inl ⟨_, rfl, hp.1.1.1.reps.2⟩, .inl ⟨_, rfl, hp.1.1.2.reps.2⟩, trivial⟩, ⟨_, rfl, rfl, rfl, rw_ok hp.2.1.1, rw_ok hp.2.1.2, trivial⟩, trivial⟩
end Go.Vd

set_option linter.unusedVariables false
set_option linter.unusedSimpArgs false
set_option maxRecDepth 100000
set_option maxHeartbeats 8000000
namespace Go.Vd
open Go.Proofs
theorem lst_len (I O : Sl) : (lstW I O).length = (allT I O).length := srtT_len _
theorem full_seen {n m s u : Int} {I O : Sl} {r : List UInt8} (hR : wR n m I O = true) (h : hkT (allT I O) s r = true) : schC n m I O s r u = 6 ∧ fndB n m I O s r = true := ⟨sch_6 hR h, by rw [(fnd_y hR s r).2, h]⟩
theorem full_7 {n m s u : Int} {I O : Sl} {r : List UInt8} (hR : wR n m I O = true) (h : hkT (allT I O) s r = false) (hn : 0 ≤ n) (hu : n < u ∧ u ≤ n + 4000) (hl : ¬((lstW I O).length : Int) < m) : schC n m I O s r u = 7 ∧ fndB n m I O s r = false := by
  rw [lst_len] at hl
  exact ⟨sch_7 hR h (by omega) (by omega) (by omega), by rw [(fnd_y hR s r).2, h]⟩
theorem full_0 {n m s u : Int} {I O : Sl} {r : List UInt8} (hI : I.length = 64) (hO : O.length = 64) (hR : wR n m I O = true) (h : hkT (allT I O) s r = false) (hn : 0 ≤ n) (hu : n < u ∧ u ≤ n + 4000) (hl : ((lstW I O).length : Int) < m) :
    (schC n m I O s r u = 0 ∧ fndB n m I O s r = false) ∧ wR n m (schI n m I O s r u) (schO n m I O s r u) = true ∧ (lstW (schI n m I O s r u) (schO n m I O s r u)).length = (lstW I O).length + 1 := by
  have hl2 := hl
  rw [lst_len] at hl2
  have h0 := sch_0 hR h (u := u) (by omega) (by omega) (by omega)
  have hx := sch_next hI hO h0 (by omega)
  exact ⟨⟨h0, by rw [(fnd_y hR s r).2, h]⟩, hx.1, by rw [hx.2]; exact (insT_perm _ _).length_eq⟩
theorem full_end {n m : Int} {I O : Sl} (hI : I.length = 64) (hO : O.length = 64) (hR : wR n m I O = true) (hn : 0 ≤ n ∧ n < 4294967296) :
    advC n m I O 4096 = 0 ∧ (advL n m I O 4096).length = (lstW I O).length ∧ tmsW (advN n m I O 4096) m (advI n m I O 4096) (advO n m I O 4096) = [] := by
  have h0 := adv_0 hR (k := 4096) (by omega)
  have hx := adv_next hI hO h0 (by decide)
  obtain ⟨g1, g2, g3, g4⟩ := adv_yes h0
  obtain ⟨L, hL, hc, e1, e2, hl, hm⟩ := wOk_can' hI hO (wR_iff.1 hR)
  have hd : ∀ t ∈ lstW I O, t.u ≤ n + 4096 := fun t ht => by
    rw [← hL] at ht
    have := hc.2.2 t ht
    have h1 := this.1
    have h2 := this.2
    omega
  have q1 : (lstW I O).filter (duT (n + 4096)) = lstW I O := filter_all (p := duT (n + 4096)) fun t ht => decide_eq_true (hd t ht)
  have q2 : (lstW I O).filter (laT (n + 4096)) = [] := filter_none (p := laT (n + 4096)) fun t ht => decide_eq_false (by have := hd t ht; omega)
  refine ⟨h0, ?_, ?_⟩
  · rw [g4, q1]
  · rw [tms_y hx.1, hx.2, q2]
end Go.Vd

set_option linter.unusedVariables false
set_option linter.unusedSimpArgs false
set_option maxRecDepth 100000
set_option maxHeartbeats 8000000
namespace Go.Vd
open Go.Proofs
theorem new_y {z : Int} (h : okRm z = true) : newC z = 0 ∧ newM z = z ∧ ∀ u, newN u z = u := by unfold newC newM newN; simp [h]
attribute [local irreducible] vc
end Go.Vd

set_option linter.unusedVariables false
set_option linter.unusedSimpArgs false
set_option maxRecDepth 100000
set_option maxHeartbeats 8000000
namespace Go.Vd
open Go.Proofs
def K0 : Int × List UInt8 := (0, [])
def eKy : En (Int × List UInt8) := fun A x => [.int .u32 (A.ti fun _ => (x ()).1), .str (A.ts fun _ => (x ()).2)]
def e16 : En Int := fun A z => [.int .u16 (A.ti fun _ => z ())]
theorem sv_2 {K U : Nat} (h : (bif decide ((300 : Int) < (K : Int)) then true else decide ((U : Int) < (K : Int))) = false) : K ≤ U ∧ K ≤ 300 := by
  by_cases h1 : (300 : Int) < (K : Int)
  · simp [h1] at h
  · by_cases h2 : (U : Int) < (K : Int)
    · simp [h1, h2] at h
    · omega
attribute [local irreducible] vc
theorem good_WheelFull (N z : Int) (K : List (Int × List UInt8)) (U : List Int) (hN : 0 ≤ N ∧ N < 4294967296) (hz : 0 ≤ z ∧ z < 256) (hK : K.length ≤ 9223372036854775807) (hU : U.length ≤ 9223372036854775807) (hUb : ∀ i, 0 ≤ U.getD i 0 ∧ U.getD i 0 < 65536) : GoodP Try.prog gl0 5 [.int .u32 N, rowS eKy K0 2 std fun _ => K, rowS e16 0 1 std fun _ => U, .int .u8 z] (.bool true) := by
  refine fn_sound' (T := seatT) (G := gwv) (X := noX) seatT_ok gwv_ok noX_ok noI_ok mixed Try.func5 (.one) (fun A => [.int .u32 N, rowS eKy K0 2 A fun _ => K, rowS e16 0 1 A fun _ => U, .int .u8 z]) (fun A => .bool true) fun A hA => ?_
  obtain ⟨eI, heI⟩ : ∃ e, e = E64 := ⟨_, rfl⟩
  cbv
  repeat' (first | with_reducible exact True.intro | with_reducible exact dr_ok hA (by kernel_rfl) | with_reducible exact eqv_refl hA _ | with_reducible refine And.intro ?_ ?_ | (intro hc; cbv))
  all_goals first
    | (fail_if_success (refine Exists.intro ?_ ?_)
       subst hA
       simp only [sS] at *
       first
         | done
         | decide
         | (exfalso; revert hc; decide)
         | exact fun h => h
         | exact fun h => ⟨h, h⟩
         | (have hzz : okRm z = true := okRm_iff.2 ⟨hz.1, by omega⟩
            rw [w64 (by omega), (new_y hzz).1] at hc
            exact absurd hc (by decide))
         | exact fun h => by rw [h]; rfl
         | trace_state)
    | skip
  refine ⟨⟨{p : Nat × Sl × Sl // p.1 ≤ K.length ∧ (wR N z p.2.1 p.2.2 = true ∧ whQ p.2.1 p.2.2)}, fun b p => [(11, .int .i64 (A.ti fun _ => ((lstW p.1.2.1 p.1.2.2).length : Nat))), (12, .int .i64 (p.1.1 : Nat))], fun b p => [(21, .box 26 [.int .u64 N, .int .i64 z, .run 64 (rowF eTs [] A fun _ => p.1.2.1), .run 64 (rowF eTs [] A fun _ => p.1.2.2)])], fun p => K.length - p.1.1, .past 13⟩, ⟨⟨(0, eI, eI), Nat.zero_le _, by rw [heI]; exact ⟨new_R (okRm_iff.2 ⟨hz.1, by omega⟩), whQ_0⟩⟩, ?_⟩, ?_⟩
  · cbv
    have hzz : okRm z = true := okRm_iff.2 ⟨hz.1, by omega⟩
    obtain ⟨e1, e2, e3⟩ := new_y hzz
    subst hA
    simp [-List.getD_eq_getElem?_getD, sS, eqrS_refl]
    rw [w64 (by omega), IntKind.wrap_u64, e2, e3, heI, new_lst]
    exact ⟨rfl, by omega, rfl, fun i j _ _ => .refl _⟩
  · rintro ⟨⟨i, I, O⟩, hx⟩
    have hi : i ≤ K.length := hx.1
    have hR : wR N z I O = true := hx.2.1
    have hQ : whQ I O := hx.2.2
    have hU' := hUb i
    obtain ⟨u, hue⟩ : ∃ u, u = N + 1 + U.getD i 0 % 4000 := ⟨_, rfl⟩
    have hu : N < u ∧ u ≤ N + 4000 := by omega
    have huw : IntKind.u64.wrap (IntKind.u64.wrap (IntKind.u64.wrap N + 1) + (IntKind.u64.wrap (U.getD i 0)).tmod 4000) = u := by
      rw [wU (n := N) (by omega), wU (n := U.getD i 0) (by omega), Int.tmod_eq_emod_of_nonneg hU'.1, wU (n := N + 1) (by omega), wU (by omega), hue]
    have hS := whQ_sch (n := N) (m := z) (s := (K.getD i (0, [])).1) (r := (K.getD i (0, [])).2) hQ (show 0 ≤ u ∧ u < 18446744073709551616 by omega)
    have hV := whQ_adv (n := N) (m := z) (k := 4096) hQ
    obtain ⟨v1, v2, v3⟩ := full_end hQ.1.1 hQ.1.2 hR hN
    have hfull := fun (hk : hkT (allT I O) (K.getD i (0, [])).1 (K.getD i (0, [])).2 = true) => full_seen (u := u) hR hk
    have hfull7 := fun (hk : hkT (allT I O) (K.getD i (0, [])).1 (K.getD i (0, [])).2 = false) => full_7 (u := u) hR hk hN.1 hu
    have hfull0 := fun (hk : hkT (allT I O) (K.getD i (0, [])).1 (K.getD i (0, [])).2 = false) => full_0 (u := u) hQ.1.1 hQ.1.2 hR hk hN.1 hu
    cbv
    repeat' (first | with_reducible exact True.intro | with_reducible exact dr_ok hA (by kernel_rfl) | with_reducible exact eqv_refl hA _ | with_reducible refine And.intro ?_ ?_ | (intro hc; cbv))
    all_goals first
      | (fail_if_success (refine Exists.intro ?_ ?_)
         subst hA
         simp only [sS, Int.ofNat_eq_natCast, Int.toNat_natCast, isRow_X64 hQ.1.1, isRow_X64 hQ.1.2, lstOf_X64 hQ.1.1, lstOf_X64 hQ.1.2, isRow_vI hQ.1.1, isRow_vO hQ.1.2, lstOf_vI hQ.1.1, lstOf_vO hQ.1.2, huw] at *
         first
           | done
           | decide
           | exact fun h => h
           | exact fun h => by rw [h]; rfl
           | exact fun h => ⟨h, h⟩
           | (exfalso; revert hc; decide)
           | (simp only [decide_eq_true_eq] at *; omega)
           | (obtain ⟨g1, g2⟩ := sv_2 (by assumption); simp only [decide_eq_true_eq] at *; omega)
           | exact ⟨⟨⟨trivial, trivial⟩, hQ⟩, by omega⟩
           | exact ⟨⟨⟨trivial, trivial⟩, hQ⟩, ⟨by omega, by omega⟩, by omega, by omega⟩
           | exact ⟨⟨⟨trivial, trivial⟩, hV⟩, by omega⟩
           | (have v4 := (adv_yes v1).1
              first
                | exact fun h => ⟨h, ⟨⟨trivial, trivial⟩, hV⟩, by rw [v4]; omega⟩
                | exact fun h => ⟨h, ⟨⟨trivial, trivial⟩, hQ⟩, hN.1⟩
                | (rw [v1, v2, v3, hR]; simp; done)
                | (simp [v1, v2, v3, hR]; done))
           | (have hzw := w64 (n := z) (by omega)
              rcases Bool.eq_false_or_eq_true (hkT (allT I O) (K.getD i (0, [])).1 (K.getD i (0, [])).2) with hk | hk
              · have f := hfull hk
                rw [f.1, f.2] at hc
                simp at hc
              · by_cases hl : ((lstW I O).length : Int) < z
                · have f := (hfull0 hk hl).1
                  rw [f.1, f.2, hzw, decide_eq_true hl] at hc
                  simp at hc
                · have f := hfull7 hk hl
                  rw [f.1, f.2, hzw, decide_eq_false hl] at hc
                  simp at hc)
           | (clear hS hV
              have hzw := w64 (n := z) (by omega)
              rcases Bool.eq_false_or_eq_true (hkT (allT I O) (K.getD i (0, [])).1 (K.getD i (0, [])).2) with hk | hk
              · have f := hfull hk
                rw [f.1, f.2] at *
                simp [hzw, -List.getD_eq_getElem?_getD] at *
                done
              · by_cases hl : ((lstW I O).length : Int) < z
                · have f := (hfull0 hk hl).1
                  rw [f.1, f.2] at *
                  simp [hzw, hl, -List.getD_eq_getElem?_getD] at *
                  done
                · have f := hfull7 hk hl
                  rw [f.1, f.2] at *
                  simp [hzw, hl, -List.getD_eq_getElem?_getD] at *
                  done)
           | trace_state)
      | skip
    all_goals
      obtain ⟨i', hi'⟩ : ∃ i', i' = i + 1 := ⟨_, rfl⟩
      have hlt : i < K.length := by
        have q : A.lt (Int.ofNat i) (A.ofNat (A.tn fun _ => K.length)) = true := by assumption
        subst hA
        exact Int.ofNat_lt.1 (of_decide_eq_true q)
      have q := hc
      first
        | (refine ⟨⟨(i', I, O), by omega, hR, hQ⟩, ?_, show K.length - i' < K.length - i by omega⟩
           cbv
           subst hA
           simp [-List.getD_eq_getElem?_getD, sS, eqrS_refl, lstOf_X64 hQ.1.1, lstOf_X64 hQ.1.2, huw]
           rw [w64 (by omega)]
           omega)
        | (have q0 : schC N z I O (K.getD i (0, [])).1 (K.getD i (0, [])).2 u = 0 := by
             subst hA
             simp only [sS, Int.ofNat_eq_natCast, Int.toNat_natCast, lstOf_X64 hQ.1.1, lstOf_X64 hQ.1.2, huw] at q
             exact eq_of_beq q
           have f := sch_next hQ.1.1 hQ.1.2 q0 (by omega)
           obtain ⟨I', hI'⟩ : ∃ I', I' = schI N z I O (K.getD i (0, [])).1 (K.getD i (0, [])).2 u := ⟨_, rfl⟩
           obtain ⟨O', hO'⟩ : ∃ O', O' = schO N z I O (K.getD i (0, [])).1 (K.getD i (0, [])).2 u := ⟨_, rfl⟩
           have hn : (lstW I' O').length = (lstW I O).length + 1 := by rw [hI', hO', f.2]; exact (insT_perm _ _).length_eq
           have hl := (wR_len hR).1
           rw [← hI', ← hO'] at f hS
           refine ⟨⟨(i', I', O'), by omega, f.1, hS⟩, ?_, show K.length - i' < K.length - i by omega⟩
           cbv
           subst hA
           simp (maxSteps := 4000000) [-List.getD_eq_getElem?_getD, sS, eqrS_refl, lstOf_X64 hQ.1.1, lstOf_X64 hQ.1.2, huw, ← hI', ← hO']
           have w1 := w64 (n := ((lstW I O).length : Int) + 1) (by omega)
           have w2 := w64 (n := (i : Int) + 1) (by omega)
           rw [hn, w1, w2]
           first
             | exact ⟨by rw [Int.natCast_add]; rfl, by rw [hi', Int.natCast_add]; rfl⟩
             | exact ⟨(Int.natCast_add _ _).symm, by subst hi'; exact (Int.natCast_add _ _).symm⟩
             | exact ⟨by omega, by omega, by rw [hI', hO']; exact ⟨.refl _, .refl _⟩⟩
             | trace_state)
end Go.Vd

set_option linter.unusedVariables false
namespace Go.Vd
open Go.Proofs Go.ChangeShapes Go.WideShapes Go.ChangeAt Go.RowKit Go.Joins Go.Deep Go.WideElems
theorem u16_wf {z : Int} (h : (Lit.int .u16 z).wf = true) : 0 ≤ z ∧ z < 65536 := by
  simp [Lit.wf] at h
  have e1 : IntKind.u16.min = 0 := by decide
  have e2 : IntKind.u16.max = 65535 := by decide
  rw [e1, e2] at h
  exact ⟨h.1, by omega⟩
section
variable {H : Type} {enc : TypeId × Value → H} {P : Program}
theorem u32_wf {z : Int} (h : (Lit.int .u32 z).wf = true) : 0 ≤ z ∧ z < 4294967296 := by
  simp [Lit.wf] at h
  have e1 : IntKind.u32.min = 0 := by decide
  have e2 : IntKind.u32.max = 4294967295 := by decide
  rw [e1, e2] at h
  exact ⟨h.1, by omega⟩
end
end Go.Vd

set_option linter.unusedVariables false
namespace Go.Vd
section
open Go.Proofs Go.ChangeShapes Go.WideShapes Go.ChangeAt Go.RowKit Go.Joins
variable {H : Type} {enc : TypeId × Value → H} {P : Program} {w : World} {base : Nat} {spare : Nat → Bool} {held : Bool}
end
end Go.Vd

set_option linter.unusedVariables false
namespace Go.Vd
open Go.Proofs Go.ChangeShapes Go.WideShapes Go.ChangeAt Go.RowKit Go.Joins Go.Deep Go.WideElems
section
variable {H : Type} {enc : TypeId × Value → H} {P : Program}
end
end Go.Vd

