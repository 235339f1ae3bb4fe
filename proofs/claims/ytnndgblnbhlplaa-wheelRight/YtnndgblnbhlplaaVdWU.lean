/- Wheels: schedule. -/
import Derived.Test.YtnndgblnbhlplaaVdWL
set_option linter.unusedVariables false
set_option linter.unusedSimpArgs false
set_option maxRecDepth 100000
set_option maxHeartbeats 8000000
namespace Go.Vd
open Go.Proofs
noncomputable def iWs : Nat → Option Func := addI 27 Try.f27 (addI 32 Try.f32 (addI 34 Try.f34 (addI 35 Try.f35 (addI 37 Try.f37 (addI 38 Try.f38 (addI 36 Try.f36 (addI 40 Try.f40 noI)))))))
theorem iWs_ok : InOk Try.prog iWs := addI_ok (addI_ok (addI_ok (addI_ok (addI_ok (addI_ok (addI_ok (addI_ok noI_ok Try.func40 (by kernel_rfl)) Try.func36 (by kernel_rfl)) Try.func38 (by kernel_rfl)) Try.func37 (by kernel_rfl)) Try.func35 (by kernel_rfl)) Try.func34 (by kernel_rfl)) Try.func32 (by kernel_rfl)) Try.func27 (by kernel_rfl)
/-- The contracts but one, of a function that is gone into. -/
def dropC (n : Nat) (g : Ar → Pu) : Ar → Pu := fun A f args => bif Nat.beq f n then none else g A f args
theorem dropC_ok {P : Program} {gl : Nat → SV} {g : Ar → Pu} (n : Nat) (h : PuOk P gl (g std)) : PuOk P gl (dropC n g std) := by
  intro f args p r e hp
  have e1 : dropC n g std f args = bif Nat.beq f n then none else g std f args := rfl
  rw [e1] at e
  cases hb : Nat.beq f n <;> rw [hb] at e
  · exact h f args p r e hp
  · cases e
noncomputable def gwn : Ar → Pu := dropC 27 gwm
theorem gwn_ok : PuOk Try.prog gl0 (gwn std) := dropC_ok _ gwm_ok
theorem posT_lt : ∀ {L : List Tm} {x : Tm} {k : Nat}, k < posT L x → ahT x (L.getD k T0) = true
  | [], x, k, h => by simp [posT] at h
  | y :: L, x, k, h => by
    unfold posT at h
    rw [List.takeWhile_cons] at h
    split at h
    · rename_i hy
      cases k with
      | zero => simpa using hy
      | succ k => simpa using posT_lt (L := L) (x := x) (k := k) (by unfold posT; simpa using h)
    · simp at h
theorem posT_ge : ∀ {L : List Tm} {x : Tm}, posT L x < L.length → ahT x (L.getD (posT L x) T0) = false
  | [], x, h => by simp at h
  | y :: L, x, h => by
    unfold posT at h ⊢
    rw [List.takeWhile_cons] at h ⊢
    split
    · rename_i hy
      rw [hy] at h
      simpa [posT] using posT_ge (L := L) (x := x) (by unfold posT; simpa using h)
    · rename_i hy
      simpa using hy
theorem ins_pos {L : List Tm} {x : Tm} (h : ∀ y ∈ L, ¬y = x) : insT L x = L.take (posT L x) ++ x :: L.drop (posT L x) := by
  refine insT_at (posT_le L x) (fun k hk => ?_) fun hp => ?_
  · have := ahT_iff.1 (posT_lt hk)
    cases hb : lessT x (L.getD k T0)
    · rfl
    · exact absurd this (ltT_asym (lessT_iff.1 hb))
  · have h1 := posT_ge hp
    rw [lessT_iff]
    have h2 : ¬ltT (L.getD (posT L x) T0) x := fun e => by rw [ahT_iff.2 e] at h1; cases h1
    rcases ltT_tri x (L.getD (posT L x) T0) with h3 | h3 | h3
    · exact h3
    · exact absurd h3.symm (h _ (mem_at hp))
    · exact absurd h3 h2
theorem slotI_t (u : Int) : slotI true u = u % 64 := rfl
theorem slotI_f (u : Int) : slotI false u = u / 64 % 64 := rfl
theorem kd_put {B : Sl} {z : Nat} {s u : Int} {r : List UInt8} (hz : z < 64) (hl : B.length = 64) (h : ∀ y ∈ sl B z, ¬y = ⟨s, r, u⟩) : eqrS 64 1 (fun x _ => SV.slc (if x = z then (B.getD z []).length + 1 else (B.getD x []).length) 3
    (if x = z then catS (posT (B.getD z []) ⟨s, r, u⟩) (rowF eT { s := 0, r := [], u := 0 } std fun _ => B.getD z []) (catS 1 (lstS [[SV.int IntKind.u32 s, SV.str r, SV.int IntKind.u64 u]]) (shiftS (rowF eT { s := 0, r := [], u := 0 } std fun _ => B.getD z []) (posT (B.getD z []) ⟨s, r, u⟩))) else rowF eT T0 std fun _ => B.getD x []))
    (rowF eTs [] std fun _ => B.set z (insT (sl B z) ⟨s, r, u⟩)) := fun x j hx hj => by
  obtain rfl : j = 0 := by omega
  obtain ⟨L, hL⟩ : ∃ L, L = B.getD z [] := ⟨_, rfl⟩
  have e : (B.set z (insT (sl B z) ⟨s, r, u⟩)).getD x [] = if x = z then insT L ⟨s, r, u⟩ else B.getD x [] := by rw [hL]; exact sl_set hl hz _ x
  have hi := ins_pos (L := L) (x := ⟨s, r, u⟩) (by rw [hL]; exact h)
  have hp := posT_le L ⟨s, r, u⟩
  rw [← hL]
  show Ceq _ (rowS eT T0 3 std fun _ => (B.set z (insT (sl B z) ⟨s, r, u⟩)).getD x [])
  rw [e]
  by_cases hxs : x = z
  · simp only [if_pos hxs]
    have h1 := (((Reps.lit (enc := eT) (d := T0) (k := 3) L).take (posT L ⟨s, r, u⟩) hp).cat ((Reps.one (cell_eT ⟨s, r, u⟩)).cat ((Reps.lit (enc := eT) (d := T0) (k := 3) L).shift (m := L.length - posT L ⟨s, r, u⟩) (posT L ⟨s, r, u⟩) (by omega))))
    have h2 : L.take (posT L ⟨s, r, u⟩) ++ ([⟨s, r, u⟩] ++ (L.drop (posT L ⟨s, r, u⟩)).take (L.length - posT L ⟨s, r, u⟩)) = insT L ⟨s, r, u⟩ := by
      rw [List.take_of_length_le (l := L.drop _) (by rw [List.length_drop]; exact Nat.le_refl _), hi]
      rfl
    exact (h1.congr (n' := L.length + 1) (by omega) h2).cell
  · simp only [if_neg hxs]
    exact .refl _
theorem kd_row {I : Sl} (h : I.length = 64) : Reps eTs [] 1 64 (fun i _ => SV.slc ((I.getD i []).length) 3 (rowF eT T0 std fun _ => I.getD i [])) I := ⟨h, kd_eqr I⟩
theorem kd_is {I : Sl} (h : I.length = 64) : isRow eTs [] 1 64 (fun i _ => SV.slc ((I.getD i []).length) 3 (rowF eT T0 std fun _ => I.getD i [])) := ⟨I, kd_row h⟩
theorem kd_lst {I : Sl} (h : I.length = 64) : lstOf eTs [] 1 64 (fun i _ => SV.slc ((I.getD i []).length) 3 (rowF eT T0 std fun _ => I.getD i [])) = I := lstOf_eq inj_eTs (kd_row h)
/-- What scheduling comes to. -/
noncomputable def schC (n m : Int) (I O : Sl) (s : Int) (r : List UInt8) (u : Int) : Int :=
  if wR n m I O = true then (if hkT (allT I O) s r = true then 6 else if u ≤ n then 1 else if 63 < u / 64 - n / 64 then 9 else if m ≤ ((allT I O).length : Int) then 7 else 0) else 1
noncomputable def schI (n m : Int) (I O : Sl) (s : Int) (r : List UInt8) (u : Int) : Sl := if schC n m I O s r u = 0 ∧ u / 64 = n / 64 then I.set (u % 64).toNat (insT (sl I (u % 64).toNat) ⟨s, r, u⟩) else I
noncomputable def schO (n m : Int) (I O : Sl) (s : Int) (r : List UInt8) (u : Int) : Sl := if schC n m I O s r u = 0 ∧ ¬u / 64 = n / 64 then O.set (u / 64 % 64).toNat (insT (sl O (u / 64 % 64).toNat) ⟨s, r, u⟩) else O
theorem sch_no {n m s u : Int} {I O : Sl} {r : List UInt8} (h : ¬schC n m I O s r u = 0) : schI n m I O s r u = I ∧ schO n m I O s r u = O := by
  unfold schI schO
  rw [if_neg (fun e => h e.1), if_neg (fun e => h e.1)]
  exact ⟨rfl, rfl⟩
theorem sch_in {n m s u : Int} {I O : Sl} {r : List UInt8} (h : schC n m I O s r u = 0) (h2 : u / 64 = n / 64) : schI n m I O s r u = I.set (u % 64).toNat (insT (sl I (u % 64).toNat) ⟨s, r, u⟩) ∧ schO n m I O s r u = O := by
  unfold schI schO
  rw [if_pos ⟨h, h2⟩, if_neg (fun e => e.2 h2)]
  exact ⟨rfl, rfl⟩
theorem sch_out {n m s u : Int} {I O : Sl} {r : List UInt8} (h : schC n m I O s r u = 0) (h2 : ¬u / 64 = n / 64) : schI n m I O s r u = I ∧ schO n m I O s r u = O.set (u / 64 % 64).toNat (insT (sl O (u / 64 % 64).toNat) ⟨s, r, u⟩) := by
  unfold schI schO
  rw [if_neg (fun e => h2 e.2), if_pos ⟨h, h2⟩]
  exact ⟨rfl, rfl⟩
theorem sch_1 {n m s u : Int} {I O : Sl} {r : List UInt8} (h : wR n m I O = false) : schC n m I O s r u = 1 := by unfold schC; rw [h]; rfl
theorem sch_6 {n m s u : Int} {I O : Sl} {r : List UInt8} (h : wR n m I O = true) (h1 : hkT (allT I O) s r = true) : schC n m I O s r u = 6 := by unfold schC; rw [if_pos h, if_pos h1]
theorem sch_1b {n m s u : Int} {I O : Sl} {r : List UInt8} (h : wR n m I O = true) (h1 : hkT (allT I O) s r = false) (h2 : u ≤ n) : schC n m I O s r u = 1 := by unfold schC; rw [if_pos h, h1, if_neg (by decide), if_pos h2]
theorem sch_9 {n m s u : Int} {I O : Sl} {r : List UInt8} (h : wR n m I O = true) (h1 : hkT (allT I O) s r = false) (h2 : ¬u ≤ n) (h3 : 63 < u / 64 - n / 64) : schC n m I O s r u = 9 := by unfold schC; rw [if_pos h, h1, if_neg (by decide), if_neg h2, if_pos h3]
theorem sch_7 {n m s u : Int} {I O : Sl} {r : List UInt8} (h : wR n m I O = true) (h1 : hkT (allT I O) s r = false) (h2 : ¬u ≤ n) (h3 : ¬63 < u / 64 - n / 64) (h4 : m ≤ ((allT I O).length : Int)) : schC n m I O s r u = 7 := by unfold schC; rw [if_pos h, h1, if_neg (by decide), if_neg h2, if_neg h3, if_pos h4]
theorem sch_0 {n m s u : Int} {I O : Sl} {r : List UInt8} (h : wR n m I O = true) (h1 : hkT (allT I O) s r = false) (h2 : ¬u ≤ n) (h3 : ¬63 < u / 64 - n / 64) (h4 : ¬m ≤ ((allT I O).length : Int)) : schC n m I O s r u = 0 := by unfold schC; rw [if_pos h, h1, if_neg (by decide), if_neg h2, if_neg h3, if_neg h4]
attribute [local irreducible] vc
theorem good_wSched (n m s u : Int) (I O : Sl) (r : List UInt8) (hQ : whQ I O) (hn : 0 ≤ n ∧ n < 18446744073709551616) (hu : 0 ≤ u ∧ u < 18446744073709551616) : GoodP Try.prog gl0 17 [whS std n m I O, sKey std s r, .int .u64 u] (.tup [whT std n m (fun _ => schI n m I O s r u) (fun _ => schO n m I O s r u), .int .i64 (std.ti fun _ => schC n m I O s r u)]) := by
  refine fn_sound' (T := seatT) (G := gwn) (X := xW) seatT_ok gwn_ok xW_ok iWs_ok mixed Try.func17 (.none) (fun A => [whS A n m I O, sKey A s r, .int .u64 u]) (fun A => .tup [whT A n m (fun _ => schI n m I O s r u) (fun _ => schO n m I O s r u), .int .i64 (A.ti fun _ => schC n m I O s r u)]) fun A hA => ?_
  cbv
  repeat' (first | with_reducible exact True.intro | with_reducible exact dr_ok hA (by kernel_rfl) | with_reducible exact eqv_refl hA _ | with_reducible refine And.intro ?_ ?_ | (intro hc; cbv))
  refine ⟨lpFresh A n m I O 4 4, ⟨some ⟨0, by omega⟩, ?_⟩, ?_⟩
  · cbv
    subst hA
    simp [-List.getD_eq_getElem?_getD, sS, eqrS_refl]
  · rintro (_ | ⟨i, hi⟩)
    rotate_left 1
    · have h1 := wh_at hQ hi
      obtain ⟨i', hi'⟩ : ∃ i', i' = i + 1 := ⟨_, rfl⟩
      cbv
      repeat' (first | with_reducible exact True.intro | with_reducible exact dr_ok hA (by kernel_rfl) | with_reducible exact eqv_refl hA _ | with_reducible refine And.intro ?_ ?_ | (intro hc; cbv))
      all_goals first
        | (exfalso; subst hA; have hq : std.lt (Int.ofNat i) 64 = false := by assumption
           have : ¬((i : Nat) : Int) < 64 := of_decide_eq_false hq
           omega)
        | (fail_if_success (refine Exists.intro ?_ ?_)
           subst hA
           simp only [sS, Int.ofNat_eq_natCast, Int.toNat_natCast, isRow_M, lstOf_M] at *
           first
             | done
             | exact ⟨by omega, by omega⟩
             | exact ⟨trivial, by unfold sl at h1; omega⟩
             | omega
             | (constructor <;> omega))
        | skip
      by_cases h : i' < 64
      · refine ⟨some ⟨i', h⟩, ?_, show 64 - i' < 64 - i by omega⟩
        cbv
        subst hA
        simp [-List.getD_eq_getElem?_getD, sS, eqrS_refl, lstOf_M, set_kd]
        exact ⟨w_succ' hi' (by omega), hi'.symm⟩
      · refine ⟨none, ?_, show 0 < 64 - i by omega⟩
        cbv
        subst hA
        simp [-List.getD_eq_getElem?_getD, sS, eqrS_refl, lstOf_M, set_kd]
        exact ⟨by rw [w64 (by omega)]; omega, by omega⟩
    · have rI := kd_is hQ.1.1
      have rO := kd_is hQ.1.2
      have lI := kd_lst hQ.1.1
      have lO := kd_lst hQ.1.2
      have hQ1 := hQ.2.1
      have q1 : IntKind.u64.wrap (u / 64 - n / 64) = u / 64 - n / 64 ∨ u ≤ n := by
        rcases Int.lt_or_le n u with h | h
        · exact .inl (wU (by omega))
        · exact .inr h
      cbv
      repeat' (first | with_reducible exact True.intro | with_reducible exact dr_ok hA (by kernel_rfl) | with_reducible exact eqv_refl hA _ | with_reducible refine And.intro ?_ ?_ | (intro hc; cbv))
      all_goals (try (exfalso; subst hA; simp only [sS] at hc; exact absurd hc (by decide)))
      all_goals first
        | (fail_if_success (refine Exists.intro ?_ ?_)
           subst hA
           simp only [sS, isRow_X64 hQ.1.1, isRow_X64 hQ.1.2, lstOf_X64 hQ.1.1, lstOf_X64 hQ.1.2, rI, rO, lI, lO] at *
           first
             | done
             | exact ⟨⟨⟨trivial, trivial⟩, hQ⟩, hn.1⟩
             | exact ⟨⟨trivial, trivial⟩, hQ⟩
             | (have h2 : decide (u ≤ n) = false := by assumption
                have h2 := of_decide_eq_false h2
                exact ⟨hn.1, by omega, hu.2⟩)
             | (have hR : (!wR n m I O) = true := by assumption
                have h1 := sch_1 (s := s) (r := r) (u := u) (nb_f hR)
                have h2 := sch_no (by rw [h1]; decide)
                first
                  | (rw [h1]; done)
                  | (rw [h2.1]; exact kd_eqr _)
                  | (rw [h2.2]; exact kd_eqr _))
             | (have hR : (!wR n m I O) = false := by assumption
                have hR := nb_t hR
                have hH : hkT (allT I O) s r = true := by assumption
                have h1 := sch_6 (u := u) hR hH
                have h2 := sch_no (by rw [h1]; decide)
                first
                  | (rw [h1]; done)
                  | (rw [h2.1]; exact kd_eqr _)
                  | (rw [h2.2]; exact kd_eqr _))
             | (have hR : (!wR n m I O) = false := by assumption
                have hR := nb_t hR
                have hH : hkT (allT I O) s r = false := by assumption
                have hU : decide (u ≤ n) = true := by assumption
                have h1 := sch_1b hR hH (of_decide_eq_true hU)
                have h2 := sch_no (by rw [h1]; decide)
                first
                  | (rw [h1]; done)
                  | (rw [h2.1]; exact kd_eqr _)
                  | (rw [h2.2]; exact kd_eqr _))
             | (have hR : (!wR n m I O) = false := by assumption
                have hR := nb_t hR
                have hH : hkT (allT I O) s r = false := by assumption
                have hU : decide (u ≤ n) = false := by assumption
                have hF : decide (63 < u / 64 - n / 64) = true := by assumption
                have h1 := sch_9 hR hH (of_decide_eq_false hU) (of_decide_eq_true hF)
                have h2 := sch_no (by rw [h1]; decide)
                first
                  | (rw [h1]; done)
                  | (rw [h2.1]; exact kd_eqr _)
                  | (rw [h2.2]; exact kd_eqr _))
             | trace_state)
        | skip
      refine ⟨⟨{p : Nat × List Tm // p.1 ≤ 64 ∧ p.2 = allN I O p.1}, fun b p => [(3, .own b), (5, .int .i64 (p.1.1 : Nat))], fun b p => [(b, .row 58 3 (A.tn fun _ => p.1.2.length) (rowF eT T0 A fun _ => p.1.2))], fun p => 64 - p.1.1, true⟩, ⟨⟨(0, []), Nat.zero_le _, rfl⟩, ?_⟩, ?_⟩
      · cbv
        subst hA
        simp [-List.getD_eq_getElem?_getD, sS, eqrS_refl]
      · rintro ⟨⟨i, M⟩, hx⟩
        have hi : i ≤ 64 := hx.1
        have hM : M = allN I O i := hx.2
        rcases Nat.lt_or_ge i 64 with hlt | hge
        · have hb := wh_at hQ hlt
          rw [← hM] at hb
          obtain ⟨i', hi'⟩ : ∃ i', i' = i + 1 := ⟨_, rfl⟩
          obtain ⟨L1, hL1⟩ : ∃ L1, L1 = sl I i := ⟨_, rfl⟩
          obtain ⟨L2, hL2⟩ : ∃ L2, L2 = sl O i := ⟨_, rfl⟩
          rw [← hL1, ← hL2] at hb
          have e1 : I.getD i [] = L1 := hL1.symm
          have e2 : O.getD i [] = L2 := hL2.symm
          obtain ⟨M', hM'⟩ : ∃ M', M' = M ++ (L1 ++ L2) := ⟨_, rfl⟩
          have hMM : M' = allN I O i' := by rw [hM', hi', hM, hL1, hL2]; rfl
          cbv
          repeat' (first | with_reducible exact True.intro | with_reducible exact dr_ok hA (by kernel_rfl) | with_reducible exact eqv_refl hA _ | with_reducible refine And.intro ?_ ?_ | (intro hc; cbv))
          all_goals (try (exfalso; subst hA; have hq : std.lt (Int.ofNat i) 64 = false := by assumption
                          have : ¬((i : Nat) : Int) < 64 := of_decide_eq_false hq
                          omega))
          all_goals first
            | (fail_if_success (refine Exists.intro ?_ ?_)
               subst hA
               simp only [sS, Int.ofNat_eq_natCast, Int.toNat_natCast, e1, e2] at *
               first
                 | exact ⟨by omega, by omega⟩
                 | omega)
            | (refine ⟨⟨(i', M'), by show i' ≤ 64; omega, hMM⟩, ?_, show 64 - i' < 64 - i by omega⟩
               cbv
               subst hA
               simp [-List.getD_eq_getElem?_getD, sS, e1, e2, eqrS_refl]
               refine ⟨w_succ' hi' (by omega), ?_, ?_⟩
               · rw [hM']; simp; omega
               · exact eqr_of (((Reps.lit M).cat (Reps.lit L1)).cat (Reps.lit L2)) (by rw [hM']; simp; omega) (by rw [hM', List.append_assoc]))
            | trace_state
        · have hie : i = 64 := by omega
          subst hie
          have hML : M = allT I O := by rw [hM, ← allT_eq]
          cbv
          repeat' (first | with_reducible exact True.intro | with_reducible exact dr_ok hA (by kernel_rfl) | with_reducible exact eqv_refl hA _ | with_reducible refine And.intro ?_ ?_ | (intro hc; cbv))
          all_goals (try (exfalso; subst hA; simp only [sS] at hc; exact absurd hc (by decide)))
          all_goals first
            | (subst hA
               simp only [sS, isRow_X64 hQ.1.1, isRow_X64 hQ.1.2, lstOf_X64 hQ.1.1, lstOf_X64 hQ.1.2, rI, rO, lI, lO]
               done)
            | (subst hA
               have hR : std.not (std.tb fun _ => wR n m (lstOf eTs [] 1 64 (rowF eTs [] std fun _ => I)) (lstOf eTs [] 1 64 (rowF eTs [] std fun _ => O))) = false := by assumption
               simp only [sS, Int.ofNat_eq_natCast, Int.toNat_natCast, isRow_X64 hQ.1.1, isRow_X64 hQ.1.2, lstOf_X64 hQ.1.1, lstOf_X64 hQ.1.2, rI, rO, lI, lO, slotI_t, slotI_f, isRow_M, lstOf_M] at *
               have hR := nb_t hR
               have hH : hkT (allT I O) s r = false := by assumption
               have hU : decide (u ≤ n) = false := by assumption
               have hF : decide (63 < u / 64 - n / 64) = false := by assumption
               have hU := of_decide_eq_false hU
               have hF := of_decide_eq_false hF
               have hW := wR_iff.1 hR
               first
                 | done
                 | exact hu
                 | exact ⟨hn.1, by omega, hu.2⟩
                 | exact ⟨by omega, by omega⟩
                 | (have hm0 : decide (m ≤ (M.length : Int)) = true := by assumption
                    have hm := of_decide_eq_true hm0
                    rw [hML] at hm
                    have h1 := sch_7 hR hH hU hF hm
                    have h2 := sch_no (by rw [h1]; decide)
                    first
                      | (rw [h1]; done)
                      | (rw [h2.1]; exact kd_eqr _)
                      | (rw [h2.2]; exact kd_eqr _))
                 | (have hm0 : decide (m ≤ (M.length : Int)) = false := by assumption
                    have hm := of_decide_eq_false hm0
                    rw [hML] at hm
                    have h0 := sch_0 hR hH hU hF hm
                    have hz1 : (u % 64).toNat < 64 := by omega
                    have hz2 : (u / 64 % 64).toNat < 64 := by omega
                    have hb1 := wh_at hQ hz1
                    have hb2 := wh_at hQ hz2
                    unfold sl at hb1 hb2
                    have ha1 := (hW.2.1 _ hz1).1.2
                    have ha2 := (hW.2.1 _ hz2).2.2
                    have hp1 := posT_le (I.getD (u % 64).toNat []) ⟨s, r, u⟩
                    have hp2 := posT_le (O.getD (u / 64 % 64).toNat []) ⟨s, r, u⟩
                    have hne : ∀ y ∈ allT I O, ¬y = ⟨s, r, u⟩ := fun y hy => unlT_ne ((hkT_no (t := ⟨s, r, u⟩)).1 hH y hy)
                    have hn1 : ∀ y ∈ sl I (u % 64).toNat, ¬y = ⟨s, r, u⟩ := fun y hy => hne y (mem_all.2 ⟨_, hz1, .inl hy⟩)
                    have hn2 : ∀ y ∈ sl O (u / 64 % 64).toNat, ¬y = ⟨s, r, u⟩ := fun y hy => hne y (mem_all.2 ⟨_, hz2, .inr hy⟩)
                    first
                      | exact h0.symm
                      | exact ⟨⟨trivial, by omega⟩, ha1⟩
                      | exact ⟨⟨trivial, by omega⟩, ha2⟩
                      | exact ⟨⟨Int.natCast_nonneg _, Int.ofNat_le.2 hp1⟩, by omega⟩
                      | exact ⟨⟨Int.natCast_nonneg _, Int.ofNat_le.2 hp2⟩, by omega⟩
                      | (have hq : (u / 64 - n / 64 == 0) = true := by assumption
                         have hq2 : u / 64 = n / 64 := by simp at hq; omega
                         have h2 := sch_in h0 hq2
                         first
                           | (rw [h2.1]; exact kd_put hz1 hQ.1.1 hn1)
                           | (rw [h2.2]; exact kd_eqr _))
                      | (have hq : (u / 64 - n / 64 == 0) = false := by assumption
                         have hq2 : ¬u / 64 = n / 64 := by simp at hq; omega
                         have h2 := sch_out h0 hq2
                         first
                           | (rw [h2.2]; exact kd_put hz2 hQ.1.2 hn2)
                           | (rw [h2.1]; exact kd_eqr _))
                      | trace_state)
                 | trace_state)
            | trace_state
end Go.Vd

set_option linter.unusedVariables false
set_option linter.unusedSimpArgs false
set_option maxRecDepth 100000
set_option maxHeartbeats 8000000
namespace Go.Vd
open Go.Proofs
/-- Of another key. -/
def otT (s : Int) (r : List UInt8) (t : Tm) : Bool := !decide (t.s = s ∧ t.r = r)
/-- What cancelling comes to. -/
noncomputable def canC (n m : Int) (I O : Sl) (s : Int) (r : List UInt8) : Int := if wR n m I O = true then (if hkT (allT I O) s r = true then 0 else 5) else 1
noncomputable def canI (n m : Int) (I O : Sl) (s : Int) (r : List UInt8) : Sl := if canC n m I O s r = 0 ∧ fdT (allT I O) s r / 64 = n / 64 then I.set (fdT (allT I O) s r % 64).toNat ((sl I (fdT (allT I O) s r % 64).toNat).filter (otT s r)) else I
noncomputable def canO (n m : Int) (I O : Sl) (s : Int) (r : List UInt8) : Sl := if canC n m I O s r = 0 ∧ ¬fdT (allT I O) s r / 64 = n / 64 then O.set (fdT (allT I O) s r / 64 % 64).toNat ((sl O (fdT (allT I O) s r / 64 % 64).toNat).filter (otT s r)) else O
theorem can_no {n m s : Int} {I O : Sl} {r : List UInt8} (h : ¬canC n m I O s r = 0) : canI n m I O s r = I ∧ canO n m I O s r = O := by
  unfold canI canO
  rw [if_neg (fun e => h e.1), if_neg (fun e => h e.1)]
  exact ⟨rfl, rfl⟩
theorem can_1 {n m s : Int} {I O : Sl} {r : List UInt8} (h : wR n m I O = false) : canC n m I O s r = 1 := by unfold canC; rw [h]; rfl
theorem can_5 {n m s : Int} {I O : Sl} {r : List UInt8} (h : wR n m I O = true) (h1 : hkT (allT I O) s r = false) : canC n m I O s r = 5 := by unfold canC; rw [if_pos h, h1]; rfl
theorem can_0 {n m s : Int} {I O : Sl} {r : List UInt8} (h : wR n m I O = true) (h1 : hkT (allT I O) s r = true) : canC n m I O s r = 0 := by unfold canC; rw [if_pos h, if_pos h1]
theorem can_in {n m s u : Int} {I O : Sl} {r : List UInt8} (h : canC n m I O s r = 0) (hu : u = fdT (allT I O) s r) (h2 : u / 64 = n / 64) : canI n m I O s r = I.set (u % 64).toNat ((sl I (u % 64).toNat).filter (otT s r)) ∧ canO n m I O s r = O := by
  subst hu
  unfold canI canO
  rw [if_pos ⟨h, h2⟩, if_neg (fun e => e.2 h2)]
  exact ⟨rfl, rfl⟩
theorem can_out {n m s u : Int} {I O : Sl} {r : List UInt8} (h : canC n m I O s r = 0) (hu : u = fdT (allT I O) s r) (h2 : ¬u / 64 = n / 64) : canI n m I O s r = I ∧ canO n m I O s r = O.set (u / 64 % 64).toNat ((sl O (u / 64 % 64).toNat).filter (otT s r)) := by
  subst hu
  unfold canI canO
  rw [if_neg (fun e => h2 e.2), if_pos ⟨h, h2⟩]
  exact ⟨rfl, rfl⟩
theorem fd_mem {s : Int} {r : List UInt8} : ∀ {L : List Tm}, hkT L s r = true → ∃ t ∈ L, t.s = s ∧ t.r = r ∧ t.u = fdT L s r
  | [], h => by cases h
  | t :: L, h => by
    by_cases e : t.s = s ∧ t.r = r
    · exact ⟨t, List.mem_cons_self .., e.1, e.2, by unfold fdT; rw [if_pos e]⟩
    · unfold hkT at h
      rw [List.any_cons, decide_eq_false e, Bool.false_or] at h
      obtain ⟨t', h1, h2⟩ := fd_mem (L := L) h
      exact ⟨t', List.mem_cons_of_mem _ h1, by unfold fdT; rw [if_neg e]; exact h2⟩
theorem filter_snoc {p : Tm → Bool} {L : List Tm} {k : Nat} (h : k < L.length) : (L.take (k + 1)).filter p = if p (L.getD k T0) = true then (L.take k).filter p ++ [L.getD k T0] else (L.take k).filter p := by
  rw [← take_snoc (d := T0) h, List.filter_append]
  split
  · rename_i hp; rw [List.filter_cons_of_pos hp]; rfl
  · rename_i hp; rw [List.filter_cons_of_neg hp]; simp
theorem asc_before {L : List Tm} (h : ascT L) {k : Nat} (hk : k < L.length) : ∀ y ∈ L.take k, ltT y (L.getD k T0) := fun y hy => by
  obtain ⟨i, hi, rfl⟩ := List.getElem_of_mem hy
  rw [List.length_take] at hi
  have := asc_at h (show i < k by omega) hk
  rw [List.getD_eq_getElem?_getD, List.getElem?_eq_getElem (show i < L.length by omega)] at this
  rw [List.getElem_take]
  exact this
theorem kd_nil {B B' : Sl} {z : Nat} (hz : z < 64) (hl : B.length = 64) (h : B' = B.set z []) : eqrS 64 1 (fun x _ => SV.slc (if x = z then 0 else (B.getD x []).length) 3 (rowF eT T0 std fun _ => B.getD x [])) (fun x _ => SV.slc ((B'.getD x []).length) 3 (rowF eT T0 std fun _ => B'.getD x [])) := fun x j hx hj => by
  have e : B'.getD x [] = if x = z then [] else B.getD x [] := by rw [h]; exact sl_set hl hz _ x
  by_cases hxs : x = z
  · simp only [if_pos hxs] at e ⊢
    rw [e]
    exact .slc _ _ _ _ fun i j hi => absurd hi (by simp)
  · simp only [if_neg hxs] at e ⊢
    rw [e]
    exact .refl _
theorem kd_back {B : Sl} {f : Nat → Nat → SV} (h : eqrS 64 1 f (rowF eTs [] std fun _ => B)) : eqrS 64 1 f (fun x _ => SV.slc ((B.getD x []).length) 3 (rowF eT T0 std fun _ => B.getD x [])) := fun i j hi hj => by
  obtain rfl : j = 0 := by omega
  exact h i 0 hi hj
theorem set_set {B : Sl} {z : Nat} {L M : List Tm} : (B.set z L).set z M = B.set z M := List.set_set ..
theorem set_self {B : Sl} {z : Nat} (hl : B.length = 64) (hz : z < 64) (L : List Tm) : (B.set z L).getD z [] = L := by
  have := sl_set hl hz L z
  rw [if_pos rfl] at this
  exact this
attribute [local irreducible] vc
theorem good_wCancel (n m s : Int) (I O : Sl) (r : List UInt8) (hQ : whQ I O) (hn : 0 ≤ n ∧ n < 18446744073709551616) : GoodP Try.prog gl0 19 [whS std n m I O, sKey std s r] (.tup [whT std n m (fun _ => canI n m I O s r) (fun _ => canO n m I O s r), .int .i64 (std.ti fun _ => canC n m I O s r)]) := by
  refine fn_sound' (T := seatT) (G := gwn) (X := xW) seatT_ok gwn_ok xW_ok iWs_ok mixed Try.func19 (.none) (fun A => [whS A n m I O, sKey A s r]) (fun A => .tup [whT A n m (fun _ => canI n m I O s r) (fun _ => canO n m I O s r), .int .i64 (A.ti fun _ => canC n m I O s r)]) fun A hA => ?_
  cbv
  repeat' (first | with_reducible exact True.intro | with_reducible exact dr_ok hA (by kernel_rfl) | with_reducible exact eqv_refl hA _ | with_reducible refine And.intro ?_ ?_ | (intro hc; cbv))
  refine ⟨lpFresh A n m I O 4 4, ⟨some ⟨0, by omega⟩, ?_⟩, ?_⟩
  · cbv
    subst hA
    simp [-List.getD_eq_getElem?_getD, sS, eqrS_refl]
  · rintro (_ | ⟨i, hi⟩)
    rotate_left 1
    · have h1 := wh_at hQ hi
      obtain ⟨i', hi'⟩ : ∃ i', i' = i + 1 := ⟨_, rfl⟩
      cbv
      repeat' (first | with_reducible exact True.intro | with_reducible exact dr_ok hA (by kernel_rfl) | with_reducible exact eqv_refl hA _ | with_reducible refine And.intro ?_ ?_ | (intro hc; cbv))
      all_goals first
        | (exfalso; subst hA; have hq : std.lt (Int.ofNat i) 64 = false := by assumption
           have : ¬((i : Nat) : Int) < 64 := of_decide_eq_false hq
           omega)
        | (fail_if_success (refine Exists.intro ?_ ?_)
           subst hA
           simp only [sS, Int.ofNat_eq_natCast, Int.toNat_natCast, isRow_M, lstOf_M] at *
           first
             | done
             | exact ⟨by omega, by omega⟩
             | exact ⟨trivial, by unfold sl at h1; omega⟩
             | omega
             | (constructor <;> omega))
        | skip
      by_cases h : i' < 64
      · refine ⟨some ⟨i', h⟩, ?_, show 64 - i' < 64 - i by omega⟩
        cbv
        subst hA
        simp [-List.getD_eq_getElem?_getD, sS, eqrS_refl, lstOf_M, set_kd]
        exact ⟨w_succ' hi' (by omega), hi'.symm⟩
      · refine ⟨none, ?_, show 0 < 64 - i by omega⟩
        cbv
        subst hA
        simp [-List.getD_eq_getElem?_getD, sS, eqrS_refl, lstOf_M, set_kd]
        exact ⟨by rw [w64 (by omega)]; omega, by omega⟩
    · have rI := kd_is hQ.1.1
      have rO := kd_is hQ.1.2
      have lI := kd_lst hQ.1.1
      have lO := kd_lst hQ.1.2
      have hQ1 := hQ.2.1
      obtain ⟨u, hu⟩ : ∃ u, u = fdT (allT I O) s r := ⟨_, rfl⟩
      have hfind : wR n m I O = true → hkT (allT I O) s r = true → (0 ≤ u ∧ u < 18446744073709551616) ∧ n < u := fun hR hH => by
        obtain ⟨t, h1, _, _, h4⟩ := fd_mem hH
        rw [← hu] at h4
        have h5 := hQ.2.2 t h1
        obtain ⟨i, hi, h6⟩ := mem_all.1 h1
        have hw := (wR_iff.1 hR).2.1 i hi
        unfold tmQ at h5
        rcases h6 with h6 | h6
        · have := belI_t.1 (hw.1.1 t h6); omega
        · have := belI_f.1 (hw.2.1 t h6); omega
      cbv
      repeat' (first | with_reducible exact True.intro | with_reducible exact dr_ok hA (by kernel_rfl) | with_reducible exact eqv_refl hA _ | with_reducible refine And.intro ?_ ?_ | (intro hc; cbv))
      all_goals (try (exfalso; subst hA; simp only [sS] at hc; exact absurd hc (by decide)))
      all_goals first
        | (fail_if_success (refine Exists.intro ?_ ?_)
           subst hA
           simp only [sS, isRow_X64 hQ.1.1, isRow_X64 hQ.1.2, lstOf_X64 hQ.1.1, lstOf_X64 hQ.1.2, rI, rO, lI, lO, slotI_t, slotI_f, ← hu] at *
           first
             | done
             | exact ⟨⟨⟨trivial, trivial⟩, hQ⟩, hn.1⟩
             | exact ⟨⟨trivial, trivial⟩, hQ⟩
             | (have hR : (!wR n m I O) = true := by assumption
                have h1 := can_1 (s := s) (r := r) (nb_f hR)
                have h2 := can_no (by rw [h1]; decide)
                first
                  | (rw [h1]; done)
                  | (rw [h2.1]; exact kd_eqr _)
                  | (rw [h2.2]; exact kd_eqr _))
             | (have hR : (!wR n m I O) = false := by assumption
                have hR := nb_t hR
                have hH : (!hkT (allT I O) s r) = true := by assumption
                have h1 := can_5 hR (nb_f hH)
                have h2 := can_no (by rw [h1]; decide)
                first
                  | (rw [h1]; done)
                  | (rw [h2.1]; exact kd_eqr _)
                  | (rw [h2.2]; exact kd_eqr _))
             | (have hR : (!wR n m I O) = false := by assumption
                have hH : (!hkT (allT I O) s r) = false := by assumption
                have h3 := hfind (nb_t hR) (nb_t hH)
                first
                  | exact ⟨hn.1, by omega, by omega⟩
                  | exact ⟨by omega, by omega⟩)
             | trace_state)
        | skip
      all_goals (have hR : wR n m I O = true := by
                   subst hA
                   have hR : std.not (std.tb fun _ => wR n m (lstOf eTs [] 1 64 (rowF eTs [] std fun _ => I)) (lstOf eTs [] 1 64 (rowF eTs [] std fun _ => O))) = false := by assumption
                   simp only [sS, lstOf_X64 hQ.1.1, lstOf_X64 hQ.1.2] at hR
                   exact nb_t hR)
      all_goals (have hW := wR_iff.1 hR)
      all_goals (have hH : hkT (allT I O) s r = true := by
                   subst hA
                   clear hW hfind
                   simp only [sS, lI, lO] at *
                   exact nb_t (by assumption))
      · have hst := True.intro
        obtain ⟨z, hz⟩ : ∃ z, z = (u % 64).toNat := ⟨_, rfl⟩
        have hz64 : z < 64 := by omega
        obtain ⟨L, hL⟩ : ∃ L, L = sl I z := ⟨_, rfl⟩
        have hLl : L.length ≤ 100000 := by have := wh_at hQ hz64; rw [hL]; omega
        have hsk : slotOk true n z L := by rw [hL]; exact (hW.2.1 z hz64).1
        have hLu : ∀ t ∈ L, tmQ t ∧ slotI true t.u = (z : Int) := fun t ht => ⟨hQ.2.2 t (mem_all.2 ⟨z, hz64, .inl (hL ▸ ht)⟩), by have := belI_t.1 (hsk.1 t ht); show t.u % 64 = (z : Int); omega⟩
        have hgL : I.getD (u % 64).toNat [] = L := by rw [hL, hz]; rfl
        have hgz : I.getD z [] = L := hL.symm
        obtain ⟨B0, hB0⟩ : ∃ B0, B0 = I.set z [] := ⟨_, rfl⟩
        have hkn := kd_nil hz64 hQ.1.1 hB0
        refine ⟨⟨{p : Nat × Sl // p.1 ≤ L.length ∧ p.2 = I.set z ((L.take p.1).filter (otT s r))}, fun b p => [(12, .any), (13, .any), (14, .any), (15, .any), (16, .any), (17, .any), (18, .any), (19, .any), (20, .any), (21, .any), (22, .any), (23, .any), (24, .any), (25, .any), (26, .any), (27, .any), (28, .any), (29, .any), (30, .any), (31, .any), (7, .int .u64 u), (8, .any), (32, rowS eT T0 3 A fun _ => L), (33, .int .i64 (A.ofNat (A.tn fun _ => L.length))), (34, .int .i64 (p.1.1 : Nat))], fun b p => [(7, kdW A b 64 p.1.2), (0, .box 26 [.int .u64 n, .int .i64 m, .krun 7 b 64, .krun 9 10 64])], fun p => L.length - p.1.1, true⟩, ⟨⟨(0, B0), Nat.zero_le _, hB0⟩, ?_⟩, ?_⟩
        · cbv
          subst hA
          simp [-List.getD_eq_getElem?_getD, sS, eqrS_refl, rI, rO, lI, lO, ← hu, slotI_t, slotI_f, hgL, ← hz, hgz]
          exact hkn
        · rintro ⟨⟨k, B'⟩, hx⟩
          have hk : k ≤ L.length := hx.1
          have hB' : B' = I.set z ((L.take k).filter (otT s r)) := hx.2
          obtain ⟨P, hP⟩ : ∃ P, P = (L.take k).filter (otT s r) := ⟨_, rfl⟩
          rw [← hP] at hB'
          have hBl : B'.length = 64 := by rw [hB', List.length_set]; exact hQ.1.1
          have hBz : B'.getD z [] = P := by rw [hB']; exact set_self hQ.1.1 hz64 P
          have hPl : P.length ≤ 100000 := by rw [hP]; refine Nat.le_trans (List.length_filter_le _ _) ?_; rw [List.length_take]; omega
          rcases Nat.lt_or_ge k L.length with hlt | hge
          · obtain ⟨k', hk'⟩ : ∃ k', k' = k + 1 := ⟨_, rfl⟩
            obtain ⟨t, ht⟩ : ∃ t, t = L.getD k T0 := ⟨_, rfl⟩
            have hgt : L.getD k { s := 0, r := [], u := 0 } = t := ht.symm
            obtain ⟨htQ, htz⟩ := hLu t (ht ▸ mem_at hlt)
            have hPa : ascT P := by rw [hP]; exact (hsk.2.sublist (List.take_sublist _ _)).sublist List.filter_sublist
            have hbef : ∀ y ∈ P, ltT y t := fun y hy => by rw [ht]; exact asc_before hsk.2 hlt y (List.mem_filter.1 (hP ▸ hy)).1
            have hfs := filter_snoc (p := otT s r) hlt
            rw [← hk', ← hP, ← ht] at hfs
            have hne : ∀ y ∈ sl B' z, ¬y = t := fun y hy e => by
              have : y ∈ P := by rw [← hBz]; exact hy
              have := hbef y this
              rw [e] at this
              exact ltT_irr _ this
            have hpp := posT_le P t
            have hil := insT_last hbef
            obtain ⟨B2, hB2⟩ : ∃ B2, B2 = B'.set z (insT P t) := ⟨_, rfl⟩
            have hB2' : otT s r t = true → B2 = I.set z ((L.take k').filter (otT s r)) := fun h => by
              rw [hfs, if_pos h, hB2, hB', set_set, hil]
            have hBn : otT s r t = false → B' = I.set z ((L.take k').filter (otT s r)) := fun h => by
              rw [hfs, h, hB']; rfl
            have hkp := kd_put (s := t.s) (u := t.u) (r := t.r) hz64 hBl hne
            have hsb : sl B' z = P := hBz
            rw [hsb, hBz] at hkp
            have htn : (slotI true t.u).toNat = z := by rw [htz]; rfl
            cbv
            repeat' (first | with_reducible exact True.intro | with_reducible exact dr_ok hA (by kernel_rfl) | with_reducible exact eqv_refl hA _ | with_reducible refine And.intro ?_ ?_ | (intro hc; cbv))
            all_goals first
              | (exfalso
                 subst hA
                 have hq : std.lt (Int.ofNat k) (std.ofNat (std.tn fun _ => L.length)) = false := by assumption
                 simp only [sS, Int.ofNat_eq_natCast] at hq
                 have := of_decide_eq_false hq
                 omega)
              | (fail_if_success (refine Exists.intro ?_ ?_)
                 subst hA
                 clear hB2' hBn
                 simp only [sS, Int.ofNat_eq_natCast, Int.toNat_natCast, hgt, htz, hBz, isRow_M, lstOf_M, eta_T] at *
                 first
                   | done
                   | exact htQ
                   | exact ⟨by omega, by omega⟩
                   | exact ⟨(show (0 : Int) ≤ ((z : Nat) : Int) by omega), (show ((z : Nat) : Int) < ((64 : Nat) : Int) by omega)⟩
                   | exact ⟨⟨trivial, by omega⟩, hPa⟩
                   | exact ⟨⟨Int.natCast_nonneg _, Int.ofNat_le.2 hpp⟩, by omega⟩
                   | trace_state)
              | skip
            · have hot : otT s r t = true := by
                subst hA
                clear hB2' hBn
                simp only [sS, Int.ofNat_eq_natCast, Int.toNat_natCast, hgt] at hc
                unfold otT
                simpa using hc
              refine ⟨⟨(k', B2), by show k' ≤ L.length; omega, hB2' hot⟩, ?_, show L.length - k' < L.length - k by omega⟩
              cbv
              subst hA
              simp [-List.getD_eq_getElem?_getD, sS, hgt, htz, hBz, lstOf_M, eta_T, eqrS_refl]
              refine ⟨w_succ' hk' (by omega), ?_⟩
              rw [hB2]
              exact kd_back hkp
            · have hot : otT s r t = false := by
                subst hA
                clear hB2' hBn
                simp only [sS, Int.ofNat_eq_natCast, Int.toNat_natCast, hgt] at hc
                unfold otT
                simpa using hc
              refine ⟨⟨(k', B'), by show k' ≤ L.length; omega, hBn hot⟩, ?_, show L.length - k' < L.length - k by omega⟩
              cbv
              subst hA
              simp [-List.getD_eq_getElem?_getD, sS, eqrS_refl]
              exact w_succ' hk' (by omega)
          · have hke : k = L.length := by omega
            rw [hke, List.take_length] at hP
            have h0 := can_0 hR hH
            have hf := hfind hR hH
            have hci := @can_in n m s u I O r h0 hu
            cbv
            repeat' (first | with_reducible exact True.intro | with_reducible exact dr_ok hA (by kernel_rfl) | with_reducible exact eqv_refl hA _ | with_reducible refine And.intro ?_ ?_ | (intro hc; cbv))
            all_goals first
              | (exfalso
                 subst hA
                 have hq : std.lt (Int.ofNat k) (std.ofNat (std.tn fun _ => L.length)) = true := by assumption
                 simp only [sS, Int.ofNat_eq_natCast] at hq
                 have := of_decide_eq_true hq
                 omega)
              | (subst hA
                 simp only [sS]
                 done)
              | skip
            all_goals
                 subst hA
                 clear hfind hW
                 simp only [sS, ← hu, lI, lO] at *
                 have hq2 : u / 64 = n / 64 := by
                   have hq : (u / 64 - n / 64 == 0) = true := by assumption
                   simp at hq; omega
                 have h2 := hci hq2
                 first
                   | done
                   | exact h0.symm
                   | (rw [h2.2]; exact kd_eqr _)
                   | (rw [h2.1, ← hz, ← hL, ← hP, ← hB']; exact kd_eqr _)
                   | trace_state
      · have hst := True.intro
        obtain ⟨z, hz⟩ : ∃ z, z = (u / 64 % 64).toNat := ⟨_, rfl⟩
        have hz64 : z < 64 := by omega
        obtain ⟨L, hL⟩ : ∃ L, L = sl O z := ⟨_, rfl⟩
        have hLl : L.length ≤ 100000 := by have := wh_at hQ hz64; rw [hL]; omega
        have hsk : slotOk false n z L := by rw [hL]; exact (hW.2.1 z hz64).2
        have hLu : ∀ t ∈ L, tmQ t ∧ slotI false t.u = (z : Int) := fun t ht => ⟨hQ.2.2 t (mem_all.2 ⟨z, hz64, .inr (hL ▸ ht)⟩), by have := belI_f.1 (hsk.1 t ht); show t.u / 64 % 64 = (z : Int); omega⟩
        have hgL : O.getD (u / 64 % 64).toNat [] = L := by rw [hL, hz]; rfl
        have hgz : O.getD z [] = L := hL.symm
        obtain ⟨B0, hB0⟩ : ∃ B0, B0 = O.set z [] := ⟨_, rfl⟩
        have hkn := kd_nil hz64 hQ.1.2 hB0
        refine ⟨⟨{p : Nat × Sl // p.1 ≤ L.length ∧ p.2 = O.set z ((L.take p.1).filter (otT s r))}, fun b p => [(12, .any), (13, .any), (14, .any), (15, .any), (16, .any), (17, .any), (18, .any), (19, .any), (20, .any), (21, .any), (22, .any), (23, .any), (24, .any), (25, .any), (26, .any), (27, .any), (28, .any), (29, .any), (30, .any), (31, .any), (7, .int .u64 u), (8, .any), (32, rowS eT T0 3 A fun _ => L), (33, .int .i64 (A.ofNat (A.tn fun _ => L.length))), (34, .int .i64 (p.1.1 : Nat))], fun b p => [(9, kdW A b 64 p.1.2), (0, .box 26 [.int .u64 n, .int .i64 m, .krun 7 8 64, .krun 9 b 64])], fun p => L.length - p.1.1, true⟩, ⟨⟨(0, B0), Nat.zero_le _, hB0⟩, ?_⟩, ?_⟩
        · cbv
          subst hA
          simp [-List.getD_eq_getElem?_getD, sS, eqrS_refl, rI, rO, lI, lO, ← hu, slotI_t, slotI_f, hgL, ← hz, hgz]
          exact hkn
        · rintro ⟨⟨k, B'⟩, hx⟩
          have hk : k ≤ L.length := hx.1
          have hB' : B' = O.set z ((L.take k).filter (otT s r)) := hx.2
          obtain ⟨P, hP⟩ : ∃ P, P = (L.take k).filter (otT s r) := ⟨_, rfl⟩
          rw [← hP] at hB'
          have hBl : B'.length = 64 := by rw [hB', List.length_set]; exact hQ.1.2
          have hBz : B'.getD z [] = P := by rw [hB']; exact set_self hQ.1.2 hz64 P
          have hPl : P.length ≤ 100000 := by rw [hP]; refine Nat.le_trans (List.length_filter_le _ _) ?_; rw [List.length_take]; omega
          rcases Nat.lt_or_ge k L.length with hlt | hge
          · obtain ⟨k', hk'⟩ : ∃ k', k' = k + 1 := ⟨_, rfl⟩
            obtain ⟨t, ht⟩ : ∃ t, t = L.getD k T0 := ⟨_, rfl⟩
            have hgt : L.getD k { s := 0, r := [], u := 0 } = t := ht.symm
            obtain ⟨htQ, htz⟩ := hLu t (ht ▸ mem_at hlt)
            have hPa : ascT P := by rw [hP]; exact (hsk.2.sublist (List.take_sublist _ _)).sublist List.filter_sublist
            have hbef : ∀ y ∈ P, ltT y t := fun y hy => by rw [ht]; exact asc_before hsk.2 hlt y (List.mem_filter.1 (hP ▸ hy)).1
            have hfs := filter_snoc (p := otT s r) hlt
            rw [← hk', ← hP, ← ht] at hfs
            have hne : ∀ y ∈ sl B' z, ¬y = t := fun y hy e => by
              have : y ∈ P := by rw [← hBz]; exact hy
              have := hbef y this
              rw [e] at this
              exact ltT_irr _ this
            have hpp := posT_le P t
            have hil := insT_last hbef
            obtain ⟨B2, hB2⟩ : ∃ B2, B2 = B'.set z (insT P t) := ⟨_, rfl⟩
            have hB2' : otT s r t = true → B2 = O.set z ((L.take k').filter (otT s r)) := fun h => by
              rw [hfs, if_pos h, hB2, hB', set_set, hil]
            have hBn : otT s r t = false → B' = O.set z ((L.take k').filter (otT s r)) := fun h => by
              rw [hfs, h, hB']; rfl
            have hkp := kd_put (s := t.s) (u := t.u) (r := t.r) hz64 hBl hne
            have hsb : sl B' z = P := hBz
            rw [hsb, hBz] at hkp
            have htn : (slotI false t.u).toNat = z := by rw [htz]; rfl
            cbv
            repeat' (first | with_reducible exact True.intro | with_reducible exact dr_ok hA (by kernel_rfl) | with_reducible exact eqv_refl hA _ | with_reducible refine And.intro ?_ ?_ | (intro hc; cbv))
            all_goals first
              | (exfalso
                 subst hA
                 have hq : std.lt (Int.ofNat k) (std.ofNat (std.tn fun _ => L.length)) = false := by assumption
                 simp only [sS, Int.ofNat_eq_natCast] at hq
                 have := of_decide_eq_false hq
                 omega)
              | (fail_if_success (refine Exists.intro ?_ ?_)
                 subst hA
                 clear hB2' hBn
                 simp only [sS, Int.ofNat_eq_natCast, Int.toNat_natCast, hgt, htz, hBz, isRow_M, lstOf_M, eta_T] at *
                 first
                   | done
                   | exact htQ
                   | exact ⟨by omega, by omega⟩
                   | exact ⟨(show (0 : Int) ≤ ((z : Nat) : Int) by omega), (show ((z : Nat) : Int) < ((64 : Nat) : Int) by omega)⟩
                   | exact ⟨⟨trivial, by omega⟩, hPa⟩
                   | exact ⟨⟨Int.natCast_nonneg _, Int.ofNat_le.2 hpp⟩, by omega⟩
                   | trace_state)
              | skip
            · have hot : otT s r t = true := by
                subst hA
                clear hB2' hBn
                simp only [sS, Int.ofNat_eq_natCast, Int.toNat_natCast, hgt] at hc
                unfold otT
                simpa using hc
              refine ⟨⟨(k', B2), by show k' ≤ L.length; omega, hB2' hot⟩, ?_, show L.length - k' < L.length - k by omega⟩
              cbv
              subst hA
              simp [-List.getD_eq_getElem?_getD, sS, hgt, htz, hBz, lstOf_M, eta_T, eqrS_refl]
              refine ⟨w_succ' hk' (by omega), ?_⟩
              rw [hB2]
              exact kd_back hkp
            · have hot : otT s r t = false := by
                subst hA
                clear hB2' hBn
                simp only [sS, Int.ofNat_eq_natCast, Int.toNat_natCast, hgt] at hc
                unfold otT
                simpa using hc
              refine ⟨⟨(k', B'), by show k' ≤ L.length; omega, hBn hot⟩, ?_, show L.length - k' < L.length - k by omega⟩
              cbv
              subst hA
              simp [-List.getD_eq_getElem?_getD, sS, eqrS_refl]
              exact w_succ' hk' (by omega)
          · have hke : k = L.length := by omega
            rw [hke, List.take_length] at hP
            have h0 := can_0 hR hH
            have hf := hfind hR hH
            have hci := @can_out n m s u I O r h0 hu
            cbv
            repeat' (first | with_reducible exact True.intro | with_reducible exact dr_ok hA (by kernel_rfl) | with_reducible exact eqv_refl hA _ | with_reducible refine And.intro ?_ ?_ | (intro hc; cbv))
            all_goals first
              | (exfalso
                 subst hA
                 have hq : std.lt (Int.ofNat k) (std.ofNat (std.tn fun _ => L.length)) = true := by assumption
                 simp only [sS, Int.ofNat_eq_natCast] at hq
                 have := of_decide_eq_true hq
                 omega)
              | (subst hA
                 simp only [sS]
                 done)
              | skip
            all_goals
                 subst hA
                 clear hfind hW
                 simp only [sS, ← hu, lI, lO] at *
                 have hq2 : ¬u / 64 = n / 64 := by
                   have hq : (u / 64 - n / 64 == 0) = false := by assumption
                   simp at hq; omega
                 have h2 := hci hq2
                 first
                   | done
                   | exact h0.symm
                   | (rw [h2.1]; exact kd_eqr _)
                   | (rw [h2.2, ← hz, ← hL, ← hP, ← hB']; exact kd_eqr _)
                   | trace_state
end Go.Vd

set_option linter.unusedVariables false
set_option linter.unusedSimpArgs false
set_option maxRecDepth 100000
set_option maxHeartbeats 4000000
namespace Go.Vd
open Go.Proofs
theorem b_congr {n n' : Int} (h : n / 64 = n' / 64) (L : List Tm) : bI n L = bI n' L ∧ bO n L = bO n' L := by
  constructor
  · refine sl_ext (bI_len _ _) (bI_len _ _) fun i hi => ?_
    rw [bI_at hi, bI_at hi]
    congr 1
    funext t
    unfold inI
    rw [h]
  · refine sl_ext (bO_len _ _) (bO_len _ _) fun i hi => ?_
    rw [bO_at hi, bO_at hi]
    congr 1
    funext t
    unfold inO
    rw [h]
theorem b_nil (n n' : Int) : bI n [] = bI n' [] ∧ bO n [] = bO n' [] := by
  constructor
  · exact sl_ext (bI_len _ _) (bI_len _ _) fun i hi => by rw [bI_nil, bI_nil]
  · exact sl_ext (bO_len _ _) (bO_len _ _) fun i hi => by rw [bO_nil, bO_nil]
/-- Later than a tick; not later. -/
def laT (n : Int) (t : Tm) : Bool := decide (n < t.u)
def duT (n : Int) (t : Tm) : Bool := decide (t.u ≤ n)
theorem laT_sub {n n' : Int} (h : n ≤ n') (L : List Tm) : (L.filter (laT n)).filter (laT n') = L.filter (laT n') := by
  rw [List.filter_filter]
  congr 1
  funext t
  unfold laT
  by_cases h1 : n' < t.u
  · simp [h1, show n < t.u by omega]
  · simp [h1]
theorem can_la {n n' : Int} {L : List Tm} (h : canT n L) (hn : n ≤ n') : canT n' (L.filter (laT n')) := by
  refine ⟨h.1.sublist List.filter_sublist, h.2.1.sublist List.filter_sublist, fun t ht => ?_⟩
  have h1 := List.mem_filter.1 ht
  have h2 := h.2.2 t h1.1
  have h3 : n' < t.u := of_decide_eq_true h1.2
  unfold tmOk at *
  omega
/-- A turn of the quick hand begins. -/
theorem turn_I {n : Int} {L : List Tm} (h : canT n L) (h0 : (n + 1) % 64 = 0) : bI n L = bI (n + 1) [] := by
  refine sl_ext (bI_len _ _) (bI_len _ _) fun i hi => ?_
  rw [bI_nil, bI_at hi]
  refine filter_none fun t ht => ?_
  have := h.2.2 t ht
  unfold tmOk at this
  unfold inI
  rw [decide_eq_false_iff_not]
  omega
theorem turn_K {n : Int} {L : List Tm} (h : canT n L) (h0 : (n + 1) % 64 = 0) {z : Nat} (hz : (z : Int) = (n + 1) / 64 % 64) : bI (n + 1) (sl (bO n L) z) = bI (n + 1) L := by
  refine sl_ext (bI_len _ _) (bI_len _ _) fun i hi => ?_
  rw [bI_at hi, bI_at hi, bO_at (by omega), List.filter_filter]
  refine List.filter_congr fun t ht => ?_
  have := h.2.2 t ht
  unfold tmOk at this
  unfold inI inO
  rw [Bool.eq_iff_iff, Bool.and_eq_true, decide_eq_true_eq, decide_eq_true_eq]
  omega
theorem turn_O {n : Int} {L : List Tm} (h : canT n L) (h0 : (n + 1) % 64 = 0) {z : Nat} (hz : (z : Int) = (n + 1) / 64 % 64) : (bO n L).set z [] = bO (n + 1) L := by
  refine sl_ext (by rw [List.length_set]; exact bO_len _ _) (bO_len _ _) fun i hi => ?_
  rw [sl_set (bO_len _ _) (by omega), bO_at hi, bO_at hi]
  split
  · rename_i e
    subst e
    refine (filter_none fun t ht => ?_).symm
    have := h.2.2 t ht
    unfold tmOk at this
    unfold inO
    rw [decide_eq_false_iff_not]
    omega
  · rename_i e
    refine List.filter_congr fun t ht => ?_
    have := h.2.2 t ht
    unfold tmOk at this
    unfold inO
    rw [decide_eq_decide]
    omega
/-- What goes off. -/
def dueT (n : Int) (L : List Tm) : List Tm := L.filter fun t => decide (t.u = n)
theorem due_at {n : Int} {L : List Tm} {z : Nat} (hz : (z : Int) = n % 64) : sl (bI n L) z = dueT n L := by
  rw [bI_at (by omega)]
  unfold dueT
  refine List.filter_congr fun t _ => ?_
  unfold inI
  rw [decide_eq_decide]
  omega
theorem due_I {n : Int} {L : List Tm} (h : ∀ t ∈ L, n ≤ t.u) {z : Nat} (hz : (z : Int) = n % 64) : (bI n L).set z [] = bI n (L.filter (laT n)) ∧ bO n L = bO n (L.filter (laT n)) := by
  constructor
  · refine sl_ext (by rw [List.length_set]; exact bI_len _ _) (bI_len _ _) fun i hi => ?_
    rw [sl_set (bI_len _ _) (by omega), bI_at hi, bI_at hi, List.filter_filter]
    split
    · rename_i e
      subst e
      refine (filter_none fun t ht => ?_).symm
      have := h t ht
      unfold inI laT
      rw [Bool.and_eq_false_iff, decide_eq_false_iff_not, decide_eq_false_iff_not]
      omega
    · rename_i e
      refine List.filter_congr fun t ht => ?_
      have := h t ht
      unfold inI laT
      rw [Bool.eq_iff_iff, Bool.and_eq_true, decide_eq_true_eq, decide_eq_true_eq]
      omega
  · refine sl_ext (bO_len _ _) (bO_len _ _) fun i hi => ?_
    rw [bO_at hi, bO_at hi, List.filter_filter]
    refine List.filter_congr fun t ht => ?_
    have := h t ht
    unfold inO laT
    rw [Bool.eq_iff_iff, Bool.and_eq_true, decide_eq_true_eq, decide_eq_true_eq]
    omega
theorem due_snoc {n : Int} {L : List Tm} (h : ascT L) : L.filter (duT n) ++ dueT (n + 1) (L.filter (laT n)) = L.filter (duT (n + 1)) := by
  refine ascT_uniq ?_ (h.sublist List.filter_sublist) fun x => ?_
  · refine List.pairwise_append.2 ⟨h.sublist List.filter_sublist, (h.sublist List.filter_sublist).sublist List.filter_sublist, fun a ha b hb => .inl ?_⟩
    have h1 : a.u ≤ n := of_decide_eq_true (List.mem_filter.1 ha).2
    have h2 : b.u = n + 1 := of_decide_eq_true (List.mem_filter.1 hb).2
    omega
  · unfold dueT
    rw [List.mem_append, List.mem_filter, List.mem_filter, List.mem_filter, List.mem_filter]
    unfold duT laT
    simp only [decide_eq_true_eq]
    constructor
    · rintro (⟨h1, h2⟩ | ⟨⟨h1, h2⟩, h3⟩)
      · exact ⟨h1, by omega⟩
      · exact ⟨h1, by omega⟩
    · rintro ⟨h1, h2⟩
      rcases Int.lt_or_le n x.u with h3 | h3
      · exact .inr ⟨⟨h1, h3⟩, by omega⟩
      · exact .inl ⟨h1, h3⟩
theorem filter_len (p : Tm → Bool) : ∀ L : List Tm, (L.filter p).length + (L.filter fun t => !p t).length = L.length
  | [] => rfl
  | t :: L => by
    have := filter_len p L
    cases hp : p t
    · rw [List.filter_cons_of_neg (by simp [hp]), List.filter_cons_of_pos (by simp [hp])]; simp; omega
    · rw [List.filter_cons_of_pos hp, List.filter_cons_of_neg (by simp [hp])]; simp; omega
theorem due_len {n : Int} {L : List Tm} (h : ∀ t ∈ L, n ≤ t.u) : (dueT n L).length + (L.filter (laT n)).length = L.length := by
  rw [← filter_len (fun t => decide (t.u = n)) L]
  congr 2
  refine List.filter_congr fun t ht => ?_
  have := h t ht
  unfold laT
  rw [Bool.eq_iff_iff, Bool.not_eq_true', decide_eq_true_eq, decide_eq_false_iff_not]
  omega
/-- What advancing comes to. -/
noncomputable def advC (n m : Int) (I O : Sl) (k : Int) : Int := if wR n m I O = true then (if 18446744073709551615 - n < k then 10 else 0) else 1
noncomputable def advN (n m : Int) (I O : Sl) (k : Int) : Int := if advC n m I O k = 0 then n + k else n
noncomputable def advI (n m : Int) (I O : Sl) (k : Int) : Sl := if advC n m I O k = 0 then bI (n + k) ((lstW I O).filter (laT (n + k))) else I
noncomputable def advO (n m : Int) (I O : Sl) (k : Int) : Sl := if advC n m I O k = 0 then bO (n + k) ((lstW I O).filter (laT (n + k))) else O
noncomputable def advL (n m : Int) (I O : Sl) (k : Int) : List Tm := if advC n m I O k = 0 then (lstW I O).filter (duT (n + k)) else []
theorem adv_no {n m k : Int} {I O : Sl} (h : ¬advC n m I O k = 0) : advN n m I O k = n ∧ advI n m I O k = I ∧ advO n m I O k = O ∧ advL n m I O k = [] := by
  unfold advN advI advO advL
  rw [if_neg h, if_neg h, if_neg h, if_neg h]
  exact ⟨rfl, rfl, rfl, rfl⟩
theorem adv_yes {n m k : Int} {I O : Sl} (h : advC n m I O k = 0) : advN n m I O k = n + k ∧ advI n m I O k = bI (n + k) ((lstW I O).filter (laT (n + k))) ∧ advO n m I O k = bO (n + k) ((lstW I O).filter (laT (n + k))) ∧ advL n m I O k = (lstW I O).filter (duT (n + k)) := by
  unfold advN advI advO advL
  rw [if_pos h, if_pos h, if_pos h, if_pos h]
  exact ⟨rfl, rfl, rfl, rfl⟩
theorem adv_1 {n m k : Int} {I O : Sl} (h : wR n m I O = false) : advC n m I O k = 1 := by unfold advC; rw [h]; rfl
theorem adv_10 {n m k : Int} {I O : Sl} (h : wR n m I O = true) (h1 : 18446744073709551615 - n < k) : advC n m I O k = 10 := by unfold advC; rw [if_pos h, if_pos h1]
theorem adv_0 {n m k : Int} {I O : Sl} (h : wR n m I O = true) (h1 : ¬18446744073709551615 - n < k) : advC n m I O k = 0 := by unfold advC; rw [if_pos h, if_neg h1]
/-- On the way: so late, so many ticks to come, what is there still, what went off. -/
def onW (n k : Int) (L0 : List Tm) (N T : Int) (L M : List Tm) (I O : Sl) : Prop :=
  ((n ≤ N ∧ 0 ≤ T) ∧ N + T = n + k) ∧ (L = L0.filter (laT N) ∧ M = L0.filter (duT N)) ∧ I = bI N L ∧ O = bO N L
theorem on_0 {n k : Int} {L0 : List Tm} {I O : Sl} (h : canT n L0) (hk : 0 ≤ k) (hI : I = bI n L0) (hO : O = bO n L0) : onW n k L0 n k L0 [] I O := by
  have e1 : L0.filter (laT n) = L0 := filter_all fun t ht => decide_eq_true (h.2.2 t ht).1
  have e2 : L0.filter (duT n) = [] := filter_none fun t ht => decide_eq_false (by have := (h.2.2 t ht).1; omega)
  exact ⟨⟨⟨Int.le_refl _, hk⟩, rfl⟩, ⟨e1.symm, e2.symm⟩, hI, hO⟩
theorem on_can {n k N T : Int} {L0 L M : List Tm} {I O : Sl} (h : canT n L0) (ho : onW n k L0 N T L M I O) : canT N L := by rw [ho.2.1.1]; exact can_la h ho.1.1.1
/-- A tick more. -/
theorem on_next {n k N T : Int} {L0 L M : List Tm} {I O : Sl} (h : canT n L0) (ho : onW n k L0 N T L M I O) (hT : 0 < T) :
    onW n k L0 (N + 1) (T - 1) (L.filter (laT (N + 1))) (M ++ dueT (N + 1) L) (bI (N + 1) (L.filter (laT (N + 1)))) (bO (N + 1) (L.filter (laT (N + 1)))) := by
  obtain ⟨⟨⟨h1, h2⟩, h3⟩, ⟨h4, h5⟩, _, _⟩ := ho
  refine ⟨⟨⟨by omega, by omega⟩, by omega⟩, ⟨?_, ?_⟩, rfl, rfl⟩
  · rw [h4, laT_sub (by omega)]
  · rw [h5, h4, due_snoc h.1]
theorem on_end {n k N T : Int} {L0 L M : List Tm} {I O : Sl} (ho : onW n k L0 N T L M I O) (he : L = [] ∨ T = 0) : I = bI (n + k) (L0.filter (laT (n + k))) ∧ O = bO (n + k) (L0.filter (laT (n + k))) ∧ M = L0.filter (duT (n + k)) := by
  obtain ⟨⟨⟨h1, h2⟩, h3⟩, ⟨h4, h5⟩, h6, h7⟩ := ho
  rcases he with he | he
  · have e1 : ∀ t ∈ L0, t.u ≤ N := fun t ht => by
      rcases Int.lt_or_le N t.u with h8 | h8
      · have : t ∈ L0.filter (laT N) := List.mem_filter.2 ⟨ht, decide_eq_true h8⟩
        rw [← h4, he] at this
        simp at this
      · exact h8
    have e2 : L0.filter (laT (n + k)) = [] := filter_none fun t ht => decide_eq_false (by have := e1 t ht; omega)
    rw [e2, h6, h7, he, h5]
    refine ⟨(b_nil _ _).1, (b_nil _ _).2, ?_⟩
    rw [filter_all (p := duT N) fun t ht => decide_eq_true (e1 t ht), filter_all (p := duT (n + k)) fun t ht => decide_eq_true (by have := e1 t ht; omega)]
  · obtain rfl : N = n + k := by omega
    rw [h6, h7, h5, h4]
    exact ⟨rfl, rfl, rfl⟩
end Go.Vd

set_option linter.unusedVariables false
set_option linter.unusedSimpArgs false
set_option maxRecDepth 100000
set_option maxHeartbeats 8000000
namespace Go.Vd
open Go.Proofs
noncomputable def xV : Ar → Xt := fun A => { xW A with go := [32, 27, 34, 35, 36] }
theorem xV_ok : XtOk Try.prog gl0 (xV std) := ⟨xW_ok.meth, xW_ok.wt⟩
attribute [local irreducible] vc
theorem good_wAdv (n m k : Int) (I O : Sl) (hQ : whQ I O) (hn : 0 ≤ n ∧ n < 18446744073709551616) (hk : 0 ≤ k ∧ k < 18446744073709551616) : GoodP Try.prog gl0 22 [whS std n m I O, .int .u64 k] (.tup [whT std (std.ti fun _ => advN n m I O k) m (fun _ => advI n m I O k) (fun _ => advO n m I O k), rowS eT T0 3 std fun _ => advL n m I O k, .int .i64 (std.ti fun _ => advC n m I O k)]) := by
  refine fn_sound' (T := seatT) (G := gwn) (X := xV) seatT_ok gwn_ok xV_ok iWs_ok mixed Try.func22 (.none) (fun A => [whS A n m I O, .int .u64 k]) (fun A => .tup [whT A (A.ti fun _ => advN n m I O k) m (fun _ => advI n m I O k) (fun _ => advO n m I O k), rowS eT T0 3 A fun _ => advL n m I O k, .int .i64 (A.ti fun _ => advC n m I O k)]) fun A hA => ?_
  cbv
  repeat' (first | with_reducible exact True.intro | with_reducible exact dr_ok hA (by kernel_rfl) | with_reducible exact eqv_refl hA _ | with_reducible refine And.intro ?_ ?_ | (intro hc; cbv))
  refine ⟨lpFresh A n m I O 4 4, ⟨some ⟨0, by omega⟩, ?_⟩, ?_⟩
  · cbv
    subst hA
    simp [-List.getD_eq_getElem?_getD, sS, eqrS_refl]
  · rintro (_ | ⟨i, hi⟩)
    rotate_left 1
    · have h1 := wh_at hQ hi
      obtain ⟨i', hi'⟩ : ∃ i', i' = i + 1 := ⟨_, rfl⟩
      cbv
      repeat' (first | with_reducible exact True.intro | with_reducible exact dr_ok hA (by kernel_rfl) | with_reducible exact eqv_refl hA _ | with_reducible refine And.intro ?_ ?_ | (intro hc; cbv))
      all_goals first
        | (exfalso; subst hA; have hq : std.lt (Int.ofNat i) 64 = false := by assumption
           have : ¬((i : Nat) : Int) < 64 := of_decide_eq_false hq
           omega)
        | (fail_if_success (refine Exists.intro ?_ ?_)
           subst hA
           simp only [sS, Int.ofNat_eq_natCast, Int.toNat_natCast, isRow_M, lstOf_M] at *
           first
             | done
             | exact ⟨by omega, by omega⟩
             | exact ⟨trivial, by unfold sl at h1; omega⟩
             | omega
             | (constructor <;> omega))
        | skip
      by_cases h : i' < 64
      · refine ⟨some ⟨i', h⟩, ?_, show 64 - i' < 64 - i by omega⟩
        cbv
        subst hA
        simp [-List.getD_eq_getElem?_getD, sS, eqrS_refl, lstOf_M, set_kd]
        exact ⟨w_succ' hi' (by omega), hi'.symm⟩
      · refine ⟨none, ?_, show 0 < 64 - i by omega⟩
        cbv
        subst hA
        simp [-List.getD_eq_getElem?_getD, sS, eqrS_refl, lstOf_M, set_kd]
        exact ⟨by rw [w64 (by omega)]; omega, by omega⟩
    · have rI := kd_is hQ.1.1
      have rO := kd_is hQ.1.2
      have lI := kd_lst hQ.1.1
      have lO := kd_lst hQ.1.2
      have hQ1 := hQ.2.1
      have q0 : IntKind.u64.wrap (18446744073709551615 - n) = 18446744073709551615 - n := wU (by omega)
      cbv
      repeat' (first | with_reducible exact True.intro | with_reducible exact dr_ok hA (by kernel_rfl) | with_reducible exact eqv_refl hA _ | with_reducible refine And.intro ?_ ?_ | (intro hc; cbv))
      all_goals (try (exfalso; subst hA; simp only [sS] at hc; exact absurd hc (by decide)))
      all_goals first
        | (fail_if_success (refine Exists.intro ?_ ?_)
           subst hA
           simp only [sS, isRow_X64 hQ.1.1, isRow_X64 hQ.1.2, lstOf_X64 hQ.1.1, lstOf_X64 hQ.1.2, rI, rO, lI, lO, q0] at *
           first
             | done
             | exact ⟨⟨⟨trivial, trivial⟩, hQ⟩, hn.1⟩
             | (have hR : (!wR n m I O) = true := by assumption
                have h1 := adv_1 (k := k) (nb_f hR)
                have h2 := adv_no (by rw [h1]; decide)
                first
                  | (rw [h1]; done)
                  | (rw [h2.1]; done)
                  | (rw [h2.2.1]; exact kd_eqr _)
                  | (rw [h2.2.2.1]; exact kd_eqr _)
                  | (rw [h2.2.2.2]; rfl)
                  | (rw [h2.2.2.2]; done))
             | (have hR : (!wR n m I O) = false := by assumption
                have hK : decide (18446744073709551615 - n < k) = true := by assumption
                have h1 := adv_10 (nb_t hR) (of_decide_eq_true hK)
                have h2 := adv_no (by rw [h1]; decide)
                first
                  | (rw [h1]; done)
                  | (rw [h2.1]; done)
                  | (rw [h2.2.1]; exact kd_eqr _)
                  | (rw [h2.2.2.1]; exact kd_eqr _)
                  | (rw [h2.2.2.2]; rfl)
                  | (rw [h2.2.2.2]; done))
             | trace_state)
        | skip
      have hRK : wR n m I O = true ∧ ¬18446744073709551615 - n < k := by
        subst hA
        simp only [sS, lstOf_X64 hQ.1.1, lstOf_X64 hQ.1.2, q0] at *
        exact ⟨nb_t (by assumption), of_decide_eq_false hc⟩
      obtain ⟨hR, hK⟩ := hRK
      have hW := wR_iff.1 hR
      refine ⟨⟨{p : Nat × List Tm // p.1 ≤ 64 ∧ p.2 = allN I O p.1}, fun b p => [(3, .own b), (5, .int .i64 (p.1.1 : Nat))], fun b p => [(b, .row 58 3 (A.tn fun _ => p.1.2.length) (rowF eT T0 A fun _ => p.1.2))], fun p => 64 - p.1.1, true⟩, ⟨⟨(0, []), Nat.zero_le _, rfl⟩, ?_⟩, ?_⟩
      · cbv
        subst hA
        simp [-List.getD_eq_getElem?_getD, sS, eqrS_refl]
      · rintro ⟨⟨i, M⟩, hx⟩
        have hi : i ≤ 64 := hx.1
        have hM : M = allN I O i := hx.2
        rcases Nat.lt_or_ge i 64 with hlt | hge
        · have hb := wh_at hQ hlt
          rw [← hM] at hb
          obtain ⟨i', hi'⟩ : ∃ i', i' = i + 1 := ⟨_, rfl⟩
          obtain ⟨L1, hL1⟩ : ∃ L1, L1 = sl I i := ⟨_, rfl⟩
          obtain ⟨L2, hL2⟩ : ∃ L2, L2 = sl O i := ⟨_, rfl⟩
          rw [← hL1, ← hL2] at hb
          have e1 : I.getD i [] = L1 := hL1.symm
          have e2 : O.getD i [] = L2 := hL2.symm
          obtain ⟨M', hM'⟩ : ∃ M', M' = M ++ (L1 ++ L2) := ⟨_, rfl⟩
          have hMM : M' = allN I O i' := by rw [hM', hi', hM, hL1, hL2]; rfl
          cbv
          repeat' (first | with_reducible exact True.intro | with_reducible exact dr_ok hA (by kernel_rfl) | with_reducible exact eqv_refl hA _ | with_reducible refine And.intro ?_ ?_ | (intro hc; cbv))
          all_goals (try (exfalso; subst hA; have hq : std.lt (Int.ofNat i) 64 = false := by assumption
                          have : ¬((i : Nat) : Int) < 64 := of_decide_eq_false hq
                          omega))
          all_goals first
            | (fail_if_success (refine Exists.intro ?_ ?_)
               subst hA
               simp only [sS, Int.ofNat_eq_natCast, Int.toNat_natCast, e1, e2] at *
               first
                 | exact ⟨by omega, by omega⟩
                 | omega)
            | (refine ⟨⟨(i', M'), by show i' ≤ 64; omega, hMM⟩, ?_, show 64 - i' < 64 - i by omega⟩
               cbv
               subst hA
               simp [-List.getD_eq_getElem?_getD, sS, e1, e2, eqrS_refl]
               refine ⟨w_succ' hi' (by omega), ?_, ?_⟩
               · rw [hM']; simp; omega
               · exact eqr_of (((Reps.lit M).cat (Reps.lit L1)).cat (Reps.lit L2)) (by rw [hM']; simp; omega) (by rw [hM', List.append_assoc]))
            | trace_state
        · have hie : i = 64 := by omega
          subst hie
          have hML : M = allT I O := by rw [hM, ← allT_eq]
          obtain ⟨L0, hL0, hcan, hI0, hO0, hlm, hok⟩ := wOk_can' hQ.1.1 hQ.1.2 hW
          have hlen0 : M.length = L0.length := by rw [hML, hL0]; unfold lstW; rw [srtT_len]
          have hMl0 : M.length ≤ 100000 := by rw [hML]; exact hQ.2.1
          have hL0l : L0.length ≤ 100000 := by omega
          have hstart := on_0 hcan hk.1 hI0 hO0
          have hL0T : ∀ t ∈ L0, tmQ t := fun t ht => hQ.2.2 t (srtT_mem.1 (by rw [hL0] at ht; exact ht))
          have hadv := adv_yes (adv_0 hR hK)
          rw [← hL0] at hadv
          cbv
          repeat' (first | with_reducible exact True.intro | with_reducible exact dr_ok hA (by kernel_rfl) | with_reducible exact eqv_refl hA _ | with_reducible refine And.intro ?_ ?_ | (intro hc; cbv))
          all_goals (try (exfalso; subst hA; simp only [sS] at hc; exact absurd hc (by decide)))
          refine ⟨⟨{p : (Int × Int) × (List Tm × List Tm) × (Sl × Sl) // onW n k L0 p.1.1 p.1.2 p.2.1.1 p.2.1.2 p.2.2.1 p.2.2.2}, fun b p => [(11, .any), (12, .any), (13, .any), (14, .any), (15, .any), (16, .any), (17, .any), (18, .any), (19, .any), (20, .any), (21, .any), (22, .any), (23, .any), (24, .any), (25, .any), (26, .any), (1, .int .u64 p.1.1.2), (8, .own b), (9, .int .i64 (A.ofNat (A.tn fun _ => p.1.2.1.1.length))), (10, .any)], fun b p => [(7, kdW A (b + 1) 64 p.1.2.2.1), (9, kdW A (b + 2) 64 p.1.2.2.2), (b, .row 58 3 (A.tn fun _ => p.1.2.1.2.length) (rowF eT T0 A fun _ => p.1.2.1.2)), (0, .box 26 [.int .u64 p.1.1.1, .int .i64 m, .krun 7 (b + 1) 64, .krun 9 (b + 2) 64])], fun p => p.1.1.2.toNat, true⟩, ⟨⟨((n, k), (L0, []), (I, O)), hstart⟩, ?_⟩, ?_⟩
          · cbv
            subst hA
            simp [-List.getD_eq_getElem?_getD, sS, eqrS_refl, hlen0]
          · rintro ⟨⟨⟨N, T⟩, ⟨L, M2⟩, ⟨I', O'⟩⟩, hx2⟩
            have hon : onW n k L0 N T L M2 I' O' := hx2
            have hcN := on_can hcan hon
            have hLsub : ∀ t ∈ L, t ∈ L0 := fun t ht => by rw [hon.2.1.1] at ht; exact (List.mem_filter.1 ht).1
            have hLl : L.length ≤ 100000 := by rw [hon.2.1.1]; exact Nat.le_trans (List.length_filter_le _ _) hL0l
            have hM2l : M2.length ≤ 100000 := by rw [hon.2.1.2]; exact Nat.le_trans (List.length_filter_le _ _) hL0l
            have g1 := hon.1.1.1
            have g2 := hon.1.1.2
            have g3 := hon.1.2
            have hLn : L.length = 0 ↔ L = [] := List.length_eq_zero_iff
            rcases Classical.em (L.length = 0 ∨ T = 0) with he | he
            · have hend := on_end hon (by rw [← hLn]; exact he)
              have w0 : IntKind.u64.wrap (N + T) = n + k := by rw [g3]; exact wU (by omega)
              have hcond : (bif ((L.length : Int) == 0) then true else (T == 0)) = true := by
                rcases he with he | he <;> simp [he]
              obtain ⟨E, hE⟩ : ∃ E, E = n + k := ⟨_, rfl⟩
              rw [← hE] at w0 hend hadv
              cbv
              repeat' (first | with_reducible exact True.intro | with_reducible exact dr_ok hA (by kernel_rfl) | with_reducible exact eqv_refl hA _ | with_reducible refine And.intro ?_ ?_ | (intro hc; cbv))
              all_goals first
                | (exfalso
                   subst hA
                   have hq : std.ite (std.eq (std.ofNat (std.tn fun _ => L.length)) 0) true (std.eq T 0) = false := by assumption
                   have hq2 : (bif ((L.length : Int) == 0) then true else (T == 0)) = false := hq
                   rw [hcond] at hq2
                   cases hq2)
                | skip
              all_goals
                subst hA
                clear hc
                simp only [sS, w0]
                first
                  | done
                  | exact fun h => h
                  | exact fun h => ⟨h, h⟩
                  | (intro h; rw [h]; rfl)
                  | exact hadv.1.symm
                  | (rw [hadv.2.1, ← hend.1]; exact kd_eqr _)
                  | (rw [hadv.2.2.1, ← hend.2.1]; exact kd_eqr _)
                  | (rw [hadv.2.2.2, ← hend.2.2]; done)
                  | (rw [hadv.2.2.2, ← hend.2.2]; exact eqrS_rfl)
                  | exact (adv_0 hR hK).symm
                  | trace_state
            · have hL0 : ¬L.length = 0 := fun h => he (.inl h)
              have hT0 : ¬T = 0 := fun h => he (.inr h)
              have hcond : (bif ((L.length : Int) == 0) then true else (T == 0)) = false := by
                rw [show ((L.length : Int) == 0) = false by simp; exact fun h => hL0 (by rw [h]; rfl), show (T == 0) = false by simp; exact hT0]
                rfl
              obtain ⟨N', hN'⟩ : ∃ N', N' = N + 1 := ⟨_, rfl⟩
              obtain ⟨T', hT'⟩ : ∃ T', T' = T - 1 := ⟨_, rfl⟩
              have hN'u : 0 ≤ N' ∧ N' < 18446744073709551616 := by omega
              have w1 : IntKind.u64.wrap (N + 1) = N' := by rw [← hN']; exact wU hN'u
              have w2 : IntKind.u64.wrap (T - 1) = T' := by rw [← hT']; exact wU (by omega)
              have r1 : N'.tmod 64 = N' % 64 := Int.tmod_eq_emod_of_nonneg hN'u.1
              obtain ⟨D, hD⟩ : ∃ D, D = dueT N' L := ⟨_, rfl⟩
              obtain ⟨L', hL'⟩ : ∃ L', L' = L.filter (laT N') := ⟨_, rfl⟩
              obtain ⟨M', hM'⟩ : ∃ M', M' = M2 ++ D := ⟨_, rfl⟩
              obtain ⟨I2, hI2⟩ : ∃ I2, I2 = bI N' L' := ⟨_, rfl⟩
              obtain ⟨O2, hO2⟩ : ∃ O2, O2 = bO N' L' := ⟨_, rfl⟩
              have hnext : onW n k L0 N' T' L' M' I2 O2 := by
                have := on_next hcan hon (by omega)
                rw [← hN', ← hT', ← hD, ← hL', ← hM', ← hI2, ← hO2] at this
                exact this
              have hge1 : ∀ t ∈ L, N' ≤ t.u := fun t ht => by have := (hcN.2.2 t ht).1; omega
              obtain ⟨zi, hzI⟩ : ∃ zi : Nat, (zi : Int) = N' % 64 := ⟨(N' % 64).toNat, by omega⟩
              have hzi64 : zi < 64 := by omega
              have hsl : (N' % 64).toNat = zi := by omega
              have hdI := due_I hge1 hzI
              have hdl := due_len hge1
              rw [← hD, ← hL'] at hdl
              have hMl' : M2.length + D.length = M'.length := by rw [hM', List.length_append]
              have w3 : IntKind.i64.wrap ((L.length : Int) - (D.length : Int)) = (L'.length : Int) := by rw [w64 (by omega)]; omega
              rcases Classical.em (N' % 64 = 0) with ht0 | ht0
              · have hturn0 : (N + 1) % 64 = 0 := by omega
                obtain ⟨zo, hzO⟩ : ∃ zo : Nat, (zo : Int) = N' / 64 % 64 := ⟨(N' / 64 % 64).toNat, by omega⟩
                have hzo64 : zo < 64 := by omega
                have hslo : (N' / 64 % 64).toNat = zo := by omega
                have hslo2 : slotI false N' = (zo : Int) := hzO.symm
                obtain ⟨K, hK2⟩ : ∃ K, K = sl O' zo := ⟨_, rfl⟩
                obtain ⟨O1, hO1⟩ : ∃ O1, O1 = O'.set zo [] := ⟨_, rfl⟩
                have hgK : O'.getD zo [] = K := hK2.symm
                have hO1e : O1 = bO N' L := by rw [hO1, hon.2.2.2, hN']; exact turn_O hcN hturn0 (by rw [← hN']; exact hzO)
                have hKe : bI N' K = bI N' L := by rw [hK2, hon.2.2.2, hN']; exact turn_K hcN hturn0 (by rw [← hN']; exact hzO)
                have hI0' : I' = bI N' [] := by rw [hon.2.2.1, hN']; exact turn_I hcN hturn0
                have hKf : K = L.filter (inO N zo) := by rw [hK2, hon.2.2.2]; exact bO_at hzo64
                have hKa : ascT K := by rw [hKf]; exact hcN.1.sublist List.filter_sublist
                have hKl : K.length ≤ 100000 := by rw [hKf]; exact Nat.le_trans (List.length_filter_le _ _) hLl
                have hKt : ∀ t ∈ K, tmQ t ∧ t.u / 64 = N' / 64 := fun t ht => by
                  rw [hKf] at ht
                  have h1 := List.mem_filter.1 ht
                  have h2 := hcN.2.2 t h1.1
                  have h3 : ¬t.u / 64 = N / 64 ∧ t.u / 64 % 64 = (zo : Int) := of_decide_eq_true h1.2
                  unfold tmOk at h2
                  exact ⟨hL0T t (hLsub t h1.1), by omega⟩
                have hOl : O'.length = 64 := by rw [hon.2.2.2]; exact bO_len _ _
                have hknO := kd_nil hzo64 hOl hO1
                cbv
                repeat' (first | with_reducible exact True.intro | with_reducible exact dr_ok hA (by kernel_rfl) | with_reducible exact eqv_refl hA _ | with_reducible refine And.intro ?_ ?_ | (intro hc; cbv))
                all_goals first
                  | (exfalso
                     subst hA
                     clear hnext
                     simp only [sS, Int.ofNat_eq_natCast, Int.toNat_natCast, w1, w2, r1, slotI_t, hsl, hslo2, hgK] at *
                     first
                       | (have hq : (N' % 64 == 0) = false := by assumption
                          simp at hq
                          omega)
                       | (have hq : (bif ((L.length : Int) == 0) then true else (T == 0)) = true := by assumption
                          rw [hcond] at hq
                          cases hq))
                  | (fail_if_success (refine Exists.intro ?_ ?_)
                     subst hA
                     clear hnext
                     simp only [sS, Int.ofNat_eq_natCast, Int.toNat_natCast, w1, w2, r1, slotI_t, hslo2] at *
                     first
                       | done
                       | decide
                       | exact fun h => h
                       | exact fun h => ⟨h, h⟩
                       | (intro h; rw [h]; rfl)
                       | exact hN'u
                       | exact ⟨(show (0 : Int) ≤ ((zo : Nat) : Int) by omega), (show ((zo : Nat) : Int) < ((64 : Nat) : Int) by omega)⟩
                       | trace_state)
                  | skip
                refine ⟨⟨{p : Nat × Sl // p.1 ≤ K.length ∧ p.2 = bI N' (K.take p.1)}, fun b p => [(27, rowS eT T0 3 A fun _ => K), (28, .int .i64 (A.ofNat (A.tn fun _ => K.length))), (29, .int .i64 (p.1.1 : Nat))], fun b p => [(7, kdW A b 64 p.1.2), (9, kdW A (b + 1) 64 O1), (0, .box 26 [.int .u64 N', .int .i64 m, .krun 7 b 64, .krun 9 (b + 1) 64])], fun p => K.length - p.1.1, true⟩, ⟨⟨(0, I'), Nat.zero_le _, by rw [List.take_zero]; exact hI0'⟩, ?_⟩, ?_⟩
                · cbv
                  subst hA
                  simp [-List.getD_eq_getElem?_getD, sS, eqrS_refl, w1, hslo2, hgK]
                  exact hknO
                · rintro ⟨⟨j, J⟩, hx3⟩
                  have hj : j ≤ K.length := hx3.1
                  have hJ : J = bI N' (K.take j) := hx3.2
                  have hJl : J.length = 64 := by rw [hJ]; exact bI_len _ _
                  rcases Nat.lt_or_ge j K.length with hlt | hge
                  · obtain ⟨j', hj'⟩ : ∃ j', j' = j + 1 := ⟨_, rfl⟩
                    obtain ⟨t, ht⟩ : ∃ t, t = K.getD j T0 := ⟨_, rfl⟩
                    have hgt : K.getD j { s := 0, r := [], u := 0 } = t := ht.symm
                    obtain ⟨htQ, htu⟩ := hKt t (ht ▸ mem_at hlt)
                    obtain ⟨z, hz⟩ : ∃ z : Nat, (z : Int) = t.u % 64 := ⟨(t.u % 64).toNat, by omega⟩
                    have hz64 : z < 64 := by omega
                    have htz : slotI true t.u = (z : Int) := hz.symm
                    obtain ⟨P, hP⟩ : ∃ P, P = sl J z := ⟨_, rfl⟩
                    have hJz : J.getD z [] = P := hP.symm
                    have hPf : P = (K.take j).filter (inI N' z) := by rw [hP, hJ]; exact bI_at hz64
                    have hPl : P.length ≤ 100000 := by rw [hPf]; refine Nat.le_trans (List.length_filter_le _ _) ?_; rw [List.length_take]; omega
                    have hPa : ascT P := by rw [hPf]; exact (hKa.sublist (List.take_sublist _ _)).sublist List.filter_sublist
                    have hbef : ∀ y ∈ P, ltT y t := fun y hy => by rw [ht]; exact asc_before hKa hlt y (List.mem_filter.1 (hPf ▸ hy)).1
                    have hne : ∀ y ∈ sl J z, ¬y = t := fun y hy e => by
                      have := hbef y (by rw [hP]; exact hy)
                      rw [e] at this
                      exact ltT_irr _ this
                    have hpp := posT_le P t
                    obtain ⟨J2, hJ2⟩ : ∃ J2, J2 = J.set z (insT P t) := ⟨_, rfl⟩
                    have hJ3 : J2 = bI N' (K.take j') := by
                      rw [hj', ← take_snoc (d := T0) hlt, ← ht, (bI_snoc htu hz).1, ← hJ, ← hP, hJ2, insT_last hbef]
                    have hkp := kd_put (s := t.s) (u := t.u) (r := t.r) hz64 hJl hne
                    have hsb : sl J z = P := hJz
                    rw [hsb, hJz] at hkp
                    cbv
                    repeat' (first | with_reducible exact True.intro | with_reducible exact dr_ok hA (by kernel_rfl) | with_reducible exact eqv_refl hA _ | with_reducible refine And.intro ?_ ?_ | (intro hc; cbv))
                    all_goals first
                      | (exfalso
                         subst hA
                         clear hnext
                         have hq : std.lt (Int.ofNat j) (std.ofNat (std.tn fun _ => K.length)) = false := by assumption
                         simp only [sS, Int.ofNat_eq_natCast] at hq
                         have := of_decide_eq_false hq
                         omega)
                      | (fail_if_success (refine Exists.intro ?_ ?_)
                         subst hA
                         clear hnext
                         simp only [sS, Int.ofNat_eq_natCast, Int.toNat_natCast, hgt, htz, hJz, isRow_M, lstOf_M, eta_T] at *
                         first
                           | done
                           | exact htQ
                           | exact ⟨by omega, by omega⟩
                           | exact ⟨(show (0 : Int) ≤ ((z : Nat) : Int) by omega), (show ((z : Nat) : Int) < ((64 : Nat) : Int) by omega)⟩
                           | exact ⟨⟨trivial, by omega⟩, hPa⟩
                           | exact ⟨⟨Int.natCast_nonneg _, Int.ofNat_le.2 hpp⟩, by omega⟩
                           | trace_state)
                      | skip
                    refine ⟨⟨(j', J2), by show j' ≤ K.length; omega, hJ3⟩, ?_, show K.length - j' < K.length - j by omega⟩
                    cbv
                    subst hA
                    simp [-List.getD_eq_getElem?_getD, sS, hgt, htz, hJz, lstOf_M, eta_T, eqrS_refl]
                    refine ⟨w_succ' hj' (by omega), ?_⟩
                    rw [hJ2]
                    exact kd_back hkp
                  · have hje : j = K.length := by omega
                    rw [hje, List.take_length, hKe] at hJ
                    have hIl := hJl
                    have hDz : J.getD zi [] = D := by rw [hJ, hD]; exact due_at hzI
                    have hset : I2 = J.set zi [] := by rw [hJ, hI2, hL']; exact hdI.1.symm
                    have hOO : O1 = O2 := by rw [hO1e, hO2, hL']; exact hdI.2
                    have hkn := kd_nil hzi64 hIl hset
                    have hkO : True := True.intro
                    cbv
                    repeat' (first | with_reducible exact True.intro | with_reducible exact dr_ok hA (by kernel_rfl) | with_reducible exact eqv_refl hA _ | with_reducible refine And.intro ?_ ?_ | (intro hc; cbv))
                    all_goals first
                      | (exfalso
                         subst hA
                         clear hnext
                         simp only [sS, Int.ofNat_eq_natCast, Int.toNat_natCast, w1, w2, r1, slotI_t, hsl, hDz] at *
                         first
                           | (have hq : decide ((j : Int) < (K.length : Int)) = true := by assumption
                              have := of_decide_eq_true hq
                              omega))
                      | (fail_if_success (refine Exists.intro ?_ ?_)
                         subst hA
                         clear hnext
                         simp only [sS, Int.ofNat_eq_natCast, Int.toNat_natCast, w1, w2, r1, slotI_t, hsl, hDz, hzI] at *
                         first
                           | done
                           | decide
                           | exact fun h => h
                           | exact fun h => ⟨h, h⟩
                           | (intro h; rw [h]; rfl)
                           | exact hN'u
                           | exact ⟨by omega, by omega⟩
                           | exact ⟨(show (0 : Int) ≤ ((zi : Nat) : Int) by omega), (show ((zi : Nat) : Int) < ((64 : Nat) : Int) by omega)⟩
                           | trace_state)
                      | skip
                    refine ⟨⟨((N', T'), (L', M'), (I2, O2)), hnext⟩, ?_, show T'.toNat < T.toNat by omega⟩
                    cbv
                    subst hA
                    simp [-List.getD_eq_getElem?_getD, sS, w1, w2, slotI_t, hsl, hzI, hDz, eqrS_refl, hOO]
                    repeat' (with_reducible refine And.intro ?_ ?_)
                    all_goals first
                      | exact w3
                      | exact hkn
                      | exact hMl'
                      | exact hMl'.symm
                      | exact eqr_of ((Reps.lit M2).cat (Reps.lit D)) hMl'.symm hM'.symm
                      | exact eqr_of ((Reps.lit M2).cat (Reps.lit D)) rfl hM'.symm
                      | trace_state
              · have hsame := b_congr (n := N) (n' := N') (by omega) L
                have hIe : I' = bI N' L := by rw [hon.2.2.1]; exact hsame.1
                have hOe : O' = bO N' L := by rw [hon.2.2.2]; exact hsame.2
                have hIl : I'.length = 64 := by rw [hIe]; exact bI_len _ _
                have hDz : I'.getD zi [] = D := by rw [hIe, hD]; exact due_at hzI
                have hset : I2 = I'.set zi [] := by rw [hIe, hI2, hL']; exact hdI.1.symm
                have hOO : O' = O2 := by rw [hOe, hO2, hL']; exact hdI.2
                have hkn := kd_nil hzi64 hIl hset
                have hkO : True := True.intro
                cbv
                repeat' (first | with_reducible exact True.intro | with_reducible exact dr_ok hA (by kernel_rfl) | with_reducible exact eqv_refl hA _ | with_reducible refine And.intro ?_ ?_ | (intro hc; cbv))
                all_goals first
                  | (exfalso
                     subst hA
                     clear hnext
                     simp only [sS, Int.ofNat_eq_natCast, Int.toNat_natCast, w1, w2, r1, slotI_t, hsl, hDz] at *
                     first
                       | (have hq : (N' % 64 == 0) = true := by assumption
                          simp at hq
                          omega)
                       | (have hq : (bif ((L.length : Int) == 0) then true else (T == 0)) = true := by assumption
                          rw [hcond] at hq
                          cases hq))
                  | (fail_if_success (refine Exists.intro ?_ ?_)
                     subst hA
                     clear hnext
                     simp only [sS, Int.ofNat_eq_natCast, Int.toNat_natCast, w1, w2, r1, slotI_t, hsl, hDz, hzI] at *
                     first
                       | done
                       | decide
                       | exact fun h => h
                       | exact fun h => ⟨h, h⟩
                       | (intro h; rw [h]; rfl)
                       | exact hN'u
                       | exact ⟨by omega, by omega⟩
                       | exact ⟨(show (0 : Int) ≤ ((zi : Nat) : Int) by omega), (show ((zi : Nat) : Int) < ((64 : Nat) : Int) by omega)⟩
                       | trace_state)
                  | skip
                refine ⟨⟨((N', T'), (L', M'), (I2, O2)), hnext⟩, ?_, show T'.toNat < T.toNat by omega⟩
                cbv
                subst hA
                simp [-List.getD_eq_getElem?_getD, sS, w1, w2, slotI_t, hsl, hzI, hDz, eqrS_refl, hOO]
                repeat' (with_reducible refine And.intro ?_ ?_)
                all_goals first
                  | exact w3
                  | exact hkn
                  | exact hMl'
                  | exact hMl'.symm
                  | exact eqr_of ((Reps.lit M2).cat (Reps.lit D)) hMl'.symm hM'.symm
                  | exact eqr_of ((Reps.lit M2).cat (Reps.lit D)) rfl hM'.symm
                  | trace_state
end Go.Vd

set_option linter.unusedVariables false
set_option linter.unusedSimpArgs false
set_option maxRecDepth 100000
set_option maxHeartbeats 8000000
namespace Go.Vd
open Go.Proofs
theorem fd_pos {n m s : Int} {I O : Sl} {r : List UInt8} (hI : I.length = 64) (hO : O.length = 64) (hn : 0 ≤ n) (h : wR n m I O = true) : 0 < fdT (lstW I O) s r ↔ hkT (allT I O) s r = true := by
  have hc := (wOk_can hI hO (wR_iff.1 h)).1
  have e : hkT (lstW I O) s r = hkT (allT I O) s r := by
    rw [Bool.eq_iff_iff, hkT_iff, hkT_iff]
    exact ⟨fun ⟨t, h1, h2⟩ => ⟨t, srtT_mem.1 h1, h2⟩, fun ⟨t, h1, h2⟩ => ⟨t, srtT_mem.2 h1, h2⟩⟩
  rw [← e]
  constructor
  · intro h1
    cases h2 : hkT (lstW I O) s r
    · rw [fd_no h2] at h1; omega
    · rfl
  · intro h1
    obtain ⟨t, h2, _, _, h3⟩ := fd_mem h1
    have := (hc.2.2 t h2).1
    omega
theorem fd_zero {n m s : Int} {I O : Sl} {r : List UInt8} (hI : I.length = 64) (hO : O.length = 64) (hn : 0 ≤ n) (h : wR n m I O = true) : fdT (lstW I O) s r = 0 ↔ hkT (allT I O) s r = false := by
  have h1 := fd_pos (s := s) (r := r) hI hO hn h
  have hc := (wOk_can hI hO (wR_iff.1 h)).1
  have h2 : 0 ≤ fdT (lstW I O) s r := by
    cases h2 : hkT (lstW I O) s r
    · rw [fd_no h2]; exact Int.le_refl _
    · obtain ⟨t, h3, _, _, h4⟩ := fd_mem h2
      have := (hc.2.2 t h3).1
      omega
  rw [← Bool.not_eq_true, ← h1]
  omega
/-- The same key, the same tick. -/
theorem fd_lst {n m s : Int} {I O : Sl} {r : List UInt8} (hI : I.length = 64) (hO : O.length = 64) (h : wR n m I O = true) : fdT (lstW I O) s r = fdT (allT I O) s r := by
  have hc := (wOk_can hI hO (wR_iff.1 h)).1
  cases h2 : hkT (allT I O) s r
  · have : hkT (lstW I O) s r = false := by
      cases h3 : hkT (lstW I O) s r
      · rfl
      · obtain ⟨t, h4, h5⟩ := hkT_iff.1 h3
        rw [hkT_iff.2 ⟨t, srtT_mem.1 h4, h5⟩] at h2; cases h2
    rw [fd_no h2, fd_no this]
  · have h3 : hkT (lstW I O) s r = true := by
      obtain ⟨t, h4, h5⟩ := hkT_iff.1 h2
      exact hkT_iff.2 ⟨t, srtT_mem.2 h4, h5⟩
    obtain ⟨t, a1, a2, a3, a4⟩ := fd_mem h2
    obtain ⟨t', b1, b2, b3, b4⟩ := fd_mem h3
    rw [← a4, ← b4]
    by_cases e : t' = t
    · rw [e]
    · exfalso
      have hu := hc.2.1
      have ht : t ∈ lstW I O := srtT_mem.2 a1
      obtain ⟨i, hi, rfl⟩ := List.getElem_of_mem b1
      obtain ⟨j, hj, rfl⟩ := List.getElem_of_mem ht
      unfold unlQ at hu
      rw [List.pairwise_iff_getElem] at hu
      rcases Nat.lt_trichotomy i j with h6 | h6 | h6
      · exact hu i j hi hj h6 ⟨b2.trans a2.symm, b3.trans a3.symm⟩
      · subst h6; exact e rfl
      · exact hu j i hj hi h6 ⟨a2.trans b2.symm, a3.trans b3.symm⟩
theorem sch_ref {n m s u : Int} {I O : Sl} {r : List UInt8} (hI : I.length = 64) (hO : O.length = 64) (h : schC n m I O s r u = 0) (hu : 0 ≤ u) : bI n (insT (lstW I O) ⟨s, r, u⟩) = schI n m I O s r u ∧ bO n (insT (lstW I O) ⟨s, r, u⟩) = schO n m I O s r u := by
  have hR : wR n m I O = true := by
    cases hR : wR n m I O
    · rw [sch_1 hR] at h; cases h
    · rfl
  have hH : hkT (allT I O) s r = false := by
    cases hH : hkT (allT I O) s r
    · rfl
    · rw [sch_6 hR hH] at h; cases h
  obtain ⟨hc, e1, e2, _⟩ := wOk_can hI hO (wR_iff.1 hR)
  have hne : ∀ x ∈ lstW I O, ¬x = ⟨s, r, u⟩ := fun x hx => unlT_ne ((hkT_no (t := ⟨s, r, u⟩)).1 hH x (srtT_mem.1 hx))
  by_cases hq : u / 64 = n / 64
  · obtain ⟨z, hz⟩ : ∃ z : Nat, (z : Int) = u % 64 := ⟨(u % 64).toNat, by omega⟩
    have h1 := bI_ins (t := ⟨s, r, u⟩) hc.1 hne hq hz
    have h2 := sch_in h hq
    rw [h1.1, h1.2, h2.1, h2.2, ← e1, ← e2, show (u % 64).toNat = z by omega]
    exact ⟨rfl, rfl⟩
  · obtain ⟨z, hz⟩ : ∃ z : Nat, (z : Int) = u / 64 % 64 := ⟨(u / 64 % 64).toNat, by omega⟩
    have h1 := bO_ins (t := ⟨s, r, u⟩) hc.1 hne hq hz
    have h2 := sch_out h hq
    rw [h1.1, h1.2, h2.1, h2.2, ← e1, ← e2, show (u / 64 % 64).toNat = z by omega]
    exact ⟨rfl, rfl⟩
attribute [local irreducible] vc
theorem good_rSched (n m s u : Int) (I O : Sl) (r : List UInt8) (hQ : whQ I O) (hn : 0 ≤ n ∧ n < 18446744073709551616) (hu : 0 ≤ u ∧ u < 18446744073709551616) : GoodP Try.prog gl0 18 [whS std n m I O, sKey std s r, .int .u64 u] (.tup [whT std n m (fun _ => schI n m I O s r u) (fun _ => schO n m I O s r u), .int .i64 (std.ti fun _ => schC n m I O s r u)]) := by
  refine fn_sound' (T := seatT) (G := gwk) (X := noX) seatT_ok gwk_ok noX_ok noI_ok mixed Try.func18 (.none) (fun A => [whS A n m I O, sKey A s r, .int .u64 u]) (fun A => .tup [whT A n m (fun _ => schI n m I O s r u) (fun _ => schO n m I O s r u), .int .i64 (A.ti fun _ => schC n m I O s r u)]) fun A hA => ?_
  have hLl : (lstW I O).length = (allT I O).length := srtT_len _
  have hLT : ∀ t ∈ lstW I O, tmQ t := fun t ht => hQ.2.2 t (srtT_mem.1 ht)
  have q1 : IntKind.u64.wrap (u.tdiv 64) = u / 64 := by rw [Int.tdiv_eq_ediv_of_nonneg hu.1, wU (by omega)]
  have q2 : IntKind.u64.wrap (n.tdiv 64) = n / 64 := by rw [Int.tdiv_eq_ediv_of_nonneg hn.1, wU (by omega)]
  have hl2 := hQ.2.1
  have hil := insT_len (lstW I O) ⟨s, r, u⟩
  have hiT : ∀ t ∈ insT (lstW I O) ⟨s, r, u⟩, tmQ t := fun t ht => by
    rcases insT_mem.1 ht with rfl | ht
    · exact hu
    · exact hLT t ht
  have hp := fun h => fd_pos (m := m) (s := s) (r := r) hQ.1.1 hQ.1.2 hn.1 h
  cbv
  repeat' (first | with_reducible exact True.intro | with_reducible exact dr_ok hA (by kernel_rfl) | with_reducible exact eqv_refl hA _ | with_reducible refine And.intro ?_ ?_ | (intro hc; cbv))
  all_goals (subst hA; simp only [sS, isRow_X64 hQ.1.1, isRow_X64 hQ.1.2, lstOf_X64 hQ.1.1, lstOf_X64 hQ.1.2, isRow_M, lstOf_M, q1, q2, isRow_bI, isRow_bO, lstOf_bI, lstOf_bO] at *)
  all_goals first
    | done
    | decide
    | exact ⟨⟨⟨trivial, trivial⟩, hQ⟩, hn⟩
    | exact ⟨⟨trivial, trivial⟩, hQ⟩
    | exact ⟨trivial, by omega⟩
    | exact ⟨⟨⟨trivial, by omega⟩, hiT⟩, hn⟩
    | (have hR : (!wR n m I O) = true := by assumption
       have h1 := sch_1 (s := s) (r := r) (u := u) (nb_f hR)
       have h2 := sch_no (by rw [h1]; decide)
       first
         | (rw [h1]; done)
         | (rw [h2.1]; done)
         | (rw [h2.2]; done)
         | (rw [h2.1]; exact eqrS_rfl)
         | (rw [h2.2]; exact eqrS_rfl))
    | (have hR : (!wR n m I O) = false := by assumption
       have hR := nb_t hR
       have hp := hp hR
       first
         | (have hH : decide (0 < fdT (lstW I O) s r) = true := by assumption
            have h1 := sch_6 (u := u) hR (hp.1 (of_decide_eq_true hH))
            have h2 := sch_no (by rw [h1]; decide)
            first
              | (rw [h1]; done)
              | (rw [h2.1]; exact eqrS_rfl)
              | (rw [h2.2]; exact eqrS_rfl))
         | (have hH : decide (0 < fdT (lstW I O) s r) = false := by assumption
            have hH2 : hkT (allT I O) s r = false := by
              cases hb : hkT (allT I O) s r
              · rfl
              · exact absurd (hp.2 hb) (of_decide_eq_false hH)
            first
              | (have hU : decide (u ≤ n) = true := by assumption
                 have h1 := sch_1b hR hH2 (of_decide_eq_true hU)
                 have h2 := sch_no (by rw [h1]; decide)
                 first
                   | (rw [h1]; done)
                   | (rw [h2.1]; exact eqrS_rfl)
                   | (rw [h2.2]; exact eqrS_rfl))
              | (have hU : decide (u ≤ n) = false := by assumption
                 have hU := of_decide_eq_false hU
                 have hw : IntKind.u64.wrap (u / 64 - n / 64) = u / 64 - n / 64 := wU (by omega)
                 simp only [hw] at *
                 first
                   | (have hF : decide (63 < u / 64 - n / 64) = true := by assumption
                      have h1 := sch_9 hR hH2 hU (of_decide_eq_true hF)
                      have h2 := sch_no (by rw [h1]; decide)
                      first
                        | (rw [h1]; done)
                        | (rw [h2.1]; exact eqrS_rfl)
                        | (rw [h2.2]; exact eqrS_rfl))
                   | (have hF : decide (63 < u / 64 - n / 64) = false := by assumption
                      have hF := of_decide_eq_false hF
                      first
                        | (have hm : decide (m ≤ ((lstW I O).length : Int)) = true := by assumption
                           rw [hLl] at hm
                           have h1 := sch_7 hR hH2 hU hF (of_decide_eq_true hm)
                           have h2 := sch_no (by rw [h1]; decide)
                           first
                             | (rw [h1]; done)
                             | (rw [h2.1]; exact eqrS_rfl)
                             | (rw [h2.2]; exact eqrS_rfl))
                        | (have hm : decide (m ≤ ((lstW I O).length : Int)) = false := by assumption
                           rw [hLl] at hm
                           have h1 := sch_0 hR hH2 hU hF (of_decide_eq_false hm)
                           have h2 := sch_ref hQ.1.1 hQ.1.2 h1 hu.1
                           first
                             | exact h1.symm
                             | (rw [h2.1]; exact eqrS_rfl)
                             | (rw [h2.2]; exact eqrS_rfl)))
                   | trace_state))
         | trace_state)
    | trace_state
end Go.Vd

set_option linter.unusedVariables false
set_option linter.unusedSimpArgs false
set_option maxRecDepth 100000
set_option maxHeartbeats 8000000
namespace Go.Vd
open Go.Proofs
theorem unl_eq {L : List Tm} (h : unlQ L) {x t : Tm} (hx : x ∈ L) (ht : t ∈ L) (e1 : x.s = t.s) (e2 : x.r = t.r) : x = t := by
  obtain ⟨i, hi, rfl⟩ := List.getElem_of_mem hx
  obtain ⟨j, hj, rfl⟩ := List.getElem_of_mem ht
  unfold unlQ at h
  rw [List.pairwise_iff_getElem] at h
  rcases Nat.lt_trichotomy i j with h6 | h6 | h6
  · exact absurd ⟨e1, e2⟩ (h i j hi hj h6)
  · subst h6; rfl
  · exact absurd ⟨e1.symm, e2.symm⟩ (h j i hj hi h6)
theorem ot_no {s : Int} {r : List UInt8} {x : Tm} (h : otT s r x = false) : x.s = s ∧ x.r = r := by
  unfold otT at h
  simpa using h
theorem flt_all {L : List Tm} (hu : unlQ L) {t : Tm} (ht : t ∈ L) {p : Tm → Bool} (hp : p t = false) : (L.filter (otT t.s t.r)).filter p = L.filter p := by
  rw [List.filter_filter]
  refine List.filter_congr fun x hx => ?_
  cases ho : otT t.s t.r x
  · have := ot_no ho
    rw [unl_eq hu hx ht this.1 this.2, hp]
    rfl
  · rw [Bool.and_true]
theorem flt_comm {L : List Tm} (p q : Tm → Bool) : (L.filter p).filter q = (L.filter q).filter p := by
  rw [List.filter_filter, List.filter_filter]
  congr 1
  funext x
  exact Bool.and_comm ..
theorem flt_I {n : Int} {L : List Tm} (hu : unlQ L) {t : Tm} (ht : t ∈ L) (hq : t.u / 64 = n / 64) {z : Nat} (hz : (z : Int) = t.u % 64) : bI n (L.filter (otT t.s t.r)) = (bI n L).set z ((sl (bI n L) z).filter (otT t.s t.r)) ∧ bO n (L.filter (otT t.s t.r)) = bO n L := by
  constructor
  · refine sl_ext (bI_len _ _) (by rw [List.length_set]; exact bI_len _ _) fun i hi => ?_
    rw [bI_at hi, sl_set (bI_len _ _) (by omega), bI_at (by omega), bI_at hi]
    split
    · rename_i e; subst e; exact flt_comm _ _
    · rename_i e; exact flt_all hu ht (by unfold inI; rw [decide_eq_false_iff_not]; omega)
  · refine sl_ext (bO_len _ _) (bO_len _ _) fun i hi => ?_
    rw [bO_at hi, bO_at hi]
    exact flt_all hu ht (by unfold inO; rw [decide_eq_false_iff_not]; omega)
theorem flt_O {n : Int} {L : List Tm} (hu : unlQ L) {t : Tm} (ht : t ∈ L) (hq : ¬t.u / 64 = n / 64) {z : Nat} (hz : (z : Int) = t.u / 64 % 64) : bO n (L.filter (otT t.s t.r)) = (bO n L).set z ((sl (bO n L) z).filter (otT t.s t.r)) ∧ bI n (L.filter (otT t.s t.r)) = bI n L := by
  constructor
  · refine sl_ext (bO_len _ _) (by rw [List.length_set]; exact bO_len _ _) fun i hi => ?_
    rw [bO_at hi, sl_set (bO_len _ _) (by omega), bO_at (by omega), bO_at hi]
    split
    · rename_i e; subst e; exact flt_comm _ _
    · rename_i e; exact flt_all hu ht (by unfold inO; rw [decide_eq_false_iff_not]; omega)
  · refine sl_ext (bI_len _ _) (bI_len _ _) fun i hi => ?_
    rw [bI_at hi, bI_at hi]
    exact flt_all hu ht (by unfold inI; rw [decide_eq_false_iff_not]; omega)
theorem can_ref {n m s : Int} {I O : Sl} {r : List UInt8} (hI : I.length = 64) (hO : O.length = 64) (hn : 0 ≤ n) (h : canC n m I O s r = 0) : bI n ((lstW I O).filter (otT s r)) = canI n m I O s r ∧ bO n ((lstW I O).filter (otT s r)) = canO n m I O s r := by
  have hR : wR n m I O = true := by
    cases hR : wR n m I O
    · rw [can_1 hR] at h; cases h
    · rfl
  have hH : hkT (allT I O) s r = true := by
    cases hH : hkT (allT I O) s r
    · rw [can_5 hR hH] at h; cases h
    · rfl
  obtain ⟨hc, e1, e2, _⟩ := wOk_can hI hO (wR_iff.1 hR)
  obtain ⟨t, h1, rfl, rfl, h4⟩ := fd_mem hH
  have ht : t ∈ lstW I O := srtT_mem.2 h1
  have htu := (hc.2.2 t ht).1
  by_cases hq : t.u / 64 = n / 64
  · obtain ⟨z, hz⟩ : ∃ z : Nat, (z : Int) = t.u % 64 := ⟨(t.u % 64).toNat, by omega⟩
    have g1 := flt_I hc.2.1 ht hq hz
    have g2 := can_in h h4 hq
    rw [g1.1, g1.2, g2.1, g2.2, ← e1, ← e2, show (t.u % 64).toNat = z by omega]
    exact ⟨rfl, rfl⟩
  · obtain ⟨z, hz⟩ : ∃ z : Nat, (z : Int) = t.u / 64 % 64 := ⟨(t.u / 64 % 64).toNat, by omega⟩
    have g1 := flt_O hc.2.1 ht hq hz
    have g2 := can_out h h4 hq
    rw [g1.1, g1.2, g2.1, g2.2, ← e1, ← e2, show (t.u / 64 % 64).toNat = z by omega]
    exact ⟨rfl, rfl⟩
attribute [local irreducible] vc
theorem good_rCancel (n m s : Int) (I O : Sl) (r : List UInt8) (hQ : whQ I O) (hn : 0 ≤ n ∧ n < 18446744073709551616) : GoodP Try.prog gl0 20 [whS std n m I O, sKey std s r] (.tup [whT std n m (fun _ => canI n m I O s r) (fun _ => canO n m I O s r), .int .i64 (std.ti fun _ => canC n m I O s r)]) := by
  refine fn_sound' (T := seatT) (G := gwk) (X := noX) seatT_ok gwk_ok noX_ok noI_ok mixed Try.func20 (.none) (fun A => [whS A n m I O, sKey A s r]) (fun A => .tup [whT A n m (fun _ => canI n m I O s r) (fun _ => canO n m I O s r), .int .i64 (A.ti fun _ => canC n m I O s r)]) fun A hA => ?_
  obtain ⟨L, hL⟩ : ∃ L, L = lstW I O := ⟨_, rfl⟩
  have hLl : L.length ≤ 100000 := by rw [hL]; unfold lstW; rw [srtT_len]; exact hQ.2.1
  have hLT : ∀ t ∈ L, tmQ t := fun t ht => hQ.2.2 t (srtT_mem.1 (by rw [hL] at ht; exact ht))
  have hp := fun h => fd_zero (m := m) (s := s) (r := r) hQ.1.1 hQ.1.2 hn.1 h
  rw [← hL] at hp
  cbv
  repeat' (first | with_reducible exact True.intro | with_reducible exact dr_ok hA (by kernel_rfl) | with_reducible exact eqv_refl hA _ | with_reducible refine And.intro ?_ ?_ | (intro hc; cbv))
  all_goals first
    | (fail_if_success (refine Exists.intro ?_ ?_)
       subst hA
       simp only [sS, isRow_X64 hQ.1.1, isRow_X64 hQ.1.2, lstOf_X64 hQ.1.1, lstOf_X64 hQ.1.2, isRow_M, lstOf_M, ← hL] at *
       first
         | done
         | exact ⟨⟨⟨trivial, trivial⟩, hQ⟩, hn⟩
         | exact ⟨⟨trivial, trivial⟩, hQ⟩
         | exact ⟨trivial, by omega⟩
         | (have hR : (!wR n m I O) = true := by assumption
            have h1 := can_1 (s := s) (r := r) (nb_f hR)
            have h2 := can_no (by rw [h1]; decide)
            first
              | (rw [h1]; done)
              | (rw [h2.1]; exact eqrS_rfl)
              | (rw [h2.2]; exact eqrS_rfl))
         | (have hR : (!wR n m I O) = false := by assumption
            have hR := nb_t hR
            have hH : (fdT L s r == 0) = true := by assumption
            have h1 := can_5 hR ((hp hR).1 (by simpa using hH))
            have h2 := can_no (by rw [h1]; decide)
            first
              | (rw [h1]; done)
              | (rw [h2.1]; exact eqrS_rfl)
              | (rw [h2.2]; exact eqrS_rfl))
         | trace_state)
    | skip
  have hRH : wR n m I O = true ∧ hkT (allT I O) s r = true := by
    subst hA
    simp only [sS, isRow_X64 hQ.1.1, isRow_X64 hQ.1.2, lstOf_X64 hQ.1.1, lstOf_X64 hQ.1.2, isRow_M, lstOf_M, ← hL] at *
    have hR : (!wR n m I O) = false := by assumption
    have hR := nb_t hR
    have hH : (fdT L s r == 0) = false := by assumption
    refine ⟨hR, ?_⟩
    cases hb : hkT (allT I O) s r
    · rw [(hp hR).2 hb] at hH; cases hH
    · rfl
  have h0 := can_0 hRH.1 hRH.2
  have hfin := can_ref hQ.1.1 hQ.1.2 hn.1 h0
  rw [← hL] at hfin
  refine ⟨⟨{p : Nat × List Tm // p.1 ≤ L.length ∧ p.2 = (L.take p.1).filter (otT s r)}, fun b p => [(6, rowS eT T0 3 A fun _ => L), (7, .own b), (8, .int .i64 (p.1.1 : Nat))], fun b p => [(b, .row 58 3 (A.tn fun _ => p.1.2.length) (rowF eT T0 A fun _ => p.1.2))], fun p => L.length - p.1.1, true⟩, ⟨⟨(0, []), Nat.zero_le _, rfl⟩, ?_⟩, ?_⟩
  · cbv
    subst hA
    simp [-List.getD_eq_getElem?_getD, sS, lstOf_X64 hQ.1.1, lstOf_X64 hQ.1.2, ← hL]
  · rintro ⟨⟨j, P⟩, hx⟩
    have hj : j ≤ L.length := hx.1
    have hP : P = (L.take j).filter (otT s r) := hx.2
    have hPl : P.length ≤ 100000 := by rw [hP]; refine Nat.le_trans (List.length_filter_le _ _) ?_; rw [List.length_take]; omega
    rcases Nat.lt_or_ge j L.length with hlt | hge
    · obtain ⟨j', hj'⟩ : ∃ j', j' = j + 1 := ⟨_, rfl⟩
      obtain ⟨t, ht⟩ : ∃ t, t = L.getD j T0 := ⟨_, rfl⟩
      have hgt : L.getD j { s := 0, r := [], u := 0 } = t := ht.symm
      have hfs := filter_snoc (p := otT s r) hlt
      rw [← hj', ← hP, ← ht] at hfs
      obtain ⟨P', hP'⟩ : ∃ P', P' = P ++ [t] := ⟨_, rfl⟩
      have hyes : otT s r t = true → P' = (L.take j').filter (otT s r) := fun h => by rw [hfs, if_pos h, hP']
      have hno : otT s r t = false → P = (L.take j').filter (otT s r) := fun h => by rw [hfs, h]; rfl
      clear hp
      cbv
      repeat' (first | with_reducible exact True.intro | with_reducible exact dr_ok hA (by kernel_rfl) | with_reducible exact eqv_refl hA _ | with_reducible refine And.intro ?_ ?_ | (intro hc; cbv))
      all_goals first
        | (exfalso
           subst hA
           have hq : std.lt (Int.ofNat j) (std.ofNat (std.tn fun _ => L.length)) = false := by assumption
           simp only [sS, Int.ofNat_eq_natCast] at hq
           have := of_decide_eq_false hq
           omega)
        | (fail_if_success (refine Exists.intro ?_ ?_)
           subst hA
           clear hyes hno
           simp only [sS, Int.ofNat_eq_natCast, Int.toNat_natCast, hgt] at *
           first
             | done
             | exact ⟨by omega, by omega⟩
             | trace_state)
        | (have hot : otT s r t = true := by
             subst hA
             clear hyes hno
             simp only [sS, Int.ofNat_eq_natCast, Int.toNat_natCast, hgt] at hc
             unfold otT
             simpa using hc
           refine ⟨⟨(j', P'), by show j' ≤ L.length; omega, hyes hot⟩, ?_, show L.length - j' < L.length - j by omega⟩
           cbv
           subst hA
           simp [-List.getD_eq_getElem?_getD, sS, hgt]
           exact ⟨w_succ' hj' (by omega), by rw [hP']; simp, eqr_of ((Reps.lit P).cat (Reps.one (cell_eT t))) (by rw [hP']; simp) hP'.symm⟩)
        | (have hot : otT s r t = false := by
             subst hA
             clear hyes hno
             simp only [sS, Int.ofNat_eq_natCast, Int.toNat_natCast, hgt] at hc
             unfold otT
             simpa using hc
           refine ⟨⟨(j', P), by show j' ≤ L.length; omega, hno hot⟩, ?_, show L.length - j' < L.length - j by omega⟩
           cbv
           subst hA
           simp [-List.getD_eq_getElem?_getD, sS]
           exact w_succ' hj' (by omega))
        | trace_state
    · have hje : j = L.length := by omega
      rw [hje, List.take_length] at hP
      have hPT : ∀ t ∈ P, tmQ t := fun t ht => hLT t (by rw [hP] at ht; exact (List.mem_filter.1 ht).1)
      rw [← hP] at hfin
      clear hp
      cbv
      repeat' (first | with_reducible exact True.intro | with_reducible exact dr_ok hA (by kernel_rfl) | with_reducible exact eqv_refl hA _ | with_reducible refine And.intro ?_ ?_ | (intro hc; cbv))
      all_goals first
        | (exfalso
           subst hA
           have hq : std.lt (Int.ofNat j) (std.ofNat (std.tn fun _ => L.length)) = true := by assumption
           simp only [sS, Int.ofNat_eq_natCast] at hq
           have := of_decide_eq_true hq
           omega)
        | (subst hA
           simp only [sS, isRow_M, lstOf_M]
           first
             | done
             | exact ⟨⟨⟨trivial, by omega⟩, hPT⟩, hn⟩
             | exact h0.symm
             | (rw [hfin.1]; exact eqrS_rfl)
             | (rw [hfin.2]; exact eqrS_rfl)
             | trace_state)
        | trace_state
end Go.Vd

