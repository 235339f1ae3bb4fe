/- DigitFine. -/
import Derived.Test.YtakcggldilbilaaDoorVdG8
set_option linter.unusedVariables false
set_option linter.unusedSimpArgs false
set_option maxRecDepth 100000
set_option maxHeartbeats 4000000
namespace Go.Vd
open Go.Proofs
theorem at_cut {c : Int} {n : Nat} (h : 0 ≤ c ∧ c < 65536) (hn : 0 < n) : ∃ j : Nat, j < n ∧ (IntKind.i64.wrap c).tmod (n : Int) = (j : Int) := by
  rw [w64 (by omega), Int.tmod_eq_emod_of_nonneg h.1]
  have h1 := Int.emod_nonneg c (show (n : Int) ≠ 0 by omega)
  have h2 := Int.emod_lt_of_pos c (show 0 < (n : Int) by omega)
  exact ⟨(c % (n : Int)).toNat, by omega, by omega⟩
theorem turn_d {x : UInt8} {b : Int} (hx : isDb x = true) (hb : 0 ≤ b ∧ b < 256) : ∃ y : UInt8, isDb y = true ∧ IntKind.u8.wrap ((IntKind.u8.wrap (IntKind.u8.wrap ((x.toNat : Int) - 48) + b.tmod 10)).tmod 10 + 48) = (y.toNat : Int) := by
  have h1 := isDb_iff.1 hx
  rw [Int.tmod_eq_emod_of_nonneg hb.1, wU8' (n := (x.toNat : Int) - 48) (by omega), wU8' (n := (x.toNat : Int) - 48 + b % 10) (by omega), Int.tmod_eq_emod_of_nonneg (by omega), wU8' (by omega)]
  have h2 := Int.emod_lt_of_pos ((x.toNat : Int) - 48 + b % 10) (show 0 < (10 : Int) by omega)
  have h3 := Int.emod_nonneg ((x.toNat : Int) - 48 + b % 10) (show (10 : Int) ≠ 0 by omega)
  obtain ⟨z, hz⟩ : ∃ z : Nat, ((x.toNat : Int) - 48 + b % 10) % 10 = z := ⟨_, (Int.toNat_of_nonneg h3).symm⟩
  rw [hz] at h2 h3 ⊢
  have h4 : (UInt8.ofNat (z + 48)).toNat = z + 48 := by rw [UInt8.toNat_ofNat']; omega
  exact ⟨UInt8.ofNat (z + 48), isDb_iff.2 (by rw [h4]; omega), by rw [h4]; omega⟩
theorem lCheck_lt (L : List UInt8) : lCheck L < 10 := by unfold lCheck; omega
theorem df_set (M : List UInt8) {j : Nat} (hj : j < M.length) (y : UInt8) : Reps eB 0 1 M.length (rsetS (bytesOfS M) j 0 [SV.int IntKind.u8 (y.toNat : Int)]) (M.set j y) := by
  have h := Reps.bytesOf M (bytesOfS M) (fun i => rfl)
  exact h.rset' hj y rfl (fun k hk => by obtain rfl : k = 0 := by omega
                                         exact .refl _)
theorem good_DigitFine (s : List UInt8) (at_ by_ : Int) (hat : 0 ≤ at_ ∧ at_ < 65536) (hby : 0 ≤ by_ ∧ by_ < 256) : GoodP Tryd.prog gl0 3 [.str s, .int .u16 at_, .int .u8 by_] (.bool true) := by
  refine fn_sound' (T := seatT.own) (G := gg5) (X := cvX) (tys_own seatT_ok) gg5_ok cvX_ok noI_ok mixed Tryd.func3 (.one) (fun A => [.str s, .int .u16 at_, .int .u8 by_]) (fun A => .bool true) fun A hA => ?_
  cbv
  repeat' (first | with_reducible exact True.intro | with_reducible exact dr_ok hA (by kernel_rfl) | with_reducible refine And.intro ?_ ?_ | (intro hc; cbv))
  all_goals (subst hA; simp [-List.getD_eq_getElem?_getD, std_add, std_sub, std_mul, std_quo, std_rem, std_band, std_bor, std_bxor, std_shl, std_shr, std_eq, std_ne, std_lt, std_le, std_conv, std_not, std_beq, std_bne, std_ite, std_want, std_and2, std_sadd, std_seq, std_sne, std_slt, std_sle, std_sgt, std_sge, std_slen, std_sget, std_scut, std_ofNat, std_toNat, std_nsub, std_nadd, std_lenOf, std_nz, std_nneg, std_inb, std_upto, std_slt63, std_grow, std_imp, std_impN, std_tr, std_tb, std_ti, std_ts, std_tn, std_tp, std_nmin, std_makes, std_room, std_zeros, std_nilq, std_notq, std_eqi, std_eqn, std_eqb, std_eqs, std_eqv, std_cat, std_lst, std_rset, std_rcopy, std_shift, std_eqr, std_strOf, std_bytesOf, std_isB, std_zOf, zOf_int, std_isI, isI_int, std_getL, std_nmul, std_sOf, sOf_str, std_isS, isS_str, strOf_lit, lstOf_lit inj_eB, lstOf_lit inj_eZ, lstOf_lit inj_eBs, lstOf_lit inj_eS, isRow_lit, isB_lit, isRow_nil, lstOf_nil inj_eB, lstOf_nil inj_eZ, lstOf_nil inj_eBs, lstOf_nil inj_eS] at *)
  all_goals (cases hd : isD s)
  all_goals first
    | omega
    | (have h0 := ch0 hd
       have hf : lFine s = false := by unfold lFine; rw [hd]; rfl
       first
         | (rw [h0.2] at *; contradiction)
         | (simp [h0.1, h0.2] at *; done)
         | (intros; exact ⟨by simp [h0.1], by omega⟩)
         | exact ⟨⟨rfl, h0.1⟩, hf⟩
         | trace_state)
    | (have h1 := ch1 hd
       have hc10 : lCheck s < 10 := lCheck_lt s
       have hF := lFine_snoc hd hc10
       have hF' : lFine (s ++ [dC (lCheck s)]) = true := by rw [hF]; simp
       have hD : isD [dC (lCheck s)] = true := by have := dig_of hc10; simp [isD, isDb, dC, *]; omega
       have hM : (s ++ [dC (lCheck s)]).length = s.length + 1 := by simp
       have hMs := isD_iff.1 (isD_snoc hd hc10)
       first
         | exact absurd h1.2 (by assumption)
         | (exfalso; rw [h1.1, hD, hF'] at hc; simp at hc; done)
         | (rw [h1.1] at *
            first
              | (intros; exact ⟨by simp [*], by simp; omega⟩)
              | (exfalso; simp [hF', hD] at hc; done)
              | (simp; omega)
              | (generalize s ++ [dC (lCheck s)] = M at *
                 have e1 : (s.length : Int) + ([dC (lCheck s)].length : Int) = (M.length : Int) := by rw [hM]; simp
                 have e2 : s.length + [dC (lCheck s)].length = M.length := by rw [hM]; simp
                 rw [e1] at *
                 try rw [e2]
                 obtain ⟨j, hj, ej⟩ := at_cut (c := at_) (n := M.length) hat (by omega)
                 have hx : isDb (M.getD j 0) = true := hMs.2 _ (by rw [List.getD_eq_getElem?_getD, List.getElem?_eq_getElem hj]; exact List.getElem_mem hj)
                 obtain ⟨y, hy, ey⟩ := turn_d hx hby
                 have ez : bytesOfS M j 0 = SV.int IntKind.u8 ((M.getD j 0).toNat : Int) := by simp [bytesOfS, List.getD_eq_getElem?_getD]
                 have hr := df_set M hj y
                 rw [ej]; try rw [Int.toNat_natCast]
                 first
                   | (constructor <;> omega)
                   | (rw [ez]; exact ⟨_, rfl⟩)
                   | (rw [ez, zOf_int, ey]; exact isB_row hr)
                   | (rw [ez, zOf_int, ey, strOf_row hr, List.length_set]; omega)
                   | (rw [ez, zOf_int, ey, strOf_row hr, lFine_set hF' hy hj]
                      rw [Bool.eq_iff_iff]
                      simp only [decide_eq_true_eq, beq_iff_eq]
                      constructor
                      · intro e; rw [e]
                      · intro e; exact UInt8.toNat.inj (by omega))
                   | trace_state)
              | trace_state)
         | trace_state)
    | trace_state
end Go.Vd
