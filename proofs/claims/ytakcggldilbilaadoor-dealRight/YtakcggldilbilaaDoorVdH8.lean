/- The fields' functions: the reference's Read; awake. -/
import Derived.Test.YtakcggldilbilaaDoorVdH7
import Derived.Test.YtakcggldilbilaaDoorVdG8
set_option linter.unusedVariables false
set_option linter.unusedSimpArgs false
set_option maxRecDepth 100000
set_option maxHeartbeats 4000000
namespace Go.Vd
open Go.Proofs
theorem mx {a b : Nat} : (a : Int) < max (((a + b : Nat) : Int)) 0 + 1 := by omega
theorem mx0 {a z : Nat} (h : a = 0) : (a : Int) < max ((z : Nat) : Int) 0 + 1 := by omega
theorem gv_le {a : Nat} {B : List UInt8} (ha : a ≤ 3) : gVal (B.take a) ≤ 999 := by
  by_cases h : gErr (B.take a) = 0
  · obtain ⟨h1, h2, h3, h4, h5⟩ := get_yes h
    have hl : (B.take a).length ≤ 3 := by rw [List.length_take]; omega
    have := Nat.pow_le_pow_right (n := 10) (by omega) hl
    omega
  · rw [get_no h]; omega
theorem rdR {n : Int} {B : List UInt8} (h : dOk n = true) (hk : 3 ≤ dKd n) (hB : B.length ≤ 1000000) (hle : fAh (dKd n) ≤ B.length) :
    strOfS (fAh (dKd n)) (rowF eB 0 std fun _ => B) = B.take (fAh (dKd n)) ∧ IntKind.i64.wrap (gVal (B.take (fAh (dKd n))) : Int) = (gVal (B.take (fAh (dKd n))) : Int) ∧
    (¬gErr (B.take (fAh (dKd n))) = 0 ∨ gVal (B.take (fAh (dKd n))) = 0 → fRd n B = ([], 0, 3)) ∧
    (gErr (B.take (fAh (dKd n))) = 0 ∧ ¬gVal (B.take (fAh (dKd n))) = 0 → dSz n < (gVal (B.take (fAh (dKd n))) : Int) → fRd n B = ([], 0, 4)) ∧
    (gErr (B.take (fAh (dKd n))) = 0 ∧ ¬gVal (B.take (fAh (dKd n))) = 0 → (gVal (B.take (fAh (dKd n))) : Int) ≤ dSz n → IntKind.i64.wrap ((B.length : Int) - (fAh (dKd n) : Int)) < (gVal (B.take (fAh (dKd n))) : Int) → fRd n B = ([], 0, 2)) ∧
    (gErr (B.take (fAh (dKd n))) = 0 ∧ ¬gVal (B.take (fAh (dKd n))) = 0 → (gVal (B.take (fAh (dKd n))) : Int) ≤ dSz n → (gVal (B.take (fAh (dKd n))) : Int) ≤ IntKind.i64.wrap ((B.length : Int) - (fAh (dKd n) : Int)) →
      IntKind.i64.wrap ((fAh (dKd n) : Int) + (gVal (B.take (fAh (dKd n))) : Int)) = ((fAh (dKd n) + gVal (B.take (fAh (dKd n))) : Nat) : Int) ∧
      strOfS ((IntKind.i64.wrap ((fAh (dKd n) : Int) + (gVal (B.take (fAh (dKd n))) : Int))).toNat - fAh (dKd n)) (fun i => rowF eB 0 std (fun _ => B) (fAh (dKd n) + i)) = (B.drop (fAh (dKd n))).take (gVal (B.take (fAh (dKd n)))) ∧
      (signs (dKd n) ((B.drop (fAh (dKd n))).take (gVal (B.take (fAh (dKd n))))) = false → fRd n B = ([], 0, 3)) ∧
      (signs (dKd n) ((B.drop (fAh (dKd n))).take (gVal (B.take (fAh (dKd n))))) = true → fRd n B = ((B.drop (fAh (dKd n))).take (gVal (B.take (fAh (dKd n)))), fAh (dKd n) + gVal (B.take (fAh (dKd n))), 0)) ∧ fAh (dKd n) + gVal (B.take (fAh (dKd n))) ≤ B.length) := by
  have ha := fAh_le (dKd n)
  have hv := gv_le (B := B) ha
  have hz : fZ n B = gVal (B.take (fAh (dKd n))) := if_neg (by omega)
  have hw : IntKind.i64.wrap ((B.length : Int) - (fAh (dKd n) : Int)) = (B.length : Int) - (fAh (dKd n) : Int) := w64 (by omega)
  have hw2 : IntKind.i64.wrap ((fAh (dKd n) : Int) + (gVal (B.take (fAh (dKd n))) : Int)) = ((fAh (dKd n) + gVal (B.take (fAh (dKd n))) : Nat) : Int) := (w64 (by omega)).trans (by omega)
  rw [hw, hw2]
  have hgo : gErr (B.take (fAh (dKd n))) = 0 ∧ ¬gVal (B.take (fAh (dKd n))) = 0 → _ := fun hp => rd_go (B := B) h (by omega) (fun _ => hp)
  rw [hz] at hgo
  refine ⟨cutS B hle, w64 (by omega), fun hb => rd_f1 h (by omega) hk hb, fun hp hl => ?_, fun hp hl hs => ?_, fun hp hl hs => ⟨rfl, ?_, fun hs => ?_, fun hs => ?_, by omega⟩⟩
  · rw [hgo hp, if_pos hl]
  · rw [hgo hp, if_neg (by omega), if_pos (by omega)]
  · rw [show ((fAh (dKd n) + gVal (B.take (fAh (dKd n))) : Nat) : Int).toNat - fAh (dKd n) = gVal (B.take (fAh (dKd n))) by omega]
    exact cutS' B (by omega)
  · rw [hgo hp, if_neg (by omega), if_neg (by omega), if_neg (by rw [hs]; simp)]
  · rw [hgo hp, if_neg (by omega), if_neg (by omega), if_pos hs]
theorem rdR0 {n : Int} {B : List UInt8} (h : dOk n = true) (hk : dKd n < 3) (hB : B.length ≤ 1000000) :
    (IntKind.i64.wrap ((B.length : Int) - (fAh (dKd n) : Int)) < dSz n → fRd n B = ([], 0, 2)) ∧
    (dSz n ≤ IntKind.i64.wrap ((B.length : Int) - (fAh (dKd n) : Int)) →
      IntKind.i64.wrap ((fAh (dKd n) : Int) + dSz n) = (((dSz n).toNat : Nat) : Int) ∧
      strOfS ((IntKind.i64.wrap ((fAh (dKd n) : Int) + dSz n)).toNat - fAh (dKd n)) (fun i => rowF eB 0 std (fun _ => B) (fAh (dKd n) + i)) = B.take (dSz n).toNat ∧
      (signs (dKd n) (B.take (dSz n).toNat) = false → fRd n B = ([], 0, 3)) ∧
      (signs (dKd n) (B.take (dSz n).toNat) = true → fRd n B = (B.take (dSz n).toNat, (dSz n).toNat, 0)) ∧ (dSz n).toNat ≤ B.length) := by
  have ha : fAh (dKd n) = 0 := fAh_0.2 hk
  have hb := dOk_b h
  rw [ha]
  have hw : IntKind.i64.wrap ((B.length : Int) - ((0 : Nat) : Int)) = (B.length : Int) := (w64 (by omega)).trans (by omega)
  have hw2 : IntKind.i64.wrap (((0 : Nat) : Int) + dSz n) = (((dSz n).toNat : Nat) : Int) := (w64 (by omega)).trans (by omega)
  rw [hw, hw2, rd_fix h hk]
  refine ⟨fun hl => by rw [if_pos (by omega)], fun hl => ?_⟩
  have hlen : ((B.take (dSz n).toNat).length : Int) = dSz n := by rw [List.length_take]; omega
  rw [if_neg (by omega), rr_fix h hk, decide_eq_true hlen, Bool.true_and]
  refine ⟨rfl, ?_, fun hs => by rw [if_neg (by rw [hs]; simp)], fun hs => by rw [if_pos hs], by omega⟩
  rw [Int.toNat_natCast, Nat.sub_zero]
  have := cutS' B (a := 0) (z := (dSz n).toNat) (by omega)
  rw [List.drop_zero] at this
  exact this
theorem good_rRead (n : Int) (B : List UInt8) (hB : B.length ≤ 1000000) : GoodP Tryd.prog gl0 89 [.int .i64 n, rowS eB 0 1 std fun _ => B] (.tup [.str (std.ts fun _ => (fRd n B).1), .int .i64 (std.ti fun _ => ((fRd n B).2.1 : Int)), .int .i64 (std.ti fun _ => (fRd n B).2.2)]) := by
  refine fn_sound' (T := seatT) (G := gh4) (X := noX) seatT_ok gh4_ok noX_ok noI_ok mixed Tryd.func89 (.one) (fun A => [.int .i64 n, rowS eB 0 1 A fun _ => B]) (fun A => .tup [.str (A.ts fun _ => (fRd n B).1), .int .i64 (A.ti fun _ => ((fRd n B).2.1 : Int)), .int .i64 (A.ti fun _ => (fRd n B).2.2)]) fun A hA => ?_
  cbv
  repeat' (first | with_reducible exact True.intro | with_reducible exact dr_ok hA (by kernel_rfl) | with_reducible refine And.intro ?_ ?_ | (intro hc; cbv))
  all_goals (subst hA; simp [-List.getD_eq_getElem?_getD, std_add, std_sub, std_mul, std_quo, std_rem, std_band, std_bor, std_bxor, std_shl, std_shr, std_eq, std_ne, std_lt, std_le, std_conv, std_not, std_beq, std_bne, std_ite, std_want, std_and2, std_sadd, std_seq, std_sne, std_slt, std_sle, std_sgt, std_sge, std_slen, std_sget, std_scut, std_ofNat, std_toNat, std_nsub, std_nadd, std_lenOf, std_nz, std_nneg, std_inb, std_upto, std_slt63, std_grow, std_imp, std_impN, std_tr, std_tb, std_ti, std_ts, std_tn, std_tp, std_nmin, std_makes, std_room, std_zeros, std_nilq, std_notq, std_eqi, std_eqn, std_eqb, std_eqs, std_eqv, std_cat, std_lst, std_rset, std_rcopy, std_shift, std_eqr, std_strOf, std_bytesOf, std_isB, std_zOf, zOf_int, std_isI, isI_int, std_getL, std_nmul, std_sOf, sOf_str, std_isS, isS_str, strOf_lit, lstOf_lit inj_eB, lstOf_lit inj_eZ, lstOf_lit inj_eBs, lstOf_lit inj_eS, isRow_lit, isB_lit, isRow_nil, lstOf_nil inj_eB, lstOf_nil inj_eZ, lstOf_nil inj_eBs, lstOf_nil inj_eS, isB_any, isB_any'] at *)
  all_goals first
    | assumption
    | (rw [rd_no (by assumption)]; done)
    | (rw [rd_no (by assumption)]; rfl)
    | (have h : dOk n = true := by assumption
       have hk0 : ¬fAh (dKd n) = 0 := by omega
       have hk : 3 ≤ dKd n := by rw [fAh_0] at hk0; omega
       first
         | (rw [rd_s1 h (by assumption)]; done)
         | (rw [rd_s1 h (by assumption)]; rfl)
         | exact Int.ofNat_lt.2 (Nat.lt_succ_of_le (by assumption))
         | (obtain ⟨c1, c2, c3, c4, c5, c6⟩ := rdR h hk hB (by assumption)
            simp only [c1, c2] at *
            first
              | (rw [c3 (by assumption)]; done)
              | (rw [c3 (by assumption)]; rfl)
              | (rw [c4 (by assumption) (by assumption)]; done)
              | (rw [c4 (by assumption) (by assumption)]; rfl)
              | (rw [c5 (by assumption) (by assumption) (by assumption)]; done)
              | (rw [c5 (by assumption) (by assumption) (by assumption)]; rfl)
              | (obtain ⟨q1, q2, q3, q4, q5⟩ := c6 (by assumption) (by assumption) (by assumption)
                 first
                   | (rw [q1]; constructor <;> omega)
                   | (rw [q1]; exact mx)
                   | (rw [q1]; omega)
                   | (rw [q2]; exact len_cut hB)
                   | (simp only [q2] at hc
                      rw [q3 hc]
                      first | done | rfl)
                   | (simp only [q2] at hc
                      rw [q4 hc]
                      first | done | rfl | exact q2 | exact q1))))
    | (have h : dOk n = true := by assumption
       have hk : dKd n < 3 := fAh_0.1 (by assumption)
       have hL := rdR0 (B := B) h hk hB
       first
         | (rw [hL.1 (by assumption)]; done)
         | (rw [hL.1 (by assumption)]; rfl)
         | (obtain ⟨q1, q2, q3, q4, q5⟩ := hL.2 (by assumption)
            first
              | (rw [q1]; constructor <;> omega)
              | (rw [q1]; exact mx0 (fAh_0.2 hk))
              | (rw [q1]; omega)
              | (rw [q2]; exact len_cut0 hB)
              | (simp only [q2] at hc
                 rw [q3 hc]
                 first | done | rfl)
              | (simp only [q2] at hc
                 rw [q4 hc]
                 first | done | rfl | exact q2 | exact q1)))
    | trace_state
end Go.Vd
