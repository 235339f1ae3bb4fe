/- The reference's functions of the bitmap: bits. -/
import Derived.Test.YtakcggldilbilaaGreatDoorVdM2
import Derived.Test.YtakcggldilbilaaGreatDoorVdM7
import Derived.Test.YtakcggldilbilaaGreatDoorVdF3
set_option linter.unusedVariables false
set_option linter.unusedSimpArgs false
set_option maxRecDepth 100000
set_option maxHeartbeats 1000000
namespace Go.Vd
open Go.Proofs
theorem good24 (n : Int) : GoodP Tryz.prog gl0 141 [.int .i64 n] (r22 std n) := by
  refine fn_sound' (T := seatT) (G := noC) (X := noX) seatT_ok noC_ok noX_ok noI_ok mixed Tryz.func141 .one (fun A => [.int .i64 n]) (fun A => r22 A n) fun A hA => ?_
  cbv
  repeat with_reducible refine And.intro (dr_ok hA (by kernel_rfl)) ?_
  subst hA
  simp [std_add, std_sub, std_mul, std_quo, std_rem, std_band, std_bor, std_bxor, std_shl, std_shr, std_eq, std_ne, std_lt, std_le, std_conv, std_not, std_beq, std_bne, std_ite, std_want, std_and2, std_sadd, std_seq, std_sne, std_slt, std_sle, std_sgt, std_sge, std_slen, std_sget, std_scut, std_ofNat, std_toNat, std_nsub, std_nadd, std_lenOf, std_nz, std_nneg, std_inb, std_upto, std_slt63, std_grow, std_imp, std_impN, std_tr, std_tb, std_ti, std_ts, std_tn, std_tp, std_nmin, std_makes, std_room, std_zeros, std_nilq, std_notq, std_eqi, std_eqn, std_eqb, std_eqs, std_eqv, std_cat, std_lst, std_rset, std_rcopy, std_shift, std_eqr, std_strOf, std_bytesOf, std_isB, std_zOf, zOf_int, std_isI, isI_int, std_getL, std_nmul, std_sOf, sOf_str, std_isS, isS_str, bfield]
  rw [Bool.eq_iff_iff]
  simp
  omega
def bbit (h l : Nat) (n : Int) : Bool := if n ≤ 64 then h.testBit (64 - n).toNat else l.testBit (128 - n).toNat
def r25 (A : Ar) (h l n : Int) : SV := .bool (A.tb fun _ => bbit h.toNat l.toNat n)
theorem quo2 (a : Nat) (ha : a < 18446744073709551616) : IntKind.u64.wrap ((a : Int).tdiv 2) = ((a / 2 : Nat) : Int) := by
  rw [show ((a : Int).tdiv 2) = ((a / 2 : Nat) : Int) from rfl, wu64 ⟨by omega, by omega⟩]
theorem rem2 (a : Nat) : ((a : Int).tmod 2 == 1) = decide (a % 2 = 1) := by
  rw [show ((a : Int).tmod 2) = ((a % 2 : Nat) : Int) from rfl]
  by_cases h : a % 2 = 1
  · simp [h]
  · have : a % 2 = 0 := by omega
    simp [this]
theorem good25 {h l : Int} (n : Int) (hh : r64 h) (hl : r64 l) (h1 : 1 ≤ n) (h2 : n ≤ 128) : GoodP Tryz.prog gl0 142 [.agg [.int .u64 h, .int .u64 l], .int .i64 n] (r25 std h l n) := by
  obtain ⟨h, rfl, lh⟩ := r64_nat hh
  obtain ⟨l, rfl, ll⟩ := r64_nat hl
  refine fn_sound' (T := seatT) (G := noC) (X := noX) seatT_ok noC_ok noX_ok noI_ok mixed Tryz.func142 .one (fun A => [.agg [.int .u64 h, .int .u64 l], .int .i64 n]) (fun A => r25 A h l n) fun A hA => ?_
  cbv
  repeat' (first | with_reducible exact True.intro | with_reducible exact dr_ok hA (by kernel_rfl) | with_reducible refine And.intro ?_ ?_ | (intro hc; cbv))
  · have hn : 64 < n := by subst hA; simp [std_add, std_sub, std_mul, std_quo, std_rem, std_band, std_bor, std_bxor, std_shl, std_shr, std_eq, std_ne, std_lt, std_le, std_conv, std_not, std_beq, std_bne, std_ite, std_want, std_and2, std_sadd, std_seq, std_sne, std_slt, std_sle, std_sgt, std_sge, std_slen, std_sget, std_scut, std_ofNat, std_toNat, std_nsub, std_nadd, std_lenOf, std_nz, std_nneg, std_inb, std_upto, std_slt63, std_grow, std_imp, std_impN, std_tr, std_tb, std_ti, std_ts, std_tn, std_tp, std_nmin, std_makes, std_room, std_zeros, std_nilq, std_notq, std_eqi, std_eqn, std_eqb, std_eqs, std_eqv, std_cat, std_lst, std_rset, std_rcopy, std_shift, std_eqr, std_strOf, std_bytesOf, std_isB, std_zOf, zOf_int, std_isI, isI_int, std_getL, std_nmul, std_sOf, sOf_str, std_isS, isS_str] at hc; omega
    refine ⟨⟨{k : Nat // k ≤ (128 - n).toNat}, fun _ k => [(5, .int .u64 (A.ti fun _ => (l / 2 ^ k.1 : Nat))), (6, .int .i64 (A.ti fun _ => n - 64 + Int.ofNat k.1))], fun _ _ => [], fun k => (128 - n).toNat - k.1, true⟩, ⟨⟨0, by omega⟩, ?_⟩, ?_⟩
    · cbv
      subst hA
      simp [std_add, std_sub, std_mul, std_quo, std_rem, std_band, std_bor, std_bxor, std_shl, std_shr, std_eq, std_ne, std_lt, std_le, std_conv, std_not, std_beq, std_bne, std_ite, std_want, std_and2, std_sadd, std_seq, std_sne, std_slt, std_sle, std_sgt, std_sge, std_slen, std_sget, std_scut, std_ofNat, std_toNat, std_nsub, std_nadd, std_lenOf, std_nz, std_nneg, std_inb, std_upto, std_slt63, std_grow, std_imp, std_impN, std_tr, std_tb, std_ti, std_ts, std_tn, std_tp, std_nmin, std_makes, std_room, std_zeros, std_nilq, std_notq, std_eqi, std_eqn, std_eqb, std_eqs, std_eqv, std_cat, std_lst, std_rset, std_rcopy, std_shift, std_eqr, std_strOf, std_bytesOf, std_isB, std_zOf, zOf_int, std_isI, isI_int, std_getL, std_nmul, std_sOf, sOf_str, std_isS, isS_str]
      rw [w64 (by omega)]
    · rintro ⟨k, hk⟩
      cbv
      repeat' (first | with_reducible exact True.intro | with_reducible exact dr_ok hA (by kernel_rfl) | with_reducible refine And.intro ?_ ?_ | (intro hc; cbv))
      all_goals try (subst hA; simp [std_add, std_sub, std_mul, std_quo, std_rem, std_band, std_bor, std_bxor, std_shl, std_shr, std_eq, std_ne, std_lt, std_le, std_conv, std_not, std_beq, std_bne, std_ite, std_want, std_and2, std_sadd, std_seq, std_sne, std_slt, std_sle, std_sgt, std_sge, std_slen, std_sget, std_scut, std_ofNat, std_toNat, std_nsub, std_nadd, std_lenOf, std_nz, std_nneg, std_inb, std_upto, std_slt63, std_grow, std_imp, std_impN, std_tr, std_tb, std_ti, std_ts, std_tn, std_tp, std_nmin, std_makes, std_room, std_zeros, std_nilq, std_notq, std_eqi, std_eqn, std_eqb, std_eqs, std_eqv, std_cat, std_lst, std_rset, std_rcopy, std_shift, std_eqr, std_strOf, std_bytesOf, std_isB, std_zOf, zOf_int, std_isI, isI_int, std_getL, std_nmul, std_sOf, sOf_str, std_isS, isS_str]; done)
      · have hlt : k < (128 - n).toNat := by subst hA; simp [std_add, std_sub, std_mul, std_quo, std_rem, std_band, std_bor, std_bxor, std_shl, std_shr, std_eq, std_ne, std_lt, std_le, std_conv, std_not, std_beq, std_bne, std_ite, std_want, std_and2, std_sadd, std_seq, std_sne, std_slt, std_sle, std_sgt, std_sge, std_slen, std_sget, std_scut, std_ofNat, std_toNat, std_nsub, std_nadd, std_lenOf, std_nz, std_nneg, std_inb, std_upto, std_slt63, std_grow, std_imp, std_impN, std_tr, std_tb, std_ti, std_ts, std_tn, std_tp, std_nmin, std_makes, std_room, std_zeros, std_nilq, std_notq, std_eqi, std_eqn, std_eqb, std_eqs, std_eqv, std_cat, std_lst, std_rset, std_rcopy, std_shift, std_eqr, std_strOf, std_bytesOf, std_isB, std_zOf, zOf_int, std_isI, isI_int, std_getL, std_nmul, std_sOf, sOf_str, std_isS, isS_str] at hc; omega
        refine ⟨⟨k + 1, by omega⟩, ?_, show (128 - n).toNat - (k + 1) < (128 - n).toNat - k by omega⟩
        cbv
        repeat' (first | with_reducible exact True.intro | with_reducible exact dr_ok hA (by kernel_rfl) | with_reducible refine And.intro ?_ ?_ | (intro hc; cbv))
        all_goals (subst hA; simp only [std_add, std_sub, std_mul, std_quo, std_rem, std_band, std_bor, std_bxor, std_shl, std_shr, std_eq, std_ne, std_lt, std_le, std_conv, std_not, std_beq, std_bne, std_ite, std_want, std_and2, std_sadd, std_seq, std_sne, std_slt, std_sle, std_sgt, std_sge, std_slen, std_sget, std_scut, std_ofNat, std_toNat, std_nsub, std_nadd, std_lenOf, std_nz, std_nneg, std_inb, std_upto, std_slt63, std_grow, std_imp, std_impN, std_tr, std_tb, std_ti, std_ts, std_tn, std_tp, std_nmin, std_makes, std_room, std_zeros, std_nilq, std_notq, std_eqi, std_eqn, std_eqb, std_eqs, std_eqv, std_cat, std_lst, std_rset, std_rcopy, std_shift, std_eqr, std_strOf, std_bytesOf, std_isB, std_zOf, zOf_int, std_isI, isI_int, std_getL, std_nmul, std_sOf, sOf_str, std_isS, isS_str])
        · have := quo2 (l / 2 ^ k) (Nat.lt_of_le_of_lt (Nat.div_le_self _ _) ll)
          rw [Nat.div_div_eq_div_mul, ← Nat.pow_succ] at this
          exact this
        · rw [w64 (by simp only [Int.ofNat_eq_natCast]; omega)]
          show n - 64 + Int.ofNat k + 1 = n - 64 + Int.ofNat (k + 1)
          simp only [Int.ofNat_eq_natCast]
          omega
      · have hk8 : k = (128 - n).toNat := by subst hA; simp [std_add, std_sub, std_mul, std_quo, std_rem, std_band, std_bor, std_bxor, std_shl, std_shr, std_eq, std_ne, std_lt, std_le, std_conv, std_not, std_beq, std_bne, std_ite, std_want, std_and2, std_sadd, std_seq, std_sne, std_slt, std_sle, std_sgt, std_sge, std_slen, std_sget, std_scut, std_ofNat, std_toNat, std_nsub, std_nadd, std_lenOf, std_nz, std_nneg, std_inb, std_upto, std_slt63, std_grow, std_imp, std_impN, std_tr, std_tb, std_ti, std_ts, std_tn, std_tp, std_nmin, std_makes, std_room, std_zeros, std_nilq, std_notq, std_eqi, std_eqn, std_eqb, std_eqs, std_eqv, std_cat, std_lst, std_rset, std_rcopy, std_shift, std_eqr, std_strOf, std_bytesOf, std_isB, std_zOf, zOf_int, std_isI, isI_int, std_getL, std_nmul, std_sOf, sOf_str, std_isS, isS_str] at hc; omega
        subst hA
        simp only [std_add, std_sub, std_mul, std_quo, std_rem, std_band, std_bor, std_bxor, std_shl, std_shr, std_eq, std_ne, std_lt, std_le, std_conv, std_not, std_beq, std_bne, std_ite, std_want, std_and2, std_sadd, std_seq, std_sne, std_slt, std_sle, std_sgt, std_sge, std_slen, std_sget, std_scut, std_ofNat, std_toNat, std_nsub, std_nadd, std_lenOf, std_nz, std_nneg, std_inb, std_upto, std_slt63, std_grow, std_imp, std_impN, std_tr, std_tb, std_ti, std_ts, std_tn, std_tp, std_nmin, std_makes, std_room, std_zeros, std_nilq, std_notq, std_eqi, std_eqn, std_eqb, std_eqs, std_eqv, std_cat, std_lst, std_rset, std_rcopy, std_shift, std_eqr, std_strOf, std_bytesOf, std_isB, std_zOf, zOf_int, std_isI, isI_int, std_getL, std_nmul, std_sOf, sOf_str, std_isS, isS_str]
        have := rem2 (l / 2 ^ k)
        show (((l / 2 ^ k : Nat) : Int).tmod 2 == 1) = bbit h l n
        rw [this, bbit, if_neg (by omega), ← hk8, Nat.testBit_eq_decide_div_mod_eq]
  · have hn : n ≤ 64 := by subst hA; simp [std_add, std_sub, std_mul, std_quo, std_rem, std_band, std_bor, std_bxor, std_shl, std_shr, std_eq, std_ne, std_lt, std_le, std_conv, std_not, std_beq, std_bne, std_ite, std_want, std_and2, std_sadd, std_seq, std_sne, std_slt, std_sle, std_sgt, std_sge, std_slen, std_sget, std_scut, std_ofNat, std_toNat, std_nsub, std_nadd, std_lenOf, std_nz, std_nneg, std_inb, std_upto, std_slt63, std_grow, std_imp, std_impN, std_tr, std_tb, std_ti, std_ts, std_tn, std_tp, std_nmin, std_makes, std_room, std_zeros, std_nilq, std_notq, std_eqi, std_eqn, std_eqb, std_eqs, std_eqv, std_cat, std_lst, std_rset, std_rcopy, std_shift, std_eqr, std_strOf, std_bytesOf, std_isB, std_zOf, zOf_int, std_isI, isI_int, std_getL, std_nmul, std_sOf, sOf_str, std_isS, isS_str] at hc; omega
    refine ⟨⟨{k : Nat // k ≤ (64 - n).toNat}, fun _ k => [(5, .int .u64 (A.ti fun _ => (h / 2 ^ k.1 : Nat))), (6, .int .i64 (A.ti fun _ => n + Int.ofNat k.1))], fun _ _ => [], fun k => (64 - n).toNat - k.1, true⟩, ⟨⟨0, by omega⟩, ?_⟩, ?_⟩
    · cbv
      subst hA
      simp [std_add, std_sub, std_mul, std_quo, std_rem, std_band, std_bor, std_bxor, std_shl, std_shr, std_eq, std_ne, std_lt, std_le, std_conv, std_not, std_beq, std_bne, std_ite, std_want, std_and2, std_sadd, std_seq, std_sne, std_slt, std_sle, std_sgt, std_sge, std_slen, std_sget, std_scut, std_ofNat, std_toNat, std_nsub, std_nadd, std_lenOf, std_nz, std_nneg, std_inb, std_upto, std_slt63, std_grow, std_imp, std_impN, std_tr, std_tb, std_ti, std_ts, std_tn, std_tp, std_nmin, std_makes, std_room, std_zeros, std_nilq, std_notq, std_eqi, std_eqn, std_eqb, std_eqs, std_eqv, std_cat, std_lst, std_rset, std_rcopy, std_shift, std_eqr, std_strOf, std_bytesOf, std_isB, std_zOf, zOf_int, std_isI, isI_int, std_getL, std_nmul, std_sOf, sOf_str, std_isS, isS_str]
    · rintro ⟨k, hk⟩
      cbv
      repeat' (first | with_reducible exact True.intro | with_reducible exact dr_ok hA (by kernel_rfl) | with_reducible refine And.intro ?_ ?_ | (intro hc; cbv))
      all_goals try (subst hA; simp [std_add, std_sub, std_mul, std_quo, std_rem, std_band, std_bor, std_bxor, std_shl, std_shr, std_eq, std_ne, std_lt, std_le, std_conv, std_not, std_beq, std_bne, std_ite, std_want, std_and2, std_sadd, std_seq, std_sne, std_slt, std_sle, std_sgt, std_sge, std_slen, std_sget, std_scut, std_ofNat, std_toNat, std_nsub, std_nadd, std_lenOf, std_nz, std_nneg, std_inb, std_upto, std_slt63, std_grow, std_imp, std_impN, std_tr, std_tb, std_ti, std_ts, std_tn, std_tp, std_nmin, std_makes, std_room, std_zeros, std_nilq, std_notq, std_eqi, std_eqn, std_eqb, std_eqs, std_eqv, std_cat, std_lst, std_rset, std_rcopy, std_shift, std_eqr, std_strOf, std_bytesOf, std_isB, std_zOf, zOf_int, std_isI, isI_int, std_getL, std_nmul, std_sOf, sOf_str, std_isS, isS_str]; done)
      · have hlt : k < (64 - n).toNat := by subst hA; simp [std_add, std_sub, std_mul, std_quo, std_rem, std_band, std_bor, std_bxor, std_shl, std_shr, std_eq, std_ne, std_lt, std_le, std_conv, std_not, std_beq, std_bne, std_ite, std_want, std_and2, std_sadd, std_seq, std_sne, std_slt, std_sle, std_sgt, std_sge, std_slen, std_sget, std_scut, std_ofNat, std_toNat, std_nsub, std_nadd, std_lenOf, std_nz, std_nneg, std_inb, std_upto, std_slt63, std_grow, std_imp, std_impN, std_tr, std_tb, std_ti, std_ts, std_tn, std_tp, std_nmin, std_makes, std_room, std_zeros, std_nilq, std_notq, std_eqi, std_eqn, std_eqb, std_eqs, std_eqv, std_cat, std_lst, std_rset, std_rcopy, std_shift, std_eqr, std_strOf, std_bytesOf, std_isB, std_zOf, zOf_int, std_isI, isI_int, std_getL, std_nmul, std_sOf, sOf_str, std_isS, isS_str] at hc; omega
        refine ⟨⟨k + 1, by omega⟩, ?_, show (64 - n).toNat - (k + 1) < (64 - n).toNat - k by omega⟩
        cbv
        repeat' (first | with_reducible exact True.intro | with_reducible exact dr_ok hA (by kernel_rfl) | with_reducible refine And.intro ?_ ?_ | (intro hc; cbv))
        all_goals (subst hA; simp only [std_add, std_sub, std_mul, std_quo, std_rem, std_band, std_bor, std_bxor, std_shl, std_shr, std_eq, std_ne, std_lt, std_le, std_conv, std_not, std_beq, std_bne, std_ite, std_want, std_and2, std_sadd, std_seq, std_sne, std_slt, std_sle, std_sgt, std_sge, std_slen, std_sget, std_scut, std_ofNat, std_toNat, std_nsub, std_nadd, std_lenOf, std_nz, std_nneg, std_inb, std_upto, std_slt63, std_grow, std_imp, std_impN, std_tr, std_tb, std_ti, std_ts, std_tn, std_tp, std_nmin, std_makes, std_room, std_zeros, std_nilq, std_notq, std_eqi, std_eqn, std_eqb, std_eqs, std_eqv, std_cat, std_lst, std_rset, std_rcopy, std_shift, std_eqr, std_strOf, std_bytesOf, std_isB, std_zOf, zOf_int, std_isI, isI_int, std_getL, std_nmul, std_sOf, sOf_str, std_isS, isS_str])
        · have := quo2 (h / 2 ^ k) (Nat.lt_of_le_of_lt (Nat.div_le_self _ _) lh)
          rw [Nat.div_div_eq_div_mul, ← Nat.pow_succ] at this
          exact this
        · rw [w64 (by simp only [Int.ofNat_eq_natCast]; omega)]
          show n + Int.ofNat k + 1 = n + Int.ofNat (k + 1)
          simp only [Int.ofNat_eq_natCast]
          omega
      · have hk8 : k = (64 - n).toNat := by subst hA; simp [std_add, std_sub, std_mul, std_quo, std_rem, std_band, std_bor, std_bxor, std_shl, std_shr, std_eq, std_ne, std_lt, std_le, std_conv, std_not, std_beq, std_bne, std_ite, std_want, std_and2, std_sadd, std_seq, std_sne, std_slt, std_sle, std_sgt, std_sge, std_slen, std_sget, std_scut, std_ofNat, std_toNat, std_nsub, std_nadd, std_lenOf, std_nz, std_nneg, std_inb, std_upto, std_slt63, std_grow, std_imp, std_impN, std_tr, std_tb, std_ti, std_ts, std_tn, std_tp, std_nmin, std_makes, std_room, std_zeros, std_nilq, std_notq, std_eqi, std_eqn, std_eqb, std_eqs, std_eqv, std_cat, std_lst, std_rset, std_rcopy, std_shift, std_eqr, std_strOf, std_bytesOf, std_isB, std_zOf, zOf_int, std_isI, isI_int, std_getL, std_nmul, std_sOf, sOf_str, std_isS, isS_str] at hc; omega
        subst hA
        simp only [std_add, std_sub, std_mul, std_quo, std_rem, std_band, std_bor, std_bxor, std_shl, std_shr, std_eq, std_ne, std_lt, std_le, std_conv, std_not, std_beq, std_bne, std_ite, std_want, std_and2, std_sadd, std_seq, std_sne, std_slt, std_sle, std_sgt, std_sge, std_slen, std_sget, std_scut, std_ofNat, std_toNat, std_nsub, std_nadd, std_lenOf, std_nz, std_nneg, std_inb, std_upto, std_slt63, std_grow, std_imp, std_impN, std_tr, std_tb, std_ti, std_ts, std_tn, std_tp, std_nmin, std_makes, std_room, std_zeros, std_nilq, std_notq, std_eqi, std_eqn, std_eqb, std_eqs, std_eqv, std_cat, std_lst, std_rset, std_rcopy, std_shift, std_eqr, std_strOf, std_bytesOf, std_isB, std_zOf, zOf_int, std_isI, isI_int, std_getL, std_nmul, std_sOf, sOf_str, std_isS, isS_str]
        have := rem2 (h / 2 ^ k)
        show (((h / 2 ^ k : Nat) : Int).tmod 2 == 1) = bbit h l n
        rw [this, bbit, if_pos (by omega), ← hk8, Nat.testBit_eq_decide_div_mod_eq]
def r26 (A : Ar) (n : Int) : SV := .int .u64 (A.ti fun _ => (2 ^ n.toNat : Nat))
theorem good26 (n : Int) (h1 : 0 ≤ n) (h2 : n ≤ 63) : GoodP Tryz.prog gl0 152 [.int .i64 n] (r26 std n) := by
  refine fn_sound' (T := seatT) (G := noC) (X := noX) seatT_ok noC_ok noX_ok noI_ok mixed Tryz.func152 .one (fun A => [.int .i64 n]) (fun A => r26 A n) fun A hA => ?_
  cbv
  refine ⟨⟨{k : Nat // k ≤ n.toNat}, fun _ k => [(3, .int .u64 (A.ti fun _ => (2 ^ k.1 : Nat))), (4, .int .i64 (k.1 : Nat))], fun _ _ => [], fun k => n.toNat - k.1, true⟩, ⟨⟨0, by omega⟩, ?_⟩, ?_⟩
  · cbv
    subst hA
    simp [std_add, std_sub, std_mul, std_quo, std_rem, std_band, std_bor, std_bxor, std_shl, std_shr, std_eq, std_ne, std_lt, std_le, std_conv, std_not, std_beq, std_bne, std_ite, std_want, std_and2, std_sadd, std_seq, std_sne, std_slt, std_sle, std_sgt, std_sge, std_slen, std_sget, std_scut, std_ofNat, std_toNat, std_nsub, std_nadd, std_lenOf, std_nz, std_nneg, std_inb, std_upto, std_slt63, std_grow, std_imp, std_impN, std_tr, std_tb, std_ti, std_ts, std_tn, std_tp, std_nmin, std_makes, std_room, std_zeros, std_nilq, std_notq, std_eqi, std_eqn, std_eqb, std_eqs, std_eqv, std_cat, std_lst, std_rset, std_rcopy, std_shift, std_eqr, std_strOf, std_bytesOf, std_isB, std_zOf, zOf_int, std_isI, isI_int, std_getL, std_nmul, std_sOf, sOf_str, std_isS, isS_str]
  · rintro ⟨k, hk⟩
    cbv
    repeat' (first | with_reducible exact True.intro | with_reducible exact dr_ok hA (by kernel_rfl) | with_reducible refine And.intro ?_ ?_ | (intro hc; cbv))
    · have hlt : k < n.toNat := by subst hA; simp [std_add, std_sub, std_mul, std_quo, std_rem, std_band, std_bor, std_bxor, std_shl, std_shr, std_eq, std_ne, std_lt, std_le, std_conv, std_not, std_beq, std_bne, std_ite, std_want, std_and2, std_sadd, std_seq, std_sne, std_slt, std_sle, std_sgt, std_sge, std_slen, std_sget, std_scut, std_ofNat, std_toNat, std_nsub, std_nadd, std_lenOf, std_nz, std_nneg, std_inb, std_upto, std_slt63, std_grow, std_imp, std_impN, std_tr, std_tb, std_ti, std_ts, std_tn, std_tp, std_nmin, std_makes, std_room, std_zeros, std_nilq, std_notq, std_eqi, std_eqn, std_eqb, std_eqs, std_eqv, std_cat, std_lst, std_rset, std_rcopy, std_shift, std_eqr, std_strOf, std_bytesOf, std_isB, std_zOf, zOf_int, std_isI, isI_int, std_getL, std_nmul, std_sOf, sOf_str, std_isS, isS_str] at hc; omega
      refine ⟨⟨k + 1, by omega⟩, ?_, show n.toNat - (k + 1) < n.toNat - k by omega⟩
      cbv
      repeat' (first | with_reducible exact True.intro | with_reducible exact dr_ok hA (by kernel_rfl) | with_reducible refine And.intro ?_ ?_ | (intro hc; cbv))
      all_goals (subst hA; simp only [std_add, std_sub, std_mul, std_quo, std_rem, std_band, std_bor, std_bxor, std_shl, std_shr, std_eq, std_ne, std_lt, std_le, std_conv, std_not, std_beq, std_bne, std_ite, std_want, std_and2, std_sadd, std_seq, std_sne, std_slt, std_sle, std_sgt, std_sge, std_slen, std_sget, std_scut, std_ofNat, std_toNat, std_nsub, std_nadd, std_lenOf, std_nz, std_nneg, std_inb, std_upto, std_slt63, std_grow, std_imp, std_impN, std_tr, std_tb, std_ti, std_ts, std_tn, std_tp, std_nmin, std_makes, std_room, std_zeros, std_nilq, std_notq, std_eqi, std_eqn, std_eqb, std_eqs, std_eqv, std_cat, std_lst, std_rset, std_rcopy, std_shift, std_eqr, std_strOf, std_bytesOf, std_isB, std_zOf, zOf_int, std_isI, isI_int, std_getL, std_nmul, std_sOf, sOf_str, std_isS, isS_str])
      · have := pow_lt64 (show k + 1 ≤ 63 by omega)
        show IntKind.u64.wrap (2 * ((2 ^ k : Nat) : Int)) = ((2 ^ (k + 1) : Nat) : Int)
        rw [Nat.pow_succ] at this ⊢
        rw [wu64 ⟨by omega, by omega⟩]
        omega
      · show IntKind.i64.wrap ((k : Int) + 1) = ((k + 1 : Nat) : Int)
        rw [w64 (by omega)]
        omega
    · have hk8 : k = n.toNat := by subst hA; simp [std_add, std_sub, std_mul, std_quo, std_rem, std_band, std_bor, std_bxor, std_shl, std_shr, std_eq, std_ne, std_lt, std_le, std_conv, std_not, std_beq, std_bne, std_ite, std_want, std_and2, std_sadd, std_seq, std_sne, std_slt, std_sle, std_sgt, std_sge, std_slen, std_sget, std_scut, std_ofNat, std_toNat, std_nsub, std_nadd, std_lenOf, std_nz, std_nneg, std_inb, std_upto, std_slt63, std_grow, std_imp, std_impN, std_tr, std_tb, std_ti, std_ts, std_tn, std_tp, std_nmin, std_makes, std_room, std_zeros, std_nilq, std_notq, std_eqi, std_eqn, std_eqb, std_eqs, std_eqv, std_cat, std_lst, std_rset, std_rcopy, std_shift, std_eqr, std_strOf, std_bytesOf, std_isB, std_zOf, zOf_int, std_isI, isI_int, std_getL, std_nmul, std_sOf, sOf_str, std_isS, isS_str] at hc; omega
      subst hA hk8
      simp only [std_add, std_sub, std_mul, std_quo, std_rem, std_band, std_bor, std_bxor, std_shl, std_shr, std_eq, std_ne, std_lt, std_le, std_conv, std_not, std_beq, std_bne, std_ite, std_want, std_and2, std_sadd, std_seq, std_sne, std_slt, std_sle, std_sgt, std_sge, std_slen, std_sget, std_scut, std_ofNat, std_toNat, std_nsub, std_nadd, std_lenOf, std_nz, std_nneg, std_inb, std_upto, std_slt63, std_grow, std_imp, std_impN, std_tr, std_tb, std_ti, std_ts, std_tn, std_tp, std_nmin, std_makes, std_room, std_zeros, std_nilq, std_notq, std_eqi, std_eqn, std_eqb, std_eqs, std_eqv, std_cat, std_lst, std_rset, std_rcopy, std_shift, std_eqr, std_strOf, std_bytesOf, std_isB, std_zOf, zOf_int, std_isI, isI_int, std_getL, std_nmul, std_sOf, sOf_str, std_isS, isS_str]
end Go.Vd

set_option linter.unusedVariables false
set_option linter.unusedSimpArgs false
set_option maxRecDepth 100000
set_option maxHeartbeats 1000000
namespace Go.Vd
open Go.Proofs
noncomputable def c25 : Ct := fun A args => match args with
  | [.agg [.int .u64 h, .int .u64 l], .int .i64 n] => some (some (A.tp fun _ => r64 h ∧ r64 l ∧ 1 ≤ n ∧ n ≤ 128), r25 A h l n)
  | _ => none
noncomputable def c26 : Ct := fun A args => match args with
  | [.int .i64 n] => some (some (A.tp fun _ => 0 ≤ n ∧ n ≤ 63), r26 A n)
  | _ => none
noncomputable def g7 : Ar → Pu := addC 141 c22 (addC 142 c25 (addC 152 c26 g4))
theorem g7_ok : PuOk Tryz.prog gl0 (g7 std) := by
  refine addC_ok (addC_ok (addC_ok g4_ok ⟨_, Tryz.func152, rfl, by decide⟩ ?_) ⟨_, Tryz.func142, rfl, by decide⟩ ?_) ⟨_, Tryz.func141, rfl, by decide⟩ ?_
  · intro args p r h hp
    unfold c26 at h
    split at h <;> cases h
    exact good26 _ hp.1 hp.2
  · intro args p r h hp
    unfold c25 at h
    split at h <;> cases h
    exact good25 _ hp.1 hp.2.1 hp.2.2.1 hp.2.2.2
  · intro args p r h hp
    unfold c22 at h
    split at h <;> cases h
    exact good24 _
theorem bright_bits (h l : Nat) : bright h l = (!bbit h l 65 && (bbit h l 1 == decide (0 < l))) := by
  have e1 : bbit h l 65 = l.testBit 63 := rfl
  have e2 : bbit h l 1 = h.testBit 63 := rfl
  rw [e1, e2, bright]
  congr 2
  rw [decide_eq_decide]; omega
theorem bhas_bit (h l : Nat) (n : Int) : bhas h l n = (bfield n && bbit h l n) := rfl
theorem good12 {h l : Int} (hh : r64 h) (hl : r64 l) : GoodP Tryz.prog gl0 140 [.agg [.int .u64 h, .int .u64 l]] (r11 std h l) := by
  obtain ⟨h, rfl, lh⟩ := r64_nat hh
  obtain ⟨l, rfl, ll⟩ := r64_nat hl
  refine fn_sound' (T := seatT) (G := g7) (X := noX) seatT_ok g7_ok noX_ok noI_ok mixed Tryz.func140 .one (fun A => [.agg [.int .u64 h, .int .u64 l]]) (fun A => r11 A h l) fun A hA => ?_
  cbv
  repeat with_reducible refine And.intro (dr_ok hA (by kernel_rfl)) ?_
  subst hA
  simp [std_add, std_sub, std_mul, std_quo, std_rem, std_band, std_bor, std_bxor, std_shl, std_shr, std_eq, std_ne, std_lt, std_le, std_conv, std_not, std_beq, std_bne, std_ite, std_want, std_and2, std_sadd, std_seq, std_sne, std_slt, std_sle, std_sgt, std_sge, std_slen, std_sget, std_scut, std_ofNat, std_toNat, std_nsub, std_nadd, std_lenOf, std_nz, std_nneg, std_inb, std_upto, std_slt63, std_grow, std_imp, std_impN, std_tr, std_tb, std_ti, std_ts, std_tn, std_tp, std_nmin, std_makes, std_room, std_zeros, std_nilq, std_notq, std_eqi, std_eqn, std_eqb, std_eqs, std_eqv, std_cat, std_lst, std_rset, std_rcopy, std_shift, std_eqr, std_strOf, std_bytesOf, std_isB, std_zOf, zOf_int, std_isI, isI_int, std_getL, std_nmul, std_sOf, sOf_str, std_isS, isS_str, hh, hl, bright_bits]
theorem good14 {h l : Int} (n : Int) (hh : r64 h) (hl : r64 l) : GoodP Tryz.prog gl0 95 [.agg [.int .u64 h, .int .u64 l], .int .i64 n] (r13 std h l n) := by
  obtain ⟨h, rfl, lh⟩ := r64_nat hh
  obtain ⟨l, rfl, ll⟩ := r64_nat hl
  refine fn_sound' (T := seatT) (G := g7) (X := noX) seatT_ok g7_ok noX_ok noI_ok mixed Tryz.func95 .one (fun A => [.agg [.int .u64 h, .int .u64 l], .int .i64 n]) (fun A => r13 A h l n) fun A hA => ?_
  cbv
  repeat with_reducible refine And.intro (dr_ok hA (by kernel_rfl)) ?_
  subst hA
  simp [std_add, std_sub, std_mul, std_quo, std_rem, std_band, std_bor, std_bxor, std_shl, std_shr, std_eq, std_ne, std_lt, std_le, std_conv, std_not, std_beq, std_bne, std_ite, std_want, std_and2, std_sadd, std_seq, std_sne, std_slt, std_sle, std_sgt, std_sge, std_slen, std_sget, std_scut, std_ofNat, std_toNat, std_nsub, std_nadd, std_lenOf, std_nz, std_nneg, std_inb, std_upto, std_slt63, std_grow, std_imp, std_impN, std_tr, std_tb, std_ti, std_ts, std_tn, std_tp, std_nmin, std_makes, std_room, std_zeros, std_nilq, std_notq, std_eqi, std_eqn, std_eqb, std_eqs, std_eqv, std_cat, std_lst, std_rset, std_rcopy, std_shift, std_eqr, std_strOf, std_bytesOf, std_isB, std_zOf, zOf_int, std_isI, isI_int, std_getL, std_nmul, std_sOf, sOf_str, std_isS, isS_str, bhas_bit]
  cases hf : bfield n
  · simp
  · have hf' := bfield_iff.1 hf
    simp [hh, hl]
    omega
noncomputable def g8 : Ar → Pu := addC 140 c11 (addC 95 c13 g7)
theorem g8_ok : PuOk Tryz.prog gl0 (g8 std) := by
  refine addC_ok (addC_ok g7_ok ⟨_, Tryz.func95, rfl, by decide⟩ ?_) ⟨_, Tryz.func140, rfl, by decide⟩ ?_
  · intro args p r h hp
    unfold c13 at h
    split at h <;> cases h
    exact good14 _ hp.1 hp.2
  · intro args p r h hp
    unfold c11 at h
    split at h <;> cases h
    exact good12 hp.1 hp.2
theorem add_or (k : Nat) : ∀ a : Nat, a.testBit k = false → a + 2 ^ k = a ||| 2 ^ k := by
  induction k with
  | zero =>
    intro a h
    apply Nat.eq_of_testBit_eq
    intro i
    have h0 : a % 2 = 0 := by
      rw [Nat.testBit_zero] at h
      have := of_decide_eq_false h
      omega
    cases i with
    | zero => rw [Nat.testBit_or, Nat.testBit_zero, Nat.testBit_zero, Nat.testBit_zero]; simp; omega
    | succ i =>
      rw [Nat.testBit_or, Nat.testBit_succ, Nat.testBit_succ, Nat.testBit_succ]
      rw [show (a + 2 ^ 0) / 2 = a / 2 by simp; omega]
      simp
  | succ k ih =>
    intro a h
    rw [Nat.testBit_succ] at h
    have := ih (a / 2) h
    apply Nat.eq_of_testBit_eq
    intro i
    have hp : 2 ^ (k + 1) = 2 * 2 ^ k := by rw [Nat.pow_succ, Nat.mul_comm]
    cases i with
    | zero => rw [Nat.testBit_or, Nat.testBit_zero, Nat.testBit_zero, Nat.testBit_zero, hp]; simp
    | succ i =>
      rw [Nat.testBit_or, Nat.testBit_succ, Nat.testBit_succ, Nat.testBit_succ, hp]
      rw [show (a + 2 * 2 ^ k) / 2 = a / 2 + 2 ^ k by omega, show 2 * 2 ^ k / 2 = 2 ^ k by omega, this, Nat.testBit_or]
theorem or_same (k : Nat) (a : Nat) (h : a.testBit k = true) : a ||| 2 ^ k = a := by
  apply Nat.eq_of_testBit_eq
  intro i
  rw [Nat.testBit_or, Nat.testBit_two_pow]
  by_cases e : k = i
  · subst e; simp [h]
  · simp [e]
/-- What putting does, by sums. -/
theorem put_had {h l : Nat} {n : Int} (hb : bright h l = true) (hf : bfield n = true) (hq : bbit h l n = true) : bput h l n = (h, l) := by
  have h0 := bright_iff.1 hb
  unfold bbit at hq
  unfold bput
  rw [hb, hf]
  simp only [Bool.and_self, if_true]
  by_cases hn : n ≤ 64
  · rw [if_pos hn] at hq
    simp only [bhi, blo, hn, if_true, Nat.or_zero]
    rw [or_same _ _ hq]
    by_cases hl : l = 0
    · simp [hl]
    · have ht : h.testBit 63 = true := by rw [h0.2]; simp [hl]
      have := or_same 63 h ht
      simp [hl]
      exact this
  · rw [if_neg hn] at hq
    simp only [bhi, blo, hn, if_false, Nat.or_zero]
    rw [or_same _ _ hq]
    have hl : l ≠ 0 := by intro e; subst e; simp at hq
    have ht : h.testBit 63 = true := by rw [h0.2]; simp [hl]
    have := or_same 63 h ht
    simp [hl]
    exact this
theorem put_hi {h l : Nat} {n : Int} (hb : bright h l = true) (hf : bfield n = true) (hq : bbit h l n = false) (hn : n ≤ 64) : bput h l n = (h + 2 ^ (64 - n).toNat, l) := by
  have h0 := bright_iff.1 hb
  have h1 := bfield_iff.1 hf
  unfold bbit at hq
  rw [if_pos hn] at hq
  unfold bput
  rw [hb, hf, add_or _ _ hq]
  simp only [Bool.and_self, if_true, bhi, blo, hn, Nat.or_zero]
  by_cases hl : l = 0
  · simp [hl]
  · have ht : (h ||| 2 ^ (64 - n).toNat).testBit 63 = true := by rw [Nat.testBit_or, h0.2]; simp [hl]
    have := or_same 63 _ ht
    simp [hl]
    exact this
theorem put_lo {h l : Nat} {n : Int} (hb : bright h l = true) (hf : bfield n = true) (hq : bbit h l n = false) (hn : ¬ n ≤ 64) : bput h l n = (if l = 0 then h + 2 ^ 63 else h, l + 2 ^ (128 - n).toNat) := by
  have h0 := bright_iff.1 hb
  have h1 := bfield_iff.1 hf
  unfold bbit at hq
  rw [if_neg hn] at hq
  unfold bput
  rw [hb, hf, add_or _ _ hq]
  have hne : l ||| 2 ^ (128 - n).toNat ≠ 0 := fun e => by
    have := (or_zero_iff.1 e).2
    have := Nat.two_pow_pos (128 - n).toNat
    omega
  simp only [Bool.and_self, if_true, bhi, blo, hn, if_false, Nat.or_zero, hne, ne_eq, not_false_eq_true]
  by_cases hl : l = 0
  · have ht : h.testBit 63 = false := by rw [h0.2]; simp [hl]
    have := add_or 63 h ht
    simp [hl]
    exact this.symm
  · have ht : h.testBit 63 = true := by rw [h0.2]; simp [hl]
    have := or_same 63 h ht
    simp [hl]
    exact this
theorem wsum {a k : Nat} (hb : a + 2 ^ k < 18446744073709551616) : IntKind.u64.wrap ((a : Int) + 2 ^ k) = ((a + 2 ^ k : Nat) : Int) := by
  have e : (a : Int) + 2 ^ k = ((a + 2 ^ k : Nat) : Int) := by simp
  rw [e]
  generalize a + 2 ^ k = m at hb ⊢
  exact wu64 ⟨by omega, by omega⟩
theorem good8 {h l : Int} (n : Int) (hh : r64 h) (hl : r64 l) : GoodP Tryz.prog gl0 117 [.agg [.int .u64 h, .int .u64 l], .int .i64 n] (r7 std h l n) := by
  obtain ⟨h, rfl, lh⟩ := r64_nat hh
  obtain ⟨l, rfl, ll⟩ := r64_nat hl
  refine fn_sound' (T := seatT) (G := g8) (X := noX) seatT_ok g8_ok noX_ok noI_ok mixed Tryz.func117 .one (fun A => [.agg [.int .u64 h, .int .u64 l], .int .i64 n]) (fun A => r7 A h l n) fun A hA => ?_
  cbv
  repeat' (first | with_reducible exact True.intro | with_reducible exact dr_ok hA (by kernel_rfl) | with_reducible refine And.intro ?_ ?_ | (intro hc; cbv))
  all_goals (subst hA; simp [std_add, std_sub, std_mul, std_quo, std_rem, std_band, std_bor, std_bxor, std_shl, std_shr, std_eq, std_ne, std_lt, std_le, std_conv, std_not, std_beq, std_bne, std_ite, std_want, std_and2, std_sadd, std_seq, std_sne, std_slt, std_sle, std_sgt, std_sge, std_slen, std_sget, std_scut, std_ofNat, std_toNat, std_nsub, std_nadd, std_lenOf, std_nz, std_nneg, std_inb, std_upto, std_slt63, std_grow, std_imp, std_impN, std_tr, std_tb, std_ti, std_ts, std_tn, std_tp, std_nmin, std_makes, std_room, std_zeros, std_nilq, std_notq, std_eqi, std_eqn, std_eqb, std_eqs, std_eqv, std_cat, std_lst, std_rset, std_rcopy, std_shift, std_eqr, std_strOf, std_bytesOf, std_isB, std_zOf, zOf_int, std_isI, isI_int, std_getL, std_nmul, std_sOf, sOf_str, std_isS, isS_str] at *)
  all_goals have hlt := bput_lt n lh ll
  all_goals first
    | exact ⟨hh, hl⟩
    | (have hq : (bright h l && bfield n) = false := by rcases hc with hc | hc <;> simp [hc]
       simp [bput, berr, hq]; done)
    | (have hb : bright h l = true ∧ bfield n = true := by assumption
       have hf := bfield_iff.1 hb.2
       first
         | exact ⟨hh, hl, by omega, by omega⟩
         | (simp [berr, hb.1, hb.2]; done)
         | (rw [w64 (by omega)]; omega)
         | (rw [put_had hb.1 hb.2 (by assumption)]; done)
         | (rw [put_hi hb.1 hb.2 (by assumption) (by assumption)] at hlt ⊢
            first
              | done
              | (rw [w64 (by omega)]; exact wsum hlt.1))
         | (rw [put_lo hb.1 hb.2 (by assumption) (by omega)] at hlt ⊢
            first
              | (rw [w64 (by omega)]; exact wsum hlt.2)
              | (simp only [hc, if_true] at hlt ⊢
                 have := wsum hlt.1
                 simpa using this)
              | (simp only [hc, if_false]; done)))
    | trace_state
noncomputable def g9 : Ar → Pu := addC 117 c7 g8
theorem g9_ok : PuOk Tryz.prog gl0 (g9 std) := by
  refine addC_ok g8_ok ⟨_, Tryz.func117, rfl, by decide⟩ ?_
  intro args p r h hp
  unfold c7 at h
  split at h <;> cases h
  exact good8 _ hp.1 hp.2
end Go.Vd

set_option linter.unusedVariables false
set_option linter.unusedSimpArgs false
set_option maxRecDepth 100000
set_option maxHeartbeats 1000000
namespace Go.Vd
open Go.Proofs
theorem good32 (L : List UInt8) (hn : 8 ≤ L.length) : GoodP Tryz.prog gl0 139 [rowS eB 0 1 std fun _ => L] (r31 std fun _ => L) := by
  refine fn_sound' (T := seatT) (G := noC) (X := noX) seatT_ok noC_ok noX_ok noI_ok mixed Tryz.func139 .one (fun A => [rowS eB 0 1 A fun _ => L]) (fun A => r31 A fun _ => L) fun A hA => ?_
  cbv
  refine ⟨⟨{k : Nat // k ≤ 8}, fun _ k => [(3, .int .u64 (A.ti fun _ => numTo L k.1)), (4, .int .i64 (k.1 : Nat))], fun _ _ => [], fun k => 8 - k.1, true⟩, ⟨⟨0, by omega⟩, ?_⟩, ?_⟩
  · cbv
    subst hA
    simp [std_add, std_sub, std_mul, std_quo, std_rem, std_band, std_bor, std_bxor, std_shl, std_shr, std_eq, std_ne, std_lt, std_le, std_conv, std_not, std_beq, std_bne, std_ite, std_want, std_and2, std_sadd, std_seq, std_sne, std_slt, std_sle, std_sgt, std_sge, std_slen, std_sget, std_scut, std_ofNat, std_toNat, std_nsub, std_nadd, std_lenOf, std_nz, std_nneg, std_inb, std_upto, std_slt63, std_grow, std_imp, std_impN, std_tr, std_tb, std_ti, std_ts, std_tn, std_tp, std_nmin, std_makes, std_room, std_zeros, std_nilq, std_notq, std_eqi, std_eqn, std_eqb, std_eqs, std_eqv, std_cat, std_lst, std_rset, std_rcopy, std_shift, std_eqr, std_strOf, std_bytesOf, std_isB, std_zOf, zOf_int, std_isI, isI_int, std_getL, std_nmul, std_sOf, sOf_str, std_isS, isS_str, numTo]
  · rintro ⟨k, hk⟩
    cbv
    repeat' (first | with_reducible exact True.intro | with_reducible exact dr_ok hA (by kernel_rfl) | with_reducible refine And.intro ?_ ?_ | (intro hc; cbv))
    · subst hA; simp [std_add, std_sub, std_mul, std_quo, std_rem, std_band, std_bor, std_bxor, std_shl, std_shr, std_eq, std_ne, std_lt, std_le, std_conv, std_not, std_beq, std_bne, std_ite, std_want, std_and2, std_sadd, std_seq, std_sne, std_slt, std_sle, std_sgt, std_sge, std_slen, std_sget, std_scut, std_ofNat, std_toNat, std_nsub, std_nadd, std_lenOf, std_nz, std_nneg, std_inb, std_upto, std_slt63, std_grow, std_imp, std_impN, std_tr, std_tb, std_ti, std_ts, std_tn, std_tp, std_nmin, std_makes, std_room, std_zeros, std_nilq, std_notq, std_eqi, std_eqn, std_eqb, std_eqs, std_eqv, std_cat, std_lst, std_rset, std_rcopy, std_shift, std_eqr, std_strOf, std_bytesOf, std_isB, std_zOf, zOf_int, std_isI, isI_int, std_getL, std_nmul, std_sOf, sOf_str, std_isS, isS_str] at hc ⊢; omega
    · have hlt : k < 8 := by subst hA; simp [std_add, std_sub, std_mul, std_quo, std_rem, std_band, std_bor, std_bxor, std_shl, std_shr, std_eq, std_ne, std_lt, std_le, std_conv, std_not, std_beq, std_bne, std_ite, std_want, std_and2, std_sadd, std_seq, std_sne, std_slt, std_sle, std_sgt, std_sge, std_slen, std_sget, std_scut, std_ofNat, std_toNat, std_nsub, std_nadd, std_lenOf, std_nz, std_nneg, std_inb, std_upto, std_slt63, std_grow, std_imp, std_impN, std_tr, std_tb, std_ti, std_ts, std_tn, std_tp, std_nmin, std_makes, std_room, std_zeros, std_nilq, std_notq, std_eqi, std_eqn, std_eqb, std_eqs, std_eqv, std_cat, std_lst, std_rset, std_rcopy, std_shift, std_eqr, std_strOf, std_bytesOf, std_isB, std_zOf, zOf_int, std_isI, isI_int, std_getL, std_nmul, std_sOf, sOf_str, std_isS, isS_str] at hc; omega
      refine ⟨⟨k + 1, by omega⟩, ?_, show 8 - (k + 1) < 8 - k by omega⟩
      cbv
      repeat' (first | with_reducible exact True.intro | with_reducible exact dr_ok hA (by kernel_rfl) | with_reducible refine And.intro ?_ ?_ | (intro hc; cbv))
      all_goals (subst hA; simp [std_add, std_sub, std_mul, std_quo, std_rem, std_band, std_bor, std_bxor, std_shl, std_shr, std_eq, std_ne, std_lt, std_le, std_conv, std_not, std_beq, std_bne, std_ite, std_want, std_and2, std_sadd, std_seq, std_sne, std_slt, std_sle, std_sgt, std_sge, std_slen, std_sget, std_scut, std_ofNat, std_toNat, std_nsub, std_nadd, std_lenOf, std_nz, std_nneg, std_inb, std_upto, std_slt63, std_grow, std_imp, std_impN, std_tr, std_tb, std_ti, std_ts, std_tn, std_tp, std_nmin, std_makes, std_room, std_zeros, std_nilq, std_notq, std_eqi, std_eqn, std_eqb, std_eqs, std_eqv, std_cat, std_lst, std_rset, std_rcopy, std_shift, std_eqr, std_strOf, std_bytesOf, std_isB, std_zOf, zOf_int, std_isI, isI_int, std_getL, std_nmul, std_sOf, sOf_str, std_isS, isS_str])
      · have h1 := numTo_lt L k (by omega)
        have h3 : 256 ^ k * 256 ≤ 256 ^ 8 := by rw [← Nat.pow_succ]; exact Nat.pow_le_pow_right (by decide) hlt
        have hs := numTo_succ L k (by omega)
        rw [List.getD_eq_getElem?_getD] at hs
        have hb := UInt8.toNat_lt (L[k]?.getD 0)
        generalize (L[k]?.getD 0).toNat = b at hs hb
        rw [wu64 (n := (b : Int)) ⟨by omega, by omega⟩, wu64 (n := 256 * (numTo L k : Int)) ⟨by omega, by omega⟩, wu64 ⟨by omega, by omega⟩, hs]
        show 256 * (numTo L k : Int) + (b : Int) = ((numTo L k * 256 + b : Nat) : Int)
        omega
      · rw [w64 (by omega)]
    · have : k = 8 := by subst hA; simp [std_add, std_sub, std_mul, std_quo, std_rem, std_band, std_bor, std_bxor, std_shl, std_shr, std_eq, std_ne, std_lt, std_le, std_conv, std_not, std_beq, std_bne, std_ite, std_want, std_and2, std_sadd, std_seq, std_sne, std_slt, std_sle, std_sgt, std_sge, std_slen, std_sget, std_scut, std_ofNat, std_toNat, std_nsub, std_nadd, std_lenOf, std_nz, std_nneg, std_inb, std_upto, std_slt63, std_grow, std_imp, std_impN, std_tr, std_tb, std_ti, std_ts, std_tn, std_tp, std_nmin, std_makes, std_room, std_zeros, std_nilq, std_notq, std_eqi, std_eqn, std_eqb, std_eqs, std_eqv, std_cat, std_lst, std_rset, std_rcopy, std_shift, std_eqr, std_strOf, std_bytesOf, std_isB, std_zOf, zOf_int, std_isI, isI_int, std_getL, std_nmul, std_sOf, sOf_str, std_isS, isS_str] at hc; omega
      subst hA this
      simp [std_add, std_sub, std_mul, std_quo, std_rem, std_band, std_bor, std_bxor, std_shl, std_shr, std_eq, std_ne, std_lt, std_le, std_conv, std_not, std_beq, std_bne, std_ite, std_want, std_and2, std_sadd, std_seq, std_sne, std_slt, std_sle, std_sgt, std_sge, std_slen, std_sget, std_scut, std_ofNat, std_toNat, std_nsub, std_nadd, std_lenOf, std_nz, std_nneg, std_inb, std_upto, std_slt63, std_grow, std_imp, std_impN, std_tr, std_tb, std_ti, std_ts, std_tn, std_tp, std_nmin, std_makes, std_room, std_zeros, std_nilq, std_notq, std_eqi, std_eqn, std_eqb, std_eqs, std_eqv, std_cat, std_lst, std_rset, std_rcopy, std_shift, std_eqr, std_strOf, std_bytesOf, std_isB, std_zOf, zOf_int, std_isI, isI_int, std_getL, std_nmul, std_sOf, sOf_str, std_isS, isS_str]
def beFrom (v k : Nat) : List UInt8 := (List.range 8).map fun i => if 8 - k ≤ i then byteAt v i else 0
theorem beFrom_get (v k i : Nat) (h : i < 8) : (beFrom v k)[i]?.getD 0 = if 8 - k ≤ i then byteAt v i else 0 := by simp [beFrom, h]
theorem beFrom_len (v k : Nat) : (beFrom v k).length = 8 := by simp [beFrom]
theorem beFrom_zero (v : Nat) : List.replicate 8 0 = beFrom v 0 := by
  apply List.ext_getElem
  · simp [beFrom]
  · intro i h1 h2
    simp at h1
    have := beFrom_get v 0 i h1
    rw [if_neg (by omega), List.getElem?_eq_getElem h2] at this
    rw [List.getElem_replicate]
    exact this.symm
theorem beFrom_set (v k : Nat) (hk : k < 8) : (beFrom v k).set (7 - k) (byteAt v (7 - k)) = beFrom v (k + 1) := by
  apply List.ext_getElem
  · simp [beFrom]
  · intro i h1 h2
    rw [beFrom_len] at h2
    have a := beFrom_get v k i h2
    have b := beFrom_get v (k + 1) i h2
    rw [List.getElem?_eq_getElem (by rw [beFrom_len]; exact h2), Option.getD_some] at a b
    rw [List.getElem_set, a, b]
    by_cases e : 7 - k = i
    · subst e; rw [if_pos rfl, if_pos (by omega)]
    · rw [if_neg e]
      by_cases h3 : 8 - k ≤ i
      · rw [if_pos h3, if_pos (by omega)]
      · rw [if_neg h3, if_neg (by omega)]
theorem beFrom_byte (v k : Nat) (hk : k < 8) : IntKind.u8.wrap (((v : Int) / 256 ^ k).tmod 256) = ((byteAt v (7 - k)).toNat : Int) := by
  rw [byteAt_nat, show 7 - (7 - k) = k by omega, show (v : Int) / 256 ^ k = ((v / 256 ^ k : Nat) : Int) by simp, show ((v / 256 ^ k : Nat) : Int).tmod 256 = ((v / 256 ^ k % 256 : Nat) : Int) from rfl, wu8, Nat.mod_mod]
theorem beFrom_all (v : Nat) : beFrom v 8 = be8 v := by simp [beFrom, be8]
def r30 (A : Ar) (v : Int) : SV := .frs 5 1 8 (rowF eB 0 A fun _ => be8 v.toNat)
theorem good30 {v : Int} (hv : r64 v) : GoodP Tryz.prog gl0 153 [.int .u64 v] (r30 std v) := by
  obtain ⟨v, rfl, lv⟩ := r64_nat hv
  refine fn_sound' (T := seatT) (G := noC) (X := noX) seatT_ok noC_ok noX_ok noI_ok mixed Tryz.func153 .one (fun A => [.int .u64 v]) (fun A => r30 A v) fun A hA => ?_
  cbv
  repeat' (first | with_reducible exact True.intro | with_reducible exact dr_ok hA (by kernel_rfl) | with_reducible refine And.intro ?_ ?_ | (intro hc; cbv))
  · subst hA; simp [std_add, std_sub, std_mul, std_quo, std_rem, std_band, std_bor, std_bxor, std_shl, std_shr, std_eq, std_ne, std_lt, std_le, std_conv, std_not, std_beq, std_bne, std_ite, std_want, std_and2, std_sadd, std_seq, std_sne, std_slt, std_sle, std_sgt, std_sge, std_slen, std_sget, std_scut, std_ofNat, std_toNat, std_nsub, std_nadd, std_lenOf, std_nz, std_nneg, std_inb, std_upto, std_slt63, std_grow, std_imp, std_impN, std_tr, std_tb, std_ti, std_ts, std_tn, std_tp, std_nmin, std_makes, std_room, std_zeros, std_nilq, std_notq, std_eqi, std_eqn, std_eqb, std_eqs, std_eqv, std_cat, std_lst, std_rset, std_rcopy, std_shift, std_eqr, std_strOf, std_bytesOf, std_isB, std_zOf, zOf_int, std_isI, isI_int, std_getL, std_nmul, std_sOf, sOf_str, std_isS, isS_str]
  · refine ⟨⟨{k : Nat // k ≤ 8}, fun b k => [(0, .int .u64 (A.ti fun _ => (v / 256 ^ k.1 : Nat))), (3, .own 1), (4, .int .i64 (A.ti fun _ => 7 - Int.ofNat k.1))], fun b k => [(1, .row 5 1 8 (rowF eB 0 A fun _ => beFrom v k.1))], fun k => 8 - k.1, true⟩, ⟨⟨0, by omega⟩, ?_⟩, ?_⟩
    · cbv
      repeat' (first | with_reducible exact True.intro | with_reducible exact dr_ok hA (by kernel_rfl) | with_reducible refine And.intro ?_ ?_ | (intro hc; cbv))
      all_goals (subst hA; simp [std_add, std_sub, std_mul, std_quo, std_rem, std_band, std_bor, std_bxor, std_shl, std_shr, std_eq, std_ne, std_lt, std_le, std_conv, std_not, std_beq, std_bne, std_ite, std_want, std_and2, std_sadd, std_seq, std_sne, std_slt, std_sle, std_sgt, std_sge, std_slen, std_sget, std_scut, std_ofNat, std_toNat, std_nsub, std_nadd, std_lenOf, std_nz, std_nneg, std_inb, std_upto, std_slt63, std_grow, std_imp, std_impN, std_tr, std_tb, std_ti, std_ts, std_tn, std_tp, std_nmin, std_makes, std_room, std_zeros, std_nilq, std_notq, std_eqi, std_eqn, std_eqb, std_eqs, std_eqv, std_cat, std_lst, std_rset, std_rcopy, std_shift, std_eqr, std_strOf, std_bytesOf, std_isB, std_zOf, zOf_int, std_isI, isI_int, std_getL, std_nmul, std_sOf, sOf_str, std_isS, isS_str])
      exact eqr_of (Reps.fill (x := 0) (cell_eB rfl) (fun _ => rfl)) rfl (beFrom_zero v)
    · rintro ⟨k, hk⟩
      cbv
      repeat' (first | with_reducible exact True.intro | with_reducible exact dr_ok hA (by kernel_rfl) | with_reducible refine And.intro ?_ ?_ | (intro hc; cbv))
      all_goals try (subst hA; simp [std_add, std_sub, std_mul, std_quo, std_rem, std_band, std_bor, std_bxor, std_shl, std_shr, std_eq, std_ne, std_lt, std_le, std_conv, std_not, std_beq, std_bne, std_ite, std_want, std_and2, std_sadd, std_seq, std_sne, std_slt, std_sle, std_sgt, std_sge, std_slen, std_sget, std_scut, std_ofNat, std_toNat, std_nsub, std_nadd, std_lenOf, std_nz, std_nneg, std_inb, std_upto, std_slt63, std_grow, std_imp, std_impN, std_tr, std_tb, std_ti, std_ts, std_tn, std_tp, std_nmin, std_makes, std_room, std_zeros, std_nilq, std_notq, std_eqi, std_eqn, std_eqb, std_eqs, std_eqv, std_cat, std_lst, std_rset, std_rcopy, std_shift, std_eqr, std_strOf, std_bytesOf, std_isB, std_zOf, zOf_int, std_isI, isI_int, std_getL, std_nmul, std_sOf, sOf_str, std_isS, isS_str]; done)
      all_goals try (subst hA; simp [std_add, std_sub, std_mul, std_quo, std_rem, std_band, std_bor, std_bxor, std_shl, std_shr, std_eq, std_ne, std_lt, std_le, std_conv, std_not, std_beq, std_bne, std_ite, std_want, std_and2, std_sadd, std_seq, std_sne, std_slt, std_sle, std_sgt, std_sge, std_slen, std_sget, std_scut, std_ofNat, std_toNat, std_nsub, std_nadd, std_lenOf, std_nz, std_nneg, std_inb, std_upto, std_slt63, std_grow, std_imp, std_impN, std_tr, std_tb, std_ti, std_ts, std_tn, std_tp, std_nmin, std_makes, std_room, std_zeros, std_nilq, std_notq, std_eqi, std_eqn, std_eqb, std_eqs, std_eqv, std_cat, std_lst, std_rset, std_rcopy, std_shift, std_eqr, std_strOf, std_bytesOf, std_isB, std_zOf, zOf_int, std_isI, isI_int, std_getL, std_nmul, std_sOf, sOf_str, std_isS, isS_str] at hc ⊢; omega)
      · have hlt : k < 8 := by subst hA; simp [std_add, std_sub, std_mul, std_quo, std_rem, std_band, std_bor, std_bxor, std_shl, std_shr, std_eq, std_ne, std_lt, std_le, std_conv, std_not, std_beq, std_bne, std_ite, std_want, std_and2, std_sadd, std_seq, std_sne, std_slt, std_sle, std_sgt, std_sge, std_slen, std_sget, std_scut, std_ofNat, std_toNat, std_nsub, std_nadd, std_lenOf, std_nz, std_nneg, std_inb, std_upto, std_slt63, std_grow, std_imp, std_impN, std_tr, std_tb, std_ti, std_ts, std_tn, std_tp, std_nmin, std_makes, std_room, std_zeros, std_nilq, std_notq, std_eqi, std_eqn, std_eqb, std_eqs, std_eqv, std_cat, std_lst, std_rset, std_rcopy, std_shift, std_eqr, std_strOf, std_bytesOf, std_isB, std_zOf, zOf_int, std_isI, isI_int, std_getL, std_nmul, std_sOf, sOf_str, std_isS, isS_str] at hc; omega
        refine ⟨⟨k + 1, by omega⟩, ?_, show 8 - (k + 1) < 8 - k by omega⟩
        cbv
        repeat' (first | with_reducible exact True.intro | with_reducible exact dr_ok hA (by kernel_rfl) | with_reducible refine And.intro ?_ ?_ | (intro hc; cbv))
        all_goals (subst hA; simp [std_add, std_sub, std_mul, std_quo, std_rem, std_band, std_bor, std_bxor, std_shl, std_shr, std_eq, std_ne, std_lt, std_le, std_conv, std_not, std_beq, std_bne, std_ite, std_want, std_and2, std_sadd, std_seq, std_sne, std_slt, std_sle, std_sgt, std_sge, std_slen, std_sget, std_scut, std_ofNat, std_toNat, std_nsub, std_nadd, std_lenOf, std_nz, std_nneg, std_inb, std_upto, std_slt63, std_grow, std_imp, std_impN, std_tr, std_tb, std_ti, std_ts, std_tn, std_tp, std_nmin, std_makes, std_room, std_zeros, std_nilq, std_notq, std_eqi, std_eqn, std_eqb, std_eqs, std_eqv, std_cat, std_lst, std_rset, std_rcopy, std_shift, std_eqr, std_strOf, std_bytesOf, std_isB, std_zOf, zOf_int, std_isI, isI_int, std_getL, std_nmul, std_sOf, sOf_str, std_isS, isS_str])
        · rw [show (v : Int) / 256 ^ (k + 1) = ((v / 256 ^ (k + 1) : Nat) : Int) by simp, show (v : Int) / 256 ^ k = ((v / 256 ^ k : Nat) : Int) by simp, show ((v / 256 ^ k : Nat) : Int).tdiv 256 = ((v / 256 ^ k / 256 : Nat) : Int) from rfl, Nat.div_div_eq_div_mul, ← Nat.pow_succ]
          have := Nat.lt_of_le_of_lt (Nat.div_le_self v (256 ^ (k + 1))) lv
          generalize v / 256 ^ (k + 1) = m at this ⊢
          exact wu64 ⟨by omega, by omega⟩
        · rw [w64 (by omega)]; omega
        · exact eqr_of (Reps.rset' (k := 1) (enc := eB) ⟨beFrom_len v k, fun i j hi hj => .refl _⟩ (by omega) (byteAt v (7 - k)) rfl (cell_eB (beFrom_byte v k hlt))) rfl (beFrom_set v k hlt)
      all_goals (have : k = 8 := by subst hA; simp [std_add, std_sub, std_mul, std_quo, std_rem, std_band, std_bor, std_bxor, std_shl, std_shr, std_eq, std_ne, std_lt, std_le, std_conv, std_not, std_beq, std_bne, std_ite, std_want, std_and2, std_sadd, std_seq, std_sne, std_slt, std_sle, std_sgt, std_sge, std_slen, std_sget, std_scut, std_ofNat, std_toNat, std_nsub, std_nadd, std_lenOf, std_nz, std_nneg, std_inb, std_upto, std_slt63, std_grow, std_imp, std_impN, std_tr, std_tb, std_ti, std_ts, std_tn, std_tp, std_nmin, std_makes, std_room, std_zeros, std_nilq, std_notq, std_eqi, std_eqn, std_eqb, std_eqs, std_eqv, std_cat, std_lst, std_rset, std_rcopy, std_shift, std_eqr, std_strOf, std_bytesOf, std_isB, std_zOf, zOf_int, std_isI, isI_int, std_getL, std_nmul, std_sOf, sOf_str, std_isS, isS_str] at hc; omega)
      all_goals (subst hA this; simp [std_add, std_sub, std_mul, std_quo, std_rem, std_band, std_bor, std_bxor, std_shl, std_shr, std_eq, std_ne, std_lt, std_le, std_conv, std_not, std_beq, std_bne, std_ite, std_want, std_and2, std_sadd, std_seq, std_sne, std_slt, std_sle, std_sgt, std_sge, std_slen, std_sget, std_scut, std_ofNat, std_toNat, std_nsub, std_nadd, std_lenOf, std_nz, std_nneg, std_inb, std_upto, std_slt63, std_grow, std_imp, std_impN, std_tr, std_tb, std_ti, std_ts, std_tn, std_tp, std_nmin, std_makes, std_room, std_zeros, std_nilq, std_notq, std_eqi, std_eqn, std_eqb, std_eqs, std_eqv, std_cat, std_lst, std_rset, std_rcopy, std_shift, std_eqr, std_strOf, std_bytesOf, std_isB, std_zOf, zOf_int, std_isI, isI_int, std_getL, std_nmul, std_sOf, sOf_str, std_isS, isS_str, beFrom_all])
noncomputable def c30 : Ct := fun A args => match args with
  | [.int .u64 v] => some (some (A.tp fun _ => r64 v), r30 A v)
  | _ => none
noncomputable def ga : Ar → Pu := addC 153 c30 (addC 139 c31 g9)
theorem ga_ok : PuOk Tryz.prog gl0 (ga std) := by
  refine addC_ok (addC_ok g9_ok ⟨_, Tryz.func139, rfl, by decide⟩ ?_) ⟨_, Tryz.func153, rfl, by decide⟩ ?_
  · intro args p r h hp
    unfold c31 at h
    split at h <;> cases h
    exact good_sv (good32 _ (by rw [lstOf_length hp.1]; exact hp.2)) ⟨hp.1.sv, trivial⟩
  · intro args p r h hp
    unfold c30 at h
    split at h <;> cases h
    exact good30 hp
end Go.Vd

set_option linter.unusedVariables false
set_option linter.unusedSimpArgs false
set_option maxRecDepth 100000
set_option maxHeartbeats 1000000
namespace Go.Vd
open Go.Proofs
/-- One cast, one form. -/
theorem ncast (n : Nat) : @NatCast.natCast Int instNatCastInt n = (n : Int) := rfl
/-- The bytes of a bitmap that is right, as the reference has them. -/
def bref (h l : Nat) : List UInt8 := if l = 0 then be8 h else be8 h ++ be8 l
def r19 (A : Ar) (h l : Int) : SV := rowS eB 0 1 A fun _ => bref h.toNat l.toNat
theorem good19 {h l : Int} (hh : r64 h) (hl : r64 l) : GoodP Tryz.prog gl0 119 [.agg [.int .u64 h, .int .u64 l]] (r19 std h l) := by
  obtain ⟨h, rfl, lh⟩ := r64_nat hh
  obtain ⟨l, rfl, ll⟩ := r64_nat hl
  refine fn_sound' (T := seatT) (G := ga) (X := noX) seatT_ok ga_ok noX_ok noI_ok mixed Tryz.func119 .none (fun A => [.agg [.int .u64 h, .int .u64 l]]) (fun A => r19 A h l) fun A hA => ?_
  cbv
  repeat' (first | with_reducible exact True.intro | with_reducible exact dr_ok hA (by kernel_rfl) | with_reducible refine And.intro ?_ ?_ | (intro hc; cbv))
  all_goals (subst hA; simp [std_add, std_sub, std_mul, std_quo, std_rem, std_band, std_bor, std_bxor, std_shl, std_shr, std_eq, std_ne, std_lt, std_le, std_conv, std_not, std_beq, std_bne, std_ite, std_want, std_and2, std_sadd, std_seq, std_sne, std_slt, std_sle, std_sgt, std_sge, std_slen, std_sget, std_scut, std_ofNat, std_toNat, std_nsub, std_nadd, std_lenOf, std_nz, std_nneg, std_inb, std_upto, std_slt63, std_grow, std_imp, std_impN, std_tr, std_tb, std_ti, std_ts, std_tn, std_tp, std_nmin, std_makes, std_room, std_zeros, std_nilq, std_notq, std_eqi, std_eqn, std_eqb, std_eqs, std_eqv, std_cat, std_lst, std_rset, std_rcopy, std_shift, std_eqr, std_strOf, std_bytesOf, std_isB, std_zOf, zOf_int, std_isI, isI_int, std_getL, std_nmul, std_sOf, sOf_str, std_isS, isS_str] at *)
  all_goals first
    | assumption
    | (simp [bref, hc, be8_len]; done)
    | (simp only [bref, hc, if_false]; exact eqr_of (Reps.catE (Reps.lit (be8 h)) (Reps.lit (be8 l)) (be8_len h)) (by simp [be8_len]) rfl)
    | trace_state
theorem brM_iff (L : List UInt8) (h : 8 ≤ L.length) : brM L = decide (128 ≤ (L.getD 0 0).toNat) := by
  have h1 := numTo_div L 1 7 (by omega)
  have h2 : numTo L 1 = (L.getD 0 0).toNat := by
    rw [numTo_succ L 0 (by omega)]; simp [numTo]
  have h3 := UInt8.toNat_lt (L.getD 0 0)
  rw [h2] at h1
  unfold brM brH
  rw [Nat.testBit_eq_decide_div_mod_eq]
  have h4 : numTo L 8 / 2 ^ 63 = (L.getD 0 0).toNat / 128 := by
    rw [← h1, Nat.div_div_eq_div_mul]
  rw [h4]
  congr 1
  apply propext
  omega
theorem good21 (L : List UInt8) (hn : L.length ≤ 9223372036854775807) : GoodP Tryz.prog gl0 94 [rowS eB 0 1 std fun _ => L] (r20 std fun _ => L) := by
  refine fn_sound' (T := seatT) (G := ga) (X := noX) seatT_ok ga_ok noX_ok noI_ok mixed Tryz.func94 .one (fun A => [rowS eB 0 1 A fun _ => L]) (fun A => r20 A fun _ => L) fun A hA => ?_
  cbv
  repeat' (first | with_reducible exact True.intro | with_reducible exact dr_ok hA (by kernel_rfl) | with_reducible refine And.intro ?_ ?_ | (intro hc; cbv))
  all_goals (subst hA; simp [std_add, std_sub, std_mul, std_quo, std_rem, std_band, std_bor, std_bxor, std_shl, std_shr, std_eq, std_ne, std_lt, std_le, std_conv, std_not, std_beq, std_bne, std_ite, std_want, std_and2, std_sadd, std_seq, std_sne, std_slt, std_sle, std_sgt, std_sge, std_slen, std_sget, std_scut, std_ofNat, std_toNat, std_nsub, std_nadd, std_lenOf, std_nz, std_nneg, std_inb, std_upto, std_slt63, std_grow, std_imp, std_impN, std_tr, std_tb, std_ti, std_ts, std_tn, std_tp, std_nmin, std_makes, std_room, std_zeros, std_nilq, std_notq, std_eqi, std_eqn, std_eqb, std_eqs, std_eqv, std_cat, std_lst, std_rset, std_rcopy, std_shift, std_eqr, std_strOf, std_bytesOf, std_isB, std_zOf, zOf_int, std_isI, isI_int, std_getL, std_nmul, std_sOf, sOf_str, std_isS, isS_str, ncast, strOf_lit, lstOf_lit inj_eB, lstOf_lit inj_eZ, lstOf_lit inj_eBs, lstOf_lit inj_eS, isRow_lit, isB_lit, isRow_nil, lstOf_nil inj_eB, lstOf_nil inj_eZ, lstOf_nil inj_eBs, lstOf_nil inj_eS, lst_drop, row_drop] at *)
  all_goals try omega
  · by_cases e : L.length < 8
    · simp [br1, brE, e]
    · have hb : brM L = true := by rw [brM_iff L (by omega)]; simp; omega
      simp [br1, brE, e, hb, show L.length < 16 by omega]
  · by_cases e : L.length < 8
    · simp [br2, brE, e]
    · have hb : brM L = true := by rw [brM_iff L (by omega)]; simp; omega
      simp [br2, brE, e, hb, show L.length < 16 by omega]
  · by_cases e : L.length < 8
    · simp [brN, brE, e]
    · have hb : brM L = true := by rw [brM_iff L (by omega)]; simp; omega
      simp [brN, brE, e, hb, show L.length < 16 by omega]
  · by_cases e : L.length < 8
    · simp [brE, e]
    · have hb : brM L = true := by rw [brM_iff L (by omega)]; simp; omega
      simp [brE, e, hb, show L.length < 16 by omega]
  all_goals first
    | exact ⟨numTo_r _ (by omega), numTo_r _ (by simp; omega)⟩
    | exact ⟨numTo_r _ (by omega), r64_of (by decide)⟩
    | (have hb : brM L = true := by rw [brM_iff L (by omega)]; simp; omega
       have e1 : ¬ L.length < 8 := by omega
       have e2 : ¬ L.length < 16 := by omega
       simp [br1, br2, brN, brE, brL, e1, e2, hb, brH, hc]; done)
    | (have hb : brM L = false := by rw [brM_iff L (by omega)]; simp; omega
       have e1 : ¬ L.length < 8 := by omega
       simp [br1, br2, brN, brE, brL, e1, hb, brH, hc]; done)
theorem bright_ne {h l : Nat} (hb : bright h l = true) : bref h l = bbytes h l := by
  have := bright_iff.1 hb
  unfold bref bbytes
  rw [hb, this.2]
  by_cases e : l = 0 <;> simp [e]
noncomputable def c19 : Ct := fun A args => match args with
  | [.agg [.int .u64 h, .int .u64 l]] => some (some (A.tp fun _ => r64 h ∧ r64 l), r19 A h l)
  | _ => none
noncomputable def gb : Ar → Pu := addC 119 c19 (addC 94 c20 ga)
theorem gb_ok : PuOk Tryz.prog gl0 (gb std) := by
  refine addC_ok (addC_ok ga_ok ⟨_, Tryz.func94, rfl, by decide⟩ ?_) ⟨_, Tryz.func119, rfl, by decide⟩ ?_
  · intro args p r h hp
    unfold c20 at h
    split at h <;> cases h
    exact good_sv (good21 _ (by rw [lstOf_length hp.1]; exact hp.2)) ⟨hp.1.sv, trivial⟩
  · intro args p r h hp
    unfold c19 at h
    split at h <;> cases h
    exact good19 hp.1 hp.2
end Go.Vd

set_option linter.unusedVariables false
set_option linter.unusedSimpArgs false
set_option maxRecDepth 100000
set_option maxHeartbeats 8000000
namespace Go.Vd
open Go.Proofs
noncomputable def c_rHas2 : Ct := fun A args => match args with
  | [.agg [.int .u64 h, .int .u64 l], .int .i64 n] => some (some (A.tp fun _ => r64 h ∧ r64 l), r13 A h l n)
  | _ => none
noncomputable def c_rRead2 : Ct := fun A args => match args with
  | [.slc n 1 f] => some (some (A.tp fun _ => isRow eB 0 1 n f ∧ n ≤ 9223372036854775807), r20 A fun _ => lstOf eB 0 1 n f)
  | _ => none
noncomputable def c_rRead8 : Ct := fun A args => match args with
  | [.int .i64 n, .slc m 1 f] => some (some (A.tp fun _ => isRow eB 0 1 m f ∧ m ≤ 1000000), .tup [.str (A.ts fun _ => (fRd n (lstOf eB 0 1 m f)).1), .int .i64 (A.ti fun _ => ((fRd n (lstOf eB 0 1 m f)).2.1 : Int)), .int .i64 (A.ti fun _ => (fRd n (lstOf eB 0 1 m f)).2.2)])
  | _ => none
noncomputable def gM8 : Ar → Pu := addC 95 c_rHas2 (addC 94 c_rRead2 (addC 96 c_rRead8 (gM7)))
theorem gM8_ok : PuOk Tryz.prog gl0 (gM8 std) := by
  refine addC_ok (addC_ok (addC_ok (gM7_ok) ⟨_, Tryz.func96, rfl, by decide⟩ ?_) ⟨_, Tryz.func94, rfl, by decide⟩ ?_) ⟨_, Tryz.func95, rfl, by decide⟩ ?_
  · intro args p r h hp
    unfold c_rRead8 at h
    split at h <;> cases h
    exact good_sv (good_rRead _ _ (by rw [lstOf_length hp.1]; exact hp.2)) ⟨rfl, hp.1.sv, trivial⟩
  · intro args p r h hp
    unfold c_rRead2 at h
    split at h <;> cases h
    exact good_sv (good21 _ (by rw [lstOf_length hp.1]; exact hp.2)) ⟨hp.1.sv, trivial⟩
  · intro args p r h hp
    unfold c_rHas2 at h
    split at h <;> cases h
    exact good14 _ hp.1 hp.2
theorem bfTo_pre (h l f : Nat) (hf : 2 ≤ f) : ∀ k, ∃ G, bfieldsTo h l (f + k) = bfieldsTo h l f ++ G
  | 0 => ⟨[], by simp⟩
  | k + 1 => by
    obtain ⟨G, hG⟩ := bfTo_pre h l f hf k
    have := bfieldsTo_succ h l (f + k) (by omega)
    rw [show f + k + 1 = f + (k + 1) by omega] at this
    rw [this]
    split
    · exact ⟨_, by rw [hG, List.append_assoc]⟩
    · exact ⟨_, hG⟩
theorem rIt_err {h l f : Nat} {X : List UInt8} (hf : 2 ≤ f) (hf2 : f ≤ 129) (he : ¬(itF (bfieldsTo h l f) X).1 = 0) : itF (bfields h l) X = itF (bfieldsTo h l f) X := by
  obtain ⟨G, hG⟩ := bfTo_pre h l f hf (129 - f)
  rw [show f + (129 - f) = 129 by omega] at hG
  unfold bfields
  rw [hG]
  unfold itF at *
  rw [List.foldl_append, it_stop _ _ he]
theorem rIt_yes {h l f : Nat} {X : List UInt8} {I : List It} {d : Nat} (hf : 2 ≤ f) (hb : bhas h l f = true) (hI : itF (bfieldsTo h l f) X = (0, I, X.drop d)) :
    itF (bfieldsTo h l (f + 1)) X = itStep (0, I, X.drop d) (f : Int) := by
  rw [bfieldsTo_succ h l f hf, if_pos hb, itF_snoc, hI]
theorem rIt_no {h l f : Nat} {X : List UInt8} (hf : 2 ≤ f) (hb : bhas h l f = false) : itF (bfieldsTo h l (f + 1)) X = itF (bfieldsTo h l f) X := by
  rw [bfieldsTo_succ h l f hf, hb]; rfl
theorem rIt_end {h l : Nat} {X C : List UInt8} {I : List It} (hI : itF (bfieldsTo h l 129) X = (0, I, C)) : I = [] ↔ bfields h l = [] := by
  have g := it_good _ _ _ _ _ (show (bfields h l).foldl itStep (0, [], X) = (0, I, C) from hI)
  obtain ⟨L, hL, hF, _, _⟩ := g
  rw [List.nil_append] at hL
  subst hL
  constructor
  · intro e; rw [← hF, e]; rfl
  · intro e; rw [e] at hF; exact List.map_eq_nil_iff.1 hF
theorem rIt_le {h l f : Nat} {X : List UInt8} (hf : 2 ≤ f) (hf2 : f ≤ 129) : (itF (bfieldsTo h l f) X).2.1.length ≤ 129 := by
  have h1 := (itF_len (bfieldsTo h l f) X).1
  have h2 := bfields_len h l
  obtain ⟨G, hG⟩ := bfTo_pre h l f hf (129 - f)
  rw [show f + (129 - f) = 129 by omega] at hG
  unfold bfields at h2
  rw [hG, List.length_append] at h2
  omega
/-- At field f, byte a of B: what was read so far. -/
def rOk (B : List UInt8) (f a : Nat) (I : List It) : Prop := 2 ≤ f ∧ f ≤ 129 ∧ a ≤ B.length ∧ itF (bfieldsTo (br1 (B.drop 4)) (br2 (B.drop 4)) f) ((mC B).drop (brN (mC B)).toNat) = (0, I, B.drop a)
def rS (B : List UInt8) : Nat := 4 + (brN (B.drop 4)).toNat
theorem rOk_0 {B : List UInt8} (h4 : ¬B.length < 4) (hE : brE (B.drop 4) = 0) : rOk B 2 (rS B) [] := by
  have hN := brN_le (B.drop 4)
  have h := hN.2.2 hE
  rw [List.length_drop] at h
  refine ⟨by omega, by omega, by unfold rS; omega, ?_⟩
  show itF [] _ = _
  unfold itF mC rS
  rw [List.foldl_nil, List.drop_drop]
theorem rOk_no {B : List UInt8} {f a : Nat} {I : List It} (h : rOk B f a I) (hf : f ≤ 128) (hb : bhas (br1 (B.drop 4)) (br2 (B.drop 4)) (f : Int) = false) : rOk B (f + 1) a I := by
  obtain ⟨h1, h2, h3, h4⟩ := h
  exact ⟨by omega, by omega, h3, by rw [rIt_no h1 hb]; exact h4⟩
theorem rOk_step {B : List UInt8} {f a : Nat} {I : List It} (h : rOk B f a I) (hb : bhas (br1 (B.drop 4)) (br2 (B.drop 4)) (f : Int) = true) : itF (bfieldsTo (br1 (B.drop 4)) (br2 (B.drop 4)) (f + 1)) ((mC B).drop (brN (mC B)).toNat) = itStep (0, I, B.drop a) (f : Int) := by
  obtain ⟨h1, h2, h3, h4⟩ := h
  rw [bfieldsTo_succ _ _ f h1, if_pos hb, itF_snoc, h4]
theorem rOk_yes {B : List UInt8} {f a : Nat} {I : List It} (h : rOk B f a I) (hf : f ≤ 128) (hb : bhas (br1 (B.drop 4)) (br2 (B.drop 4)) (f : Int) = true) (he : (fRd f (B.drop a)).2.2 = 0) : rOk B (f + 1) (a + (fRd f (B.drop a)).2.1) (I ++ [((f : Int), (fRd f (B.drop a)).1)]) := by
  have hst := rOk_step h hb
  rw [it_yes he, List.drop_drop] at hst
  have hr := rd_le f (B.drop a)
  rw [List.length_drop] at hr
  have h3 := h.2.2.1
  have h1 := h.1
  exact ⟨by omega, by omega, by omega, hst⟩
theorem rOk_err {B : List UInt8} {f a : Nat} {I : List It} (h : rOk B f a I) (hf : f ≤ 128) (hb : bhas (br1 (B.drop 4)) (br2 (B.drop 4)) (f : Int) = true) (he : ¬(fRd f (B.drop a)).2.2 = 0) (h4 : ¬B.length < 4) (hT : mT (B.take 4) = true) (hE : brE (B.drop 4) = 0) : mRe B = (fRd f (B.drop a)).2.2 := by
  have h1 := h.1
  have hst := rOk_step h hb
  rw [it_no he] at hst
  have hI := rIt_err (h := br1 (B.drop 4)) (l := br2 (B.drop 4)) (X := (mC B).drop (brN (mC B)).toNat) (f := f + 1) (by omega) (by omega) (by rw [hst]; exact he)
  rw [hst] at hI
  have hI2 : mIt B = ((fRd f (B.drop a)).2.2, [], []) := hI
  have hne : ¬mFs B = [] := fun e => by
    unfold mIt at hI2
    rw [e] at hI2
    have := congrArg (fun o => o.1) hI2
    exact he this.symm
  rw [mRe_5 h4 hT hE hne (by rw [hI2]; exact he), hI2]
theorem rOk_end {B : List UInt8} {a : Nat} {I : List It} (h : rOk B 129 a I) (h4 : ¬B.length < 4) (hT : mT (B.take 4) = true) (hE : brE (B.drop 4) = 0) :
    (I = [] → mRe B = 3) ∧ (¬I = [] → a < B.length → mRe B = 4) ∧ (¬I = [] → ¬a < B.length → mRe B = 0 ∧ mRL B = I ∧ mRT B = B.take 4) := by
  have hI : mIt B = (0, I, B.drop a) := h.2.2.2
  have hn := rIt_end h.2.2.2
  have hF : mFs B = bfields (br1 (B.drop 4)) (br2 (B.drop 4)) := rfl
  have h3 := h.2.2.1
  refine ⟨fun e => mRe_4 h4 hT hE (by rw [hF]; exact hn.1 e), fun e ha => ?_, fun e ha => ?_⟩
  · rw [mRe_6 h4 hT hE (by rw [hF]; exact fun q => e (hn.2 q)) (by rw [hI]), hI]
    rw [if_neg]
    intro q
    have := congrArg List.length q
    simp at this
    omega
  · have h0 : mRe B = 0 := by
      rw [mRe_6 h4 hT hE (by rw [hF]; exact fun q => e (hn.2 q)) (by rw [hI]), hI]
      exact if_pos (List.drop_eq_nil_of_le (by omega))
    refine ⟨h0, ?_, ?_⟩
    · unfold mRL; rw [if_pos h0, hI]
    · unfold mRT; rw [if_pos h0]
theorem at_add {a n a' L : Nat} (h : a' = a + n) (hn : n ≤ L - a) (ha : a ≤ L) (hL : L ≤ 1000000) : IntKind.i64.wrap ((a : Int) + (n : Int)) = (a' : Int) := by
  rw [w64 (by omega)]; omega
theorem good_rRead4 (B : List UInt8) (hB : B.length ≤ 1000000) : GoodP Tryz.prog gl0 44 [rowS eB 0 1 std fun _ => B] (.tup [.agg [.str (std.ts fun _ => mRT B), rowS eI (0, []) 2 std fun _ => mRL B], .int .i64 (std.ti fun _ => mRe B)]) := by
  refine fn_sound' (T := seatT) (G := gM8) (X := noX) seatT_ok gM8_ok noX_ok noI_ok mixed Tryz.func44 (.none) (fun A => [rowS eB 0 1 A fun _ => B]) (fun A => .tup [.agg [.str (A.ts fun _ => mRT B), rowS eI (0, []) 2 A fun _ => mRL B], .int .i64 (A.ti fun _ => mRe B)]) fun A hA => ?_
  cbv
  repeat' (first | with_reducible exact True.intro | with_reducible exact dr_ok hA (by kernel_rfl) | with_reducible refine And.intro ?_ ?_ | (intro hc; cbv))
  all_goals (have hN := brN_le (List.drop 4 B))
  all_goals (have hcut := cut4 B)
  all_goals (have hw : IntKind.i64.wrap (4 + brN (List.drop 4 B)) = 4 + brN (List.drop 4 B) := w64 (by omega))
  all_goals (have hfl := bfields_len (br1 (List.drop 4 B)) (br2 (List.drop 4 B)))
  all_goals first
    | (fail_if_success (refine Exists.intro ?_ ?_)
       subst hA; simp [-List.getD_eq_getElem?_getD, std_add, std_sub, std_mul, std_quo, std_rem, std_band, std_bor, std_bxor, std_shl, std_shr, std_eq, std_ne, std_lt, std_le, std_conv, std_not, std_beq, std_bne, std_ite, std_want, std_and2, std_sadd, std_seq, std_sne, std_slt, std_sle, std_sgt, std_sge, std_slen, std_sget, std_scut, std_ofNat, std_toNat, std_nsub, std_nadd, std_lenOf, std_nz, std_nneg, std_inb, std_upto, std_slt63, std_grow, std_imp, std_impN, std_tr, std_tb, std_ti, std_ts, std_tn, std_tp, std_nmin, std_makes, std_room, std_zeros, std_nilq, std_notq, std_eqi, std_eqn, std_eqb, std_eqs, std_eqv, std_cat, std_lst, std_rset, std_rcopy, std_shift, std_eqr, std_strOf, std_bytesOf, std_isB, std_zOf, zOf_int, std_isI, isI_int, std_getL, std_nmul, std_sOf, sOf_str, std_isS, isS_str, strOf_lit, lstOf_lit inj_eB, lstOf_lit inj_eZ, lstOf_lit inj_eBs, lstOf_lit inj_eS, isRow_lit, isB_lit, isRow_nil, lstOf_nil inj_eB, lstOf_nil inj_eZ, lstOf_nil inj_eBs, lstOf_nil inj_eS, lst_drop, row_drop] at *
       first
         | omega
         | exact isB_any B 4
         | (have h4 : B.length < 4 := by omega
            have h := mRe_1 h4
            have hb := mR_bad (B := B) (by rw [h]; decide)
            first
              | (rw [h]; done)
              | (rw [hb.1]; done)
              | (rw [hb.2]; done)
              | (rw [hb.2]; rfl))
         | (have h4 : ¬B.length < 4 := by omega
            have hT : strOfS 4 (rowF eB 0 std fun _ => B) = B.take 4 := cutS B (by omega)
            try simp only [hT] at *
            first
              | (have h1 : mT (B.take 4) = false := by assumption
                 have h := mRe_2 h4 h1
                 have hb := mR_bad (B := B) (by rw [h]; decide)
                 first
                   | (rw [h]; done)
                   | (rw [hb.1]; done)
                   | (rw [hb.2]; done)
                   | (rw [hb.2]; rfl))
              | (have h1 : mT (B.take 4) = true := by assumption
                 have h2 : ¬brE (mC B) = 0 := by assumption
                 have h := mRe_3 h4 h1 h2
                 have hb := mR_bad (B := B) (by rw [h]; exact h2)
                 first
                   | (rw [h]; done)
                   | (rw [h]; rfl)
                   | (rw [hb.1]; done)
                   | (rw [hb.2]; done)
                   | (rw [hb.2]; rfl))
              | trace_state)
         | trace_state)
    | skip
  have hh : ¬B.length < 4 ∧ mT (B.take 4) = true ∧ brE (B.drop 4) = 0 := by
    clear hcut hw hfl
    rename_i q1 q2
    clear hN
    subst hA; simp [-List.getD_eq_getElem?_getD, std_add, std_sub, std_mul, std_quo, std_rem, std_band, std_bor, std_bxor, std_shl, std_shr, std_eq, std_ne, std_lt, std_le, std_conv, std_not, std_beq, std_bne, std_ite, std_want, std_and2, std_sadd, std_seq, std_sne, std_slt, std_sle, std_sgt, std_sge, std_slen, std_sget, std_scut, std_ofNat, std_toNat, std_nsub, std_nadd, std_lenOf, std_nz, std_nneg, std_inb, std_upto, std_slt63, std_grow, std_imp, std_impN, std_tr, std_tb, std_ti, std_ts, std_tn, std_tp, std_nmin, std_makes, std_room, std_zeros, std_nilq, std_notq, std_eqi, std_eqn, std_eqb, std_eqs, std_eqv, std_cat, std_lst, std_rset, std_rcopy, std_shift, std_eqr, std_strOf, std_bytesOf, std_isB, std_zOf, zOf_int, std_isI, isI_int, std_getL, std_nmul, std_sOf, sOf_str, std_isS, isS_str, strOf_lit, lstOf_lit inj_eB, lstOf_lit inj_eZ, lstOf_lit inj_eBs, lstOf_lit inj_eS, isRow_lit, isB_lit, isRow_nil, lstOf_nil inj_eB, lstOf_nil inj_eZ, lstOf_nil inj_eBs, lstOf_nil inj_eS, lst_drop, row_drop] at q1 q2 hc
    have hT : strOfS 4 (rowF eB 0 std fun _ => B) = B.take 4 := cutS B (by omega)
    simp only [hT] at q2
    exact ⟨by omega, q2, hc⟩
  obtain ⟨h4, hT, hE⟩ := hh
  have hS := rOk_0 h4 hE
  obtain ⟨a0, ha0⟩ : ∃ a0, a0 = rS B := ⟨_, rfl⟩
  rw [← ha0] at hS
  unfold rS at ha0
  refine ⟨⟨{p : Nat × Nat × List It // rOk B p.1 p.2.1 p.2.2}, fun b p => [(9, .int .i64 (p.1.1 : Nat)), (8, .int .i64 (p.1.2.1 : Nat))], fun b p => [(b, .row 107 2 (A.tn fun _ => p.1.2.2.length) (rowF eI (0, []) A fun _ => p.1.2.2)), (27, .box 51 [.str (A.strOf (A.toNat 4) (rowF eB 0 A fun _ => B)), .own b])], fun p => 129 - p.1.1, true⟩, ⟨⟨(2, a0, []), hS⟩, ?_⟩, ?_⟩
  · cbv
    subst hA
    clear hcut hfl
    simp (maxSteps := 4000000) [-List.getD_eq_getElem?_getD, std_add, std_sub, std_mul, std_quo, std_rem, std_band, std_bor, std_bxor, std_shl, std_shr, std_eq, std_ne, std_lt, std_le, std_conv, std_not, std_beq, std_bne, std_ite, std_want, std_and2, std_sadd, std_seq, std_sne, std_slt, std_sle, std_sgt, std_sge, std_slen, std_sget, std_scut, std_ofNat, std_toNat, std_nsub, std_nadd, std_lenOf, std_nz, std_nneg, std_inb, std_upto, std_slt63, std_grow, std_imp, std_impN, std_tr, std_tb, std_ti, std_ts, std_tn, std_tp, std_nmin, std_makes, std_room, std_zeros, std_nilq, std_notq, std_eqi, std_eqn, std_eqb, std_eqs, std_eqv, std_cat, std_lst, std_rset, std_rcopy, std_shift, std_eqr, std_strOf, std_bytesOf, std_isB, std_zOf, zOf_int, std_isI, isI_int, std_getL, std_nmul, std_sOf, sOf_str, std_isS, isS_str, strOf_lit, lstOf_lit inj_eB, lstOf_lit inj_eZ, lstOf_lit inj_eBs, lstOf_lit inj_eS, isRow_lit, isB_lit, isRow_nil, lstOf_nil inj_eB, lstOf_nil inj_eZ, lstOf_nil inj_eBs, lstOf_nil inj_eS, lst_drop, row_drop, hw]
    first
      | omega
      | trace_state
  · rintro ⟨⟨f, a, I⟩, hI⟩
    simp only at hI
    have hf1 := hI.1
    have hf2 := hI.2.1
    have ha := hI.2.2.1
    have hIl : I.length ≤ 129 := by
      have := rIt_le (h := br1 (B.drop 4)) (l := br2 (B.drop 4)) (X := (mC B).drop (brN (mC B)).toNat) hf1 hf2
      rw [hI.2.2.2] at this
      exact this
    have hrl := rd_le f (B.drop a)
    rw [List.length_drop] at hrl
    clear hcut hw hfl hN hS
    cbv
    repeat' (first | with_reducible exact True.intro | with_reducible exact dr_ok hA (by kernel_rfl) | with_reducible refine And.intro ?_ ?_ | (intro hc; cbv))
    all_goals first
      | (fail_if_success (refine Exists.intro ?_ ?_)
         subst hA
         simp [-List.getD_eq_getElem?_getD, std_add, std_sub, std_mul, std_quo, std_rem, std_band, std_bor, std_bxor, std_shl, std_shr, std_eq, std_ne, std_lt, std_le, std_conv, std_not, std_beq, std_bne, std_ite, std_want, std_and2, std_sadd, std_seq, std_sne, std_slt, std_sle, std_sgt, std_sge, std_slen, std_sget, std_scut, std_ofNat, std_toNat, std_nsub, std_nadd, std_lenOf, std_nz, std_nneg, std_inb, std_upto, std_slt63, std_grow, std_imp, std_impN, std_tr, std_tb, std_ti, std_ts, std_tn, std_tp, std_nmin, std_makes, std_room, std_zeros, std_nilq, std_notq, std_eqi, std_eqn, std_eqb, std_eqs, std_eqv, std_cat, std_lst, std_rset, std_rcopy, std_shift, std_eqr, std_strOf, std_bytesOf, std_isB, std_zOf, zOf_int, std_isI, isI_int, std_getL, std_nmul, std_sOf, sOf_str, std_isS, isS_str, strOf_lit, lstOf_lit inj_eB, lstOf_lit inj_eZ, lstOf_lit inj_eBs, lstOf_lit inj_eS, isRow_lit, isB_lit, isRow_nil, lstOf_nil inj_eB, lstOf_nil inj_eZ, lstOf_nil inj_eBs, lstOf_nil inj_eS, lst_drop, row_drop] at *
         first
           | done
           | omega
           | (constructor <;> omega)
           | assumption
           | exact br_r64 hE
           | (have hlt : f ≤ 128 := by omega
              have hb : bhas (br1 (B.drop 4)) (br2 (B.drop 4)) (f : Int) = true := by assumption
              have he : ¬(fRd f (B.drop a)).2.2 = 0 := by assumption
              have h := rOk_err hI hlt hb he (by omega) hT hE
              have hbd := mR_bad (B := B) (by rw [h]; exact he)
              first
                | (rw [h]; done)
                | (rw [hbd.1]; done)
                | (rw [hbd.2]; done)
                | (rw [hbd.2]; rfl))
           | (have hfe : f = 129 := by omega
              subst hfe
              have h := rOk_end hI (by omega) hT hE
              first
                | (have he : I = [] := by assumption
                   have h3 := h.1 he
                   have hbd := mR_bad (B := B) (by rw [h3]; decide)
                   first
                     | (rw [h3]; done)
                     | (rw [hbd.1]; done)
                     | (rw [hbd.2]; done)
                     | (rw [hbd.2]; rfl))
                | (have he : ¬I = [] := by assumption
                   first
                     | (have h3 := h.2.1 he (by omega)
                        have hbd := mR_bad (B := B) (by rw [h3]; decide)
                        first
                          | (rw [h3]; done)
                          | (rw [hbd.1]; done)
                          | (rw [hbd.2]; done)
                          | (rw [hbd.2]; rfl))
                     | (have h3 := h.2.2 he (by omega)
                        first
                          | (rw [h3.1]; done)
                          | (rw [h3.2.1]; done)
                          | (rw [h3.2.1]; exact (Reps.lit _).eqr)
                          | (rw [h3.2.2]; exact cutS B (by omega))
                          | (rw [h3.2.2]; done)
                          | trace_state)
                     | trace_state)
                | trace_state)
           | trace_state)
      | (have hlt : f ≤ 128 := by (subst hA; simp [std_add, std_sub, std_mul, std_quo, std_rem, std_band, std_bor, std_bxor, std_shl, std_shr, std_eq, std_ne, std_lt, std_le, std_conv, std_not, std_beq, std_bne, std_ite, std_want, std_and2, std_sadd, std_seq, std_sne, std_slt, std_sle, std_sgt, std_sge, std_slen, std_sget, std_scut, std_ofNat, std_toNat, std_nsub, std_nadd, std_lenOf, std_nz, std_nneg, std_inb, std_upto, std_slt63, std_grow, std_imp, std_impN, std_tr, std_tb, std_ti, std_ts, std_tn, std_tp, std_nmin, std_makes, std_room, std_zeros, std_nilq, std_notq, std_eqi, std_eqn, std_eqb, std_eqs, std_eqv, std_cat, std_lst, std_rset, std_rcopy, std_shift, std_eqr, std_strOf, std_bytesOf, std_isB, std_zOf, zOf_int, std_isI, isI_int, std_getL, std_nmul, std_sOf, sOf_str, std_isS, isS_str] at *; omega)
         first
           | (have hb : bhas (br1 (B.drop 4)) (br2 (B.drop 4)) (f : Int) = false := by (subst hA; simp [-List.getD_eq_getElem?_getD, std_add, std_sub, std_mul, std_quo, std_rem, std_band, std_bor, std_bxor, std_shl, std_shr, std_eq, std_ne, std_lt, std_le, std_conv, std_not, std_beq, std_bne, std_ite, std_want, std_and2, std_sadd, std_seq, std_sne, std_slt, std_sle, std_sgt, std_sge, std_slen, std_sget, std_scut, std_ofNat, std_toNat, std_nsub, std_nadd, std_lenOf, std_nz, std_nneg, std_inb, std_upto, std_slt63, std_grow, std_imp, std_impN, std_tr, std_tb, std_ti, std_ts, std_tn, std_tp, std_nmin, std_makes, std_room, std_zeros, std_nilq, std_notq, std_eqi, std_eqn, std_eqb, std_eqs, std_eqv, std_cat, std_lst, std_rset, std_rcopy, std_shift, std_eqr, std_strOf, std_bytesOf, std_isB, std_zOf, zOf_int, std_isI, isI_int, std_getL, std_nmul, std_sOf, sOf_str, std_isS, isS_str, strOf_lit, lstOf_lit inj_eB, lstOf_lit inj_eZ, lstOf_lit inj_eBs, lstOf_lit inj_eS, isRow_lit, isB_lit, isRow_nil, lstOf_nil inj_eB, lstOf_nil inj_eZ, lstOf_nil inj_eBs, lstOf_nil inj_eS, lst_drop, row_drop] at hc; exact hc)
              have hn := rOk_no hI hlt hb
              obtain ⟨f', hf'⟩ : ∃ f', f' = f + 1 := ⟨_, rfl⟩
              refine ⟨⟨(f', a, I), by rw [hf']; exact hn⟩, ?_, show 129 - f' < 129 - f by omega⟩
              cbv
              subst hA
              simp (maxSteps := 4000000) [-List.getD_eq_getElem?_getD, std_add, std_sub, std_mul, std_quo, std_rem, std_band, std_bor, std_bxor, std_shl, std_shr, std_eq, std_ne, std_lt, std_le, std_conv, std_not, std_beq, std_bne, std_ite, std_want, std_and2, std_sadd, std_seq, std_sne, std_slt, std_sle, std_sgt, std_sge, std_slen, std_sget, std_scut, std_ofNat, std_toNat, std_nsub, std_nadd, std_lenOf, std_nz, std_nneg, std_inb, std_upto, std_slt63, std_grow, std_imp, std_impN, std_tr, std_tb, std_ti, std_ts, std_tn, std_tp, std_nmin, std_makes, std_room, std_zeros, std_nilq, std_notq, std_eqi, std_eqn, std_eqb, std_eqs, std_eqv, std_cat, std_lst, std_rset, std_rcopy, std_shift, std_eqr, std_strOf, std_bytesOf, std_isB, std_zOf, zOf_int, std_isI, isI_int, std_getL, std_nmul, std_sOf, sOf_str, std_isS, isS_str, strOf_lit, lstOf_lit inj_eB, lstOf_lit inj_eZ, lstOf_lit inj_eBs, lstOf_lit inj_eS, isRow_lit, isB_lit, isRow_nil, lstOf_nil inj_eB, lstOf_nil inj_eZ, lstOf_nil inj_eBs, lstOf_nil inj_eS, lst_drop, row_drop]
              first
                | exact (w64 (by omega)).trans (by omega)
                | trace_state)
           | (have hq : bhas (br1 (B.drop 4)) (br2 (B.drop 4)) (f : Int) = true ∧ (fRd f (B.drop a)).2.2 = 0 := by (subst hA; simp [-List.getD_eq_getElem?_getD, std_add, std_sub, std_mul, std_quo, std_rem, std_band, std_bor, std_bxor, std_shl, std_shr, std_eq, std_ne, std_lt, std_le, std_conv, std_not, std_beq, std_bne, std_ite, std_want, std_and2, std_sadd, std_seq, std_sne, std_slt, std_sle, std_sgt, std_sge, std_slen, std_sget, std_scut, std_ofNat, std_toNat, std_nsub, std_nadd, std_lenOf, std_nz, std_nneg, std_inb, std_upto, std_slt63, std_grow, std_imp, std_impN, std_tr, std_tb, std_ti, std_ts, std_tn, std_tp, std_nmin, std_makes, std_room, std_zeros, std_nilq, std_notq, std_eqi, std_eqn, std_eqb, std_eqs, std_eqv, std_cat, std_lst, std_rset, std_rcopy, std_shift, std_eqr, std_strOf, std_bytesOf, std_isB, std_zOf, zOf_int, std_isI, isI_int, std_getL, std_nmul, std_sOf, sOf_str, std_isS, isS_str, strOf_lit, lstOf_lit inj_eB, lstOf_lit inj_eZ, lstOf_lit inj_eBs, lstOf_lit inj_eS, isRow_lit, isB_lit, isRow_nil, lstOf_nil inj_eB, lstOf_nil inj_eZ, lstOf_nil inj_eBs, lstOf_nil inj_eS, lst_drop, row_drop] at *; exact ⟨by assumption, by assumption⟩)
              have hn := rOk_yes hI hlt hq.1 hq.2
              obtain ⟨f', hf'⟩ : ∃ f', f' = f + 1 := ⟨_, rfl⟩
              obtain ⟨a', ha'⟩ : ∃ a', a' = a + (fRd f (B.drop a)).2.1 := ⟨_, rfl⟩
              obtain ⟨I', hI'⟩ : ∃ I', I' = I ++ [((f : Int), (fRd f (B.drop a)).1)] := ⟨_, rfl⟩
              refine ⟨⟨(f', a', I'), by rw [hf', ha', hI']; exact hn⟩, ?_, show 129 - f' < 129 - f by omega⟩
              cbv
              subst hA
              simp (maxSteps := 4000000) [-List.getD_eq_getElem?_getD, std_add, std_sub, std_mul, std_quo, std_rem, std_band, std_bor, std_bxor, std_shl, std_shr, std_eq, std_ne, std_lt, std_le, std_conv, std_not, std_beq, std_bne, std_ite, std_want, std_and2, std_sadd, std_seq, std_sne, std_slt, std_sle, std_sgt, std_sge, std_slen, std_sget, std_scut, std_ofNat, std_toNat, std_nsub, std_nadd, std_lenOf, std_nz, std_nneg, std_inb, std_upto, std_slt63, std_grow, std_imp, std_impN, std_tr, std_tb, std_ti, std_ts, std_tn, std_tp, std_nmin, std_makes, std_room, std_zeros, std_nilq, std_notq, std_eqi, std_eqn, std_eqb, std_eqs, std_eqv, std_cat, std_lst, std_rset, std_rcopy, std_shift, std_eqr, std_strOf, std_bytesOf, std_isB, std_zOf, zOf_int, std_isI, isI_int, std_getL, std_nmul, std_sOf, sOf_str, std_isS, isS_str, strOf_lit, lstOf_lit inj_eB, lstOf_lit inj_eZ, lstOf_lit inj_eBs, lstOf_lit inj_eS, isRow_lit, isB_lit, isRow_nil, lstOf_nil inj_eB, lstOf_nil inj_eZ, lstOf_nil inj_eBs, lstOf_nil inj_eS, lst_drop, row_drop]
              refine ⟨⟨?_, ?_⟩, ?_, ?_⟩
              all_goals first | exact at_add ha' hrl ha hB | exact (w64 (by omega)).trans (by omega) | (rw [hI']; simp; done) | exact snoc_row rfl (cell_eI _ _) hI'.symm (by rw [hI']; simp) | trace_state)
           | trace_state)
      | trace_state
end Go.Vd

set_option linter.unusedVariables false
set_option linter.unusedSimpArgs false
set_option maxRecDepth 100000
set_option maxHeartbeats 8000000
namespace Go.Vd
open Go.Proofs
theorem beq_dec (x n : Int) : (x == n) = decide (x = n) := by rw [Bool.eq_iff_iff]; simp
theorem knR_ex : ∃ L : List (List UInt8), L = knL := ⟨_, rfl⟩
/-- The types, kept folded. -/
noncomputable def knR : List (List UInt8) := Classical.choose knR_ex
theorem knR_eq : knR = knL := Classical.choose_spec knR_ex
theorem knR_ty : knR = typesL := knR_eq
theorem knR_len : knR.length = 7 := by rw [knR_eq]; rfl
theorem kd_iff {T : List UInt8} {i : Nat} (hi : i < 7) : knR.getD i [] = T ↔ kdOf T = (i : Int) + 1 := by
  rw [knR_ty]
  constructor
  · exact kd_at hi
  · intro h
    unfold kdOf at h
    repeat' split at h
    all_goals first
      | (exfalso; omega)
      | (rename_i e
         subst e
         rcases (show i = 0 ∨ i = 1 ∨ i = 2 ∨ i = 3 ∨ i = 4 ∨ i = 5 ∨ i = 6 by omega) with rfl | rfl | rfl | rfl | rfl | rfl | rfl <;> first | rfl | (exfalso; omega))
theorem kd_le (T : List UInt8) : 0 ≤ kdOf T ∧ kdOf T ≤ 7 := by
  unfold kdOf
  repeat' split
  all_goals omega
theorem tyOf_R {k : Int} (h : 1 ≤ k ∧ k ≤ 7) : knR.getD (k - 1).toNat [] = tyOf k := by
  rw [knR_ty]
  rcases (show k = 1 ∨ k = 2 ∨ k = 3 ∨ k = 4 ∨ k = 5 ∨ k = 6 ∨ k = 7 by omega) with rfl | rfl | rfl | rfl | rfl | rfl | rfl <;> rfl
theorem good_rTypes  : GoodP Tryz.prog gl0 98 [] (rowS eS [] 1 std fun _ => knR) := by
  refine fn_sound' (T := seatT) (G := noC) (X := noX) seatT_ok noC_ok noX_ok noI_ok mixed Tryz.func98 (.none) (fun A => []) (fun A => rowS eS [] 1 A fun _ => knR) fun A hA => ?_
  cbv
  repeat' (first | with_reducible exact True.intro | with_reducible exact dr_ok hA (by kernel_rfl) | with_reducible refine And.intro ?_ ?_ | (intro hc; cbv))
  all_goals (subst hA; simp only [std_add, std_sub, std_mul, std_quo, std_rem, std_band, std_bor, std_bxor, std_shl, std_shr, std_eq, std_ne, std_lt, std_le, std_conv, std_not, std_beq, std_bne, std_ite, std_want, std_and2, std_sadd, std_seq, std_sne, std_slt, std_sle, std_sgt, std_sge, std_slen, std_sget, std_scut, std_ofNat, std_toNat, std_nsub, std_nadd, std_lenOf, std_nz, std_nneg, std_inb, std_upto, std_slt63, std_grow, std_imp, std_impN, std_tr, std_tb, std_ti, std_ts, std_tn, std_tp, std_nmin, std_makes, std_room, std_zeros, std_nilq, std_notq, std_eqi, std_eqn, std_eqb, std_eqs, std_eqv, std_cat, std_lst, std_rset, std_rcopy, std_shift, std_eqr, std_strOf, std_bytesOf, std_isB, std_zOf, zOf_int, std_isI, isI_int, std_getL, std_nmul, std_sOf, sOf_str, std_isS, isS_str])
  · rw [knR_eq]; rfl
  · rw [knR_eq]; exact (s_rep knL).eqr
theorem good_rOrigin (x : List UInt8) (hx : x.length ≤ 1000) : GoodP Tryz.prog gl0 101 [.str x] (.str (std.ts fun _ => frst x)) := by
  refine fn_sound' (T := seatT) (G := noC) (X := noX) seatT_ok noC_ok noX_ok noI_ok mixed Tryz.func101 (.one) (fun A => [.str x]) (fun A => .str (A.ts fun _ => frst x)) fun A hA => ?_
  cbv
  repeat' (first | with_reducible exact True.intro | with_reducible exact dr_ok hA (by kernel_rfl) | with_reducible refine And.intro ?_ ?_ | (intro hc; cbv))
  all_goals (subst hA; simp [std_add, std_sub, std_mul, std_quo, std_rem, std_band, std_bor, std_bxor, std_shl, std_shr, std_eq, std_ne, std_lt, std_le, std_conv, std_not, std_beq, std_bne, std_ite, std_want, std_and2, std_sadd, std_seq, std_sne, std_slt, std_sle, std_sgt, std_sge, std_slen, std_sget, std_scut, std_ofNat, std_toNat, std_nsub, std_nadd, std_lenOf, std_nz, std_nneg, std_inb, std_upto, std_slt63, std_grow, std_imp, std_impN, std_tr, std_tb, std_ti, std_ts, std_tn, std_tp, std_nmin, std_makes, std_room, std_zeros, std_nilq, std_notq, std_eqi, std_eqn, std_eqb, std_eqs, std_eqv, std_cat, std_lst, std_rset, std_rcopy, std_shift, std_eqr, std_strOf, std_bytesOf, std_isB, std_zOf, zOf_int, std_isI, isI_int, std_getL, std_nmul, std_sOf, sOf_str, std_isS, isS_str] at *)
  all_goals first
    | omega
    | (simp [frst]; done)
    | trace_state
theorem good_rAsks6 (k : Int) : GoodP Tryz.prog gl0 66 [.int .i64 k] (.bool (std.tb fun _ => dAsks k)) := by
  refine fn_sound' (T := seatT) (G := noC) (X := noX) seatT_ok noC_ok noX_ok noI_ok mixed Tryz.func66 (.one) (fun A => [.int .i64 k]) (fun A => .bool (A.tb fun _ => dAsks k)) fun A hA => ?_
  cbv
  repeat' (first | with_reducible exact True.intro | with_reducible exact dr_ok hA (by kernel_rfl) | with_reducible refine And.intro ?_ ?_ | (intro hc; cbv))
  all_goals (subst hA; simp [std_add, std_sub, std_mul, std_quo, std_rem, std_band, std_bor, std_bxor, std_shl, std_shr, std_eq, std_ne, std_lt, std_le, std_conv, std_not, std_beq, std_bne, std_ite, std_want, std_and2, std_sadd, std_seq, std_sne, std_slt, std_sle, std_sgt, std_sge, std_slen, std_sget, std_scut, std_ofNat, std_toNat, std_nsub, std_nadd, std_lenOf, std_nz, std_nneg, std_inb, std_upto, std_slt63, std_grow, std_imp, std_impN, std_tr, std_tb, std_ti, std_ts, std_tn, std_tp, std_nmin, std_makes, std_room, std_zeros, std_nilq, std_notq, std_eqi, std_eqn, std_eqb, std_eqs, std_eqv, std_cat, std_lst, std_rset, std_rcopy, std_shift, std_eqr, std_strOf, std_bytesOf, std_isB, std_zOf, zOf_int, std_isI, isI_int, std_getL, std_nmul, std_sOf, sOf_str, std_isS, isS_str] at *)
  all_goals first
    | (unfold dAsks; rw [Bool.eq_iff_iff]; simp; done)
    | (unfold dAsks; rw [Bool.eq_iff_iff]; simp; omega)
    | trace_state
noncomputable def c_rTypes : Ct := fun A args => match args with
  | [] => some (none, rowS eS [] 1 A fun _ => knR)
  | _ => none
noncomputable def c_rOrigin : Ct := fun A args => match args with
  | [.str x] => some (some (A.tp fun _ => x.length ≤ 1000), .str (A.ts fun _ => frst x))
  | _ => none
noncomputable def c_rAsks6 : Ct := fun A args => match args with
  | [.int .i64 k] => some (none, .bool (A.tb fun _ => dAsks k))
  | _ => none
noncomputable def c_rRight46 : Ct := fun A args => match args with
  | [.agg [.str T, .slc n 2 f]] => some (some (A.tp fun _ => isRow eI (0, []) 2 n f ∧ n ≤ 1000000 ∧ ∀ i, ((lstOf eI (0, []) 2 n f).getD i (0, [])).2.length ≤ 1000000), .bool (A.tb fun _ => mR T (lstOf eI (0, []) 2 n f)))
  | _ => none
noncomputable def gO7 : Ar → Pu := addC 98 c_rTypes (addC 101 c_rOrigin (addC 66 c_rAsks6 (addC 97 c_rRight46 (gO6))))
theorem gO7_ok : PuOk Tryz.prog gl0 (gO7 std) := by
  refine addC_ok (addC_ok (addC_ok (addC_ok (gO6_ok) ⟨_, Tryz.func97, rfl, by decide⟩ ?_) ⟨_, Tryz.func66, rfl, by decide⟩ ?_) ⟨_, Tryz.func101, rfl, by decide⟩ ?_) ⟨_, Tryz.func98, rfl, by decide⟩ ?_
  · intro args p r h hp
    unfold c_rRight46 at h
    split at h <;> cases h
    exact good_sv (good_rRight4 _ _ (by rw [lstOf_length hp.1]; exact hp.2.1) hp.2.2) ⟨⟨_, rfl, rfl, hp.1.sv, trivial⟩, trivial⟩
  · intro args p r h hp
    unfold c_rAsks6 at h
    split at h <;> cases h
    exact good_rAsks6 _
  · intro args p r h hp
    unfold c_rOrigin at h
    split at h <;> cases h
    exact good_rOrigin _ hp
  · intro args p r h hp
    unfold c_rTypes at h
    split at h <;> cases h
    exact good_rTypes
theorem good_rRight6 (k a s : Int) (p r c : List UInt8) (hp : p.length ≤ 100000) (hr : r.length ≤ 1000000) (hcc : c.length ≤ 1000000) : GoodP Tryz.prog gl0 27 [.agg [.int .i64 k, .str p, .int .u64 a, .int .u32 s, .str r, .str c]] (.bool (std.tb fun _ => dR k a s p r c)) := by
  refine fn_sound' (T := seatT) (G := gO7) (X := noX) seatT_ok gO7_ok noX_ok noI_ok mixed Tryz.func27 (.one) (fun A => [.agg [.int .i64 k, .str p, .int .u64 a, .int .u32 s, .str r, .str c]]) (fun A => .bool (A.tb fun _ => dR k a s p r c)) fun A hA => ?_
  cbv
  repeat' (first | with_reducible exact True.intro | with_reducible exact dr_ok hA (by kernel_rfl) | with_reducible refine And.intro ?_ ?_ | (intro hc; cbv))
  all_goals (subst hA; simp [-List.getD_eq_getElem?_getD, std_add, std_sub, std_mul, std_quo, std_rem, std_band, std_bor, std_bxor, std_shl, std_shr, std_eq, std_ne, std_lt, std_le, std_conv, std_not, std_beq, std_bne, std_ite, std_want, std_and2, std_sadd, std_seq, std_sne, std_slt, std_sle, std_sgt, std_sge, std_slen, std_sget, std_scut, std_ofNat, std_toNat, std_nsub, std_nadd, std_lenOf, std_nz, std_nneg, std_inb, std_upto, std_slt63, std_grow, std_imp, std_impN, std_tr, std_tb, std_ti, std_ts, std_tn, std_tp, std_nmin, std_makes, std_room, std_zeros, std_nilq, std_notq, std_eqi, std_eqn, std_eqb, std_eqs, std_eqv, std_cat, std_lst, std_rset, std_rcopy, std_shift, std_eqr, std_strOf, std_bytesOf, std_isB, std_zOf, zOf_int, std_isI, isI_int, std_getL, std_nmul, std_sOf, sOf_str, std_isS, isS_str] at *)
  all_goals first
    | omega
    | exact fun h1 h2 h3 => ⟨⟨⟨h1, h2⟩, h3⟩, hr⟩
    | (unfold dR
       rcases hc with ((hc | hc) | hc) | hc
       · rw [decide_eq_false (p := 1 ≤ k ∧ k ≤ 7) (by omega)]; rfl
       · rw [decide_eq_false (p := 1 ≤ k ∧ k ≤ 7) (by omega)]; rfl
       · rw [decide_eq_false (p := s ≤ 999999) (by omega)]; simp
       · rw [hc]; simp)
    | (have hd : dAsks k = true := by assumption
       have h20 : decide ((p.length : Int) < 20) = decide ((p.length : Int) ≤ 19) := by rw [Bool.eq_iff_iff]; simp; omega
       unfold dR
       rw [decide_eq_true hc.1.1, decide_eq_true hc.1.2, hc.2, if_pos hd, h20]
       simp only [Bool.true_and, Bool.and_assoc]
       cases c <;> rfl)
    | (have hd : dAsks k = false := by assumption
       unfold dR
       rw [decide_eq_true hc.1.1, decide_eq_true hc.1.2, hc.2, if_neg (by rw [hd]; simp), beq_dec]
       simp only [Bool.true_and, Bool.and_assoc]
       cases p <;> rfl)
    | trace_state
theorem i2r (n : Int) (x : List UInt8) (m : Int) (y : List UInt8) : Reps eI (0, []) 2 2 (lstS [[SV.int .i64 n, SV.str x], [SV.int .i64 m, SV.str y]]) [(n, x), (m, y)] := Reps.lst (l := [_, _]) (L := [(n, x), (m, y)]) ⟨cell_eI n x, cell_eI m y, trivial⟩
theorem dI_1 {k a s : Int} {p r c : List UInt8} (h : k = 5 ∨ k = 6) : dIs k a s p r c = [(2, p), (4, puS a 12), (11, puS s 6), (37, r), (90, frst (puS s 6))] := if_pos h
theorem dI_2 {k a s : Int} {p r c : List UInt8} (h : ¬(k = 5 ∨ k = 6)) (h1 : dAsks k = true) : dIs k a s p r c = [(2, p), (4, puS a 12), (11, puS s 6), (37, r)] := by unfold dIs; rw [if_neg h, if_pos h1]
theorem dI_3 {k a s : Int} {p r c : List UInt8} (h : ¬(k = 5 ∨ k = 6)) (h1 : dAsks k = false) : dIs k a s p r c = [(11, puS s 6), (37, r), (39, c)] := by unfold dIs; rw [if_neg h, if_neg (by rw [h1]; simp)]
theorem good_rMust6 (k : Int) : GoodP Tryz.prog gl0 99 [.int .i64 k] (rowS eZ 0 1 std fun _ => fOf k) := by
  refine fn_sound' (T := seatT) (G := gO7) (X := noX) seatT_ok gO7_ok noX_ok noI_ok mixed Tryz.func99 (.none) (fun A => [.int .i64 k]) (fun A => rowS eZ 0 1 A fun _ => fOf k) fun A hA => ?_
  cbv
  repeat' (first | with_reducible exact True.intro | with_reducible exact dr_ok hA (by kernel_rfl) | with_reducible refine And.intro ?_ ?_ | (intro hc; cbv))
  all_goals (subst hA; simp [std_add, std_sub, std_mul, std_quo, std_rem, std_band, std_bor, std_bxor, std_shl, std_shr, std_eq, std_ne, std_lt, std_le, std_conv, std_not, std_beq, std_bne, std_ite, std_want, std_and2, std_sadd, std_seq, std_sne, std_slt, std_sle, std_sgt, std_sge, std_slen, std_sget, std_scut, std_ofNat, std_toNat, std_nsub, std_nadd, std_lenOf, std_nz, std_nneg, std_inb, std_upto, std_slt63, std_grow, std_imp, std_impN, std_tr, std_tb, std_ti, std_ts, std_tn, std_tp, std_nmin, std_makes, std_room, std_zeros, std_nilq, std_notq, std_eqi, std_eqn, std_eqb, std_eqs, std_eqv, std_cat, std_lst, std_rset, std_rcopy, std_shift, std_eqr, std_strOf, std_bytesOf, std_isB, std_zOf, zOf_int, std_isI, isI_int, std_getL, std_nmul, std_sOf, sOf_str, std_isS, isS_str] at *)
  all_goals first
    | (rw [fo_1 (by omega)]; rfl)
    | (rw [fo_1 (by omega)]; exact (z_rep [2, 4, 11, 37, 90]).eqr)
    | (rw [fo_2 (by omega) (by assumption)]; rfl)
    | (rw [fo_2 (by omega) (by assumption)]; exact (z_rep [2, 4, 11, 37]).eqr)
    | (rw [fo_3 (by omega) (by assumption)]; rfl)
    | (rw [fo_3 (by omega) (by assumption)]; exact (z_rep [11, 37, 39]).eqr)
    | trace_state
theorem good_rWrite6 (k a s : Int) (p r c : List UInt8) (ha : 0 ≤ a ∧ a < 18446744073709551616) (hs : 0 ≤ s ∧ s < 4294967296) (hd : dR k a s p r c = true) : GoodP Tryz.prog gl0 70 [.agg [.int .i64 k, .str p, .int .u64 a, .int .u32 s, .str r, .str c]] (.agg [.str (std.ts fun _ => tyOf k), rowS eI (0, []) 2 std fun _ => dIs k a s p r c]) := by
  refine fn_sound' (T := seatT) (G := gO7) (X := noX) seatT_ok gO7_ok noX_ok noI_ok mixed Tryz.func70 (.none) (fun A => [.agg [.int .i64 k, .str p, .int .u64 a, .int .u32 s, .str r, .str c]]) (fun A => .agg [.str (A.ts fun _ => tyOf k), rowS eI (0, []) 2 A fun _ => dIs k a s p r c]) fun A hA => ?_
  cbv
  repeat' (first | with_reducible exact True.intro | with_reducible exact dr_ok hA (by kernel_rfl) | with_reducible refine And.intro ?_ ?_ | (intro hc; cbv))
  all_goals (subst hA; simp [-List.getD_eq_getElem?_getD, std_add, std_sub, std_mul, std_quo, std_rem, std_band, std_bor, std_bxor, std_shl, std_shr, std_eq, std_ne, std_lt, std_le, std_conv, std_not, std_beq, std_bne, std_ite, std_want, std_and2, std_sadd, std_seq, std_sne, std_slt, std_sle, std_sgt, std_sge, std_slen, std_sget, std_scut, std_ofNat, std_toNat, std_nsub, std_nadd, std_lenOf, std_nz, std_nneg, std_inb, std_upto, std_slt63, std_grow, std_imp, std_impN, std_tr, std_tb, std_ti, std_ts, std_tn, std_tp, std_nmin, std_makes, std_room, std_zeros, std_nilq, std_notq, std_eqi, std_eqn, std_eqb, std_eqs, std_eqv, std_cat, std_lst, std_rset, std_rcopy, std_shift, std_eqr, std_strOf, std_bytesOf, std_isB, std_zOf, zOf_int, std_isI, isI_int, std_getL, std_nmul, std_sOf, sOf_str, std_isS, isS_str] at *)
  all_goals (have hk := (dR_iff.1 hd).1)
  all_goals (have h6 := puS_len s 6)
  all_goals (have ht := tyOf_R hk)
  all_goals (have hw : IntKind.i64.wrap (k - 1) = k - 1 := w64 (by omega))
  all_goals (have hkl := knR_len)
  all_goals (simp only [u64_32 hs, hw, hkl] at *)
  all_goals first
    | omega
    | exact ht
    | (constructor <;> omega)
    | (exfalso
       have q := asks_tl (by omega : k = 5 ∨ k = 6)
       simp_all
       done)
    | (exfalso; simp_all; done)
    | (rw [dI_1 (by omega)]; rfl)
    | (rw [dI_1 (by omega)]; exact ((i2r _ _ _ _).cat (i2r _ _ _ _)).cat (i1r _ _) |>.eqr)
    | (rw [dI_2 (by omega) (by assumption)]; rfl)
    | (rw [dI_2 (by omega) (by assumption)]; exact ((i2r _ _ _ _).cat (i2r _ _ _ _)).eqr)
    | (rw [dI_3 (by omega) (by assumption)]; rfl)
    | (rw [dI_3 (by omega) (by assumption)]; exact ((i2r _ _ _ _).cat (i1r _ _)).eqr)
    | trace_state
end Go.Vd

