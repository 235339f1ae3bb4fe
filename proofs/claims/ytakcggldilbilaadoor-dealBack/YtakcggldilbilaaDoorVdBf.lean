/- The reference's functions of the bitmap: bits. -/
import Derived.Test.YtakcggldilbilaaDoorVdB9
set_option linter.unusedVariables false
set_option linter.unusedSimpArgs false
set_option maxRecDepth 100000
set_option maxHeartbeats 1000000
namespace Go.Vd
open Go.Proofs
theorem good24 (n : Int) : GoodP Tryd.prog gl0 137 [.int .i64 n] (r22 std n) := by
  refine fn_sound' (T := seatT) (G := noC) (X := noX) seatT_ok noC_ok noX_ok noI_ok mixed Tryd.func137 .one (fun A => [.int .i64 n]) (fun A => r22 A n) fun A hA => ?_
  cbv
  repeat with_reducible refine And.intro (dr_ok hA (by kernel_rfl)) ?_
  subst hA
  simp [std_add, std_sub, std_mul, std_quo, std_rem, std_band, std_bor, std_bxor, std_shl, std_shr, std_eq, std_ne, std_lt, std_le, std_conv, std_not, std_beq, std_bne, std_ite, std_want, std_and2, std_sadd, std_seq, std_sne, std_slt, std_sle, std_sgt, std_sge, std_slen, std_sget, std_scut, std_ofNat, std_toNat, std_nsub, std_nadd, std_lenOf, std_nz, std_nneg, std_inb, std_upto, std_slt63, std_grow, std_imp, std_impN, std_tr, std_tb, std_ti, std_ts, std_tn, std_tp, std_nmin, std_makes, std_room, std_zeros, std_nilq, std_notq, std_eqi, std_eqn, std_eqb, std_eqs, std_eqv, std_cat, std_lst, std_rset, std_rcopy, std_shift, std_eqr, std_strOf, std_bytesOf, std_isB, std_zOf, zOf_int, std_isI, isI_int, std_getL, std_nmul, std_sOf, sOf_str, std_isS, isS_str, bfield]
  rw [Bool.eq_iff_iff]
  simp
  omega
def bbit (h l : Nat) (n : Int) : Bool := if n ≤ 64 then h.testBit (64 - n).toNat else l.testBit (128 - n).toNat
def r25 (A : Ar) (h l n : Int) : SV := .bool (A.tb fun _ => bbit h.toNat l.toNat n)
theorem quo2 (a : Nat) (ha : a < 18446744073709551616) : IntKind.u64.wrap ((a : Int).tdiv 2) = ((a / 2 : Nat) : Int) := by
  rw [show ((a : Int).tdiv 2) = ((a / 2 : Nat) : Int) from rfl, wu64 ⟨by omega, by omega⟩]
theorem rem2 (a : Nat) : ((a : Int).tmod 2 == 1) = decide (a % 2 = 1) := by
  rw [show ((a : Int).tmod 2) = ((a % 2 : Nat) : Int) from rfl]
  by_cases h : a % 2 = 1
  · simp [h]
  · have : a % 2 = 0 := by omega
    simp [this]
theorem good25 {h l : Int} (n : Int) (hh : r64 h) (hl : r64 l) (h1 : 1 ≤ n) (h2 : n ≤ 128) : GoodP Tryd.prog gl0 138 [.agg [.int .u64 h, .int .u64 l], .int .i64 n] (r25 std h l n) := by
  obtain ⟨h, rfl, lh⟩ := r64_nat hh
  obtain ⟨l, rfl, ll⟩ := r64_nat hl
  refine fn_sound' (T := seatT) (G := noC) (X := noX) seatT_ok noC_ok noX_ok noI_ok mixed Tryd.func138 .one (fun A => [.agg [.int .u64 h, .int .u64 l], .int .i64 n]) (fun A => r25 A h l n) fun A hA => ?_
  cbv
  repeat' (first | with_reducible exact True.intro | with_reducible exact dr_ok hA (by kernel_rfl) | with_reducible refine And.intro ?_ ?_ | (intro hc; cbv))
  · have hn : 64 < n := by subst hA; simp [std_add, std_sub, std_mul, std_quo, std_rem, std_band, std_bor, std_bxor, std_shl, std_shr, std_eq, std_ne, std_lt, std_le, std_conv, std_not, std_beq, std_bne, std_ite, std_want, std_and2, std_sadd, std_seq, std_sne, std_slt, std_sle, std_sgt, std_sge, std_slen, std_sget, std_scut, std_ofNat, std_toNat, std_nsub, std_nadd, std_lenOf, std_nz, std_nneg, std_inb, std_upto, std_slt63, std_grow, std_imp, std_impN, std_tr, std_tb, std_ti, std_ts, std_tn, std_tp, std_nmin, std_makes, std_room, std_zeros, std_nilq, std_notq, std_eqi, std_eqn, std_eqb, std_eqs, std_eqv, std_cat, std_lst, std_rset, std_rcopy, std_shift, std_eqr, std_strOf, std_bytesOf, std_isB, std_zOf, zOf_int, std_isI, isI_int, std_getL, std_nmul, std_sOf, sOf_str, std_isS, isS_str] at hc; omega
    refine ⟨⟨{k : Nat // k ≤ (128 - n).toNat}, fun _ k => [(5, .int .u64 (A.ti fun _ => (l / 2 ^ k.1 : Nat))), (6, .int .i64 (A.ti fun _ => n - 64 + Int.ofNat k.1))], fun _ _ => [], fun k => (128 - n).toNat - k.1, true⟩, ⟨⟨0, by omega⟩, ?_⟩, ?_⟩
    · cbv
      subst hA
      simp [std_add, std_sub, std_mul, std_quo, std_rem, std_band, std_bor, std_bxor, std_shl, std_shr, std_eq, std_ne, std_lt, std_le, std_conv, std_not, std_beq, std_bne, std_ite, std_want, std_and2, std_sadd, std_seq, std_sne, std_slt, std_sle, std_sgt, std_sge, std_slen, std_sget, std_scut, std_ofNat, std_toNat, std_nsub, std_nadd, std_lenOf, std_nz, std_nneg, std_inb, std_upto, std_slt63, std_grow, std_imp, std_impN, std_tr, std_tb, std_ti, std_ts, std_tn, std_tp, std_nmin, std_makes, std_room, std_zeros, std_nilq, std_notq, std_eqi, std_eqn, std_eqb, std_eqs, std_eqv, std_cat, std_lst, std_rset, std_rcopy, std_shift, std_eqr, std_strOf, std_bytesOf, std_isB, std_zOf, zOf_int, std_isI, isI_int, std_getL, std_nmul, std_sOf, sOf_str, std_isS, isS_str]
      rw [w64 (by omega)]
    · rintro ⟨k, hk⟩
      cbv
      repeat' (first | with_reducible exact True.intro | with_reducible exact dr_ok hA (by kernel_rfl) | with_reducible refine And.intro ?_ ?_ | (intro hc; cbv))
      all_goals try (subst hA; simp [std_add, std_sub, std_mul, std_quo, std_rem, std_band, std_bor, std_bxor, std_shl, std_shr, std_eq, std_ne, std_lt, std_le, std_conv, std_not, std_beq, std_bne, std_ite, std_want, std_and2, std_sadd, std_seq, std_sne, std_slt, std_sle, std_sgt, std_sge, std_slen, std_sget, std_scut, std_ofNat, std_toNat, std_nsub, std_nadd, std_lenOf, std_nz, std_nneg, std_inb, std_upto, std_slt63, std_grow, std_imp, std_impN, std_tr, std_tb, std_ti, std_ts, std_tn, std_tp, std_nmin, std_makes, std_room, std_zeros, std_nilq, std_notq, std_eqi, std_eqn, std_eqb, std_eqs, std_eqv, std_cat, std_lst, std_rset, std_rcopy, std_shift, std_eqr, std_strOf, std_bytesOf, std_isB, std_zOf, zOf_int, std_isI, isI_int, std_getL, std_nmul, std_sOf, sOf_str, std_isS, isS_str]; done)
      · have hlt : k < (128 - n).toNat := by subst hA; simp [std_add, std_sub, std_mul, std_quo, std_rem, std_band, std_bor, std_bxor, std_shl, std_shr, std_eq, std_ne, std_lt, std_le, std_conv, std_not, std_beq, std_bne, std_ite, std_want, std_and2, std_sadd, std_seq, std_sne, std_slt, std_sle, std_sgt, std_sge, std_slen, std_sget, std_scut, std_ofNat, std_toNat, std_nsub, std_nadd, std_lenOf, std_nz, std_nneg, std_inb, std_upto, std_slt63, std_grow, std_imp, std_impN, std_tr, std_tb, std_ti, std_ts, std_tn, std_tp, std_nmin, std_makes, std_room, std_zeros, std_nilq, std_notq, std_eqi, std_eqn, std_eqb, std_eqs, std_eqv, std_cat, std_lst, std_rset, std_rcopy, std_shift, std_eqr, std_strOf, std_bytesOf, std_isB, std_zOf, zOf_int, std_isI, isI_int, std_getL, std_nmul, std_sOf, sOf_str, std_isS, isS_str] at hc; omega
        refine ⟨⟨k + 1, by omega⟩, ?_, show (128 - n).toNat - (k + 1) < (128 - n).toNat - k by omega⟩
        cbv
        repeat' (first | with_reducible exact True.intro | with_reducible exact dr_ok hA (by kernel_rfl) | with_reducible refine And.intro ?_ ?_ | (intro hc; cbv))
        all_goals (subst hA; simp only [std_add, std_sub, std_mul, std_quo, std_rem, std_band, std_bor, std_bxor, std_shl, std_shr, std_eq, std_ne, std_lt, std_le, std_conv, std_not, std_beq, std_bne, std_ite, std_want, std_and2, std_sadd, std_seq, std_sne, std_slt, std_sle, std_sgt, std_sge, std_slen, std_sget, std_scut, std_ofNat, std_toNat, std_nsub, std_nadd, std_lenOf, std_nz, std_nneg, std_inb, std_upto, std_slt63, std_grow, std_imp, std_impN, std_tr, std_tb, std_ti, std_ts, std_tn, std_tp, std_nmin, std_makes, std_room, std_zeros, std_nilq, std_notq, std_eqi, std_eqn, std_eqb, std_eqs, std_eqv, std_cat, std_lst, std_rset, std_rcopy, std_shift, std_eqr, std_strOf, std_bytesOf, std_isB, std_zOf, zOf_int, std_isI, isI_int, std_getL, std_nmul, std_sOf, sOf_str, std_isS, isS_str])
        · have := quo2 (l / 2 ^ k) (Nat.lt_of_le_of_lt (Nat.div_le_self _ _) ll)
          rw [Nat.div_div_eq_div_mul, ← Nat.pow_succ] at this
          exact this
        · rw [w64 (by simp only [Int.ofNat_eq_natCast]; omega)]
          show n - 64 + Int.ofNat k + 1 = n - 64 + Int.ofNat (k + 1)
          simp only [Int.ofNat_eq_natCast]
          omega
      · have hk8 : k = (128 - n).toNat := by subst hA; simp [std_add, std_sub, std_mul, std_quo, std_rem, std_band, std_bor, std_bxor, std_shl, std_shr, std_eq, std_ne, std_lt, std_le, std_conv, std_not, std_beq, std_bne, std_ite, std_want, std_and2, std_sadd, std_seq, std_sne, std_slt, std_sle, std_sgt, std_sge, std_slen, std_sget, std_scut, std_ofNat, std_toNat, std_nsub, std_nadd, std_lenOf, std_nz, std_nneg, std_inb, std_upto, std_slt63, std_grow, std_imp, std_impN, std_tr, std_tb, std_ti, std_ts, std_tn, std_tp, std_nmin, std_makes, std_room, std_zeros, std_nilq, std_notq, std_eqi, std_eqn, std_eqb, std_eqs, std_eqv, std_cat, std_lst, std_rset, std_rcopy, std_shift, std_eqr, std_strOf, std_bytesOf, std_isB, std_zOf, zOf_int, std_isI, isI_int, std_getL, std_nmul, std_sOf, sOf_str, std_isS, isS_str] at hc; omega
        subst hA
        simp only [std_add, std_sub, std_mul, std_quo, std_rem, std_band, std_bor, std_bxor, std_shl, std_shr, std_eq, std_ne, std_lt, std_le, std_conv, std_not, std_beq, std_bne, std_ite, std_want, std_and2, std_sadd, std_seq, std_sne, std_slt, std_sle, std_sgt, std_sge, std_slen, std_sget, std_scut, std_ofNat, std_toNat, std_nsub, std_nadd, std_lenOf, std_nz, std_nneg, std_inb, std_upto, std_slt63, std_grow, std_imp, std_impN, std_tr, std_tb, std_ti, std_ts, std_tn, std_tp, std_nmin, std_makes, std_room, std_zeros, std_nilq, std_notq, std_eqi, std_eqn, std_eqb, std_eqs, std_eqv, std_cat, std_lst, std_rset, std_rcopy, std_shift, std_eqr, std_strOf, std_bytesOf, std_isB, std_zOf, zOf_int, std_isI, isI_int, std_getL, std_nmul, std_sOf, sOf_str, std_isS, isS_str]
        have := rem2 (l / 2 ^ k)
        show (((l / 2 ^ k : Nat) : Int).tmod 2 == 1) = bbit h l n
        rw [this, bbit, if_neg (by omega), ← hk8, Nat.testBit_eq_decide_div_mod_eq]
  · have hn : n ≤ 64 := by subst hA; simp [std_add, std_sub, std_mul, std_quo, std_rem, std_band, std_bor, std_bxor, std_shl, std_shr, std_eq, std_ne, std_lt, std_le, std_conv, std_not, std_beq, std_bne, std_ite, std_want, std_and2, std_sadd, std_seq, std_sne, std_slt, std_sle, std_sgt, std_sge, std_slen, std_sget, std_scut, std_ofNat, std_toNat, std_nsub, std_nadd, std_lenOf, std_nz, std_nneg, std_inb, std_upto, std_slt63, std_grow, std_imp, std_impN, std_tr, std_tb, std_ti, std_ts, std_tn, std_tp, std_nmin, std_makes, std_room, std_zeros, std_nilq, std_notq, std_eqi, std_eqn, std_eqb, std_eqs, std_eqv, std_cat, std_lst, std_rset, std_rcopy, std_shift, std_eqr, std_strOf, std_bytesOf, std_isB, std_zOf, zOf_int, std_isI, isI_int, std_getL, std_nmul, std_sOf, sOf_str, std_isS, isS_str] at hc; omega
    refine ⟨⟨{k : Nat // k ≤ (64 - n).toNat}, fun _ k => [(5, .int .u64 (A.ti fun _ => (h / 2 ^ k.1 : Nat))), (6, .int .i64 (A.ti fun _ => n + Int.ofNat k.1))], fun _ _ => [], fun k => (64 - n).toNat - k.1, true⟩, ⟨⟨0, by omega⟩, ?_⟩, ?_⟩
    · cbv
      subst hA
      simp [std_add, std_sub, std_mul, std_quo, std_rem, std_band, std_bor, std_bxor, std_shl, std_shr, std_eq, std_ne, std_lt, std_le, std_conv, std_not, std_beq, std_bne, std_ite, std_want, std_and2, std_sadd, std_seq, std_sne, std_slt, std_sle, std_sgt, std_sge, std_slen, std_sget, std_scut, std_ofNat, std_toNat, std_nsub, std_nadd, std_lenOf, std_nz, std_nneg, std_inb, std_upto, std_slt63, std_grow, std_imp, std_impN, std_tr, std_tb, std_ti, std_ts, std_tn, std_tp, std_nmin, std_makes, std_room, std_zeros, std_nilq, std_notq, std_eqi, std_eqn, std_eqb, std_eqs, std_eqv, std_cat, std_lst, std_rset, std_rcopy, std_shift, std_eqr, std_strOf, std_bytesOf, std_isB, std_zOf, zOf_int, std_isI, isI_int, std_getL, std_nmul, std_sOf, sOf_str, std_isS, isS_str]
    · rintro ⟨k, hk⟩
      cbv
      repeat' (first | with_reducible exact True.intro | with_reducible exact dr_ok hA (by kernel_rfl) | with_reducible refine And.intro ?_ ?_ | (intro hc; cbv))
      all_goals try (subst hA; simp [std_add, std_sub, std_mul, std_quo, std_rem, std_band, std_bor, std_bxor, std_shl, std_shr, std_eq, std_ne, std_lt, std_le, std_conv, std_not, std_beq, std_bne, std_ite, std_want, std_and2, std_sadd, std_seq, std_sne, std_slt, std_sle, std_sgt, std_sge, std_slen, std_sget, std_scut, std_ofNat, std_toNat, std_nsub, std_nadd, std_lenOf, std_nz, std_nneg, std_inb, std_upto, std_slt63, std_grow, std_imp, std_impN, std_tr, std_tb, std_ti, std_ts, std_tn, std_tp, std_nmin, std_makes, std_room, std_zeros, std_nilq, std_notq, std_eqi, std_eqn, std_eqb, std_eqs, std_eqv, std_cat, std_lst, std_rset, std_rcopy, std_shift, std_eqr, std_strOf, std_bytesOf, std_isB, std_zOf, zOf_int, std_isI, isI_int, std_getL, std_nmul, std_sOf, sOf_str, std_isS, isS_str]; done)
      · have hlt : k < (64 - n).toNat := by subst hA; simp [std_add, std_sub, std_mul, std_quo, std_rem, std_band, std_bor, std_bxor, std_shl, std_shr, std_eq, std_ne, std_lt, std_le, std_conv, std_not, std_beq, std_bne, std_ite, std_want, std_and2, std_sadd, std_seq, std_sne, std_slt, std_sle, std_sgt, std_sge, std_slen, std_sget, std_scut, std_ofNat, std_toNat, std_nsub, std_nadd, std_lenOf, std_nz, std_nneg, std_inb, std_upto, std_slt63, std_grow, std_imp, std_impN, std_tr, std_tb, std_ti, std_ts, std_tn, std_tp, std_nmin, std_makes, std_room, std_zeros, std_nilq, std_notq, std_eqi, std_eqn, std_eqb, std_eqs, std_eqv, std_cat, std_lst, std_rset, std_rcopy, std_shift, std_eqr, std_strOf, std_bytesOf, std_isB, std_zOf, zOf_int, std_isI, isI_int, std_getL, std_nmul, std_sOf, sOf_str, std_isS, isS_str] at hc; omega
        refine ⟨⟨k + 1, by omega⟩, ?_, show (64 - n).toNat - (k + 1) < (64 - n).toNat - k by omega⟩
        cbv
        repeat' (first | with_reducible exact True.intro | with_reducible exact dr_ok hA (by kernel_rfl) | with_reducible refine And.intro ?_ ?_ | (intro hc; cbv))
        all_goals (subst hA; simp only [std_add, std_sub, std_mul, std_quo, std_rem, std_band, std_bor, std_bxor, std_shl, std_shr, std_eq, std_ne, std_lt, std_le, std_conv, std_not, std_beq, std_bne, std_ite, std_want, std_and2, std_sadd, std_seq, std_sne, std_slt, std_sle, std_sgt, std_sge, std_slen, std_sget, std_scut, std_ofNat, std_toNat, std_nsub, std_nadd, std_lenOf, std_nz, std_nneg, std_inb, std_upto, std_slt63, std_grow, std_imp, std_impN, std_tr, std_tb, std_ti, std_ts, std_tn, std_tp, std_nmin, std_makes, std_room, std_zeros, std_nilq, std_notq, std_eqi, std_eqn, std_eqb, std_eqs, std_eqv, std_cat, std_lst, std_rset, std_rcopy, std_shift, std_eqr, std_strOf, std_bytesOf, std_isB, std_zOf, zOf_int, std_isI, isI_int, std_getL, std_nmul, std_sOf, sOf_str, std_isS, isS_str])
        · have := quo2 (h / 2 ^ k) (Nat.lt_of_le_of_lt (Nat.div_le_self _ _) lh)
          rw [Nat.div_div_eq_div_mul, ← Nat.pow_succ] at this
          exact this
        · rw [w64 (by simp only [Int.ofNat_eq_natCast]; omega)]
          show n + Int.ofNat k + 1 = n + Int.ofNat (k + 1)
          simp only [Int.ofNat_eq_natCast]
          omega
      · have hk8 : k = (64 - n).toNat := by subst hA; simp [std_add, std_sub, std_mul, std_quo, std_rem, std_band, std_bor, std_bxor, std_shl, std_shr, std_eq, std_ne, std_lt, std_le, std_conv, std_not, std_beq, std_bne, std_ite, std_want, std_and2, std_sadd, std_seq, std_sne, std_slt, std_sle, std_sgt, std_sge, std_slen, std_sget, std_scut, std_ofNat, std_toNat, std_nsub, std_nadd, std_lenOf, std_nz, std_nneg, std_inb, std_upto, std_slt63, std_grow, std_imp, std_impN, std_tr, std_tb, std_ti, std_ts, std_tn, std_tp, std_nmin, std_makes, std_room, std_zeros, std_nilq, std_notq, std_eqi, std_eqn, std_eqb, std_eqs, std_eqv, std_cat, std_lst, std_rset, std_rcopy, std_shift, std_eqr, std_strOf, std_bytesOf, std_isB, std_zOf, zOf_int, std_isI, isI_int, std_getL, std_nmul, std_sOf, sOf_str, std_isS, isS_str] at hc; omega
        subst hA
        simp only [std_add, std_sub, std_mul, std_quo, std_rem, std_band, std_bor, std_bxor, std_shl, std_shr, std_eq, std_ne, std_lt, std_le, std_conv, std_not, std_beq, std_bne, std_ite, std_want, std_and2, std_sadd, std_seq, std_sne, std_slt, std_sle, std_sgt, std_sge, std_slen, std_sget, std_scut, std_ofNat, std_toNat, std_nsub, std_nadd, std_lenOf, std_nz, std_nneg, std_inb, std_upto, std_slt63, std_grow, std_imp, std_impN, std_tr, std_tb, std_ti, std_ts, std_tn, std_tp, std_nmin, std_makes, std_room, std_zeros, std_nilq, std_notq, std_eqi, std_eqn, std_eqb, std_eqs, std_eqv, std_cat, std_lst, std_rset, std_rcopy, std_shift, std_eqr, std_strOf, std_bytesOf, std_isB, std_zOf, zOf_int, std_isI, isI_int, std_getL, std_nmul, std_sOf, sOf_str, std_isS, isS_str]
        have := rem2 (h / 2 ^ k)
        show (((h / 2 ^ k : Nat) : Int).tmod 2 == 1) = bbit h l n
        rw [this, bbit, if_pos (by omega), ← hk8, Nat.testBit_eq_decide_div_mod_eq]
def r26 (A : Ar) (n : Int) : SV := .int .u64 (A.ti fun _ => (2 ^ n.toNat : Nat))
theorem good26 (n : Int) (h1 : 0 ≤ n) (h2 : n ≤ 63) : GoodP Tryd.prog gl0 139 [.int .i64 n] (r26 std n) := by
  refine fn_sound' (T := seatT) (G := noC) (X := noX) seatT_ok noC_ok noX_ok noI_ok mixed Tryd.func139 .one (fun A => [.int .i64 n]) (fun A => r26 A n) fun A hA => ?_
  cbv
  refine ⟨⟨{k : Nat // k ≤ n.toNat}, fun _ k => [(3, .int .u64 (A.ti fun _ => (2 ^ k.1 : Nat))), (4, .int .i64 (k.1 : Nat))], fun _ _ => [], fun k => n.toNat - k.1, true⟩, ⟨⟨0, by omega⟩, ?_⟩, ?_⟩
  · cbv
    subst hA
    simp [std_add, std_sub, std_mul, std_quo, std_rem, std_band, std_bor, std_bxor, std_shl, std_shr, std_eq, std_ne, std_lt, std_le, std_conv, std_not, std_beq, std_bne, std_ite, std_want, std_and2, std_sadd, std_seq, std_sne, std_slt, std_sle, std_sgt, std_sge, std_slen, std_sget, std_scut, std_ofNat, std_toNat, std_nsub, std_nadd, std_lenOf, std_nz, std_nneg, std_inb, std_upto, std_slt63, std_grow, std_imp, std_impN, std_tr, std_tb, std_ti, std_ts, std_tn, std_tp, std_nmin, std_makes, std_room, std_zeros, std_nilq, std_notq, std_eqi, std_eqn, std_eqb, std_eqs, std_eqv, std_cat, std_lst, std_rset, std_rcopy, std_shift, std_eqr, std_strOf, std_bytesOf, std_isB, std_zOf, zOf_int, std_isI, isI_int, std_getL, std_nmul, std_sOf, sOf_str, std_isS, isS_str]
  · rintro ⟨k, hk⟩
    cbv
    repeat' (first | with_reducible exact True.intro | with_reducible exact dr_ok hA (by kernel_rfl) | with_reducible refine And.intro ?_ ?_ | (intro hc; cbv))
    · have hlt : k < n.toNat := by subst hA; simp [std_add, std_sub, std_mul, std_quo, std_rem, std_band, std_bor, std_bxor, std_shl, std_shr, std_eq, std_ne, std_lt, std_le, std_conv, std_not, std_beq, std_bne, std_ite, std_want, std_and2, std_sadd, std_seq, std_sne, std_slt, std_sle, std_sgt, std_sge, std_slen, std_sget, std_scut, std_ofNat, std_toNat, std_nsub, std_nadd, std_lenOf, std_nz, std_nneg, std_inb, std_upto, std_slt63, std_grow, std_imp, std_impN, std_tr, std_tb, std_ti, std_ts, std_tn, std_tp, std_nmin, std_makes, std_room, std_zeros, std_nilq, std_notq, std_eqi, std_eqn, std_eqb, std_eqs, std_eqv, std_cat, std_lst, std_rset, std_rcopy, std_shift, std_eqr, std_strOf, std_bytesOf, std_isB, std_zOf, zOf_int, std_isI, isI_int, std_getL, std_nmul, std_sOf, sOf_str, std_isS, isS_str] at hc; omega
      refine ⟨⟨k + 1, by omega⟩, ?_, show n.toNat - (k + 1) < n.toNat - k by omega⟩
      cbv
      repeat' (first | with_reducible exact True.intro | with_reducible exact dr_ok hA (by kernel_rfl) | with_reducible refine And.intro ?_ ?_ | (intro hc; cbv))
      all_goals (subst hA; simp only [std_add, std_sub, std_mul, std_quo, std_rem, std_band, std_bor, std_bxor, std_shl, std_shr, std_eq, std_ne, std_lt, std_le, std_conv, std_not, std_beq, std_bne, std_ite, std_want, std_and2, std_sadd, std_seq, std_sne, std_slt, std_sle, std_sgt, std_sge, std_slen, std_sget, std_scut, std_ofNat, std_toNat, std_nsub, std_nadd, std_lenOf, std_nz, std_nneg, std_inb, std_upto, std_slt63, std_grow, std_imp, std_impN, std_tr, std_tb, std_ti, std_ts, std_tn, std_tp, std_nmin, std_makes, std_room, std_zeros, std_nilq, std_notq, std_eqi, std_eqn, std_eqb, std_eqs, std_eqv, std_cat, std_lst, std_rset, std_rcopy, std_shift, std_eqr, std_strOf, std_bytesOf, std_isB, std_zOf, zOf_int, std_isI, isI_int, std_getL, std_nmul, std_sOf, sOf_str, std_isS, isS_str])
      · have := pow_lt64 (show k + 1 ≤ 63 by omega)
        show IntKind.u64.wrap (2 * ((2 ^ k : Nat) : Int)) = ((2 ^ (k + 1) : Nat) : Int)
        rw [Nat.pow_succ] at this ⊢
        rw [wu64 ⟨by omega, by omega⟩]
        omega
      · show IntKind.i64.wrap ((k : Int) + 1) = ((k + 1 : Nat) : Int)
        rw [w64 (by omega)]
        omega
    · have hk8 : k = n.toNat := by subst hA; simp [std_add, std_sub, std_mul, std_quo, std_rem, std_band, std_bor, std_bxor, std_shl, std_shr, std_eq, std_ne, std_lt, std_le, std_conv, std_not, std_beq, std_bne, std_ite, std_want, std_and2, std_sadd, std_seq, std_sne, std_slt, std_sle, std_sgt, std_sge, std_slen, std_sget, std_scut, std_ofNat, std_toNat, std_nsub, std_nadd, std_lenOf, std_nz, std_nneg, std_inb, std_upto, std_slt63, std_grow, std_imp, std_impN, std_tr, std_tb, std_ti, std_ts, std_tn, std_tp, std_nmin, std_makes, std_room, std_zeros, std_nilq, std_notq, std_eqi, std_eqn, std_eqb, std_eqs, std_eqv, std_cat, std_lst, std_rset, std_rcopy, std_shift, std_eqr, std_strOf, std_bytesOf, std_isB, std_zOf, zOf_int, std_isI, isI_int, std_getL, std_nmul, std_sOf, sOf_str, std_isS, isS_str] at hc; omega
      subst hA hk8
      simp only [std_add, std_sub, std_mul, std_quo, std_rem, std_band, std_bor, std_bxor, std_shl, std_shr, std_eq, std_ne, std_lt, std_le, std_conv, std_not, std_beq, std_bne, std_ite, std_want, std_and2, std_sadd, std_seq, std_sne, std_slt, std_sle, std_sgt, std_sge, std_slen, std_sget, std_scut, std_ofNat, std_toNat, std_nsub, std_nadd, std_lenOf, std_nz, std_nneg, std_inb, std_upto, std_slt63, std_grow, std_imp, std_impN, std_tr, std_tb, std_ti, std_ts, std_tn, std_tp, std_nmin, std_makes, std_room, std_zeros, std_nilq, std_notq, std_eqi, std_eqn, std_eqb, std_eqs, std_eqv, std_cat, std_lst, std_rset, std_rcopy, std_shift, std_eqr, std_strOf, std_bytesOf, std_isB, std_zOf, zOf_int, std_isI, isI_int, std_getL, std_nmul, std_sOf, sOf_str, std_isS, isS_str]
end Go.Vd

/- The reference's functions of the bitmap: right, has, put. -/
set_option linter.unusedVariables false
set_option linter.unusedSimpArgs false
set_option maxRecDepth 100000
set_option maxHeartbeats 1000000
namespace Go.Vd
open Go.Proofs
noncomputable def c25 : Ct := fun A args => match args with
  | [.agg [.int .u64 h, .int .u64 l], .int .i64 n] => some (some (A.tp fun _ => r64 h ∧ r64 l ∧ 1 ≤ n ∧ n ≤ 128), r25 A h l n)
  | _ => none
noncomputable def c26 : Ct := fun A args => match args with
  | [.int .i64 n] => some (some (A.tp fun _ => 0 ≤ n ∧ n ≤ 63), r26 A n)
  | _ => none
noncomputable def g7 : Ar → Pu := addC 137 c22 (addC 138 c25 (addC 139 c26 g4))
theorem g7_ok : PuOk Tryd.prog gl0 (g7 std) := by
  refine addC_ok (addC_ok (addC_ok g4_ok ⟨_, Tryd.func139, rfl, by decide⟩ ?_) ⟨_, Tryd.func138, rfl, by decide⟩ ?_) ⟨_, Tryd.func137, rfl, by decide⟩ ?_
  · intro args p r h hp
    unfold c26 at h
    split at h <;> cases h
    exact good26 _ hp.1 hp.2
  · intro args p r h hp
    unfold c25 at h
    split at h <;> cases h
    exact good25 _ hp.1 hp.2.1 hp.2.2.1 hp.2.2.2
  · intro args p r h hp
    unfold c22 at h
    split at h <;> cases h
    exact good24 _
theorem bright_bits (h l : Nat) : bright h l = (!bbit h l 65 && (bbit h l 1 == decide (0 < l))) := by
  have e1 : bbit h l 65 = l.testBit 63 := rfl
  have e2 : bbit h l 1 = h.testBit 63 := rfl
  rw [e1, e2, bright]
  congr 2
  rw [decide_eq_decide]; omega
theorem bhas_bit (h l : Nat) (n : Int) : bhas h l n = (bfield n && bbit h l n) := rfl
theorem good12 {h l : Int} (hh : r64 h) (hl : r64 l) : GoodP Tryd.prog gl0 136 [.agg [.int .u64 h, .int .u64 l]] (r11 std h l) := by
  obtain ⟨h, rfl, lh⟩ := r64_nat hh
  obtain ⟨l, rfl, ll⟩ := r64_nat hl
  refine fn_sound' (T := seatT) (G := g7) (X := noX) seatT_ok g7_ok noX_ok noI_ok mixed Tryd.func136 .one (fun A => [.agg [.int .u64 h, .int .u64 l]]) (fun A => r11 A h l) fun A hA => ?_
  cbv
  repeat with_reducible refine And.intro (dr_ok hA (by kernel_rfl)) ?_
  subst hA
  simp [std_add, std_sub, std_mul, std_quo, std_rem, std_band, std_bor, std_bxor, std_shl, std_shr, std_eq, std_ne, std_lt, std_le, std_conv, std_not, std_beq, std_bne, std_ite, std_want, std_and2, std_sadd, std_seq, std_sne, std_slt, std_sle, std_sgt, std_sge, std_slen, std_sget, std_scut, std_ofNat, std_toNat, std_nsub, std_nadd, std_lenOf, std_nz, std_nneg, std_inb, std_upto, std_slt63, std_grow, std_imp, std_impN, std_tr, std_tb, std_ti, std_ts, std_tn, std_tp, std_nmin, std_makes, std_room, std_zeros, std_nilq, std_notq, std_eqi, std_eqn, std_eqb, std_eqs, std_eqv, std_cat, std_lst, std_rset, std_rcopy, std_shift, std_eqr, std_strOf, std_bytesOf, std_isB, std_zOf, zOf_int, std_isI, isI_int, std_getL, std_nmul, std_sOf, sOf_str, std_isS, isS_str, hh, hl, bright_bits]
theorem good14 {h l : Int} (n : Int) (hh : r64 h) (hl : r64 l) : GoodP Tryd.prog gl0 88 [.agg [.int .u64 h, .int .u64 l], .int .i64 n] (r13 std h l n) := by
  obtain ⟨h, rfl, lh⟩ := r64_nat hh
  obtain ⟨l, rfl, ll⟩ := r64_nat hl
  refine fn_sound' (T := seatT) (G := g7) (X := noX) seatT_ok g7_ok noX_ok noI_ok mixed Tryd.func88 .one (fun A => [.agg [.int .u64 h, .int .u64 l], .int .i64 n]) (fun A => r13 A h l n) fun A hA => ?_
  cbv
  repeat with_reducible refine And.intro (dr_ok hA (by kernel_rfl)) ?_
  subst hA
  simp [std_add, std_sub, std_mul, std_quo, std_rem, std_band, std_bor, std_bxor, std_shl, std_shr, std_eq, std_ne, std_lt, std_le, std_conv, std_not, std_beq, std_bne, std_ite, std_want, std_and2, std_sadd, std_seq, std_sne, std_slt, std_sle, std_sgt, std_sge, std_slen, std_sget, std_scut, std_ofNat, std_toNat, std_nsub, std_nadd, std_lenOf, std_nz, std_nneg, std_inb, std_upto, std_slt63, std_grow, std_imp, std_impN, std_tr, std_tb, std_ti, std_ts, std_tn, std_tp, std_nmin, std_makes, std_room, std_zeros, std_nilq, std_notq, std_eqi, std_eqn, std_eqb, std_eqs, std_eqv, std_cat, std_lst, std_rset, std_rcopy, std_shift, std_eqr, std_strOf, std_bytesOf, std_isB, std_zOf, zOf_int, std_isI, isI_int, std_getL, std_nmul, std_sOf, sOf_str, std_isS, isS_str, bhas_bit]
  cases hf : bfield n
  · simp
  · have hf' := bfield_iff.1 hf
    simp [hh, hl]
    omega
noncomputable def g8 : Ar → Pu := addC 136 c11 (addC 88 c13 g7)
theorem g8_ok : PuOk Tryd.prog gl0 (g8 std) := by
  refine addC_ok (addC_ok g7_ok ⟨_, Tryd.func88, rfl, by decide⟩ ?_) ⟨_, Tryd.func136, rfl, by decide⟩ ?_
  · intro args p r h hp
    unfold c13 at h
    split at h <;> cases h
    exact good14 _ hp.1 hp.2
  · intro args p r h hp
    unfold c11 at h
    split at h <;> cases h
    exact good12 hp.1 hp.2
theorem add_or (k : Nat) : ∀ a : Nat, a.testBit k = false → a + 2 ^ k = a ||| 2 ^ k := by
  induction k with
  | zero =>
    intro a h
    apply Nat.eq_of_testBit_eq
    intro i
    have h0 : a % 2 = 0 := by
      rw [Nat.testBit_zero] at h
      have := of_decide_eq_false h
      omega
    cases i with
    | zero => rw [Nat.testBit_or, Nat.testBit_zero, Nat.testBit_zero, Nat.testBit_zero]; simp; omega
    | succ i =>
      rw [Nat.testBit_or, Nat.testBit_succ, Nat.testBit_succ, Nat.testBit_succ]
      rw [show (a + 2 ^ 0) / 2 = a / 2 by simp; omega]
      simp
  | succ k ih =>
    intro a h
    rw [Nat.testBit_succ] at h
    have := ih (a / 2) h
    apply Nat.eq_of_testBit_eq
    intro i
    have hp : 2 ^ (k + 1) = 2 * 2 ^ k := by rw [Nat.pow_succ, Nat.mul_comm]
    cases i with
    | zero => rw [Nat.testBit_or, Nat.testBit_zero, Nat.testBit_zero, Nat.testBit_zero, hp]; simp
    | succ i =>
      rw [Nat.testBit_or, Nat.testBit_succ, Nat.testBit_succ, Nat.testBit_succ, hp]
      rw [show (a + 2 * 2 ^ k) / 2 = a / 2 + 2 ^ k by omega, show 2 * 2 ^ k / 2 = 2 ^ k by omega, this, Nat.testBit_or]
theorem or_same (k : Nat) (a : Nat) (h : a.testBit k = true) : a ||| 2 ^ k = a := by
  apply Nat.eq_of_testBit_eq
  intro i
  rw [Nat.testBit_or, Nat.testBit_two_pow]
  by_cases e : k = i
  · subst e; simp [h]
  · simp [e]
/-- What putting does, by sums. -/
theorem put_had {h l : Nat} {n : Int} (hb : bright h l = true) (hf : bfield n = true) (hq : bbit h l n = true) : bput h l n = (h, l) := by
  have h0 := bright_iff.1 hb
  unfold bbit at hq
  unfold bput
  rw [hb, hf]
  simp only [Bool.and_self, if_true]
  by_cases hn : n ≤ 64
  · rw [if_pos hn] at hq
    simp only [bhi, blo, hn, if_true, Nat.or_zero]
    rw [or_same _ _ hq]
    by_cases hl : l = 0
    · simp [hl]
    · have ht : h.testBit 63 = true := by rw [h0.2]; simp [hl]
      have := or_same 63 h ht
      simp [hl]
      exact this
  · rw [if_neg hn] at hq
    simp only [bhi, blo, hn, if_false, Nat.or_zero]
    rw [or_same _ _ hq]
    have hl : l ≠ 0 := by intro e; subst e; simp at hq
    have ht : h.testBit 63 = true := by rw [h0.2]; simp [hl]
    have := or_same 63 h ht
    simp [hl]
    exact this
theorem put_hi {h l : Nat} {n : Int} (hb : bright h l = true) (hf : bfield n = true) (hq : bbit h l n = false) (hn : n ≤ 64) : bput h l n = (h + 2 ^ (64 - n).toNat, l) := by
  have h0 := bright_iff.1 hb
  have h1 := bfield_iff.1 hf
  unfold bbit at hq
  rw [if_pos hn] at hq
  unfold bput
  rw [hb, hf, add_or _ _ hq]
  simp only [Bool.and_self, if_true, bhi, blo, hn, Nat.or_zero]
  by_cases hl : l = 0
  · simp [hl]
  · have ht : (h ||| 2 ^ (64 - n).toNat).testBit 63 = true := by rw [Nat.testBit_or, h0.2]; simp [hl]
    have := or_same 63 _ ht
    simp [hl]
    exact this
theorem put_lo {h l : Nat} {n : Int} (hb : bright h l = true) (hf : bfield n = true) (hq : bbit h l n = false) (hn : ¬ n ≤ 64) : bput h l n = (if l = 0 then h + 2 ^ 63 else h, l + 2 ^ (128 - n).toNat) := by
  have h0 := bright_iff.1 hb
  have h1 := bfield_iff.1 hf
  unfold bbit at hq
  rw [if_neg hn] at hq
  unfold bput
  rw [hb, hf, add_or _ _ hq]
  have hne : l ||| 2 ^ (128 - n).toNat ≠ 0 := fun e => by
    have := (or_zero_iff.1 e).2
    have := Nat.two_pow_pos (128 - n).toNat
    omega
  simp only [Bool.and_self, if_true, bhi, blo, hn, if_false, Nat.or_zero, hne, ne_eq, not_false_eq_true]
  by_cases hl : l = 0
  · have ht : h.testBit 63 = false := by rw [h0.2]; simp [hl]
    have := add_or 63 h ht
    simp [hl]
    exact this.symm
  · have ht : h.testBit 63 = true := by rw [h0.2]; simp [hl]
    have := or_same 63 h ht
    simp [hl]
    exact this
theorem wsum {a k : Nat} (hb : a + 2 ^ k < 18446744073709551616) : IntKind.u64.wrap ((a : Int) + 2 ^ k) = ((a + 2 ^ k : Nat) : Int) := by
  have e : (a : Int) + 2 ^ k = ((a + 2 ^ k : Nat) : Int) := by simp
  rw [e]
  generalize a + 2 ^ k = m at hb ⊢
  exact wu64 ⟨by omega, by omega⟩
theorem good8 {h l : Int} (n : Int) (hh : r64 h) (hl : r64 l) : GoodP Tryd.prog gl0 78 [.agg [.int .u64 h, .int .u64 l], .int .i64 n] (r7 std h l n) := by
  obtain ⟨h, rfl, lh⟩ := r64_nat hh
  obtain ⟨l, rfl, ll⟩ := r64_nat hl
  refine fn_sound' (T := seatT) (G := g8) (X := noX) seatT_ok g8_ok noX_ok noI_ok mixed Tryd.func78 .one (fun A => [.agg [.int .u64 h, .int .u64 l], .int .i64 n]) (fun A => r7 A h l n) fun A hA => ?_
  cbv
  repeat' (first | with_reducible exact True.intro | with_reducible exact dr_ok hA (by kernel_rfl) | with_reducible refine And.intro ?_ ?_ | (intro hc; cbv))
  all_goals (subst hA; simp [std_add, std_sub, std_mul, std_quo, std_rem, std_band, std_bor, std_bxor, std_shl, std_shr, std_eq, std_ne, std_lt, std_le, std_conv, std_not, std_beq, std_bne, std_ite, std_want, std_and2, std_sadd, std_seq, std_sne, std_slt, std_sle, std_sgt, std_sge, std_slen, std_sget, std_scut, std_ofNat, std_toNat, std_nsub, std_nadd, std_lenOf, std_nz, std_nneg, std_inb, std_upto, std_slt63, std_grow, std_imp, std_impN, std_tr, std_tb, std_ti, std_ts, std_tn, std_tp, std_nmin, std_makes, std_room, std_zeros, std_nilq, std_notq, std_eqi, std_eqn, std_eqb, std_eqs, std_eqv, std_cat, std_lst, std_rset, std_rcopy, std_shift, std_eqr, std_strOf, std_bytesOf, std_isB, std_zOf, zOf_int, std_isI, isI_int, std_getL, std_nmul, std_sOf, sOf_str, std_isS, isS_str] at *)
  all_goals have hlt := bput_lt n lh ll
  all_goals first
    | exact ⟨hh, hl⟩
    | (have hq : (bright h l && bfield n) = false := by rcases hc with hc | hc <;> simp [hc]
       simp [bput, berr, hq]; done)
    | (have hb : bright h l = true ∧ bfield n = true := by assumption
       have hf := bfield_iff.1 hb.2
       first
         | exact ⟨hh, hl, by omega, by omega⟩
         | (simp [berr, hb.1, hb.2]; done)
         | (rw [w64 (by omega)]; omega)
         | (rw [put_had hb.1 hb.2 (by assumption)]; done)
         | (rw [put_hi hb.1 hb.2 (by assumption) (by assumption)] at hlt ⊢
            first
              | done
              | (rw [w64 (by omega)]; exact wsum hlt.1))
         | (rw [put_lo hb.1 hb.2 (by assumption) (by omega)] at hlt ⊢
            first
              | (rw [w64 (by omega)]; exact wsum hlt.2)
              | (simp only [hc, if_true] at hlt ⊢
                 have := wsum hlt.1
                 simpa using this)
              | (simp only [hc, if_false]; done)))
    | trace_state
noncomputable def g9 : Ar → Pu := addC 78 c7 g8
theorem g9_ok : PuOk Tryd.prog gl0 (g9 std) := by
  refine addC_ok g8_ok ⟨_, Tryd.func78, rfl, by decide⟩ ?_
  intro args p r h hp
  unfold c7 at h
  split at h <;> cases h
  exact good8 _ hp.1 hp.2
end Go.Vd

/- The reference's functions of the bitmap: bytes and back. -/
set_option linter.unusedVariables false
set_option linter.unusedSimpArgs false
set_option maxRecDepth 100000
set_option maxHeartbeats 1000000
namespace Go.Vd
open Go.Proofs
theorem good32 (L : List UInt8) (hn : 8 ≤ L.length) : GoodP Tryd.prog gl0 147 [rowS eB 0 1 std fun _ => L] (r31 std fun _ => L) := by
  refine fn_sound' (T := seatT) (G := noC) (X := noX) seatT_ok noC_ok noX_ok noI_ok mixed Tryd.func147 .one (fun A => [rowS eB 0 1 A fun _ => L]) (fun A => r31 A fun _ => L) fun A hA => ?_
  cbv
  refine ⟨⟨{k : Nat // k ≤ 8}, fun _ k => [(3, .int .u64 (A.ti fun _ => numTo L k.1)), (4, .int .i64 (k.1 : Nat))], fun _ _ => [], fun k => 8 - k.1, true⟩, ⟨⟨0, by omega⟩, ?_⟩, ?_⟩
  · cbv
    subst hA
    simp [std_add, std_sub, std_mul, std_quo, std_rem, std_band, std_bor, std_bxor, std_shl, std_shr, std_eq, std_ne, std_lt, std_le, std_conv, std_not, std_beq, std_bne, std_ite, std_want, std_and2, std_sadd, std_seq, std_sne, std_slt, std_sle, std_sgt, std_sge, std_slen, std_sget, std_scut, std_ofNat, std_toNat, std_nsub, std_nadd, std_lenOf, std_nz, std_nneg, std_inb, std_upto, std_slt63, std_grow, std_imp, std_impN, std_tr, std_tb, std_ti, std_ts, std_tn, std_tp, std_nmin, std_makes, std_room, std_zeros, std_nilq, std_notq, std_eqi, std_eqn, std_eqb, std_eqs, std_eqv, std_cat, std_lst, std_rset, std_rcopy, std_shift, std_eqr, std_strOf, std_bytesOf, std_isB, std_zOf, zOf_int, std_isI, isI_int, std_getL, std_nmul, std_sOf, sOf_str, std_isS, isS_str, numTo]
  · rintro ⟨k, hk⟩
    cbv
    repeat' (first | with_reducible exact True.intro | with_reducible exact dr_ok hA (by kernel_rfl) | with_reducible refine And.intro ?_ ?_ | (intro hc; cbv))
    · subst hA; simp [std_add, std_sub, std_mul, std_quo, std_rem, std_band, std_bor, std_bxor, std_shl, std_shr, std_eq, std_ne, std_lt, std_le, std_conv, std_not, std_beq, std_bne, std_ite, std_want, std_and2, std_sadd, std_seq, std_sne, std_slt, std_sle, std_sgt, std_sge, std_slen, std_sget, std_scut, std_ofNat, std_toNat, std_nsub, std_nadd, std_lenOf, std_nz, std_nneg, std_inb, std_upto, std_slt63, std_grow, std_imp, std_impN, std_tr, std_tb, std_ti, std_ts, std_tn, std_tp, std_nmin, std_makes, std_room, std_zeros, std_nilq, std_notq, std_eqi, std_eqn, std_eqb, std_eqs, std_eqv, std_cat, std_lst, std_rset, std_rcopy, std_shift, std_eqr, std_strOf, std_bytesOf, std_isB, std_zOf, zOf_int, std_isI, isI_int, std_getL, std_nmul, std_sOf, sOf_str, std_isS, isS_str] at hc ⊢; omega
    · have hlt : k < 8 := by subst hA; simp [std_add, std_sub, std_mul, std_quo, std_rem, std_band, std_bor, std_bxor, std_shl, std_shr, std_eq, std_ne, std_lt, std_le, std_conv, std_not, std_beq, std_bne, std_ite, std_want, std_and2, std_sadd, std_seq, std_sne, std_slt, std_sle, std_sgt, std_sge, std_slen, std_sget, std_scut, std_ofNat, std_toNat, std_nsub, std_nadd, std_lenOf, std_nz, std_nneg, std_inb, std_upto, std_slt63, std_grow, std_imp, std_impN, std_tr, std_tb, std_ti, std_ts, std_tn, std_tp, std_nmin, std_makes, std_room, std_zeros, std_nilq, std_notq, std_eqi, std_eqn, std_eqb, std_eqs, std_eqv, std_cat, std_lst, std_rset, std_rcopy, std_shift, std_eqr, std_strOf, std_bytesOf, std_isB, std_zOf, zOf_int, std_isI, isI_int, std_getL, std_nmul, std_sOf, sOf_str, std_isS, isS_str] at hc; omega
      refine ⟨⟨k + 1, by omega⟩, ?_, show 8 - (k + 1) < 8 - k by omega⟩
      cbv
      repeat' (first | with_reducible exact True.intro | with_reducible exact dr_ok hA (by kernel_rfl) | with_reducible refine And.intro ?_ ?_ | (intro hc; cbv))
      all_goals (subst hA; simp [std_add, std_sub, std_mul, std_quo, std_rem, std_band, std_bor, std_bxor, std_shl, std_shr, std_eq, std_ne, std_lt, std_le, std_conv, std_not, std_beq, std_bne, std_ite, std_want, std_and2, std_sadd, std_seq, std_sne, std_slt, std_sle, std_sgt, std_sge, std_slen, std_sget, std_scut, std_ofNat, std_toNat, std_nsub, std_nadd, std_lenOf, std_nz, std_nneg, std_inb, std_upto, std_slt63, std_grow, std_imp, std_impN, std_tr, std_tb, std_ti, std_ts, std_tn, std_tp, std_nmin, std_makes, std_room, std_zeros, std_nilq, std_notq, std_eqi, std_eqn, std_eqb, std_eqs, std_eqv, std_cat, std_lst, std_rset, std_rcopy, std_shift, std_eqr, std_strOf, std_bytesOf, std_isB, std_zOf, zOf_int, std_isI, isI_int, std_getL, std_nmul, std_sOf, sOf_str, std_isS, isS_str])
      · have h1 := numTo_lt L k (by omega)
        have h3 : 256 ^ k * 256 ≤ 256 ^ 8 := by rw [← Nat.pow_succ]; exact Nat.pow_le_pow_right (by decide) hlt
        have hs := numTo_succ L k (by omega)
        rw [List.getD_eq_getElem?_getD] at hs
        have hb := UInt8.toNat_lt (L[k]?.getD 0)
        generalize (L[k]?.getD 0).toNat = b at hs hb
        rw [wu64 (n := (b : Int)) ⟨by omega, by omega⟩, wu64 (n := 256 * (numTo L k : Int)) ⟨by omega, by omega⟩, wu64 ⟨by omega, by omega⟩, hs]
        show 256 * (numTo L k : Int) + (b : Int) = ((numTo L k * 256 + b : Nat) : Int)
        omega
      · rw [w64 (by omega)]
    · have : k = 8 := by subst hA; simp [std_add, std_sub, std_mul, std_quo, std_rem, std_band, std_bor, std_bxor, std_shl, std_shr, std_eq, std_ne, std_lt, std_le, std_conv, std_not, std_beq, std_bne, std_ite, std_want, std_and2, std_sadd, std_seq, std_sne, std_slt, std_sle, std_sgt, std_sge, std_slen, std_sget, std_scut, std_ofNat, std_toNat, std_nsub, std_nadd, std_lenOf, std_nz, std_nneg, std_inb, std_upto, std_slt63, std_grow, std_imp, std_impN, std_tr, std_tb, std_ti, std_ts, std_tn, std_tp, std_nmin, std_makes, std_room, std_zeros, std_nilq, std_notq, std_eqi, std_eqn, std_eqb, std_eqs, std_eqv, std_cat, std_lst, std_rset, std_rcopy, std_shift, std_eqr, std_strOf, std_bytesOf, std_isB, std_zOf, zOf_int, std_isI, isI_int, std_getL, std_nmul, std_sOf, sOf_str, std_isS, isS_str] at hc; omega
      subst hA this
      simp [std_add, std_sub, std_mul, std_quo, std_rem, std_band, std_bor, std_bxor, std_shl, std_shr, std_eq, std_ne, std_lt, std_le, std_conv, std_not, std_beq, std_bne, std_ite, std_want, std_and2, std_sadd, std_seq, std_sne, std_slt, std_sle, std_sgt, std_sge, std_slen, std_sget, std_scut, std_ofNat, std_toNat, std_nsub, std_nadd, std_lenOf, std_nz, std_nneg, std_inb, std_upto, std_slt63, std_grow, std_imp, std_impN, std_tr, std_tb, std_ti, std_ts, std_tn, std_tp, std_nmin, std_makes, std_room, std_zeros, std_nilq, std_notq, std_eqi, std_eqn, std_eqb, std_eqs, std_eqv, std_cat, std_lst, std_rset, std_rcopy, std_shift, std_eqr, std_strOf, std_bytesOf, std_isB, std_zOf, zOf_int, std_isI, isI_int, std_getL, std_nmul, std_sOf, sOf_str, std_isS, isS_str]
def beFrom (v k : Nat) : List UInt8 := (List.range 8).map fun i => if 8 - k ≤ i then byteAt v i else 0
theorem beFrom_get (v k i : Nat) (h : i < 8) : (beFrom v k)[i]?.getD 0 = if 8 - k ≤ i then byteAt v i else 0 := by simp [beFrom, h]
theorem beFrom_len (v k : Nat) : (beFrom v k).length = 8 := by simp [beFrom]
theorem beFrom_zero (v : Nat) : List.replicate 8 0 = beFrom v 0 := by
  apply List.ext_getElem
  · simp [beFrom]
  · intro i h1 h2
    simp at h1
    have := beFrom_get v 0 i h1
    rw [if_neg (by omega), List.getElem?_eq_getElem h2] at this
    rw [List.getElem_replicate]
    exact this.symm
theorem beFrom_set (v k : Nat) (hk : k < 8) : (beFrom v k).set (7 - k) (byteAt v (7 - k)) = beFrom v (k + 1) := by
  apply List.ext_getElem
  · simp [beFrom]
  · intro i h1 h2
    rw [beFrom_len] at h2
    have a := beFrom_get v k i h2
    have b := beFrom_get v (k + 1) i h2
    rw [List.getElem?_eq_getElem (by rw [beFrom_len]; exact h2), Option.getD_some] at a b
    rw [List.getElem_set, a, b]
    by_cases e : 7 - k = i
    · subst e; rw [if_pos rfl, if_pos (by omega)]
    · rw [if_neg e]
      by_cases h3 : 8 - k ≤ i
      · rw [if_pos h3, if_pos (by omega)]
      · rw [if_neg h3, if_neg (by omega)]
theorem beFrom_byte (v k : Nat) (hk : k < 8) : IntKind.u8.wrap (((v : Int) / 256 ^ k).tmod 256) = ((byteAt v (7 - k)).toNat : Int) := by
  rw [byteAt_nat, show 7 - (7 - k) = k by omega, show (v : Int) / 256 ^ k = ((v / 256 ^ k : Nat) : Int) by simp, show ((v / 256 ^ k : Nat) : Int).tmod 256 = ((v / 256 ^ k % 256 : Nat) : Int) from rfl, wu8, Nat.mod_mod]
theorem beFrom_all (v : Nat) : beFrom v 8 = be8 v := by simp [beFrom, be8]
def r30 (A : Ar) (v : Int) : SV := .frs 5 1 8 (rowF eB 0 A fun _ => be8 v.toNat)
theorem good30 {v : Int} (hv : r64 v) : GoodP Tryd.prog gl0 141 [.int .u64 v] (r30 std v) := by
  obtain ⟨v, rfl, lv⟩ := r64_nat hv
  refine fn_sound' (T := seatT) (G := noC) (X := noX) seatT_ok noC_ok noX_ok noI_ok mixed Tryd.func141 .one (fun A => [.int .u64 v]) (fun A => r30 A v) fun A hA => ?_
  cbv
  repeat' (first | with_reducible exact True.intro | with_reducible exact dr_ok hA (by kernel_rfl) | with_reducible refine And.intro ?_ ?_ | (intro hc; cbv))
  · subst hA; simp [std_add, std_sub, std_mul, std_quo, std_rem, std_band, std_bor, std_bxor, std_shl, std_shr, std_eq, std_ne, std_lt, std_le, std_conv, std_not, std_beq, std_bne, std_ite, std_want, std_and2, std_sadd, std_seq, std_sne, std_slt, std_sle, std_sgt, std_sge, std_slen, std_sget, std_scut, std_ofNat, std_toNat, std_nsub, std_nadd, std_lenOf, std_nz, std_nneg, std_inb, std_upto, std_slt63, std_grow, std_imp, std_impN, std_tr, std_tb, std_ti, std_ts, std_tn, std_tp, std_nmin, std_makes, std_room, std_zeros, std_nilq, std_notq, std_eqi, std_eqn, std_eqb, std_eqs, std_eqv, std_cat, std_lst, std_rset, std_rcopy, std_shift, std_eqr, std_strOf, std_bytesOf, std_isB, std_zOf, zOf_int, std_isI, isI_int, std_getL, std_nmul, std_sOf, sOf_str, std_isS, isS_str]
  · refine ⟨⟨{k : Nat // k ≤ 8}, fun b k => [(0, .int .u64 (A.ti fun _ => (v / 256 ^ k.1 : Nat))), (3, .own 1), (4, .int .i64 (A.ti fun _ => 7 - Int.ofNat k.1))], fun b k => [(1, .row 5 1 8 (rowF eB 0 A fun _ => beFrom v k.1))], fun k => 8 - k.1, true⟩, ⟨⟨0, by omega⟩, ?_⟩, ?_⟩
    · cbv
      repeat' (first | with_reducible exact True.intro | with_reducible exact dr_ok hA (by kernel_rfl) | with_reducible refine And.intro ?_ ?_ | (intro hc; cbv))
      all_goals (subst hA; simp [std_add, std_sub, std_mul, std_quo, std_rem, std_band, std_bor, std_bxor, std_shl, std_shr, std_eq, std_ne, std_lt, std_le, std_conv, std_not, std_beq, std_bne, std_ite, std_want, std_and2, std_sadd, std_seq, std_sne, std_slt, std_sle, std_sgt, std_sge, std_slen, std_sget, std_scut, std_ofNat, std_toNat, std_nsub, std_nadd, std_lenOf, std_nz, std_nneg, std_inb, std_upto, std_slt63, std_grow, std_imp, std_impN, std_tr, std_tb, std_ti, std_ts, std_tn, std_tp, std_nmin, std_makes, std_room, std_zeros, std_nilq, std_notq, std_eqi, std_eqn, std_eqb, std_eqs, std_eqv, std_cat, std_lst, std_rset, std_rcopy, std_shift, std_eqr, std_strOf, std_bytesOf, std_isB, std_zOf, zOf_int, std_isI, isI_int, std_getL, std_nmul, std_sOf, sOf_str, std_isS, isS_str])
      exact eqr_of (Reps.fill (x := 0) (cell_eB rfl) (fun _ => rfl)) rfl (beFrom_zero v)
    · rintro ⟨k, hk⟩
      cbv
      repeat' (first | with_reducible exact True.intro | with_reducible exact dr_ok hA (by kernel_rfl) | with_reducible refine And.intro ?_ ?_ | (intro hc; cbv))
      all_goals try (subst hA; simp [std_add, std_sub, std_mul, std_quo, std_rem, std_band, std_bor, std_bxor, std_shl, std_shr, std_eq, std_ne, std_lt, std_le, std_conv, std_not, std_beq, std_bne, std_ite, std_want, std_and2, std_sadd, std_seq, std_sne, std_slt, std_sle, std_sgt, std_sge, std_slen, std_sget, std_scut, std_ofNat, std_toNat, std_nsub, std_nadd, std_lenOf, std_nz, std_nneg, std_inb, std_upto, std_slt63, std_grow, std_imp, std_impN, std_tr, std_tb, std_ti, std_ts, std_tn, std_tp, std_nmin, std_makes, std_room, std_zeros, std_nilq, std_notq, std_eqi, std_eqn, std_eqb, std_eqs, std_eqv, std_cat, std_lst, std_rset, std_rcopy, std_shift, std_eqr, std_strOf, std_bytesOf, std_isB, std_zOf, zOf_int, std_isI, isI_int, std_getL, std_nmul, std_sOf, sOf_str, std_isS, isS_str]; done)
      all_goals try (subst hA; simp [std_add, std_sub, std_mul, std_quo, std_rem, std_band, std_bor, std_bxor, std_shl, std_shr, std_eq, std_ne, std_lt, std_le, std_conv, std_not, std_beq, std_bne, std_ite, std_want, std_and2, std_sadd, std_seq, std_sne, std_slt, std_sle, std_sgt, std_sge, std_slen, std_sget, std_scut, std_ofNat, std_toNat, std_nsub, std_nadd, std_lenOf, std_nz, std_nneg, std_inb, std_upto, std_slt63, std_grow, std_imp, std_impN, std_tr, std_tb, std_ti, std_ts, std_tn, std_tp, std_nmin, std_makes, std_room, std_zeros, std_nilq, std_notq, std_eqi, std_eqn, std_eqb, std_eqs, std_eqv, std_cat, std_lst, std_rset, std_rcopy, std_shift, std_eqr, std_strOf, std_bytesOf, std_isB, std_zOf, zOf_int, std_isI, isI_int, std_getL, std_nmul, std_sOf, sOf_str, std_isS, isS_str] at hc ⊢; omega)
      · have hlt : k < 8 := by subst hA; simp [std_add, std_sub, std_mul, std_quo, std_rem, std_band, std_bor, std_bxor, std_shl, std_shr, std_eq, std_ne, std_lt, std_le, std_conv, std_not, std_beq, std_bne, std_ite, std_want, std_and2, std_sadd, std_seq, std_sne, std_slt, std_sle, std_sgt, std_sge, std_slen, std_sget, std_scut, std_ofNat, std_toNat, std_nsub, std_nadd, std_lenOf, std_nz, std_nneg, std_inb, std_upto, std_slt63, std_grow, std_imp, std_impN, std_tr, std_tb, std_ti, std_ts, std_tn, std_tp, std_nmin, std_makes, std_room, std_zeros, std_nilq, std_notq, std_eqi, std_eqn, std_eqb, std_eqs, std_eqv, std_cat, std_lst, std_rset, std_rcopy, std_shift, std_eqr, std_strOf, std_bytesOf, std_isB, std_zOf, zOf_int, std_isI, isI_int, std_getL, std_nmul, std_sOf, sOf_str, std_isS, isS_str] at hc; omega
        refine ⟨⟨k + 1, by omega⟩, ?_, show 8 - (k + 1) < 8 - k by omega⟩
        cbv
        repeat' (first | with_reducible exact True.intro | with_reducible exact dr_ok hA (by kernel_rfl) | with_reducible refine And.intro ?_ ?_ | (intro hc; cbv))
        all_goals (subst hA; simp [std_add, std_sub, std_mul, std_quo, std_rem, std_band, std_bor, std_bxor, std_shl, std_shr, std_eq, std_ne, std_lt, std_le, std_conv, std_not, std_beq, std_bne, std_ite, std_want, std_and2, std_sadd, std_seq, std_sne, std_slt, std_sle, std_sgt, std_sge, std_slen, std_sget, std_scut, std_ofNat, std_toNat, std_nsub, std_nadd, std_lenOf, std_nz, std_nneg, std_inb, std_upto, std_slt63, std_grow, std_imp, std_impN, std_tr, std_tb, std_ti, std_ts, std_tn, std_tp, std_nmin, std_makes, std_room, std_zeros, std_nilq, std_notq, std_eqi, std_eqn, std_eqb, std_eqs, std_eqv, std_cat, std_lst, std_rset, std_rcopy, std_shift, std_eqr, std_strOf, std_bytesOf, std_isB, std_zOf, zOf_int, std_isI, isI_int, std_getL, std_nmul, std_sOf, sOf_str, std_isS, isS_str])
        · rw [show (v : Int) / 256 ^ (k + 1) = ((v / 256 ^ (k + 1) : Nat) : Int) by simp, show (v : Int) / 256 ^ k = ((v / 256 ^ k : Nat) : Int) by simp, show ((v / 256 ^ k : Nat) : Int).tdiv 256 = ((v / 256 ^ k / 256 : Nat) : Int) from rfl, Nat.div_div_eq_div_mul, ← Nat.pow_succ]
          have := Nat.lt_of_le_of_lt (Nat.div_le_self v (256 ^ (k + 1))) lv
          generalize v / 256 ^ (k + 1) = m at this ⊢
          exact wu64 ⟨by omega, by omega⟩
        · rw [w64 (by omega)]; omega
        · exact eqr_of (Reps.rset' (k := 1) (enc := eB) ⟨beFrom_len v k, fun i j hi hj => .refl _⟩ (by omega) (byteAt v (7 - k)) rfl (cell_eB (beFrom_byte v k hlt))) rfl (beFrom_set v k hlt)
      all_goals (have : k = 8 := by subst hA; simp [std_add, std_sub, std_mul, std_quo, std_rem, std_band, std_bor, std_bxor, std_shl, std_shr, std_eq, std_ne, std_lt, std_le, std_conv, std_not, std_beq, std_bne, std_ite, std_want, std_and2, std_sadd, std_seq, std_sne, std_slt, std_sle, std_sgt, std_sge, std_slen, std_sget, std_scut, std_ofNat, std_toNat, std_nsub, std_nadd, std_lenOf, std_nz, std_nneg, std_inb, std_upto, std_slt63, std_grow, std_imp, std_impN, std_tr, std_tb, std_ti, std_ts, std_tn, std_tp, std_nmin, std_makes, std_room, std_zeros, std_nilq, std_notq, std_eqi, std_eqn, std_eqb, std_eqs, std_eqv, std_cat, std_lst, std_rset, std_rcopy, std_shift, std_eqr, std_strOf, std_bytesOf, std_isB, std_zOf, zOf_int, std_isI, isI_int, std_getL, std_nmul, std_sOf, sOf_str, std_isS, isS_str] at hc; omega)
      all_goals (subst hA this; simp [std_add, std_sub, std_mul, std_quo, std_rem, std_band, std_bor, std_bxor, std_shl, std_shr, std_eq, std_ne, std_lt, std_le, std_conv, std_not, std_beq, std_bne, std_ite, std_want, std_and2, std_sadd, std_seq, std_sne, std_slt, std_sle, std_sgt, std_sge, std_slen, std_sget, std_scut, std_ofNat, std_toNat, std_nsub, std_nadd, std_lenOf, std_nz, std_nneg, std_inb, std_upto, std_slt63, std_grow, std_imp, std_impN, std_tr, std_tb, std_ti, std_ts, std_tn, std_tp, std_nmin, std_makes, std_room, std_zeros, std_nilq, std_notq, std_eqi, std_eqn, std_eqb, std_eqs, std_eqv, std_cat, std_lst, std_rset, std_rcopy, std_shift, std_eqr, std_strOf, std_bytesOf, std_isB, std_zOf, zOf_int, std_isI, isI_int, std_getL, std_nmul, std_sOf, sOf_str, std_isS, isS_str, beFrom_all])
noncomputable def c30 : Ct := fun A args => match args with
  | [.int .u64 v] => some (some (A.tp fun _ => r64 v), r30 A v)
  | _ => none
noncomputable def ga : Ar → Pu := addC 141 c30 (addC 147 c31 g9)
theorem ga_ok : PuOk Tryd.prog gl0 (ga std) := by
  refine addC_ok (addC_ok g9_ok ⟨_, Tryd.func147, rfl, by decide⟩ ?_) ⟨_, Tryd.func141, rfl, by decide⟩ ?_
  · intro args p r h hp
    unfold c31 at h
    split at h <;> cases h
    exact good_sv (good32 _ (by rw [lstOf_length hp.1]; exact hp.2)) ⟨hp.1.sv, trivial⟩
  · intro args p r h hp
    unfold c30 at h
    split at h <;> cases h
    exact good30 hp
end Go.Vd

/- The reference's bytes of a bitmap, and the bitmap of bytes. -/
set_option linter.unusedVariables false
set_option linter.unusedSimpArgs false
set_option maxRecDepth 100000
set_option maxHeartbeats 1000000
namespace Go.Vd
open Go.Proofs
/-- One cast, one form. -/
theorem ncast (n : Nat) : @NatCast.natCast Int instNatCastInt n = (n : Int) := rfl
/-- The bytes of a bitmap that is right, as the reference has them. -/
def bref (h l : Nat) : List UInt8 := if l = 0 then be8 h else be8 h ++ be8 l
def r19 (A : Ar) (h l : Int) : SV := rowS eB 0 1 A fun _ => bref h.toNat l.toNat
theorem good19 {h l : Int} (hh : r64 h) (hl : r64 l) : GoodP Tryd.prog gl0 80 [.agg [.int .u64 h, .int .u64 l]] (r19 std h l) := by
  obtain ⟨h, rfl, lh⟩ := r64_nat hh
  obtain ⟨l, rfl, ll⟩ := r64_nat hl
  refine fn_sound' (T := seatT) (G := ga) (X := noX) seatT_ok ga_ok noX_ok noI_ok mixed Tryd.func80 .none (fun A => [.agg [.int .u64 h, .int .u64 l]]) (fun A => r19 A h l) fun A hA => ?_
  cbv
  repeat' (first | with_reducible exact True.intro | with_reducible exact dr_ok hA (by kernel_rfl) | with_reducible refine And.intro ?_ ?_ | (intro hc; cbv))
  all_goals (subst hA; simp [std_add, std_sub, std_mul, std_quo, std_rem, std_band, std_bor, std_bxor, std_shl, std_shr, std_eq, std_ne, std_lt, std_le, std_conv, std_not, std_beq, std_bne, std_ite, std_want, std_and2, std_sadd, std_seq, std_sne, std_slt, std_sle, std_sgt, std_sge, std_slen, std_sget, std_scut, std_ofNat, std_toNat, std_nsub, std_nadd, std_lenOf, std_nz, std_nneg, std_inb, std_upto, std_slt63, std_grow, std_imp, std_impN, std_tr, std_tb, std_ti, std_ts, std_tn, std_tp, std_nmin, std_makes, std_room, std_zeros, std_nilq, std_notq, std_eqi, std_eqn, std_eqb, std_eqs, std_eqv, std_cat, std_lst, std_rset, std_rcopy, std_shift, std_eqr, std_strOf, std_bytesOf, std_isB, std_zOf, zOf_int, std_isI, isI_int, std_getL, std_nmul, std_sOf, sOf_str, std_isS, isS_str] at *)
  all_goals first
    | assumption
    | (simp [bref, hc, be8_len]; done)
    | (simp only [bref, hc, if_false]; exact eqr_of (Reps.catE (Reps.lit (be8 h)) (Reps.lit (be8 l)) (be8_len h)) (by simp [be8_len]) rfl)
    | trace_state
theorem brM_iff (L : List UInt8) (h : 8 ≤ L.length) : brM L = decide (128 ≤ (L.getD 0 0).toNat) := by
  have h1 := numTo_div L 1 7 (by omega)
  have h2 : numTo L 1 = (L.getD 0 0).toNat := by
    rw [numTo_succ L 0 (by omega)]; simp [numTo]
  have h3 := UInt8.toNat_lt (L.getD 0 0)
  rw [h2] at h1
  unfold brM brH
  rw [Nat.testBit_eq_decide_div_mod_eq]
  have h4 : numTo L 8 / 2 ^ 63 = (L.getD 0 0).toNat / 128 := by
    rw [← h1, Nat.div_div_eq_div_mul]
  rw [h4]
  congr 1
  apply propext
  omega
theorem good21 (L : List UInt8) (hn : L.length ≤ 9223372036854775807) : GoodP Tryd.prog gl0 87 [rowS eB 0 1 std fun _ => L] (r20 std fun _ => L) := by
  refine fn_sound' (T := seatT) (G := ga) (X := noX) seatT_ok ga_ok noX_ok noI_ok mixed Tryd.func87 .one (fun A => [rowS eB 0 1 A fun _ => L]) (fun A => r20 A fun _ => L) fun A hA => ?_
  cbv
  repeat' (first | with_reducible exact True.intro | with_reducible exact dr_ok hA (by kernel_rfl) | with_reducible refine And.intro ?_ ?_ | (intro hc; cbv))
  all_goals (subst hA; simp [std_add, std_sub, std_mul, std_quo, std_rem, std_band, std_bor, std_bxor, std_shl, std_shr, std_eq, std_ne, std_lt, std_le, std_conv, std_not, std_beq, std_bne, std_ite, std_want, std_and2, std_sadd, std_seq, std_sne, std_slt, std_sle, std_sgt, std_sge, std_slen, std_sget, std_scut, std_ofNat, std_toNat, std_nsub, std_nadd, std_lenOf, std_nz, std_nneg, std_inb, std_upto, std_slt63, std_grow, std_imp, std_impN, std_tr, std_tb, std_ti, std_ts, std_tn, std_tp, std_nmin, std_makes, std_room, std_zeros, std_nilq, std_notq, std_eqi, std_eqn, std_eqb, std_eqs, std_eqv, std_cat, std_lst, std_rset, std_rcopy, std_shift, std_eqr, std_strOf, std_bytesOf, std_isB, std_zOf, zOf_int, std_isI, isI_int, std_getL, std_nmul, std_sOf, sOf_str, std_isS, isS_str, ncast, strOf_lit, lstOf_lit inj_eB, lstOf_lit inj_eZ, lstOf_lit inj_eBs, lstOf_lit inj_eS, isRow_lit, isB_lit, isRow_nil, lstOf_nil inj_eB, lstOf_nil inj_eZ, lstOf_nil inj_eBs, lstOf_nil inj_eS, lst_drop, row_drop] at *)
  all_goals try omega
  · by_cases e : L.length < 8
    · simp [br1, brE, e]
    · have hb : brM L = true := by rw [brM_iff L (by omega)]; simp; omega
      simp [br1, brE, e, hb, show L.length < 16 by omega]
  · by_cases e : L.length < 8
    · simp [br2, brE, e]
    · have hb : brM L = true := by rw [brM_iff L (by omega)]; simp; omega
      simp [br2, brE, e, hb, show L.length < 16 by omega]
  · by_cases e : L.length < 8
    · simp [brN, brE, e]
    · have hb : brM L = true := by rw [brM_iff L (by omega)]; simp; omega
      simp [brN, brE, e, hb, show L.length < 16 by omega]
  · by_cases e : L.length < 8
    · simp [brE, e]
    · have hb : brM L = true := by rw [brM_iff L (by omega)]; simp; omega
      simp [brE, e, hb, show L.length < 16 by omega]
  all_goals first
    | exact ⟨numTo_r _ (by omega), numTo_r _ (by simp; omega)⟩
    | exact ⟨numTo_r _ (by omega), r64_of (by decide)⟩
    | (have hb : brM L = true := by rw [brM_iff L (by omega)]; simp; omega
       have e1 : ¬ L.length < 8 := by omega
       have e2 : ¬ L.length < 16 := by omega
       simp [br1, br2, brN, brE, brL, e1, e2, hb, brH, hc]; done)
    | (have hb : brM L = false := by rw [brM_iff L (by omega)]; simp; omega
       have e1 : ¬ L.length < 8 := by omega
       simp [br1, br2, brN, brE, brL, e1, hb, brH, hc]; done)
theorem bright_ne {h l : Nat} (hb : bright h l = true) : bref h l = bbytes h l := by
  have := bright_iff.1 hb
  unfold bref bbytes
  rw [hb, this.2]
  by_cases e : l = 0 <;> simp [e]
noncomputable def c19 : Ct := fun A args => match args with
  | [.agg [.int .u64 h, .int .u64 l]] => some (some (A.tp fun _ => r64 h ∧ r64 l), r19 A h l)
  | _ => none
noncomputable def gb : Ar → Pu := addC 80 c19 (addC 87 c20 ga)
theorem gb_ok : PuOk Tryd.prog gl0 (gb std) := by
  refine addC_ok (addC_ok ga_ok ⟨_, Tryd.func87, rfl, by decide⟩ ?_) ⟨_, Tryd.func80, rfl, by decide⟩ ?_
  · intro args p r h hp
    unfold c20 at h
    split at h <;> cases h
    exact good_sv (good21 _ (by rw [lstOf_length hp.1]; exact hp.2)) ⟨hp.1.sv, trivial⟩
  · intro args p r h hp
    unfold c19 at h
    split at h <;> cases h
    exact good19 hp.1 hp.2
end Go.Vd
