/- The reference's functions of the bitmap: bytes and back. -/
import Derived.Test.YtakcggldilbilaaDoorVdBc
import Derived.Test.YtakcggldilbilaaDoorVdRow2
import Derived.Lib.SmallJoins
import Derived.Test.YtakcggldilbilaaDoorRows
import Derived.Test.YtakcggldilbilaaDoorCards
import Derived.Test.YtakcggldilbilaaDoorTie
import Derived.Test.YtakcggldilbilaaDoorVdH2
import Derived.ProofKit
import Derived.LaidMore
import Derived.OpenShut
import Derived.Stop.Joined
import Derived.SevenTiedAt
import Derived.Lib.LaidTab
import Derived.Test.YtakcggldilbilaaDoorVdM1
set_option linter.unusedVariables false
set_option linter.unusedSimpArgs false
set_option maxRecDepth 100000
set_option maxHeartbeats 1000000
namespace Go.Vd
open Go.Proofs
theorem good32 (L : List UInt8) (hn : 8 ≤ L.length) : GoodP Tryd.prog gl0 147 [rowS eB 0 1 std fun _ => L] (r31 std fun _ => L) := by
  refine fn_sound' (T := seatT) (G := noC) (X := noX) seatT_ok noC_ok noX_ok noI_ok mixed Tryd.func147 .one (fun A => [rowS eB 0 1 A fun _ => L]) (fun A => r31 A fun _ => L) fun A hA => ?_
  cbv
  refine ⟨⟨{k : Nat // k ≤ 8}, fun _ k => [(3, .int .u64 (A.ti fun _ => numTo L k.1)), (4, .int .i64 (k.1 : Nat))], fun _ _ => [], fun k => 8 - k.1, true⟩, ⟨⟨0, by omega⟩, ?_⟩, ?_⟩
  · cbv
    subst hA
    simp [std_add, std_sub, std_mul, std_quo, std_rem, std_band, std_bor, std_bxor, std_shl, std_shr, std_eq, std_ne, std_lt, std_le, std_conv, std_not, std_beq, std_bne, std_ite, std_want, std_and2, std_sadd, std_seq, std_sne, std_slt, std_sle, std_sgt, std_sge, std_slen, std_sget, std_scut, std_ofNat, std_toNat, std_nsub, std_nadd, std_lenOf, std_nz, std_nneg, std_inb, std_upto, std_slt63, std_grow, std_imp, std_impN, std_tr, std_tb, std_ti, std_ts, std_tn, std_tp, std_nmin, std_makes, std_room, std_zeros, std_nilq, std_notq, std_eqi, std_eqn, std_eqb, std_eqs, std_eqv, std_cat, std_lst, std_rset, std_rcopy, std_shift, std_eqr, std_strOf, std_bytesOf, std_isB, std_zOf, zOf_int, std_isI, isI_int, std_getL, std_nmul, std_sOf, sOf_str, std_isS, isS_str, numTo]
  · rintro ⟨k, hk⟩
    cbv
    repeat' (first | with_reducible exact True.intro | with_reducible exact dr_ok hA (by kernel_rfl) | with_reducible refine And.intro ?_ ?_ | (intro hc; cbv))
    · subst hA; simp [std_add, std_sub, std_mul, std_quo, std_rem, std_band, std_bor, std_bxor, std_shl, std_shr, std_eq, std_ne, std_lt, std_le, std_conv, std_not, std_beq, std_bne, std_ite, std_want, std_and2, std_sadd, std_seq, std_sne, std_slt, std_sle, std_sgt, std_sge, std_slen, std_sget, std_scut, std_ofNat, std_toNat, std_nsub, std_nadd, std_lenOf, std_nz, std_nneg, std_inb, std_upto, std_slt63, std_grow, std_imp, std_impN, std_tr, std_tb, std_ti, std_ts, std_tn, std_tp, std_nmin, std_makes, std_room, std_zeros, std_nilq, std_notq, std_eqi, std_eqn, std_eqb, std_eqs, std_eqv, std_cat, std_lst, std_rset, std_rcopy, std_shift, std_eqr, std_strOf, std_bytesOf, std_isB, std_zOf, zOf_int, std_isI, isI_int, std_getL, std_nmul, std_sOf, sOf_str, std_isS, isS_str] at hc ⊢; omega
    · have hlt : k < 8 := by subst hA; simp [std_add, std_sub, std_mul, std_quo, std_rem, std_band, std_bor, std_bxor, std_shl, std_shr, std_eq, std_ne, std_lt, std_le, std_conv, std_not, std_beq, std_bne, std_ite, std_want, std_and2, std_sadd, std_seq, std_sne, std_slt, std_sle, std_sgt, std_sge, std_slen, std_sget, std_scut, std_ofNat, std_toNat, std_nsub, std_nadd, std_lenOf, std_nz, std_nneg, std_inb, std_upto, std_slt63, std_grow, std_imp, std_impN, std_tr, std_tb, std_ti, std_ts, std_tn, std_tp, std_nmin, std_makes, std_room, std_zeros, std_nilq, std_notq, std_eqi, std_eqn, std_eqb, std_eqs, std_eqv, std_cat, std_lst, std_rset, std_rcopy, std_shift, std_eqr, std_strOf, std_bytesOf, std_isB, std_zOf, zOf_int, std_isI, isI_int, std_getL, std_nmul, std_sOf, sOf_str, std_isS, isS_str] at hc; omega
      refine ⟨⟨k + 1, by omega⟩, ?_, show 8 - (k + 1) < 8 - k by omega⟩
      cbv
      repeat' (first | with_reducible exact True.intro | with_reducible exact dr_ok hA (by kernel_rfl) | with_reducible refine And.intro ?_ ?_ | (intro hc; cbv))
      all_goals (subst hA; simp [std_add, std_sub, std_mul, std_quo, std_rem, std_band, std_bor, std_bxor, std_shl, std_shr, std_eq, std_ne, std_lt, std_le, std_conv, std_not, std_beq, std_bne, std_ite, std_want, std_and2, std_sadd, std_seq, std_sne, std_slt, std_sle, std_sgt, std_sge, std_slen, std_sget, std_scut, std_ofNat, std_toNat, std_nsub, std_nadd, std_lenOf, std_nz, std_nneg, std_inb, std_upto, std_slt63, std_grow, std_imp, std_impN, std_tr, std_tb, std_ti, std_ts, std_tn, std_tp, std_nmin, std_makes, std_room, std_zeros, std_nilq, std_notq, std_eqi, std_eqn, std_eqb, std_eqs, std_eqv, std_cat, std_lst, std_rset, std_rcopy, std_shift, std_eqr, std_strOf, std_bytesOf, std_isB, std_zOf, zOf_int, std_isI, isI_int, std_getL, std_nmul, std_sOf, sOf_str, std_isS, isS_str])
      · have h1 := numTo_lt L k (by omega)
        have h3 : 256 ^ k * 256 ≤ 256 ^ 8 := by rw [← Nat.pow_succ]; exact Nat.pow_le_pow_right (by decide) hlt
        have hs := numTo_succ L k (by omega)
        rw [List.getD_eq_getElem?_getD] at hs
        have hb := UInt8.toNat_lt (L[k]?.getD 0)
        generalize (L[k]?.getD 0).toNat = b at hs hb
        rw [wu64 (n := (b : Int)) ⟨by omega, by omega⟩, wu64 (n := 256 * (numTo L k : Int)) ⟨by omega, by omega⟩, wu64 ⟨by omega, by omega⟩, hs]
        show 256 * (numTo L k : Int) + (b : Int) = ((numTo L k * 256 + b : Nat) : Int)
        omega
      · rw [w64 (by omega)]
    · have : k = 8 := by subst hA; simp [std_add, std_sub, std_mul, std_quo, std_rem, std_band, std_bor, std_bxor, std_shl, std_shr, std_eq, std_ne, std_lt, std_le, std_conv, std_not, std_beq, std_bne, std_ite, std_want, std_and2, std_sadd, std_seq, std_sne, std_slt, std_sle, std_sgt, std_sge, std_slen, std_sget, std_scut, std_ofNat, std_toNat, std_nsub, std_nadd, std_lenOf, std_nz, std_nneg, std_inb, std_upto, std_slt63, std_grow, std_imp, std_impN, std_tr, std_tb, std_ti, std_ts, std_tn, std_tp, std_nmin, std_makes, std_room, std_zeros, std_nilq, std_notq, std_eqi, std_eqn, std_eqb, std_eqs, std_eqv, std_cat, std_lst, std_rset, std_rcopy, std_shift, std_eqr, std_strOf, std_bytesOf, std_isB, std_zOf, zOf_int, std_isI, isI_int, std_getL, std_nmul, std_sOf, sOf_str, std_isS, isS_str] at hc; omega
      subst hA this
      simp [std_add, std_sub, std_mul, std_quo, std_rem, std_band, std_bor, std_bxor, std_shl, std_shr, std_eq, std_ne, std_lt, std_le, std_conv, std_not, std_beq, std_bne, std_ite, std_want, std_and2, std_sadd, std_seq, std_sne, std_slt, std_sle, std_sgt, std_sge, std_slen, std_sget, std_scut, std_ofNat, std_toNat, std_nsub, std_nadd, std_lenOf, std_nz, std_nneg, std_inb, std_upto, std_slt63, std_grow, std_imp, std_impN, std_tr, std_tb, std_ti, std_ts, std_tn, std_tp, std_nmin, std_makes, std_room, std_zeros, std_nilq, std_notq, std_eqi, std_eqn, std_eqb, std_eqs, std_eqv, std_cat, std_lst, std_rset, std_rcopy, std_shift, std_eqr, std_strOf, std_bytesOf, std_isB, std_zOf, zOf_int, std_isI, isI_int, std_getL, std_nmul, std_sOf, sOf_str, std_isS, isS_str]
def beFrom (v k : Nat) : List UInt8 := (List.range 8).map fun i => if 8 - k ≤ i then byteAt v i else 0
theorem beFrom_get (v k i : Nat) (h : i < 8) : (beFrom v k)[i]?.getD 0 = if 8 - k ≤ i then byteAt v i else 0 := by simp [beFrom, h]
theorem beFrom_len (v k : Nat) : (beFrom v k).length = 8 := by simp [beFrom]
theorem beFrom_zero (v : Nat) : List.replicate 8 0 = beFrom v 0 := by
  apply List.ext_getElem
  · simp [beFrom]
  · intro i h1 h2
    simp at h1
    have := beFrom_get v 0 i h1
    rw [if_neg (by omega), List.getElem?_eq_getElem h2] at this
    rw [List.getElem_replicate]
    exact this.symm
theorem beFrom_set (v k : Nat) (hk : k < 8) : (beFrom v k).set (7 - k) (byteAt v (7 - k)) = beFrom v (k + 1) := by
  apply List.ext_getElem
  · simp [beFrom]
  · intro i h1 h2
    rw [beFrom_len] at h2
    have a := beFrom_get v k i h2
    have b := beFrom_get v (k + 1) i h2
    rw [List.getElem?_eq_getElem (by rw [beFrom_len]; exact h2), Option.getD_some] at a b
    rw [List.getElem_set, a, b]
    by_cases e : 7 - k = i
    · subst e; rw [if_pos rfl, if_pos (by omega)]
    · rw [if_neg e]
      by_cases h3 : 8 - k ≤ i
      · rw [if_pos h3, if_pos (by omega)]
      · rw [if_neg h3, if_neg (by omega)]
theorem beFrom_byte (v k : Nat) (hk : k < 8) : IntKind.u8.wrap (((v : Int) / 256 ^ k).tmod 256) = ((byteAt v (7 - k)).toNat : Int) := by
  rw [byteAt_nat, show 7 - (7 - k) = k by omega, show (v : Int) / 256 ^ k = ((v / 256 ^ k : Nat) : Int) by simp, show ((v / 256 ^ k : Nat) : Int).tmod 256 = ((v / 256 ^ k % 256 : Nat) : Int) from rfl, wu8, Nat.mod_mod]
theorem beFrom_all (v : Nat) : beFrom v 8 = be8 v := by simp [beFrom, be8]
def r30 (A : Ar) (v : Int) : SV := .frs 5 1 8 (rowF eB 0 A fun _ => be8 v.toNat)
theorem good30 {v : Int} (hv : r64 v) : GoodP Tryd.prog gl0 141 [.int .u64 v] (r30 std v) := by
  obtain ⟨v, rfl, lv⟩ := r64_nat hv
  refine fn_sound' (T := seatT) (G := noC) (X := noX) seatT_ok noC_ok noX_ok noI_ok mixed Tryd.func141 .one (fun A => [.int .u64 v]) (fun A => r30 A v) fun A hA => ?_
  cbv
  repeat' (first | with_reducible exact True.intro | with_reducible exact dr_ok hA (by kernel_rfl) | with_reducible refine And.intro ?_ ?_ | (intro hc; cbv))
  · subst hA; simp [std_add, std_sub, std_mul, std_quo, std_rem, std_band, std_bor, std_bxor, std_shl, std_shr, std_eq, std_ne, std_lt, std_le, std_conv, std_not, std_beq, std_bne, std_ite, std_want, std_and2, std_sadd, std_seq, std_sne, std_slt, std_sle, std_sgt, std_sge, std_slen, std_sget, std_scut, std_ofNat, std_toNat, std_nsub, std_nadd, std_lenOf, std_nz, std_nneg, std_inb, std_upto, std_slt63, std_grow, std_imp, std_impN, std_tr, std_tb, std_ti, std_ts, std_tn, std_tp, std_nmin, std_makes, std_room, std_zeros, std_nilq, std_notq, std_eqi, std_eqn, std_eqb, std_eqs, std_eqv, std_cat, std_lst, std_rset, std_rcopy, std_shift, std_eqr, std_strOf, std_bytesOf, std_isB, std_zOf, zOf_int, std_isI, isI_int, std_getL, std_nmul, std_sOf, sOf_str, std_isS, isS_str]
  · refine ⟨⟨{k : Nat // k ≤ 8}, fun b k => [(0, .int .u64 (A.ti fun _ => (v / 256 ^ k.1 : Nat))), (3, .own 1), (4, .int .i64 (A.ti fun _ => 7 - Int.ofNat k.1))], fun b k => [(1, .row 5 1 8 (rowF eB 0 A fun _ => beFrom v k.1))], fun k => 8 - k.1, true⟩, ⟨⟨0, by omega⟩, ?_⟩, ?_⟩
    · cbv
      repeat' (first | with_reducible exact True.intro | with_reducible exact dr_ok hA (by kernel_rfl) | with_reducible refine And.intro ?_ ?_ | (intro hc; cbv))
      all_goals (subst hA; simp [std_add, std_sub, std_mul, std_quo, std_rem, std_band, std_bor, std_bxor, std_shl, std_shr, std_eq, std_ne, std_lt, std_le, std_conv, std_not, std_beq, std_bne, std_ite, std_want, std_and2, std_sadd, std_seq, std_sne, std_slt, std_sle, std_sgt, std_sge, std_slen, std_sget, std_scut, std_ofNat, std_toNat, std_nsub, std_nadd, std_lenOf, std_nz, std_nneg, std_inb, std_upto, std_slt63, std_grow, std_imp, std_impN, std_tr, std_tb, std_ti, std_ts, std_tn, std_tp, std_nmin, std_makes, std_room, std_zeros, std_nilq, std_notq, std_eqi, std_eqn, std_eqb, std_eqs, std_eqv, std_cat, std_lst, std_rset, std_rcopy, std_shift, std_eqr, std_strOf, std_bytesOf, std_isB, std_zOf, zOf_int, std_isI, isI_int, std_getL, std_nmul, std_sOf, sOf_str, std_isS, isS_str])
      exact eqr_of (Reps.fill (x := 0) (cell_eB rfl) (fun _ => rfl)) rfl (beFrom_zero v)
    · rintro ⟨k, hk⟩
      cbv
      repeat' (first | with_reducible exact True.intro | with_reducible exact dr_ok hA (by kernel_rfl) | with_reducible refine And.intro ?_ ?_ | (intro hc; cbv))
      all_goals try (subst hA; simp [std_add, std_sub, std_mul, std_quo, std_rem, std_band, std_bor, std_bxor, std_shl, std_shr, std_eq, std_ne, std_lt, std_le, std_conv, std_not, std_beq, std_bne, std_ite, std_want, std_and2, std_sadd, std_seq, std_sne, std_slt, std_sle, std_sgt, std_sge, std_slen, std_sget, std_scut, std_ofNat, std_toNat, std_nsub, std_nadd, std_lenOf, std_nz, std_nneg, std_inb, std_upto, std_slt63, std_grow, std_imp, std_impN, std_tr, std_tb, std_ti, std_ts, std_tn, std_tp, std_nmin, std_makes, std_room, std_zeros, std_nilq, std_notq, std_eqi, std_eqn, std_eqb, std_eqs, std_eqv, std_cat, std_lst, std_rset, std_rcopy, std_shift, std_eqr, std_strOf, std_bytesOf, std_isB, std_zOf, zOf_int, std_isI, isI_int, std_getL, std_nmul, std_sOf, sOf_str, std_isS, isS_str]; done)
      all_goals try (subst hA; simp [std_add, std_sub, std_mul, std_quo, std_rem, std_band, std_bor, std_bxor, std_shl, std_shr, std_eq, std_ne, std_lt, std_le, std_conv, std_not, std_beq, std_bne, std_ite, std_want, std_and2, std_sadd, std_seq, std_sne, std_slt, std_sle, std_sgt, std_sge, std_slen, std_sget, std_scut, std_ofNat, std_toNat, std_nsub, std_nadd, std_lenOf, std_nz, std_nneg, std_inb, std_upto, std_slt63, std_grow, std_imp, std_impN, std_tr, std_tb, std_ti, std_ts, std_tn, std_tp, std_nmin, std_makes, std_room, std_zeros, std_nilq, std_notq, std_eqi, std_eqn, std_eqb, std_eqs, std_eqv, std_cat, std_lst, std_rset, std_rcopy, std_shift, std_eqr, std_strOf, std_bytesOf, std_isB, std_zOf, zOf_int, std_isI, isI_int, std_getL, std_nmul, std_sOf, sOf_str, std_isS, isS_str] at hc ⊢; omega)
      · have hlt : k < 8 := by subst hA; simp [std_add, std_sub, std_mul, std_quo, std_rem, std_band, std_bor, std_bxor, std_shl, std_shr, std_eq, std_ne, std_lt, std_le, std_conv, std_not, std_beq, std_bne, std_ite, std_want, std_and2, std_sadd, std_seq, std_sne, std_slt, std_sle, std_sgt, std_sge, std_slen, std_sget, std_scut, std_ofNat, std_toNat, std_nsub, std_nadd, std_lenOf, std_nz, std_nneg, std_inb, std_upto, std_slt63, std_grow, std_imp, std_impN, std_tr, std_tb, std_ti, std_ts, std_tn, std_tp, std_nmin, std_makes, std_room, std_zeros, std_nilq, std_notq, std_eqi, std_eqn, std_eqb, std_eqs, std_eqv, std_cat, std_lst, std_rset, std_rcopy, std_shift, std_eqr, std_strOf, std_bytesOf, std_isB, std_zOf, zOf_int, std_isI, isI_int, std_getL, std_nmul, std_sOf, sOf_str, std_isS, isS_str] at hc; omega
        refine ⟨⟨k + 1, by omega⟩, ?_, show 8 - (k + 1) < 8 - k by omega⟩
        cbv
        repeat' (first | with_reducible exact True.intro | with_reducible exact dr_ok hA (by kernel_rfl) | with_reducible refine And.intro ?_ ?_ | (intro hc; cbv))
        all_goals (subst hA; simp [std_add, std_sub, std_mul, std_quo, std_rem, std_band, std_bor, std_bxor, std_shl, std_shr, std_eq, std_ne, std_lt, std_le, std_conv, std_not, std_beq, std_bne, std_ite, std_want, std_and2, std_sadd, std_seq, std_sne, std_slt, std_sle, std_sgt, std_sge, std_slen, std_sget, std_scut, std_ofNat, std_toNat, std_nsub, std_nadd, std_lenOf, std_nz, std_nneg, std_inb, std_upto, std_slt63, std_grow, std_imp, std_impN, std_tr, std_tb, std_ti, std_ts, std_tn, std_tp, std_nmin, std_makes, std_room, std_zeros, std_nilq, std_notq, std_eqi, std_eqn, std_eqb, std_eqs, std_eqv, std_cat, std_lst, std_rset, std_rcopy, std_shift, std_eqr, std_strOf, std_bytesOf, std_isB, std_zOf, zOf_int, std_isI, isI_int, std_getL, std_nmul, std_sOf, sOf_str, std_isS, isS_str])
        · rw [show (v : Int) / 256 ^ (k + 1) = ((v / 256 ^ (k + 1) : Nat) : Int) by simp, show (v : Int) / 256 ^ k = ((v / 256 ^ k : Nat) : Int) by simp, show ((v / 256 ^ k : Nat) : Int).tdiv 256 = ((v / 256 ^ k / 256 : Nat) : Int) from rfl, Nat.div_div_eq_div_mul, ← Nat.pow_succ]
          have := Nat.lt_of_le_of_lt (Nat.div_le_self v (256 ^ (k + 1))) lv
          generalize v / 256 ^ (k + 1) = m at this ⊢
          exact wu64 ⟨by omega, by omega⟩
        · rw [w64 (by omega)]; omega
        · exact eqr_of (Reps.rset' (k := 1) (enc := eB) ⟨beFrom_len v k, fun i j hi hj => .refl _⟩ (by omega) (byteAt v (7 - k)) rfl (cell_eB (beFrom_byte v k hlt))) rfl (beFrom_set v k hlt)
      all_goals (have : k = 8 := by subst hA; simp [std_add, std_sub, std_mul, std_quo, std_rem, std_band, std_bor, std_bxor, std_shl, std_shr, std_eq, std_ne, std_lt, std_le, std_conv, std_not, std_beq, std_bne, std_ite, std_want, std_and2, std_sadd, std_seq, std_sne, std_slt, std_sle, std_sgt, std_sge, std_slen, std_sget, std_scut, std_ofNat, std_toNat, std_nsub, std_nadd, std_lenOf, std_nz, std_nneg, std_inb, std_upto, std_slt63, std_grow, std_imp, std_impN, std_tr, std_tb, std_ti, std_ts, std_tn, std_tp, std_nmin, std_makes, std_room, std_zeros, std_nilq, std_notq, std_eqi, std_eqn, std_eqb, std_eqs, std_eqv, std_cat, std_lst, std_rset, std_rcopy, std_shift, std_eqr, std_strOf, std_bytesOf, std_isB, std_zOf, zOf_int, std_isI, isI_int, std_getL, std_nmul, std_sOf, sOf_str, std_isS, isS_str] at hc; omega)
      all_goals (subst hA this; simp [std_add, std_sub, std_mul, std_quo, std_rem, std_band, std_bor, std_bxor, std_shl, std_shr, std_eq, std_ne, std_lt, std_le, std_conv, std_not, std_beq, std_bne, std_ite, std_want, std_and2, std_sadd, std_seq, std_sne, std_slt, std_sle, std_sgt, std_sge, std_slen, std_sget, std_scut, std_ofNat, std_toNat, std_nsub, std_nadd, std_lenOf, std_nz, std_nneg, std_inb, std_upto, std_slt63, std_grow, std_imp, std_impN, std_tr, std_tb, std_ti, std_ts, std_tn, std_tp, std_nmin, std_makes, std_room, std_zeros, std_nilq, std_notq, std_eqi, std_eqn, std_eqb, std_eqs, std_eqv, std_cat, std_lst, std_rset, std_rcopy, std_shift, std_eqr, std_strOf, std_bytesOf, std_isB, std_zOf, zOf_int, std_isI, isI_int, std_getL, std_nmul, std_sOf, sOf_str, std_isS, isS_str, beFrom_all])
noncomputable def c30 : Ct := fun A args => match args with
  | [.int .u64 v] => some (some (A.tp fun _ => r64 v), r30 A v)
  | _ => none
noncomputable def ga : Ar → Pu := addC 141 c30 (addC 147 c31 g9)
theorem ga_ok : PuOk Tryd.prog gl0 (ga std) := by
  refine addC_ok (addC_ok g9_ok ⟨_, Tryd.func147, rfl, by decide⟩ ?_) ⟨_, Tryd.func141, rfl, by decide⟩ ?_
  · intro args p r h hp
    unfold c31 at h
    split at h <;> cases h
    exact good_sv (good32 _ (by rw [lstOf_length hp.1]; exact hp.2)) ⟨hp.1.sv, trivial⟩
  · intro args p r h hp
    unfold c30 at h
    split at h <;> cases h
    exact good30 hp
end Go.Vd

set_option linter.unusedVariables false
set_option linter.unusedSimpArgs false
set_option maxRecDepth 100000
set_option maxHeartbeats 1000000
namespace Go.Vd
open Go.Proofs
/-- One cast, one form. -/
theorem ncast (n : Nat) : @NatCast.natCast Int instNatCastInt n = (n : Int) := rfl
/-- The bytes of a bitmap that is right, as the reference has them. -/
def bref (h l : Nat) : List UInt8 := if l = 0 then be8 h else be8 h ++ be8 l
def r19 (A : Ar) (h l : Int) : SV := rowS eB 0 1 A fun _ => bref h.toNat l.toNat
theorem good19 {h l : Int} (hh : r64 h) (hl : r64 l) : GoodP Tryd.prog gl0 80 [.agg [.int .u64 h, .int .u64 l]] (r19 std h l) := by
  obtain ⟨h, rfl, lh⟩ := r64_nat hh
  obtain ⟨l, rfl, ll⟩ := r64_nat hl
  refine fn_sound' (T := seatT) (G := ga) (X := noX) seatT_ok ga_ok noX_ok noI_ok mixed Tryd.func80 .none (fun A => [.agg [.int .u64 h, .int .u64 l]]) (fun A => r19 A h l) fun A hA => ?_
  cbv
  repeat' (first | with_reducible exact True.intro | with_reducible exact dr_ok hA (by kernel_rfl) | with_reducible refine And.intro ?_ ?_ | (intro hc; cbv))
  all_goals (subst hA; simp [std_add, std_sub, std_mul, std_quo, std_rem, std_band, std_bor, std_bxor, std_shl, std_shr, std_eq, std_ne, std_lt, std_le, std_conv, std_not, std_beq, std_bne, std_ite, std_want, std_and2, std_sadd, std_seq, std_sne, std_slt, std_sle, std_sgt, std_sge, std_slen, std_sget, std_scut, std_ofNat, std_toNat, std_nsub, std_nadd, std_lenOf, std_nz, std_nneg, std_inb, std_upto, std_slt63, std_grow, std_imp, std_impN, std_tr, std_tb, std_ti, std_ts, std_tn, std_tp, std_nmin, std_makes, std_room, std_zeros, std_nilq, std_notq, std_eqi, std_eqn, std_eqb, std_eqs, std_eqv, std_cat, std_lst, std_rset, std_rcopy, std_shift, std_eqr, std_strOf, std_bytesOf, std_isB, std_zOf, zOf_int, std_isI, isI_int, std_getL, std_nmul, std_sOf, sOf_str, std_isS, isS_str] at *)
  all_goals first
    | assumption
    | (simp [bref, hc, be8_len]; done)
    | (simp only [bref, hc, if_false]; exact eqr_of (Reps.catE (Reps.lit (be8 h)) (Reps.lit (be8 l)) (be8_len h)) (by simp [be8_len]) rfl)
    | trace_state
theorem brM_iff (L : List UInt8) (h : 8 ≤ L.length) : brM L = decide (128 ≤ (L.getD 0 0).toNat) := by
  have h1 := numTo_div L 1 7 (by omega)
  have h2 : numTo L 1 = (L.getD 0 0).toNat := by
    rw [numTo_succ L 0 (by omega)]; simp [numTo]
  have h3 := UInt8.toNat_lt (L.getD 0 0)
  rw [h2] at h1
  unfold brM brH
  rw [Nat.testBit_eq_decide_div_mod_eq]
  have h4 : numTo L 8 / 2 ^ 63 = (L.getD 0 0).toNat / 128 := by
    rw [← h1, Nat.div_div_eq_div_mul]
  rw [h4]
  congr 1
  apply propext
  omega
theorem good21 (L : List UInt8) (hn : L.length ≤ 9223372036854775807) : GoodP Tryd.prog gl0 87 [rowS eB 0 1 std fun _ => L] (r20 std fun _ => L) := by
  refine fn_sound' (T := seatT) (G := ga) (X := noX) seatT_ok ga_ok noX_ok noI_ok mixed Tryd.func87 .one (fun A => [rowS eB 0 1 A fun _ => L]) (fun A => r20 A fun _ => L) fun A hA => ?_
  cbv
  repeat' (first | with_reducible exact True.intro | with_reducible exact dr_ok hA (by kernel_rfl) | with_reducible refine And.intro ?_ ?_ | (intro hc; cbv))
  all_goals (subst hA; simp [std_add, std_sub, std_mul, std_quo, std_rem, std_band, std_bor, std_bxor, std_shl, std_shr, std_eq, std_ne, std_lt, std_le, std_conv, std_not, std_beq, std_bne, std_ite, std_want, std_and2, std_sadd, std_seq, std_sne, std_slt, std_sle, std_sgt, std_sge, std_slen, std_sget, std_scut, std_ofNat, std_toNat, std_nsub, std_nadd, std_lenOf, std_nz, std_nneg, std_inb, std_upto, std_slt63, std_grow, std_imp, std_impN, std_tr, std_tb, std_ti, std_ts, std_tn, std_tp, std_nmin, std_makes, std_room, std_zeros, std_nilq, std_notq, std_eqi, std_eqn, std_eqb, std_eqs, std_eqv, std_cat, std_lst, std_rset, std_rcopy, std_shift, std_eqr, std_strOf, std_bytesOf, std_isB, std_zOf, zOf_int, std_isI, isI_int, std_getL, std_nmul, std_sOf, sOf_str, std_isS, isS_str, ncast, strOf_lit, lstOf_lit inj_eB, lstOf_lit inj_eZ, lstOf_lit inj_eBs, lstOf_lit inj_eS, isRow_lit, isB_lit, isRow_nil, lstOf_nil inj_eB, lstOf_nil inj_eZ, lstOf_nil inj_eBs, lstOf_nil inj_eS, lst_drop, row_drop] at *)
  all_goals try omega
  · by_cases e : L.length < 8
    · simp [br1, brE, e]
    · have hb : brM L = true := by rw [brM_iff L (by omega)]; simp; omega
      simp [br1, brE, e, hb, show L.length < 16 by omega]
  · by_cases e : L.length < 8
    · simp [br2, brE, e]
    · have hb : brM L = true := by rw [brM_iff L (by omega)]; simp; omega
      simp [br2, brE, e, hb, show L.length < 16 by omega]
  · by_cases e : L.length < 8
    · simp [brN, brE, e]
    · have hb : brM L = true := by rw [brM_iff L (by omega)]; simp; omega
      simp [brN, brE, e, hb, show L.length < 16 by omega]
  · by_cases e : L.length < 8
    · simp [brE, e]
    · have hb : brM L = true := by rw [brM_iff L (by omega)]; simp; omega
      simp [brE, e, hb, show L.length < 16 by omega]
  all_goals first
    | exact ⟨numTo_r _ (by omega), numTo_r _ (by simp; omega)⟩
    | exact ⟨numTo_r _ (by omega), r64_of (by decide)⟩
    | (have hb : brM L = true := by rw [brM_iff L (by omega)]; simp; omega
       have e1 : ¬ L.length < 8 := by omega
       have e2 : ¬ L.length < 16 := by omega
       simp [br1, br2, brN, brE, brL, e1, e2, hb, brH, hc]; done)
    | (have hb : brM L = false := by rw [brM_iff L (by omega)]; simp; omega
       have e1 : ¬ L.length < 8 := by omega
       simp [br1, br2, brN, brE, brL, e1, hb, brH, hc]; done)
theorem bright_ne {h l : Nat} (hb : bright h l = true) : bref h l = bbytes h l := by
  have := bright_iff.1 hb
  unfold bref bbytes
  rw [hb, this.2]
  by_cases e : l = 0 <;> simp [e]
noncomputable def c19 : Ct := fun A args => match args with
  | [.agg [.int .u64 h, .int .u64 l]] => some (some (A.tp fun _ => r64 h ∧ r64 l), r19 A h l)
  | _ => none
noncomputable def gb : Ar → Pu := addC 80 c19 (addC 87 c20 ga)
theorem gb_ok : PuOk Tryd.prog gl0 (gb std) := by
  refine addC_ok (addC_ok ga_ok ⟨_, Tryd.func87, rfl, by decide⟩ ?_) ⟨_, Tryd.func80, rfl, by decide⟩ ?_
  · intro args p r h hp
    unfold c20 at h
    split at h <;> cases h
    exact good_sv (good21 _ (by rw [lstOf_length hp.1]; exact hp.2)) ⟨hp.1.sv, trivial⟩
  · intro args p r h hp
    unfold c19 at h
    split at h <;> cases h
    exact good19 hp.1 hp.2
end Go.Vd

set_option linter.unusedVariables false
set_option linter.unusedSimpArgs false
set_option maxRecDepth 100000
set_option maxHeartbeats 8000000
namespace Go.Vd
open Go.Proofs
noncomputable def c_rHas2 : Ct := fun A args => match args with
  | [.agg [.int .u64 h, .int .u64 l], .int .i64 n] => some (some (A.tp fun _ => r64 h ∧ r64 l), r13 A h l n)
  | _ => none
noncomputable def c_rRead2 : Ct := fun A args => match args with
  | [.slc n 1 f] => some (some (A.tp fun _ => isRow eB 0 1 n f ∧ n ≤ 9223372036854775807), r20 A fun _ => lstOf eB 0 1 n f)
  | _ => none
noncomputable def c_rRead8 : Ct := fun A args => match args with
  | [.int .i64 n, .slc m 1 f] => some (some (A.tp fun _ => isRow eB 0 1 m f ∧ m ≤ 1000000), .tup [.str (A.ts fun _ => (fRd n (lstOf eB 0 1 m f)).1), .int .i64 (A.ti fun _ => ((fRd n (lstOf eB 0 1 m f)).2.1 : Int)), .int .i64 (A.ti fun _ => (fRd n (lstOf eB 0 1 m f)).2.2)])
  | _ => none
noncomputable def gM8 : Ar → Pu := addC 88 c_rHas2 (addC 87 c_rRead2 (addC 89 c_rRead8 (gM7)))
theorem gM8_ok : PuOk Tryd.prog gl0 (gM8 std) := by
  refine addC_ok (addC_ok (addC_ok (gM7_ok) ⟨_, Tryd.func89, rfl, by decide⟩ ?_) ⟨_, Tryd.func87, rfl, by decide⟩ ?_) ⟨_, Tryd.func88, rfl, by decide⟩ ?_
  · intro args p r h hp
    unfold c_rRead8 at h
    split at h <;> cases h
    exact good_sv (good_rRead _ _ (by rw [lstOf_length hp.1]; exact hp.2)) ⟨rfl, hp.1.sv, trivial⟩
  · intro args p r h hp
    unfold c_rRead2 at h
    split at h <;> cases h
    exact good_sv (good21 _ (by rw [lstOf_length hp.1]; exact hp.2)) ⟨hp.1.sv, trivial⟩
  · intro args p r h hp
    unfold c_rHas2 at h
    split at h <;> cases h
    exact good14 _ hp.1 hp.2
theorem bfTo_pre (h l f : Nat) (hf : 2 ≤ f) : ∀ k, ∃ G, bfieldsTo h l (f + k) = bfieldsTo h l f ++ G
  | 0 => ⟨[], by simp⟩
  | k + 1 => by
    obtain ⟨G, hG⟩ := bfTo_pre h l f hf k
    have := bfieldsTo_succ h l (f + k) (by omega)
    rw [show f + k + 1 = f + (k + 1) by omega] at this
    rw [this]
    split
    · exact ⟨_, by rw [hG, List.append_assoc]⟩
    · exact ⟨_, hG⟩
theorem rIt_err {h l f : Nat} {X : List UInt8} (hf : 2 ≤ f) (hf2 : f ≤ 129) (he : ¬(itF (bfieldsTo h l f) X).1 = 0) : itF (bfields h l) X = itF (bfieldsTo h l f) X := by
  obtain ⟨G, hG⟩ := bfTo_pre h l f hf (129 - f)
  rw [show f + (129 - f) = 129 by omega] at hG
  unfold bfields
  rw [hG]
  unfold itF at *
  rw [List.foldl_append, it_stop _ _ he]
theorem rIt_yes {h l f : Nat} {X : List UInt8} {I : List It} {d : Nat} (hf : 2 ≤ f) (hb : bhas h l f = true) (hI : itF (bfieldsTo h l f) X = (0, I, X.drop d)) :
    itF (bfieldsTo h l (f + 1)) X = itStep (0, I, X.drop d) (f : Int) := by
  rw [bfieldsTo_succ h l f hf, if_pos hb, itF_snoc, hI]
theorem rIt_no {h l f : Nat} {X : List UInt8} (hf : 2 ≤ f) (hb : bhas h l f = false) : itF (bfieldsTo h l (f + 1)) X = itF (bfieldsTo h l f) X := by
  rw [bfieldsTo_succ h l f hf, hb]; rfl
theorem rIt_end {h l : Nat} {X C : List UInt8} {I : List It} (hI : itF (bfieldsTo h l 129) X = (0, I, C)) : I = [] ↔ bfields h l = [] := by
  have g := it_good _ _ _ _ _ (show (bfields h l).foldl itStep (0, [], X) = (0, I, C) from hI)
  obtain ⟨L, hL, hF, _, _⟩ := g
  rw [List.nil_append] at hL
  subst hL
  constructor
  · intro e; rw [← hF, e]; rfl
  · intro e; rw [e] at hF; exact List.map_eq_nil_iff.1 hF
theorem rIt_le {h l f : Nat} {X : List UInt8} (hf : 2 ≤ f) (hf2 : f ≤ 129) : (itF (bfieldsTo h l f) X).2.1.length ≤ 129 := by
  have h1 := (itF_len (bfieldsTo h l f) X).1
  have h2 := bfields_len h l
  obtain ⟨G, hG⟩ := bfTo_pre h l f hf (129 - f)
  rw [show f + (129 - f) = 129 by omega] at hG
  unfold bfields at h2
  rw [hG, List.length_append] at h2
  omega
/-- At field f, byte a of B: what was read so far. -/
def rOk (B : List UInt8) (f a : Nat) (I : List It) : Prop := 2 ≤ f ∧ f ≤ 129 ∧ a ≤ B.length ∧ itF (bfieldsTo (br1 (B.drop 4)) (br2 (B.drop 4)) f) ((mC B).drop (brN (mC B)).toNat) = (0, I, B.drop a)
def rS (B : List UInt8) : Nat := 4 + (brN (B.drop 4)).toNat
theorem rOk_0 {B : List UInt8} (h4 : ¬B.length < 4) (hE : brE (B.drop 4) = 0) : rOk B 2 (rS B) [] := by
  have hN := brN_le (B.drop 4)
  have h := hN.2.2 hE
  rw [List.length_drop] at h
  refine ⟨by omega, by omega, by unfold rS; omega, ?_⟩
  show itF [] _ = _
  unfold itF mC rS
  rw [List.foldl_nil, List.drop_drop]
theorem rOk_no {B : List UInt8} {f a : Nat} {I : List It} (h : rOk B f a I) (hf : f ≤ 128) (hb : bhas (br1 (B.drop 4)) (br2 (B.drop 4)) (f : Int) = false) : rOk B (f + 1) a I := by
  obtain ⟨h1, h2, h3, h4⟩ := h
  exact ⟨by omega, by omega, h3, by rw [rIt_no h1 hb]; exact h4⟩
theorem rOk_step {B : List UInt8} {f a : Nat} {I : List It} (h : rOk B f a I) (hb : bhas (br1 (B.drop 4)) (br2 (B.drop 4)) (f : Int) = true) : itF (bfieldsTo (br1 (B.drop 4)) (br2 (B.drop 4)) (f + 1)) ((mC B).drop (brN (mC B)).toNat) = itStep (0, I, B.drop a) (f : Int) := by
  obtain ⟨h1, h2, h3, h4⟩ := h
  rw [bfieldsTo_succ _ _ f h1, if_pos hb, itF_snoc, h4]
theorem rOk_yes {B : List UInt8} {f a : Nat} {I : List It} (h : rOk B f a I) (hf : f ≤ 128) (hb : bhas (br1 (B.drop 4)) (br2 (B.drop 4)) (f : Int) = true) (he : (fRd f (B.drop a)).2.2 = 0) : rOk B (f + 1) (a + (fRd f (B.drop a)).2.1) (I ++ [((f : Int), (fRd f (B.drop a)).1)]) := by
  have hst := rOk_step h hb
  rw [it_yes he, List.drop_drop] at hst
  have hr := rd_le f (B.drop a)
  rw [List.length_drop] at hr
  have h3 := h.2.2.1
  have h1 := h.1
  exact ⟨by omega, by omega, by omega, hst⟩
theorem rOk_err {B : List UInt8} {f a : Nat} {I : List It} (h : rOk B f a I) (hf : f ≤ 128) (hb : bhas (br1 (B.drop 4)) (br2 (B.drop 4)) (f : Int) = true) (he : ¬(fRd f (B.drop a)).2.2 = 0) (h4 : ¬B.length < 4) (hT : mT (B.take 4) = true) (hE : brE (B.drop 4) = 0) : mRe B = (fRd f (B.drop a)).2.2 := by
  have h1 := h.1
  have hst := rOk_step h hb
  rw [it_no he] at hst
  have hI := rIt_err (h := br1 (B.drop 4)) (l := br2 (B.drop 4)) (X := (mC B).drop (brN (mC B)).toNat) (f := f + 1) (by omega) (by omega) (by rw [hst]; exact he)
  rw [hst] at hI
  have hI2 : mIt B = ((fRd f (B.drop a)).2.2, [], []) := hI
  have hne : ¬mFs B = [] := fun e => by
    unfold mIt at hI2
    rw [e] at hI2
    have := congrArg (fun o => o.1) hI2
    exact he this.symm
  rw [mRe_5 h4 hT hE hne (by rw [hI2]; exact he), hI2]
theorem rOk_end {B : List UInt8} {a : Nat} {I : List It} (h : rOk B 129 a I) (h4 : ¬B.length < 4) (hT : mT (B.take 4) = true) (hE : brE (B.drop 4) = 0) :
    (I = [] → mRe B = 3) ∧ (¬I = [] → a < B.length → mRe B = 4) ∧ (¬I = [] → ¬a < B.length → mRe B = 0 ∧ mRL B = I ∧ mRT B = B.take 4) := by
  have hI : mIt B = (0, I, B.drop a) := h.2.2.2
  have hn := rIt_end h.2.2.2
  have hF : mFs B = bfields (br1 (B.drop 4)) (br2 (B.drop 4)) := rfl
  have h3 := h.2.2.1
  refine ⟨fun e => mRe_4 h4 hT hE (by rw [hF]; exact hn.1 e), fun e ha => ?_, fun e ha => ?_⟩
  · rw [mRe_6 h4 hT hE (by rw [hF]; exact fun q => e (hn.2 q)) (by rw [hI]), hI]
    rw [if_neg]
    intro q
    have := congrArg List.length q
    simp at this
    omega
  · have h0 : mRe B = 0 := by
      rw [mRe_6 h4 hT hE (by rw [hF]; exact fun q => e (hn.2 q)) (by rw [hI]), hI]
      exact if_pos (List.drop_eq_nil_of_le (by omega))
    refine ⟨h0, ?_, ?_⟩
    · unfold mRL; rw [if_pos h0, hI]
    · unfold mRT; rw [if_pos h0]
theorem at_add {a n a' L : Nat} (h : a' = a + n) (hn : n ≤ L - a) (ha : a ≤ L) (hL : L ≤ 1000000) : IntKind.i64.wrap ((a : Int) + (n : Int)) = (a' : Int) := by
  rw [w64 (by omega)]; omega
theorem good_rRead4 (B : List UInt8) (hB : B.length ≤ 1000000) : GoodP Tryd.prog gl0 27 [rowS eB 0 1 std fun _ => B] (.tup [.agg [.str (std.ts fun _ => mRT B), rowS eI (0, []) 2 std fun _ => mRL B], .int .i64 (std.ti fun _ => mRe B)]) := by
  refine fn_sound' (T := seatT) (G := gM8) (X := noX) seatT_ok gM8_ok noX_ok noI_ok mixed Tryd.func27 (.none) (fun A => [rowS eB 0 1 A fun _ => B]) (fun A => .tup [.agg [.str (A.ts fun _ => mRT B), rowS eI (0, []) 2 A fun _ => mRL B], .int .i64 (A.ti fun _ => mRe B)]) fun A hA => ?_
  cbv
  repeat' (first | with_reducible exact True.intro | with_reducible exact dr_ok hA (by kernel_rfl) | with_reducible refine And.intro ?_ ?_ | (intro hc; cbv))
  all_goals (have hN := brN_le (List.drop 4 B))
  all_goals (have hcut := cut4 B)
  all_goals (have hw : IntKind.i64.wrap (4 + brN (List.drop 4 B)) = 4 + brN (List.drop 4 B) := w64 (by omega))
  all_goals (have hfl := bfields_len (br1 (List.drop 4 B)) (br2 (List.drop 4 B)))
  all_goals first
    | (fail_if_success (refine Exists.intro ?_ ?_)
       subst hA; simp [-List.getD_eq_getElem?_getD, std_add, std_sub, std_mul, std_quo, std_rem, std_band, std_bor, std_bxor, std_shl, std_shr, std_eq, std_ne, std_lt, std_le, std_conv, std_not, std_beq, std_bne, std_ite, std_want, std_and2, std_sadd, std_seq, std_sne, std_slt, std_sle, std_sgt, std_sge, std_slen, std_sget, std_scut, std_ofNat, std_toNat, std_nsub, std_nadd, std_lenOf, std_nz, std_nneg, std_inb, std_upto, std_slt63, std_grow, std_imp, std_impN, std_tr, std_tb, std_ti, std_ts, std_tn, std_tp, std_nmin, std_makes, std_room, std_zeros, std_nilq, std_notq, std_eqi, std_eqn, std_eqb, std_eqs, std_eqv, std_cat, std_lst, std_rset, std_rcopy, std_shift, std_eqr, std_strOf, std_bytesOf, std_isB, std_zOf, zOf_int, std_isI, isI_int, std_getL, std_nmul, std_sOf, sOf_str, std_isS, isS_str, strOf_lit, lstOf_lit inj_eB, lstOf_lit inj_eZ, lstOf_lit inj_eBs, lstOf_lit inj_eS, isRow_lit, isB_lit, isRow_nil, lstOf_nil inj_eB, lstOf_nil inj_eZ, lstOf_nil inj_eBs, lstOf_nil inj_eS, lst_drop, row_drop] at *
       first
         | omega
         | exact isB_any B 4
         | (have h4 : B.length < 4 := by omega
            have h := mRe_1 h4
            have hb := mR_bad (B := B) (by rw [h]; decide)
            first
              | (rw [h]; done)
              | (rw [hb.1]; done)
              | (rw [hb.2]; done)
              | (rw [hb.2]; rfl))
         | (have h4 : ¬B.length < 4 := by omega
            have hT : strOfS 4 (rowF eB 0 std fun _ => B) = B.take 4 := cutS B (by omega)
            try simp only [hT] at *
            first
              | (have h1 : mT (B.take 4) = false := by assumption
                 have h := mRe_2 h4 h1
                 have hb := mR_bad (B := B) (by rw [h]; decide)
                 first
                   | (rw [h]; done)
                   | (rw [hb.1]; done)
                   | (rw [hb.2]; done)
                   | (rw [hb.2]; rfl))
              | (have h1 : mT (B.take 4) = true := by assumption
                 have h2 : ¬brE (mC B) = 0 := by assumption
                 have h := mRe_3 h4 h1 h2
                 have hb := mR_bad (B := B) (by rw [h]; exact h2)
                 first
                   | (rw [h]; done)
                   | (rw [h]; rfl)
                   | (rw [hb.1]; done)
                   | (rw [hb.2]; done)
                   | (rw [hb.2]; rfl))
              | trace_state)
         | trace_state)
    | skip
  have hh : ¬B.length < 4 ∧ mT (B.take 4) = true ∧ brE (B.drop 4) = 0 := by
    clear hcut hw hfl
    rename_i q1 q2
    clear hN
    subst hA; simp [-List.getD_eq_getElem?_getD, std_add, std_sub, std_mul, std_quo, std_rem, std_band, std_bor, std_bxor, std_shl, std_shr, std_eq, std_ne, std_lt, std_le, std_conv, std_not, std_beq, std_bne, std_ite, std_want, std_and2, std_sadd, std_seq, std_sne, std_slt, std_sle, std_sgt, std_sge, std_slen, std_sget, std_scut, std_ofNat, std_toNat, std_nsub, std_nadd, std_lenOf, std_nz, std_nneg, std_inb, std_upto, std_slt63, std_grow, std_imp, std_impN, std_tr, std_tb, std_ti, std_ts, std_tn, std_tp, std_nmin, std_makes, std_room, std_zeros, std_nilq, std_notq, std_eqi, std_eqn, std_eqb, std_eqs, std_eqv, std_cat, std_lst, std_rset, std_rcopy, std_shift, std_eqr, std_strOf, std_bytesOf, std_isB, std_zOf, zOf_int, std_isI, isI_int, std_getL, std_nmul, std_sOf, sOf_str, std_isS, isS_str, strOf_lit, lstOf_lit inj_eB, lstOf_lit inj_eZ, lstOf_lit inj_eBs, lstOf_lit inj_eS, isRow_lit, isB_lit, isRow_nil, lstOf_nil inj_eB, lstOf_nil inj_eZ, lstOf_nil inj_eBs, lstOf_nil inj_eS, lst_drop, row_drop] at q1 q2 hc
    have hT : strOfS 4 (rowF eB 0 std fun _ => B) = B.take 4 := cutS B (by omega)
    simp only [hT] at q2
    exact ⟨by omega, q2, hc⟩
  obtain ⟨h4, hT, hE⟩ := hh
  have hS := rOk_0 h4 hE
  obtain ⟨a0, ha0⟩ : ∃ a0, a0 = rS B := ⟨_, rfl⟩
  rw [← ha0] at hS
  unfold rS at ha0
  refine ⟨⟨{p : Nat × Nat × List It // rOk B p.1 p.2.1 p.2.2}, fun b p => [(9, .int .i64 (p.1.1 : Nat)), (8, .int .i64 (p.1.2.1 : Nat))], fun b p => [(b, .row 47 2 (A.tn fun _ => p.1.2.2.length) (rowF eI (0, []) A fun _ => p.1.2.2)), (27, .box 32 [.str (A.strOf (A.toNat 4) (rowF eB 0 A fun _ => B)), .own b])], fun p => 129 - p.1.1, true⟩, ⟨⟨(2, a0, []), hS⟩, ?_⟩, ?_⟩
  · cbv
    subst hA
    clear hcut hfl
    simp (maxSteps := 4000000) [-List.getD_eq_getElem?_getD, std_add, std_sub, std_mul, std_quo, std_rem, std_band, std_bor, std_bxor, std_shl, std_shr, std_eq, std_ne, std_lt, std_le, std_conv, std_not, std_beq, std_bne, std_ite, std_want, std_and2, std_sadd, std_seq, std_sne, std_slt, std_sle, std_sgt, std_sge, std_slen, std_sget, std_scut, std_ofNat, std_toNat, std_nsub, std_nadd, std_lenOf, std_nz, std_nneg, std_inb, std_upto, std_slt63, std_grow, std_imp, std_impN, std_tr, std_tb, std_ti, std_ts, std_tn, std_tp, std_nmin, std_makes, std_room, std_zeros, std_nilq, std_notq, std_eqi, std_eqn, std_eqb, std_eqs, std_eqv, std_cat, std_lst, std_rset, std_rcopy, std_shift, std_eqr, std_strOf, std_bytesOf, std_isB, std_zOf, zOf_int, std_isI, isI_int, std_getL, std_nmul, std_sOf, sOf_str, std_isS, isS_str, strOf_lit, lstOf_lit inj_eB, lstOf_lit inj_eZ, lstOf_lit inj_eBs, lstOf_lit inj_eS, isRow_lit, isB_lit, isRow_nil, lstOf_nil inj_eB, lstOf_nil inj_eZ, lstOf_nil inj_eBs, lstOf_nil inj_eS, lst_drop, row_drop, hw]
    first
      | omega
      | trace_state
  · rintro ⟨⟨f, a, I⟩, hI⟩
    simp only at hI
    have hf1 := hI.1
    have hf2 := hI.2.1
    have ha := hI.2.2.1
    have hIl : I.length ≤ 129 := by
      have := rIt_le (h := br1 (B.drop 4)) (l := br2 (B.drop 4)) (X := (mC B).drop (brN (mC B)).toNat) hf1 hf2
      rw [hI.2.2.2] at this
      exact this
    have hrl := rd_le f (B.drop a)
    rw [List.length_drop] at hrl
    clear hcut hw hfl hN hS
    cbv
    repeat' (first | with_reducible exact True.intro | with_reducible exact dr_ok hA (by kernel_rfl) | with_reducible refine And.intro ?_ ?_ | (intro hc; cbv))
    all_goals first
      | (fail_if_success (refine Exists.intro ?_ ?_)
         subst hA
         simp [-List.getD_eq_getElem?_getD, std_add, std_sub, std_mul, std_quo, std_rem, std_band, std_bor, std_bxor, std_shl, std_shr, std_eq, std_ne, std_lt, std_le, std_conv, std_not, std_beq, std_bne, std_ite, std_want, std_and2, std_sadd, std_seq, std_sne, std_slt, std_sle, std_sgt, std_sge, std_slen, std_sget, std_scut, std_ofNat, std_toNat, std_nsub, std_nadd, std_lenOf, std_nz, std_nneg, std_inb, std_upto, std_slt63, std_grow, std_imp, std_impN, std_tr, std_tb, std_ti, std_ts, std_tn, std_tp, std_nmin, std_makes, std_room, std_zeros, std_nilq, std_notq, std_eqi, std_eqn, std_eqb, std_eqs, std_eqv, std_cat, std_lst, std_rset, std_rcopy, std_shift, std_eqr, std_strOf, std_bytesOf, std_isB, std_zOf, zOf_int, std_isI, isI_int, std_getL, std_nmul, std_sOf, sOf_str, std_isS, isS_str, strOf_lit, lstOf_lit inj_eB, lstOf_lit inj_eZ, lstOf_lit inj_eBs, lstOf_lit inj_eS, isRow_lit, isB_lit, isRow_nil, lstOf_nil inj_eB, lstOf_nil inj_eZ, lstOf_nil inj_eBs, lstOf_nil inj_eS, lst_drop, row_drop] at *
         first
           | done
           | omega
           | (constructor <;> omega)
           | assumption
           | exact br_r64 hE
           | (have hlt : f ≤ 128 := by omega
              have hb : bhas (br1 (B.drop 4)) (br2 (B.drop 4)) (f : Int) = true := by assumption
              have he : ¬(fRd f (B.drop a)).2.2 = 0 := by assumption
              have h := rOk_err hI hlt hb he (by omega) hT hE
              have hbd := mR_bad (B := B) (by rw [h]; exact he)
              first
                | (rw [h]; done)
                | (rw [hbd.1]; done)
                | (rw [hbd.2]; done)
                | (rw [hbd.2]; rfl))
           | (have hfe : f = 129 := by omega
              subst hfe
              have h := rOk_end hI (by omega) hT hE
              first
                | (have he : I = [] := by assumption
                   have h3 := h.1 he
                   have hbd := mR_bad (B := B) (by rw [h3]; decide)
                   first
                     | (rw [h3]; done)
                     | (rw [hbd.1]; done)
                     | (rw [hbd.2]; done)
                     | (rw [hbd.2]; rfl))
                | (have he : ¬I = [] := by assumption
                   first
                     | (have h3 := h.2.1 he (by omega)
                        have hbd := mR_bad (B := B) (by rw [h3]; decide)
                        first
                          | (rw [h3]; done)
                          | (rw [hbd.1]; done)
                          | (rw [hbd.2]; done)
                          | (rw [hbd.2]; rfl))
                     | (have h3 := h.2.2 he (by omega)
                        first
                          | (rw [h3.1]; done)
                          | (rw [h3.2.1]; done)
                          | (rw [h3.2.1]; exact (Reps.lit _).eqr)
                          | (rw [h3.2.2]; exact cutS B (by omega))
                          | (rw [h3.2.2]; done)
                          | trace_state)
                     | trace_state)
                | trace_state)
           | trace_state)
      | (have hlt : f ≤ 128 := by (subst hA; simp [std_add, std_sub, std_mul, std_quo, std_rem, std_band, std_bor, std_bxor, std_shl, std_shr, std_eq, std_ne, std_lt, std_le, std_conv, std_not, std_beq, std_bne, std_ite, std_want, std_and2, std_sadd, std_seq, std_sne, std_slt, std_sle, std_sgt, std_sge, std_slen, std_sget, std_scut, std_ofNat, std_toNat, std_nsub, std_nadd, std_lenOf, std_nz, std_nneg, std_inb, std_upto, std_slt63, std_grow, std_imp, std_impN, std_tr, std_tb, std_ti, std_ts, std_tn, std_tp, std_nmin, std_makes, std_room, std_zeros, std_nilq, std_notq, std_eqi, std_eqn, std_eqb, std_eqs, std_eqv, std_cat, std_lst, std_rset, std_rcopy, std_shift, std_eqr, std_strOf, std_bytesOf, std_isB, std_zOf, zOf_int, std_isI, isI_int, std_getL, std_nmul, std_sOf, sOf_str, std_isS, isS_str] at *; omega)
         first
           | (have hb : bhas (br1 (B.drop 4)) (br2 (B.drop 4)) (f : Int) = false := by (subst hA; simp [-List.getD_eq_getElem?_getD, std_add, std_sub, std_mul, std_quo, std_rem, std_band, std_bor, std_bxor, std_shl, std_shr, std_eq, std_ne, std_lt, std_le, std_conv, std_not, std_beq, std_bne, std_ite, std_want, std_and2, std_sadd, std_seq, std_sne, std_slt, std_sle, std_sgt, std_sge, std_slen, std_sget, std_scut, std_ofNat, std_toNat, std_nsub, std_nadd, std_lenOf, std_nz, std_nneg, std_inb, std_upto, std_slt63, std_grow, std_imp, std_impN, std_tr, std_tb, std_ti, std_ts, std_tn, std_tp, std_nmin, std_makes, std_room, std_zeros, std_nilq, std_notq, std_eqi, std_eqn, std_eqb, std_eqs, std_eqv, std_cat, std_lst, std_rset, std_rcopy, std_shift, std_eqr, std_strOf, std_bytesOf, std_isB, std_zOf, zOf_int, std_isI, isI_int, std_getL, std_nmul, std_sOf, sOf_str, std_isS, isS_str, strOf_lit, lstOf_lit inj_eB, lstOf_lit inj_eZ, lstOf_lit inj_eBs, lstOf_lit inj_eS, isRow_lit, isB_lit, isRow_nil, lstOf_nil inj_eB, lstOf_nil inj_eZ, lstOf_nil inj_eBs, lstOf_nil inj_eS, lst_drop, row_drop] at hc; exact hc)
              have hn := rOk_no hI hlt hb
              obtain ⟨f', hf'⟩ : ∃ f', f' = f + 1 := ⟨_, rfl⟩
              refine ⟨⟨(f', a, I), by rw [hf']; exact hn⟩, ?_, show 129 - f' < 129 - f by omega⟩
              cbv
              subst hA
              simp (maxSteps := 4000000) [-List.getD_eq_getElem?_getD, std_add, std_sub, std_mul, std_quo, std_rem, std_band, std_bor, std_bxor, std_shl, std_shr, std_eq, std_ne, std_lt, std_le, std_conv, std_not, std_beq, std_bne, std_ite, std_want, std_and2, std_sadd, std_seq, std_sne, std_slt, std_sle, std_sgt, std_sge, std_slen, std_sget, std_scut, std_ofNat, std_toNat, std_nsub, std_nadd, std_lenOf, std_nz, std_nneg, std_inb, std_upto, std_slt63, std_grow, std_imp, std_impN, std_tr, std_tb, std_ti, std_ts, std_tn, std_tp, std_nmin, std_makes, std_room, std_zeros, std_nilq, std_notq, std_eqi, std_eqn, std_eqb, std_eqs, std_eqv, std_cat, std_lst, std_rset, std_rcopy, std_shift, std_eqr, std_strOf, std_bytesOf, std_isB, std_zOf, zOf_int, std_isI, isI_int, std_getL, std_nmul, std_sOf, sOf_str, std_isS, isS_str, strOf_lit, lstOf_lit inj_eB, lstOf_lit inj_eZ, lstOf_lit inj_eBs, lstOf_lit inj_eS, isRow_lit, isB_lit, isRow_nil, lstOf_nil inj_eB, lstOf_nil inj_eZ, lstOf_nil inj_eBs, lstOf_nil inj_eS, lst_drop, row_drop]
              first
                | exact (w64 (by omega)).trans (by omega)
                | trace_state)
           | (have hq : bhas (br1 (B.drop 4)) (br2 (B.drop 4)) (f : Int) = true ∧ (fRd f (B.drop a)).2.2 = 0 := by (subst hA; simp [-List.getD_eq_getElem?_getD, std_add, std_sub, std_mul, std_quo, std_rem, std_band, std_bor, std_bxor, std_shl, std_shr, std_eq, std_ne, std_lt, std_le, std_conv, std_not, std_beq, std_bne, std_ite, std_want, std_and2, std_sadd, std_seq, std_sne, std_slt, std_sle, std_sgt, std_sge, std_slen, std_sget, std_scut, std_ofNat, std_toNat, std_nsub, std_nadd, std_lenOf, std_nz, std_nneg, std_inb, std_upto, std_slt63, std_grow, std_imp, std_impN, std_tr, std_tb, std_ti, std_ts, std_tn, std_tp, std_nmin, std_makes, std_room, std_zeros, std_nilq, std_notq, std_eqi, std_eqn, std_eqb, std_eqs, std_eqv, std_cat, std_lst, std_rset, std_rcopy, std_shift, std_eqr, std_strOf, std_bytesOf, std_isB, std_zOf, zOf_int, std_isI, isI_int, std_getL, std_nmul, std_sOf, sOf_str, std_isS, isS_str, strOf_lit, lstOf_lit inj_eB, lstOf_lit inj_eZ, lstOf_lit inj_eBs, lstOf_lit inj_eS, isRow_lit, isB_lit, isRow_nil, lstOf_nil inj_eB, lstOf_nil inj_eZ, lstOf_nil inj_eBs, lstOf_nil inj_eS, lst_drop, row_drop] at *; exact ⟨by assumption, by assumption⟩)
              have hn := rOk_yes hI hlt hq.1 hq.2
              obtain ⟨f', hf'⟩ : ∃ f', f' = f + 1 := ⟨_, rfl⟩
              obtain ⟨a', ha'⟩ : ∃ a', a' = a + (fRd f (B.drop a)).2.1 := ⟨_, rfl⟩
              obtain ⟨I', hI'⟩ : ∃ I', I' = I ++ [((f : Int), (fRd f (B.drop a)).1)] := ⟨_, rfl⟩
              refine ⟨⟨(f', a', I'), by rw [hf', ha', hI']; exact hn⟩, ?_, show 129 - f' < 129 - f by omega⟩
              cbv
              subst hA
              simp (maxSteps := 4000000) [-List.getD_eq_getElem?_getD, std_add, std_sub, std_mul, std_quo, std_rem, std_band, std_bor, std_bxor, std_shl, std_shr, std_eq, std_ne, std_lt, std_le, std_conv, std_not, std_beq, std_bne, std_ite, std_want, std_and2, std_sadd, std_seq, std_sne, std_slt, std_sle, std_sgt, std_sge, std_slen, std_sget, std_scut, std_ofNat, std_toNat, std_nsub, std_nadd, std_lenOf, std_nz, std_nneg, std_inb, std_upto, std_slt63, std_grow, std_imp, std_impN, std_tr, std_tb, std_ti, std_ts, std_tn, std_tp, std_nmin, std_makes, std_room, std_zeros, std_nilq, std_notq, std_eqi, std_eqn, std_eqb, std_eqs, std_eqv, std_cat, std_lst, std_rset, std_rcopy, std_shift, std_eqr, std_strOf, std_bytesOf, std_isB, std_zOf, zOf_int, std_isI, isI_int, std_getL, std_nmul, std_sOf, sOf_str, std_isS, isS_str, strOf_lit, lstOf_lit inj_eB, lstOf_lit inj_eZ, lstOf_lit inj_eBs, lstOf_lit inj_eS, isRow_lit, isB_lit, isRow_nil, lstOf_nil inj_eB, lstOf_nil inj_eZ, lstOf_nil inj_eBs, lstOf_nil inj_eS, lst_drop, row_drop]
              refine ⟨⟨?_, ?_⟩, ?_, ?_⟩
              all_goals first | exact at_add ha' hrl ha hB | exact (w64 (by omega)).trans (by omega) | (rw [hI']; simp; done) | exact snoc_row rfl (cell_eI _ _) hI'.symm (by rw [hI']; simp) | trace_state)
           | trace_state)
      | trace_state
end Go.Vd

set_option linter.unusedVariables false
set_option linter.unusedSimpArgs false
set_option maxRecDepth 1000000
set_option maxHeartbeats 8000000
namespace Go.Vd
open Go.Proofs
noncomputable def c_rPut2 : Ct := fun A args => match args with
  | [.agg [.int .u64 h, .int .u64 l], .int .i64 n] => some (some (A.tp fun _ => r64 h ∧ r64 l), r7 A h l n)
  | _ => none
noncomputable def c_rBytes2 : Ct := fun A args => match args with
  | [.agg [.int .u64 h, .int .u64 l]] => some (some (A.tp fun _ => r64 h ∧ r64 l), r19 A h l)
  | _ => none
noncomputable def c_rWrite8 : Ct := fun A args => match args with
  | [.int .i64 n, .str L] => some (some (A.tp fun _ => L.length ≤ 1000000), rowS eB 0 1 A fun _ => fWx n L)
  | _ => none
noncomputable def gM9 : Ar → Pu := addC 78 c_rPut2 (addC 80 c_rBytes2 (addC 79 c_rWrite8 (gM8)))
theorem gM9_ok : PuOk Tryd.prog gl0 (gM9 std) := by
  refine addC_ok (addC_ok (addC_ok (gM8_ok) ⟨_, Tryd.func79, rfl, by decide⟩ ?_) ⟨_, Tryd.func80, rfl, by decide⟩ ?_) ⟨_, Tryd.func78, rfl, by decide⟩ ?_
  · intro args p r h hp
    unfold c_rWrite8 at h
    split at h <;> cases h
    exact good_rWrite _ _ hp
  · intro args p r h hp
    unfold c_rBytes2 at h
    split at h <;> cases h
    exact good19 hp.1 hp.2
  · intro args p r h hp
    unfold c_rPut2 at h
    split at h <;> cases h
    exact good8 _ hp.1 hp.2
/-- The bits of the first fields. -/
def rBt (L : List It) (i : Nat) (m : Nat × Nat) : Prop := bofS (fs (L.take i)) = some m ∧ bright m.1 m.2 = true ∧ m.1 < 18446744073709551616 ∧ m.2 < 18446744073709551616
theorem rBt_0 (L : List It) : rBt L 0 (0, 0) := ⟨rfl, by decide, by decide, by decide⟩
theorem rBt_next {L : List It} {i : Nat} {m : Nat × Nat} (h : rBt L i m) (hi : i < L.length) (hf : bfield (L.getD i (0, [])).1 = true) : rBt L (i + 1) (bput m.1 m.2 (L.getD i (0, [])).1) := by
  obtain ⟨h1, h2, h3, h4⟩ := h
  have hl := bput_lt (L.getD i (0, [])).1 h3 h4
  refine ⟨?_, bput_bright h2 hf, hl.1, hl.2⟩
  rw [fs_take hi, bofS_snoc, h1]
  show (if (bright m.1 m.2 && bfield (L.getD i (0, [])).1) = true then some (bput m.1 m.2 (L.getD i (0, [])).1) else none) = _
  rw [h2, hf]
  rfl
theorem rBt_end {L : List It} {m : Nat × Nat} (h : rBt L L.length m) : bref m.1 m.2 = mBits L := by
  obtain ⟨h1, h2, h3, h4⟩ := h
  rw [List.take_length] at h1
  rw [bright_ne h2]
  unfold mBits bof
  rw [h1]
  rfl
theorem fs_at {L : List It} (h : ∀ q ∈ fs L, bfield q = true) {i : Nat} (hi : i < L.length) : bfield (L.getD i (0, [])).1 = true := by
  apply h
  rw [List.getD_eq_getElem?_getD, List.getElem?_eq_getElem hi]
  exact List.mem_map.2 ⟨_, List.getElem_mem hi, rfl⟩
theorem fWx_ok {n : Int} {s : List UInt8} (h : rr n s = true) : fWx n s = fWr n s := (fWr_fWx h).symm
theorem w_succ9 {a b : Nat} (h : b = a + 1) (hb : a ≤ 1000000000000) : IntKind.i64.wrap ((a : Int) + 1) = (b : Int) := by
  rw [w64 (by omega)]; omega
theorem good_rWrite4 (T : List UInt8) (L : List It) (hr : mR T L = true) (hL : L.length ≤ 500) (hS : ∀ i, (L.getD i (0, [])).2.length ≤ 1000000) : GoodP Tryd.prog gl0 23 [.agg [.str T, rowS eI (0, []) 2 std fun _ => L]] (rowS eB 0 1 std fun _ => mW T L) := by
  refine fn_sound' (T := seatT.own) (G := gM9) (X := cvX) (tys_own seatT_ok) gM9_ok cvX_ok noI_ok mixed Tryd.func23 (.none) (fun A => [.agg [.str T, rowS eI (0, []) 2 A fun _ => L]]) (fun A => rowS eB 0 1 A fun _ => mW T L) fun A hA => ?_
  cbv
  repeat' (first | with_reducible exact True.intro | with_reducible exact dr_ok hA (by kernel_rfl) | with_reducible refine And.intro ?_ ?_ | (intro hc; cbv))
  have hri := mR_iff.1 hr
  have hbf := fs_bf hri.2.2.1
  refine ⟨⟨{p : Nat × (Nat × Nat) × List UInt8 // p.1 ≤ L.length ∧ rBt L p.1 p.2.1 ∧ p.2.2 = body (L.take p.1)}, fun b p => [(5, .int .i64 (p.1.1 : Nat)), (4, .own b)], fun b p => [(b, .row 5 1 (A.tn fun _ => p.1.2.2.length) (rowF eB 0 A fun _ => p.1.2.2)), (2, .box 122 [.int .u64 (A.ti fun _ => (p.1.2.1.1 : Nat)), .int .u64 (A.ti fun _ => (p.1.2.1.2 : Nat))])], fun p => L.length - p.1.1, true⟩, ⟨⟨(0, (0, 0), []), by omega, rBt_0 L, by simp [body]⟩, ?_⟩, ?_⟩
  · cbv
    subst hA
    simp [-List.getD_eq_getElem?_getD, std_add, std_sub, std_mul, std_quo, std_rem, std_band, std_bor, std_bxor, std_shl, std_shr, std_eq, std_ne, std_lt, std_le, std_conv, std_not, std_beq, std_bne, std_ite, std_want, std_and2, std_sadd, std_seq, std_sne, std_slt, std_sle, std_sgt, std_sge, std_slen, std_sget, std_scut, std_ofNat, std_toNat, std_nsub, std_nadd, std_lenOf, std_nz, std_nneg, std_inb, std_upto, std_slt63, std_grow, std_imp, std_impN, std_tr, std_tb, std_ti, std_ts, std_tn, std_tp, std_nmin, std_makes, std_room, std_zeros, std_nilq, std_notq, std_eqi, std_eqn, std_eqb, std_eqs, std_eqv, std_cat, std_lst, std_rset, std_rcopy, std_shift, std_eqr, std_strOf, std_bytesOf, std_isB, std_zOf, zOf_int, std_isI, isI_int, std_getL, std_nmul, std_sOf, sOf_str, std_isS, isS_str]
  · rintro ⟨⟨i, ⟨h, l⟩, B⟩, hx⟩
    have hi := hx.1
    have hb := hx.2.1
    have hB := hx.2.2
    simp only at hi hb hB
    have hh : r64 (h : Nat) ∧ r64 (l : Nat) := ⟨r64_of hb.2.2.1, r64_of hb.2.2.2⟩
    rcases Nat.lt_or_ge i L.length with hlt | hge
    · have hrr := rr_at hri.2.2.1 hlt
      have hfw := fWx_ok hrr
      have hbl := body_len (L := L.take i) (fun x hx => hri.2.2.1 x (List.mem_of_mem_take hx))
      have hwl := fWr_len hrr
      have hsl := hS i
      have htl : (L.take i).length = i := by simp; omega
      rw [htl, ← hB] at hbl
      have hnb := rBt_next hb hlt (fs_at hbf hlt)
      cbv
      repeat' (first | with_reducible exact True.intro | with_reducible exact dr_ok hA (by kernel_rfl) | with_reducible refine And.intro ?_ ?_ | (intro hc; cbv))
      all_goals first
        | (fail_if_success (refine Exists.intro ?_ ?_)
           subst hA
           try dsimp only
           simp [-List.getD_eq_getElem?_getD, std_add, std_sub, std_mul, std_quo, std_rem, std_band, std_bor, std_bxor, std_shl, std_shr, std_eq, std_ne, std_lt, std_le, std_conv, std_not, std_beq, std_bne, std_ite, std_want, std_and2, std_sadd, std_seq, std_sne, std_slt, std_sle, std_sgt, std_sge, std_slen, std_sget, std_scut, std_ofNat, std_toNat, std_nsub, std_nadd, std_lenOf, std_nz, std_nneg, std_inb, std_upto, std_slt63, std_grow, std_imp, std_impN, std_tr, std_tb, std_ti, std_ts, std_tn, std_tp, std_nmin, std_makes, std_room, std_zeros, std_nilq, std_notq, std_eqi, std_eqn, std_eqb, std_eqs, std_eqv, std_cat, std_lst, std_rset, std_rcopy, std_shift, std_eqr, std_strOf, std_bytesOf, std_isB, std_zOf, zOf_int, std_isI, isI_int, std_getL, std_nmul, std_sOf, sOf_str, std_isS, isS_str, strOf_lit, lstOf_lit inj_eB, lstOf_lit inj_eZ, lstOf_lit inj_eBs, lstOf_lit inj_eS, isRow_lit, isB_lit, isRow_nil, lstOf_nil inj_eB, lstOf_nil inj_eZ, lstOf_nil inj_eBs, lstOf_nil inj_eS, hfw]
           first
             | done
             | omega
             | with_reducible exact hh
             | with_reducible exact hsl
             | ((with_reducible refine And.intro ?_ ?_) <;> omega)
             | (exfalso; simp [-List.getD_eq_getElem?_getD, std_add, std_sub, std_mul, std_quo, std_rem, std_band, std_bor, std_bxor, std_shl, std_shr, std_eq, std_ne, std_lt, std_le, std_conv, std_not, std_beq, std_bne, std_ite, std_want, std_and2, std_sadd, std_seq, std_sne, std_slt, std_sle, std_sgt, std_sge, std_slen, std_sget, std_scut, std_ofNat, std_toNat, std_nsub, std_nadd, std_lenOf, std_nz, std_nneg, std_inb, std_upto, std_slt63, std_grow, std_imp, std_impN, std_tr, std_tb, std_ti, std_ts, std_tn, std_tp, std_nmin, std_makes, std_room, std_zeros, std_nilq, std_notq, std_eqi, std_eqn, std_eqb, std_eqs, std_eqv, std_cat, std_lst, std_rset, std_rcopy, std_shift, std_eqr, std_strOf, std_bytesOf, std_isB, std_zOf, zOf_int, std_isI, isI_int, std_getL, std_nmul, std_sOf, sOf_str, std_isS, isS_str, strOf_lit, lstOf_lit inj_eB, lstOf_lit inj_eZ, lstOf_lit inj_eBs, lstOf_lit inj_eS, isRow_lit, isB_lit, isRow_nil, lstOf_nil inj_eB, lstOf_nil inj_eZ, lstOf_nil inj_eBs, lstOf_nil inj_eS] at hc; omega)
             | trace_state)
        | (obtain ⟨i', hi'⟩ : ∃ i', i' = i + 1 := ⟨_, rfl⟩
           obtain ⟨h', hh'⟩ : ∃ h', h' = (bput h l (L.getD i (0, [])).1).1 := ⟨_, rfl⟩
           obtain ⟨l', hl'⟩ : ∃ l', l' = (bput h l (L.getD i (0, [])).1).2 := ⟨_, rfl⟩
           obtain ⟨B', hB'⟩ : ∃ B', B' = body (L.take i') := ⟨_, rfl⟩
           have c1 : i' ≤ L.length := by omega
           have c2 : rBt L i' (h', l') := by rw [hi', hh', hl']; exact hnb
           refine ⟨⟨(i', (h', l'), B'), c1, c2, hB'⟩, ?_, show L.length - i' < L.length - i by omega⟩
           rw [hi', body_take hlt, ← hB] at hB'
           cbv
           subst hA
           simp [-List.getD_eq_getElem?_getD, std_add, std_sub, std_mul, std_quo, std_rem, std_band, std_bor, std_bxor, std_shl, std_shr, std_eq, std_ne, std_lt, std_le, std_conv, std_not, std_beq, std_bne, std_ite, std_want, std_and2, std_sadd, std_seq, std_sne, std_slt, std_sle, std_sgt, std_sge, std_slen, std_sget, std_scut, std_ofNat, std_toNat, std_nsub, std_nadd, std_lenOf, std_nz, std_nneg, std_inb, std_upto, std_slt63, std_grow, std_imp, std_impN, std_tr, std_tb, std_ti, std_ts, std_tn, std_tp, std_nmin, std_makes, std_room, std_zeros, std_nilq, std_notq, std_eqi, std_eqn, std_eqb, std_eqs, std_eqv, std_cat, std_lst, std_rset, std_rcopy, std_shift, std_eqr, std_strOf, std_bytesOf, std_isB, std_zOf, zOf_int, std_isI, isI_int, std_getL, std_nmul, std_sOf, sOf_str, std_isS, isS_str, strOf_lit, lstOf_lit inj_eB, lstOf_lit inj_eZ, lstOf_lit inj_eBs, lstOf_lit inj_eS, isRow_lit, isB_lit, isRow_nil, lstOf_nil inj_eB, lstOf_nil inj_eZ, lstOf_nil inj_eBs, lstOf_nil inj_eS, hfw]
           exact ⟨w_succ9 hi' (by omega), ⟨by rw [hB']; simp, eqr_of (Reps.catE (.lit _) (.lit _) rfl) (by rw [hB']; simp) hB'.symm⟩, congrArg Nat.cast hh'.symm, congrArg Nat.cast hl'.symm⟩)
        | trace_state
    · have hie : i = L.length := by omega
      have hw : mW T L = T ++ (bref h l ++ B) := by
        rw [hie] at hb hB
        rw [hB, List.take_length, rBt_end hb]
        rfl
      have hbl := body_len (L := L) hri.2.2.1
      have hTl := mT_len hri.1
      have hBl : B = body L := by rw [hB, hie, List.take_length]
      rw [← hBl] at hbl
      have hrl : (bref h l).length ≤ 16 := by unfold bref; split <;> simp [be8_len]
      cbv
      repeat' (first | with_reducible exact True.intro | with_reducible exact dr_ok hA (by kernel_rfl) | with_reducible refine And.intro ?_ ?_ | (intro hc; cbv))
      all_goals first
        | (subst hA
           try dsimp only
           simp [-List.getD_eq_getElem?_getD, std_add, std_sub, std_mul, std_quo, std_rem, std_band, std_bor, std_bxor, std_shl, std_shr, std_eq, std_ne, std_lt, std_le, std_conv, std_not, std_beq, std_bne, std_ite, std_want, std_and2, std_sadd, std_seq, std_sne, std_slt, std_sle, std_sgt, std_sge, std_slen, std_sget, std_scut, std_ofNat, std_toNat, std_nsub, std_nadd, std_lenOf, std_nz, std_nneg, std_inb, std_upto, std_slt63, std_grow, std_imp, std_impN, std_tr, std_tb, std_ti, std_ts, std_tn, std_tp, std_nmin, std_makes, std_room, std_zeros, std_nilq, std_notq, std_eqi, std_eqn, std_eqb, std_eqs, std_eqv, std_cat, std_lst, std_rset, std_rcopy, std_shift, std_eqr, std_strOf, std_bytesOf, std_isB, std_zOf, zOf_int, std_isI, isI_int, std_getL, std_nmul, std_sOf, sOf_str, std_isS, isS_str, strOf_lit, lstOf_lit inj_eB, lstOf_lit inj_eZ, lstOf_lit inj_eBs, lstOf_lit inj_eS, isRow_lit, isB_lit, isRow_nil, lstOf_nil inj_eB, lstOf_nil inj_eZ, lstOf_nil inj_eBs, lstOf_nil inj_eS]
           first
             | done
             | omega
             | exact hh
             | (constructor <;> omega)
             | (rw [hw]; simp; done)
             | (rw [hw]; simp; omega)
             | exact eqr_of (((Reps.bytesOf T (bytesOfS T) (fun i => rfl)).catE (.lit (bref h l)) rfl).catE (.lit B) (by simp)) (by rw [hw]; simp only [List.length_append]; omega) (by rw [hw, List.append_assoc])
             | (exfalso; simp [-List.getD_eq_getElem?_getD, std_add, std_sub, std_mul, std_quo, std_rem, std_band, std_bor, std_bxor, std_shl, std_shr, std_eq, std_ne, std_lt, std_le, std_conv, std_not, std_beq, std_bne, std_ite, std_want, std_and2, std_sadd, std_seq, std_sne, std_slt, std_sle, std_sgt, std_sge, std_slen, std_sget, std_scut, std_ofNat, std_toNat, std_nsub, std_nadd, std_lenOf, std_nz, std_nneg, std_inb, std_upto, std_slt63, std_grow, std_imp, std_impN, std_tr, std_tb, std_ti, std_ts, std_tn, std_tp, std_nmin, std_makes, std_room, std_zeros, std_nilq, std_notq, std_eqi, std_eqn, std_eqb, std_eqs, std_eqv, std_cat, std_lst, std_rset, std_rcopy, std_shift, std_eqr, std_strOf, std_bytesOf, std_isB, std_zOf, zOf_int, std_isI, isI_int, std_getL, std_nmul, std_sOf, sOf_str, std_isS, isS_str, strOf_lit, lstOf_lit inj_eB, lstOf_lit inj_eZ, lstOf_lit inj_eBs, lstOf_lit inj_eS, isRow_lit, isB_lit, isRow_nil, lstOf_nil inj_eB, lstOf_nil inj_eZ, lstOf_nil inj_eBs, lstOf_nil inj_eS] at hc; omega)
             | trace_state)
        | trace_state
end Go.Vd

set_option linter.unusedVariables false
set_option linter.unusedSimpArgs false
set_option maxRecDepth 100000
set_option maxHeartbeats 8000000
namespace Go.Vd
open Go.Proofs
theorem mW_len {T : List UInt8} {L : List It} (h : mR T L = true) : (mW T L).length ≤ 20 + L.length * 1002 := by
  obtain ⟨h1, h2, h3, h4⟩ := mR_iff.1 h
  have hT := mT_len h1
  obtain ⟨b1, b2, b3, b4, b5, b6⟩ := bof_ups h4 (fs_bf h3)
  have hb := bb_len b2
  have := body_len h3
  unfold mW mBits
  rw [List.length_append, List.length_append, hb]
  split <;> omega
theorem mRL_len (B : List UInt8) : (mRL B).length ≤ 129 := by
  unfold mRL
  split
  · exact Nat.le_trans (itF_len _ _).1 (bfields_len _ _)
  · simp
theorem rr_len {n : Int} {s : List UInt8} (h : rr n s = true) : s.length ≤ 999 := by
  have h1 := rr_ok h
  have h2 := dOk_b h1.1
  omega
theorem val_len {T : List UInt8} {L : List It} (h : mR T L = true) (i : Nat) : (L.getD i (0, [])).2.length ≤ 999 := by
  rcases Nat.lt_or_ge i L.length with hi | hi
  · exact rr_len (rr_at (mR_iff.1 h).2.2.1 hi)
  · rw [List.getD_eq_getElem?_getD, List.getElem?_eq_none hi]; simp
theorem lst_cut (L : List UInt8) {k : Nat} (h : k ≤ L.length) : lstOf eB 0 1 k (rowF eB 0 std fun _ => L) = L.take k := lstOf_eq inj_eB (.cut L k h)
theorem row_cut (L : List UInt8) {k : Nat} (h : k ≤ L.length) : isRow eB 0 1 k (rowF eB 0 std fun _ => L) := ⟨_, .cut L k h⟩
theorem app2_reps (L : List UInt8) {z : Int} {x : UInt8} (hz : z = x.toNat) {g : Nat → Nat → SV} : Reps eB 0 1 (L.length + 1) (catS L.length (catS 0 g (rowF eB 0 std fun _ => L)) (lstS [[SV.int IntKind.u8 z]])) (L ++ [x]) := by
  have := app1_reps L hz (g := g)
  simpa using this
theorem mod_cut {c : Int} (hc : 0 ≤ c ∧ c < 65536) {n : Nat} (hn : 0 < n) : ∃ k : Nat, k < n ∧ (IntKind.i64.wrap c).tmod (n : Int) = (k : Int) := by
  rw [w64 (by omega)]
  have t1 := Int.tmod_nonneg (n : Int) hc.1
  have t2 := Int.tmod_lt_of_pos c (show (0 : Int) < n by omega)
  exact ⟨(c.tmod n).toNat, by omega, by omega⟩
/-- What comes of writing. -/
theorem mw_facts {T : List UInt8} {L : List It} (h : mWe T L = 0) : mR T L = true ∧ mRe (mWx T L) = 0 ∧ mRT (mWx T L) = T ∧ mRL (mWx T L) = L ∧ (∀ k, k < (mWx T L).length → mRe ((mWx T L).take k) = 2) ∧ (∀ x, mRe (mWx T L ++ [x]) = 4) ∧ 12 ≤ (mWx T L).length ∧ (mWx T L).length ≤ 20 + L.length * 1002 := by
  have hr : mR T L = true := by
    cases e : mR T L
    · rw [(mw_no e).2] at h; cases h
    · rfl
  have hw := mw_yes hr
  rw [hw.1]
  have hb := mR_back hr
  exact ⟨hr, hb.1, hb.2.1, hb.2.2, fun k hk => mR_cut hr hk, fun x => mR_more hr x, mW_ne hr, mW_len hr⟩
theorem mw_two {T U : List UInt8} {L M : List It} (h : mWe T L = 0) (h' : mWe U M = 0) : mWx T L = mWx U M ↔ T = U ∧ L = M := by
  have a := (mw_facts h).1
  have b := (mw_facts h').1
  rw [(mw_yes a).1, (mw_yes b).1]
  exact mW_inj a b
theorem rd_facts {B : List UInt8} (h : mRe B = 0) : mR (mRT B) (mRL B) = true ∧ mWe (mRT B) (mRL B) = 0 ∧ mWx (mRT B) (mRL B) = B := by
  have := mR_good h
  exact ⟨this.1, (mw_yes this.1).2, (mw_yes this.1).1.trans this.2⟩
theorem good_MessageBack (T U : List UInt8) (L M : List It) (B : List UInt8) (c : Int) (hc0 : 0 ≤ c ∧ c < 65536) : GoodP Tryd.prog gl0 5 [.agg [.str T, rowS eI (0, []) 2 std fun _ => L], .agg [.str U, rowS eI (0, []) 2 std fun _ => M], rowS eB 0 1 std fun _ => B, .int .u16 c] (.bool true) := by
  refine fn_sound' (T := seatT) (G := gM6) (X := noX) seatT_ok gM6_ok noX_ok noI_ok mixed Tryd.func5 (.one) (fun A => [.agg [.str T, rowS eI (0, []) 2 A fun _ => L], .agg [.str U, rowS eI (0, []) 2 A fun _ => M], rowS eB 0 1 A fun _ => B, .int .u16 c]) (fun A => .bool true) fun A hA => ?_
  cbv
  repeat' (first | with_reducible exact True.intro | with_reducible exact dr_ok hA (by kernel_rfl) | with_reducible refine And.intro ?_ ?_ | (intro hc; cbv))
  all_goals (subst hA; simp [-List.getD_eq_getElem?_getD, std_add, std_sub, std_mul, std_quo, std_rem, std_band, std_bor, std_bxor, std_shl, std_shr, std_eq, std_ne, std_lt, std_le, std_conv, std_not, std_beq, std_bne, std_ite, std_want, std_and2, std_sadd, std_seq, std_sne, std_slt, std_sle, std_sgt, std_sge, std_slen, std_sget, std_scut, std_ofNat, std_toNat, std_nsub, std_nadd, std_lenOf, std_nz, std_nneg, std_inb, std_upto, std_slt63, std_grow, std_imp, std_impN, std_tr, std_tb, std_ti, std_ts, std_tn, std_tp, std_nmin, std_makes, std_room, std_zeros, std_nilq, std_notq, std_eqi, std_eqn, std_eqb, std_eqs, std_eqv, std_cat, std_lst, std_rset, std_rcopy, std_shift, std_eqr, std_strOf, std_bytesOf, std_isB, std_zOf, zOf_int, std_isI, isI_int, std_getL, std_nmul, std_sOf, sOf_str, std_isS, isS_str, strOf_lit, lstOf_lit inj_eB, lstOf_lit inj_eZ, lstOf_lit inj_eBs, lstOf_lit inj_eS, isRow_lit, isB_lit, isRow_nil, lstOf_nil inj_eB, lstOf_nil inj_eZ, lstOf_nil inj_eBs, lstOf_nil inj_eS, lstOf_lit inj_eI] at *)
  all_goals (have hsh : (mSh T L = true ∧ mSh U M = true) ∧ (B.length : Int) ≤ 5000 := by assumption)
  all_goals (have h1 := mSh_iff.1 hsh.1.1)
  all_goals (have h2 := mSh_iff.1 hsh.1.2)
  all_goals (have h3 := fun i => Nat.le_trans (mSh_getD hsh.1.1 i) (show 1200 ≤ 1000000 by decide))
  all_goals (have h4 := fun i => Nat.le_trans (mSh_getD hsh.1.2 i) (show 1200 ≤ 1000000 by decide))
  all_goals (have h5 := mRL_len B)
  all_goals first
    | omega
    | exact ⟨by omega, h3⟩
    | exact ⟨by omega, h4⟩
    | (have hb := mR_bad hc
       simp [hb.1, hb.2] at *; done)
    | (have hf := rd_facts hc
       have hv := fun i => Nat.le_trans (val_len hf.1 i) (show 999 ≤ 1000000 by decide)
       first
         | exact ⟨by omega, hv⟩
         | exact fun h => ⟨h, by omega, hv⟩
         | exact ⟨⟨hf.2.1, hf.1⟩, hf.2.2⟩)
    | (have hz : mWe T L = 0 ∧ 0 < (mWx T L).length := by assumption
       obtain ⟨f1, f2, f3, f4, f5, f6, f7, f8⟩ := mw_facts hz.1
       obtain ⟨k, hk, ek⟩ := mod_cut hc0 hz.2
       have f9 := f5 k hk
       have fa := f6 (UInt8.ofNat c.toNat)
       have fb := lst_cut (mWx T L) (Nat.le_of_lt hk)
       have fc := app2_reps (mWx T L) (wU8 c hc0.1) (g := fun _ _ => SV.any)
       have fd := lstOf_eq inj_eB fc
       have fe := fun h => mw_two (U := U) (M := M) hz.1 h
       try simp only [ek, Int.toNat_natCast] at *
       first
         | omega
         | (intro e; rw [e] at f7; simp at f7; done)
         | (constructor <;> omega)
         | exact ⟨row_cut _ (Nat.le_of_lt hk), by omega⟩
         | exact ⟨⟨_, fc⟩, by omega⟩
         | exact fun h => ⟨h, by rw [f4]; omega⟩
         | exact fun h => ⟨h, by omega⟩
         | (simp [f2, f3, f4, fb, fd, f9, fa] at *
            first
              | done
              | (intro h; rw [fe h]; simp; done)
              | exact fun h => ⟨h, by omega⟩
              | (exact hc.2 (by rw [Bool.eq_iff_iff]; simp [fe hc.1]))
              | trace_state))
    | trace_state
end Go.Vd

set_option linter.unusedVariables false
set_option linter.unusedSimpArgs false
set_option maxRecDepth 100000
set_option maxHeartbeats 8000000
namespace Go.Vd
open Go.Proofs
noncomputable def c_rShorta : Ct := fun A args => match args with
  | [.agg [.str T, .slc n 2 f]] => some (some (A.tp fun _ => isRow eI (0, []) 2 n f), .bool (A.tb fun _ => mSh T (lstOf eI (0, []) 2 n f)))
  | _ => none
noncomputable def c_mAwakea : Ct := fun A args => match args with
  | [] => some (none, .bool true)
  | _ => none
noncomputable def c_rRead4a : Ct := fun A args => match args with
  | [.slc n 1 f] => some (some (A.tp fun _ => isRow eB 0 1 n f ∧ n ≤ 1000000), .tup [.agg [.str (A.ts fun _ => mRT (lstOf eB 0 1 n f)), rowS eI (0, []) 2 A fun _ => mRL (lstOf eB 0 1 n f)], .int .i64 (A.ti fun _ => mRe (lstOf eB 0 1 n f))])
  | _ => none
noncomputable def c_rWrite4a : Ct := fun A args => match args with
  | [.agg [.str T, .slc n 2 f]] => some (some (A.tp fun _ => isRow eI (0, []) 2 n f ∧ mR T (lstOf eI (0, []) 2 n f) = true ∧ n ≤ 500 ∧ ∀ i, ((lstOf eI (0, []) 2 n f).getD i (0, [])).2.length ≤ 1000000), rowS eB 0 1 A fun _ => mW T (lstOf eI (0, []) 2 n f))
  | _ => none
noncomputable def gMaa : Ar → Pu := addC 20 c_rShorta (addC 27 c_rRead4a (addC 23 c_rWrite4a (addC 19 c_mAwakea (gM9))))
theorem gMaa_ok : PuOk Tryd.prog gl0 (gMaa std) := by
  refine addC_ok (addC_ok (addC_ok (addC_ok (gM9_ok) ⟨_, Tryd.func19, rfl, by decide⟩ ?_) ⟨_, Tryd.func23, rfl, by decide⟩ ?_) ⟨_, Tryd.func27, rfl, by decide⟩ ?_) ⟨_, Tryd.func20, rfl, by decide⟩ ?_
  · intro args p r h hp
    unfold c_mAwakea at h
    split at h <;> cases h
    exact good_mAwake
  · intro args p r h hp
    unfold c_rWrite4a at h
    split at h <;> cases h
    exact good_sv (good_rWrite4 _ _ hp.2.1 (by rw [lstOf_length hp.1]; exact hp.2.2.1) hp.2.2.2) ⟨⟨_, rfl, rfl, hp.1.sv, trivial⟩, trivial⟩
  · intro args p r h hp
    unfold c_rRead4a at h
    split at h <;> cases h
    exact good_sv (good_rRead4 _ (by rw [lstOf_length hp.1]; exact hp.2)) ⟨hp.1.sv, trivial⟩
  · intro args p r h hp
    unfold c_rShorta at h
    split at h <;> cases h
    exact good_sv (good_rShort _ _) ⟨⟨_, rfl, rfl, hp.sv, trivial⟩, trivial⟩
noncomputable def gMab : Ar → Pu := addC 29 c_rSame gMaa
theorem gMab_ok : PuOk Tryd.prog gl0 (gMab std) := by
  refine addC_ok gMaa_ok ⟨_, Tryd.func29, rfl, by decide⟩ ?_
  intro args p r h hp
  unfold c_rSame at h
  split at h <;> cases h
  · exact good_sv (good_rSame _ _ _ _ (by rw [lstOf_length hp.1]; exact hp.2.2)) ⟨⟨_, rfl, rfl, hp.1.sv, trivial⟩, ⟨_, rfl, rfl, hp.2.1.sv, trivial⟩, trivial⟩
  · exact good_svn (good_rSame _ _ _ [] (by rw [lstOf_length hp.1]; exact hp.2.2)) ⟨⟨_, rfl, rfl, .inl hp.1.sv, trivial⟩, ⟨_, rfl, rfl, .inr ⟨hp.2.1, _, _, rfl⟩, trivial⟩, trivial⟩
theorem good_MessageRight (T : List UInt8) (L : List It) (n : Int) (B : List UInt8) : GoodP Tryd.prog gl0 4 [.agg [.str T, rowS eI (0, []) 2 std fun _ => L], .int .i64 n, rowS eB 0 1 std fun _ => B] (.bool true) := by
  refine fn_sound' (T := seatT) (G := gMab) (X := noX) seatT_ok gMab_ok noX_ok noI_ok mixed Tryd.func4 (.one) (fun A => [.agg [.str T, rowS eI (0, []) 2 A fun _ => L], .int .i64 n, rowS eB 0 1 A fun _ => B]) (fun A => .bool true) fun A hA => ?_
  cbv
  repeat' (first | with_reducible exact True.intro | with_reducible exact dr_ok hA (by kernel_rfl) | with_reducible refine And.intro ?_ ?_ | (intro hc; cbv))
  all_goals (subst hA; simp [-List.getD_eq_getElem?_getD, std_add, std_sub, std_mul, std_quo, std_rem, std_band, std_bor, std_bxor, std_shl, std_shr, std_eq, std_ne, std_lt, std_le, std_conv, std_not, std_beq, std_bne, std_ite, std_want, std_and2, std_sadd, std_seq, std_sne, std_slt, std_sle, std_sgt, std_sge, std_slen, std_sget, std_scut, std_ofNat, std_toNat, std_nsub, std_nadd, std_lenOf, std_nz, std_nneg, std_inb, std_upto, std_slt63, std_grow, std_imp, std_impN, std_tr, std_tb, std_ti, std_ts, std_tn, std_tp, std_nmin, std_makes, std_room, std_zeros, std_nilq, std_notq, std_eqi, std_eqn, std_eqb, std_eqs, std_eqv, std_cat, std_lst, std_rset, std_rcopy, std_shift, std_eqr, std_strOf, std_bytesOf, std_isB, std_zOf, zOf_int, std_isI, isI_int, std_getL, std_nmul, std_sOf, sOf_str, std_isS, isS_str, strOf_lit, lstOf_lit inj_eB, lstOf_lit inj_eZ, lstOf_lit inj_eBs, lstOf_lit inj_eS, isRow_lit, isB_lit, isRow_nil, lstOf_nil inj_eB, lstOf_nil inj_eZ, lstOf_nil inj_eBs, lstOf_nil inj_eS, lstOf_lit inj_eI] at *)
  all_goals (have hsh : mSh T L = true ∧ (B.length : Int) ≤ 5000 := by assumption)
  all_goals (have h1 := mSh_iff.1 hsh.1)
  all_goals (have h3 := fun i => Nat.le_trans (mSh_getD hsh.1 i) (show 1200 ≤ 1000000 by decide))
  all_goals (have h5 := mRL_len B)
  all_goals first
    | omega
    | exact ⟨by omega, h3⟩
    | (cases e : mR T L
       · have hn := mw_no e
         simp [e, hn.1, hn.2] at hc ⊢
         done
       · have hy := mw_yes e
         simp [e, hy.1, hy.2] at hc ⊢
         first
           | done
           | exact ⟨by omega, h3⟩
           | omega)
    | (cases e : mR T L
       · have hn := mw_no e
         simp [e, hn.1, hn.2]
         try done
       · have hy := mw_yes e
         simp [e, hy.1, hy.2]
         try exact ⟨by omega, h3⟩)
    | trace_state
end Go.Vd

set_option linter.unusedVariables false
namespace Go.Vd
open Go.Proofs Go.ChangeShapes Go.WideShapes Go.ChangeAt Go.RowKit Go.Joins Go.Deep Go.WideElems
theorem u16_wf {z : Int} (h : (Lit.int .u16 z).wf = true) : 0 ≤ z ∧ z < 65536 := by
  simp [Lit.wf] at h
  have e1 : IntKind.u16.min = 0 := by decide
  have e2 : IntKind.u16.max = 65535 := by decide
  rw [e1, e2] at h
  exact ⟨h.1, by omega⟩
section
variable {H : Type} {enc : TypeId × Value → H} {P : Program}
theorem open_eB_trod {W : World} {t e : TypeId} {v : Value} {fuel : Nat} {x : DataW H × List MemPlace} (ht : P.underlying t = some (.slice e)) (he : P.underlying e = some (.int .u8)) (hc : P.cellsOf e = 1)
    (h : DataW.trod enc P W 0 (fun _ => true) true fuel t [v] = some x) : ∃ L : List UInt8, L.length ≤ maxLen ∧ one v ∧ RelC W (fun _ => False) v (rowS eB 0 1 std fun _ => L) := by
  rcases open_ints ht he hc h with ⟨hcs, hx⟩ | ⟨a, len, cap, zs, hcs, _, hl, hm, hz, hx, hcell, hwz⟩
  · simp only [List.cons.injEq, and_true] at hcs
    subst hcs
    exact ⟨[], Nat.zero_le _, rfl, .slc none 0 0 1 _ (fun _ _ => undef) (Nat.le_refl _) (fun i j hi => absurd hi (by omega)) (fun h => absurd h (by omega)) (fun i j hi => absurd hi (by omega))⟩
  · simp only [List.cons.injEq, and_true] at hcs
    subst hcs
    simp only [if_true] at hz
    have hlen : ((zs.take len).map fun n => UInt8.ofNat n.toNat).length = len := by simp; omega
    refine ⟨(zs.take len).map fun n => UInt8.ofNat n.toNat, by rw [hlen]; omega, rfl, ?_⟩
    show RelC W (fun _ => False) _ (.slc ((zs.take len).map fun n => UInt8.ofNat n.toNat).length 1 (rowF eB 0 std fun _ => (zs.take len).map fun n => UInt8.ofNat n.toNat))
    rw [hlen]
    refine .slc (some a) len cap 1 _ (fun i _ => .int .u8 (zs.getD i 0)) hl (fun i j hi hj => ⟨a, rfl, ?_, rfl, fun h => h⟩) (fun h => ⟨a, rfl, ?_⟩) (fun i j hi hj => ?_)
    · rw [show i * 1 + j = i by omega]
      exact hcell i (by omega)
    · simpa [Addr.add] using World.cell?_spot (hcell 0 (by omega))
    · obtain rfl : j = 0 := by omega
      have hw := u8_wf (hwz (zs.getD i 0) (by rw [List.getD_eq_getElem?_getD, List.getElem?_eq_getElem (by omega)]; simp))
      have : (zs.getD i 0) = (((zs.take len).map fun n => UInt8.ofNat n.toNat).getD i 0).toNat := by
        rw [List.getD_eq_getElem?_getD, List.getD_eq_getElem?_getD, List.getElem?_map, List.getElem?_take_of_lt hi]
        rw [List.getD_eq_getElem?_getD] at hw
        rw [List.getElem?_eq_getElem (by omega)] at hw ⊢
        simp at hw ⊢
        omega
      show RelC W _ _ (SV.int .u8 _)
      rw [this]
      exact .int _ _
theorem array6 {α : Type} {cs : Array α} (h : cs.size = 6) : ∃ c0 c1 c2 c3 c4 c5, cs = #[c0, c1, c2, c3, c4, c5] := by
  obtain ⟨l⟩ := cs
  match l, h with
  | [c0, c1, c2, c3, c4, c5], _ => exact ⟨c0, c1, c2, c3, c4, c5, rfl⟩
theorem open_agg6 {W : World} {b0 base : Nat} {spare : Nat → Bool} {held : Bool} {r : Reach} {t : TypeId} {f0 f1 f2 f3 f4 f5 : Field} {v : Value} {d : DataW H} {p : List MemPlace} (hs : P.underlying t = some (.struct #[f0, f1, f2, f3, f4, f5])) (hone : oneCellFields P #[f0, f1, f2, f3, f4, f5] = true) (hC : P.cellsOf t = 6)
    (hv : Value.okWide P W r b0 t v) (h : DataW.Trod enc P W base spare held t v d p) :
    ∃ (v0 v1 v2 v3 v4 v5 : Value) (y0 y1 y2 y3 y4 y5 : DataW H × List MemPlace) (n : Nat), v = .agg #[v0, v1, v2, v3, v4, v5] ∧ d = .agg [y0.1, y1.1, y2.1, y3.1, y4.1, y5.1] ∧ p = y0.2 ++ (y1.2 ++ (y2.2 ++ (y3.2 ++ (y4.2 ++ y5.2)))) ∧
      DataW.trod enc P W base spare held n f0.type [v0] = some y0 ∧ DataW.trod enc P W base spare held n f1.type [v1] = some y1 ∧ DataW.trod enc P W base spare held n f2.type [v2] = some y2 ∧ DataW.trod enc P W base spare held n f3.type [v3] = some y3 ∧ DataW.trod enc P W base spare held n f4.type [v4] = some y4 ∧ DataW.trod enc P W base spare held n f5.type [v5] = some y5 := by
  obtain ⟨cs, rfl, hsz⟩ := okWide_struct hs hv
  obtain ⟨c0, c1, c2, c3, c4, c5, rfl⟩ := array6 (hsz.trans hC)
  obtain ⟨fuel, hf⟩ := h
  obtain ⟨xs, n, _, hx, hl, hlen, hf⟩ := DataW.trod_struct hs hf
  match xs, hlen with
  | [y0, y1, y2, y3, y4, y5], _ =>
    obtain ⟨o0, k0⟩ := hone_of hone 0 f0 rfl
    have h0 := hf 0 f0 rfl
    obtain ⟨o1, k1⟩ := hone_of hone 1 f1 rfl
    have h1 := hf 1 f1 rfl
    obtain ⟨o2, k2⟩ := hone_of hone 2 f2 rfl
    have h2 := hf 2 f2 rfl
    obtain ⟨o3, k3⟩ := hone_of hone 3 f3 rfl
    have h3 := hf 3 f3 rfl
    obtain ⟨o4, k4⟩ := hone_of hone 4 f4 rfl
    have h4 := hf 4 f4 rfl
    obtain ⟨o5, k5⟩ := hone_of hone 5 f5 rfl
    have h5 := hf 5 f5 rfl
    simp only [Prod.mk.injEq] at hx
    exact ⟨c0, c1, c2, c3, c4, c5, y0, y1, y2, y3, y4, y5, n, rfl, by simpa using hx.1, by simpa using hx.2, by simpa [Value.cells, o0, k0] using h0, by simpa [Value.cells, o1, k1] using h1, by simpa [Value.cells, o2, k2] using h2, by simpa [Value.cells, o3, k3] using h3, by simpa [Value.cells, o4, k4] using h4, by simpa [Value.cells, o5, k5] using h5⟩
theorem rel_agg6 {w : World} {ρ : Nat → Value} {rw N : Nat → Prop} {u0 u1 u2 u3 u4 u5 : Value} {s0 s1 s2 s3 s4 s5 : SV} (h0 : one u0) (h1 : one u1) (h2 : one u2) (h3 : one u3) (h4 : one u4) (h5 : one u5)
    (r0 : Rel w ρ rw N u0 s0) (r1 : Rel w ρ rw N u1 s1) (r2 : Rel w ρ rw N u2 s2) (r3 : Rel w ρ rw N u3 s3) (r4 : Rel w ρ rw N u4 s4) (r5 : Rel w ρ rw N u5 s5) : Rel w ρ rw N (.agg #[u0, u1, u2, u3, u4, u5]) (.agg [s0, s1, s2, s3, s4, s5]) := by
  refine .agg _ _ rfl ?_ ?_
  · intro v hv
    simp at hv
    rcases hv with rfl | rfl | rfl | rfl | rfl | rfl <;> assumption
  · intro i v s hv hs
    match i with
    | 0 => simp at hv hs; subst hv hs; exact r0
    | 1 => simp at hv hs; subst hv hs; exact r1
    | 2 => simp at hv hs; subst hv hs; exact r2
    | 3 => simp at hv hs; subst hv hs; exact r3
    | 4 => simp at hv hs; subst hv hs; exact r4
    | 5 => simp at hv hs; subst hv hs; exact r5
    | n + 6 => simp at hv
theorem u32_wf {z : Int} (h : (Lit.int .u32 z).wf = true) : 0 ≤ z ∧ z < 4294967296 := by
  simp [Lit.wf] at h
  have e1 : IntKind.u32.min = 0 := by decide
  have e2 : IntKind.u32.max = 4294967295 := by decide
  rw [e1, e2] at h
  exact ⟨h.1, by omega⟩
end
end Go.Vd

set_option linter.unusedVariables false
namespace Go.Vd
theorem u64_wf {z : Int} (h : (Lit.int .u64 z).wf = true) : 0 ≤ z ∧ z < 18446744073709551616 := by
  simp [Lit.wf] at h
  have e1 : IntKind.u64.min = 0 := by decide
  have e2 : IntKind.u64.max = 18446744073709551615 := by decide
  rw [e1, e2] at h
  omega
theorem i64_wf {z : Int} (h : (Lit.int .i64 z).wf = true) : -9223372036854775808 ≤ z ∧ z < 9223372036854775808 := by
  simp [Lit.wf] at h
  have e1 : IntKind.i64.min = -9223372036854775808 := by decide
  have e2 : IntKind.i64.max = 9223372036854775807 := by decide
  (try rw [e1] at h)
  (try rw [e2] at h)
  omega
theorem i16_wf {z : Int} (h : (Lit.int .i16 z).wf = true) : -32768 ≤ z ∧ z < 32768 := by
  simp [Lit.wf] at h
  have e1 : IntKind.i16.min = -32768 := by decide
  have e2 : IntKind.i16.max = 32767 := by decide
  (try rw [e1] at h)
  (try rw [e2] at h)
  omega
section
open Go.Proofs Go.ChangeShapes Go.WideShapes Go.ChangeAt Go.RowKit Go.Joins
variable {H : Type} {enc : TypeId × Value → H} {P : Program} {w : World} {base : Nat} {spare : Nat → Bool} {held : Bool}
theorem trodAll_five {t0 t1 t2 t3 t4 : TypeId} {args : Array Value} {ds : List (DataW H)} {ps : List MemPlace} (h : DataW.TrodAll enc P w base spare held [t0, t1, t2, t3, t4] args.toList ds ps) :
    ∃ v0 v1 v2 v3 v4 d0 d1 d2 d3 d4 p0 p1 p2 p3 p4, args = #[v0, v1, v2, v3, v4] ∧ ds = [d0, d1, d2, d3, d4] ∧ ps = p0 ++ p1 ++ p2 ++ p3 ++ p4 ∧ DataW.Trod enc P w base spare held t0 v0 d0 p0 ∧ DataW.Trod enc P w base spare held t1 v1 d1 p1 ∧ DataW.Trod enc P w base spare held t2 v2 d2 p2 ∧ DataW.Trod enc P w base spare held t3 v3 d3 p3 ∧ DataW.Trod enc P w base spare held t4 v4 d4 p4 := by
  obtain ⟨v0, vs0, d0, ds0, p0, q0, hargs, rfl, rfl, hd0, r0⟩ := trodAll_cons h
  obtain ⟨v1, vs1, d1, ds1, p1, q1, rfl, rfl, rfl, hd1, r1⟩ := trodAll_cons r0
  obtain ⟨v2, vs2, d2, ds2, p2, q2, rfl, rfl, rfl, hd2, r2⟩ := trodAll_cons r1
  obtain ⟨v3, vs3, d3, ds3, p3, q3, rfl, rfl, rfl, hd3, r3⟩ := trodAll_cons r2
  obtain ⟨v4, vs4, d4, ds4, p4, q4, rfl, rfl, rfl, hd4, r4⟩ := trodAll_cons r3
  obtain ⟨rfl, rfl, rfl⟩ := trodAll_nil r4
  exact ⟨v0, v1, v2, v3, v4, d0, d1, d2, d3, d4, p0, p1, p2, p3, p4, by cases args; simp_all, rfl, by simp, hd0, hd1, hd2, hd3, hd4⟩
end
end Go.Vd

set_option linter.unusedVariables false
set_option maxRecDepth 100000
namespace Go.Vd
open Go.Proofs Go.ChangeShapes Go.WideShapes Go.ChangeAt Go.RowKit Go.Joins Go.Deep Go.WideElems
section
variable {H : Type} {enc : TypeId × Value → H} {P : Program} {w : World} {base : Nat} {sp : Nat → Bool} {held : Bool}
/-- A struct of three numbers, as it is read. -/
theorem trod3 {fuel : Nat} {e : TypeId} {f0 f1 f2 : Field} {cs : List Value} {a b c : Int} {p : List MemPlace} (hs : P.underlying e = some (.struct #[f0, f1, f2])) (hone : oneCellFields P #[f0, f1, f2] = true)
    (h0 : P.underlying f0.type = some (.int .i64)) (h1 : P.underlying f1.type = some (.int .i64)) (h2 : P.underlying f2.type = some (.int .i64)) (hC : P.cellsOf e = 3)
    (h : DataW.trod enc P w base sp held fuel e cs = some (.agg [.lit (.int .i64 a), .lit (.int .i64 b), .lit (.int .i64 c)], p)) : cs = [.int .i64 a, .int .i64 b, .int .i64 c] := by
  obtain ⟨xs, n, _, hx, hl, hlen, hf⟩ := DataW.trod_struct hs h
  rw [hC] at hl
  match xs, hlen with
  | [y0, y1, y2], _ =>
    match cs, hl with
    | [c0, c1, c2], _ =>
      obtain ⟨o0, k0⟩ := hone_of hone 0 f0 rfl
      have g0 := hf 0 f0 rfl
      obtain ⟨o1, k1⟩ := hone_of hone 1 f1 rfl
      have g1 := hf 1 f1 rfl
      obtain ⟨o2, k2⟩ := hone_of hone 2 f2 rfl
      have g2 := hf 2 f2 rfl
      rw [o0, k0] at g0
      rw [o1, k1] at g1
      rw [o2, k2] at g2
      obtain ⟨z0, e0, i0, _⟩ := DataW.trod_int h0 g0
      obtain ⟨z1, e1, i1, _⟩ := DataW.trod_int h1 g1
      obtain ⟨z2, e2, i2, _⟩ := DataW.trod_int h2 g2
      simp only [Prod.mk.injEq] at hx
      have hx1 := hx.1
      simp at e0 e1 e2
      subst i0 i1 i2
      simp at hx1
      obtain ⟨r0, r1, r2⟩ := hx1
      subst r0 r1 r2 e0 e1 e2
      rfl
/-- A row of such. -/
theorem cells_of_known {fuel n : Nat} {t e : TypeId} {f0 f1 f2 : Field} {cs : List Value} {L : List (Int × Int × Int)} {p : List MemPlace} (ht : P.underlying t = some (.array n e)) (hs : P.underlying e = some (.struct #[f0, f1, f2])) (hone : oneCellFields P #[f0, f1, f2] = true)
    (h0 : P.underlying f0.type = some (.int .i64)) (h1 : P.underlying f1.type = some (.int .i64)) (h2 : P.underlying f2.type = some (.int .i64)) (hC : P.cellsOf e = 3)
    (h : DataW.trod enc P w base sp held fuel t cs = some (.agg (L.map fun x => .agg [.lit (.int .i64 x.1), .lit (.int .i64 x.2.1), .lit (.int .i64 x.2.2)]), p)) :
    cs.length = P.cellsOf t ∧ L.length = n ∧ ∀ i x, L[i]? = some x → (cs.drop (i * 3)).take 3 = [.int .i64 x.1, .int .i64 x.2.1, .int .i64 x.2.2] := by
  obtain ⟨xs, m, _, hx, hl, hlen, hf⟩ := DataW.trod_array ht h
  simp only [Prod.mk.injEq] at hx
  have hx1 : L.map (fun x => (DataW.agg [.lit (.int .i64 x.1), .lit (.int .i64 x.2.1), .lit (.int .i64 x.2.2)] : DataW H)) = xs.map (·.1) := by simpa using hx.1
  have hLl : L.length = n := by
    have := congrArg List.length hx1
    simp at this
    omega
  refine ⟨hl, hLl, fun i x hi => ?_⟩
  have hin : i < n := by
    rw [← hLl]
    exact (List.getElem?_eq_some_iff.1 hi).1
  have g := hf i hin
  rw [hC] at g
  have hxi : xs[i]? = some xs[i] := List.getElem?_eq_getElem (by omega)
  rw [hxi] at g
  have h3 : (DataW.agg [.lit (.int .i64 x.1), .lit (.int .i64 x.2.1), .lit (.int .i64 x.2.2)] : DataW H) = xs[i].1 := by
    have := congrArg (·[i]?) hx1
    simp [hi, hxi] at this
    exact this
  have g' : DataW.trod enc P w base sp held m e ((cs.drop (i * 3)).take 3) = some (.agg [.lit (.int .i64 x.1), .lit (.int .i64 x.2.1), .lit (.int .i64 x.2.2)], xs[i].2) := by
    rw [g, h3]
  exact trod3 hs hone h0 h1 h2 hC g'
end
def knownT : List (Int × Int × Int) := [(2, 3, 19), (3, 1, 6), (4, 1, 12), (7, 1, 10), (11, 1, 6), (12, 1, 6), (37, 2, 12), (38, 2, 6), (39, 2, 2), (41, 2, 8), (44, 4, 25), (48, 5, 999), (49, 1, 3), (90, 1, 42), (120, 5, 999)]
theorem gKnown : Tryd.prog.globalNamed "paydesk/field.known" = some 1 := by kernel_rfl
/-- What is known of the fields' own variable. -/
def KnownIs (w : World) : Prop := ∃ cs, w.var? Tryd.prog "paydesk/field.known" = some cs ∧ cs.size = 45 ∧ ∀ j, j < 45 → cs[j]? = some (.int .i64 (knownL.getD j 0))
theorem known_at : ∀ j, j < 45 → ∃ x, knownT[j / 3]? = some x ∧ ([x.1, x.2.1, x.2.2] : List Int)[j % 3]? = some (knownL.getD j 0) := by
  intro j hj
  have h : ∀ j : Fin 45, ∃ x : Fin 15, knownT[j.val / 3]? = knownT[x.val]? ∧ ((knownT[x.val]?).bind fun x => ([x.1, x.2.1, x.2.2] : List Int)[j.val % 3]?) = some (knownL.getD j.val 0) := by decide +kernel
  obtain ⟨x, h1, h2⟩ := h ⟨j, hj⟩
  simp only at h1 h2
  rw [← h1] at h2
  obtain ⟨y, h3, h4⟩ := Option.bind_eq_some_iff.1 h2
  exact ⟨y, h3, h4⟩
/-- What the tables give of the package's variables. -/
theorem gl0_fld {w : World} (hh : Lib.TabIs Tryd.prog w "internal/strconv.uint64pow10" .u64 Lib.pow10Tab ∧ KnownIs w) : GlOk gl0 w fun _ => False := by
  obtain ⟨h, cs0, hv0, hz0, hc0⟩ := hh
  have hne : ∀ g, g ≠ 2 → g ≠ 1 → gl0 g = .val (.pointer (some ⟨g, 0, none⟩)) := fun g hg hg0 => by
    unfold gl0
    split
    · exact absurd rfl hg0
    · exact absurd rfl hg
    · rfl
  refine ⟨fun g ρ N => ?_, fun g k f e => ?_⟩
  · by_cases hg : g = 2
    · subst hg
      show Rel w ρ (fun _ => False) N _ (.rop 20 fun j => .int .u64 (Lib.pow10Tab.getD j 0))
      refine .rop ⟨2, 0, none⟩ 20 _ (fun j => .int .u64 (Lib.pow10Tab.getD j 0)) rfl (fun j hj => ⟨?_, rfl, fun e => e⟩) (fun j _ => .int _ _)
      rw [Lib.add_plain, Nat.zero_add]
      exact h.cell gTab j (by rw [Lib.pow10Tab_length]; exact hj)
    · by_cases hg0 : g = 1
      · subst hg0
        show Rel w ρ (fun _ => False) N _ (.rop 45 fun j => .int .i64 (knownL.getD j 0))
        refine .rop ⟨1, 0, none⟩ 45 _ (fun j => .int .i64 (knownL.getD j 0)) rfl (fun j hj => ⟨?_, rfl, fun e => e⟩) (fun j _ => .int _ _)
        rw [Lib.add_plain, Nat.zero_add, World.var?_cell gKnown hv0]
        exact hc0 j hj
      · rw [hne g hg hg0]; exact .val _
  · by_cases hg : g = 2
    · subst hg
      have e2 : (SV.rop 20 fun j => .int .u64 (Lib.pow10Tab.getD j 0)) = .rop k f := e
      cases e2
      refine ⟨?_, fun e => e⟩
      unfold Lib.TabIs World.var? at h
      rw [gTab] at h
      simp only [Option.bind_some] at h
      split at h
      · rename_i cs t b hc
        injection h with h
        exact ⟨cs, t, b, hc, by rw [h]; simp [Lib.pow10Tab_length]⟩
      · cases h
    · by_cases hg0 : g = 1
      · subst hg0
        have e2 : (SV.rop 45 fun j => .int .i64 (knownL.getD j 0)) = .rop k f := e
        cases e2
        refine ⟨?_, fun e => e⟩
        unfold World.var? at hv0
        rw [gKnown] at hv0
        simp only [Option.bind_some] at hv0
        split at hv0
        · rename_i cs t b hc
          injection hv0 with hv0
          exact ⟨cs, t, b, hc, by rw [hv0]; exact hz0⟩
        · cases hv0
      · rw [hne g hg hg0] at e; cases e
end Go.Vd
namespace Go.Proofs.YtakcggldilbilaaDoor
open Go.ChangeShapes Go.WideShapes Go.ChangeAt Go.ChangeMaps Go.RowKit Go.Joins
def laidL : List (String × DataW Unit) := [("math/bits.deBruijn32tab", Rows.laid_math_bits_deBruijn32tab), ("math/bits.deBruijn64tab", Rows.laid_math_bits_deBruijn64tab), ("internal/strconv.uint64pow10", Rows.laid_internal_strconv_uint64pow10), ("paydesk/field.known", Rows.laid_paydesk_field_known)]
theorem Tryd.own : ownKnob Tryd.prog.godebug = none := by kernel_rfl
theorem Tryd.laidOut : laidOutB Tryd.prog = true := by kernel_rfl
theorem tTab : (Tryd.prog.globals[2]?).map (·.type) = some 248 := by kernel_rfl
theorem cTab : Tryd.prog.cellsOf 248 = 20 := by kernel_rfl
theorem cTabE : Tryd.prog.cellsOf 49 = 1 := by kernel_rfl
theorem dTab : (Rows.laid_internal_strconv_uint64pow10 : DataW Unit) = Lib.tabData .u64 Lib.pow10Tab := by kernel_rfl
theorem tKn : (Tryd.prog.globals[1]?).map (·.type) = some 219 := by kernel_rfl
theorem cKn : Tryd.prog.cellsOf 219 = 45 := by kernel_rfl
theorem cKnE : Tryd.prog.cellsOf 171 = 3 := by kernel_rfl
theorem dKn : (Rows.laid_paydesk_field_known : DataW Unit) = .agg (Vd.knownT.map fun x => .agg [.lit (.int .i64 x.1), .lit (.int .i64 x.2.1), .lit (.int .i64 x.2.2)]) := by kernel_rfl
theorem door_met (os : Os) (args : Array Value) : laidMetH Tryd.prog laidL ((World.doorLaid Tryd.prog 2000 os).forCall (fun _ _ => 0) ⟨#[], args, []⟩).memory :=
  laidMetH_of_parts3 (fuel := 8) (laidMet_of_run' 8 (by kernel_rfl) (by kernel_rfl)) (by kernel_rfl) (by kernel_rfl)
theorem laid_known {W : World} (h : laidMetH Tryd.prog laidL W) : Lib.TabIs Tryd.prog W "internal/strconv.uint64pow10" .u64 Lib.pow10Tab ∧ Vd.KnownIs W := by
  rw [MakeChecks.laidMetH_plain _ _ _ (by kernel_rfl)] at h
  obtain ⟨ps, ⟨_, _, _, _, _, _, _, _, _, _, ⟨_, _, _, _, _, _, _, _, _, _, ⟨g2, t2, cs2, f2, p2, q2, hg2, ht2, hv2, hd2, ⟨g3, t3, cs3, f3, p3, q3, hg3, ht3, hv3, hd3, _, _⟩, _⟩, _⟩, _⟩, _, _⟩ := h
  refine ⟨?_, ?_⟩
  · obtain rfl := Option.some.inj (Vd.gTab.symm.trans hg2)
    obtain rfl := Option.some.inj (tTab.symm.trans ht2)
    unfold Lib.TabIs
    rw [dTab] at hd2
    rw [hv2, ← Lib.cells_of_tab Tryd.underlying248 Tryd.underlying49 cTabE cTab hd2]
  · obtain rfl := Option.some.inj (Vd.gKnown.symm.trans hg3)
    obtain rfl := Option.some.inj (tKn.symm.trans ht3)
    rw [dKn] at hd3
    obtain ⟨hl, hn, hx⟩ := Vd.cells_of_known Tryd.underlying219 Tryd.underlying171 (by kernel_rfl) Tryd.underlying3 Tryd.underlying3 Tryd.underlying3 cKnE hd3
    rw [cKn] at hl
    refine ⟨cs3, hv3, by simpa using hl, fun j hj => ?_⟩
    obtain ⟨x, h1, h2⟩ := Vd.known_at j hj
    have h3 := hx _ x h1
    have h4 := congrArg (·[j % 3]?) h3

    rw [List.getElem?_take_of_lt (by omega), List.getElem?_drop, show j / 3 * 3 + j % 3 = j by omega] at h4
    rw [← Array.getElem?_toList, h4]
    have h5 := congrArg (Option.map (Value.int .i64)) h2
    rw [← List.getElem?_map] at h5
    exact h5
end Go.Proofs.YtakcggldilbilaaDoor

set_option linter.unusedVariables false
namespace Go.Vd
open Go.Proofs Go.ChangeShapes Go.WideShapes Go.ChangeAt Go.RowKit Go.Joins Go.Deep Go.WideElems
section
variable {H : Type} {enc : TypeId × Value → H} {P : Program}
theorem array7 {α : Type} {cs : Array α} (h : cs.size = 7) : ∃ c0 c1 c2 c3 c4 c5 c6, cs = #[c0, c1, c2, c3, c4, c5, c6] := by
  obtain ⟨l⟩ := cs
  match l, h with
  | [c0, c1, c2, c3, c4, c5, c6], _ => exact ⟨c0, c1, c2, c3, c4, c5, c6, rfl⟩
theorem array8 {α : Type} {cs : Array α} (h : cs.size = 8) : ∃ c0 c1 c2 c3 c4 c5 c6 c7, cs = #[c0, c1, c2, c3, c4, c5, c6, c7] := by
  obtain ⟨l⟩ := cs
  match l, h with
  | [c0, c1, c2, c3, c4, c5, c6, c7], _ => exact ⟨c0, c1, c2, c3, c4, c5, c6, c7, rfl⟩
theorem rel_agg7 {w : World} {ρ : Nat → Value} {rw N : Nat → Prop} {u0 u1 u2 u3 u4 u5 u6 : Value} {s0 s1 s2 s3 s4 s5 s6 : SV} (h0 : one u0) (h1 : one u1) (h2 : one u2) (h3 : one u3) (h4 : one u4) (h5 : one u5) (h6 : one u6) (r0 : Rel w ρ rw N u0 s0) (r1 : Rel w ρ rw N u1 s1) (r2 : Rel w ρ rw N u2 s2) (r3 : Rel w ρ rw N u3 s3) (r4 : Rel w ρ rw N u4 s4) (r5 : Rel w ρ rw N u5 s5) (r6 : Rel w ρ rw N u6 s6) : Rel w ρ rw N (.agg #[u0, u1, u2, u3, u4, u5, u6]) (.agg [s0, s1, s2, s3, s4, s5, s6]) := by
  refine .agg _ _ rfl ?_ ?_
  · intro v hv
    simp at hv
    rcases hv with rfl | rfl | rfl | rfl | rfl | rfl | rfl <;> assumption
  · intro i v s hv hs
    match i with
    | 0 => simp at hv hs; subst hv hs; exact r0
    | 1 => simp at hv hs; subst hv hs; exact r1
    | 2 => simp at hv hs; subst hv hs; exact r2
    | 3 => simp at hv hs; subst hv hs; exact r3
    | 4 => simp at hv hs; subst hv hs; exact r4
    | 5 => simp at hv hs; subst hv hs; exact r5
    | 6 => simp at hv hs; subst hv hs; exact r6
    | n + 7 => simp at hv
theorem rel_agg8 {w : World} {ρ : Nat → Value} {rw N : Nat → Prop} {u0 u1 u2 u3 u4 u5 u6 u7 : Value} {s0 s1 s2 s3 s4 s5 s6 s7 : SV} (h0 : one u0) (h1 : one u1) (h2 : one u2) (h3 : one u3) (h4 : one u4) (h5 : one u5) (h6 : one u6) (h7 : one u7) (r0 : Rel w ρ rw N u0 s0) (r1 : Rel w ρ rw N u1 s1) (r2 : Rel w ρ rw N u2 s2) (r3 : Rel w ρ rw N u3 s3) (r4 : Rel w ρ rw N u4 s4) (r5 : Rel w ρ rw N u5 s5) (r6 : Rel w ρ rw N u6 s6) (r7 : Rel w ρ rw N u7 s7) : Rel w ρ rw N (.agg #[u0, u1, u2, u3, u4, u5, u6, u7]) (.agg [s0, s1, s2, s3, s4, s5, s6, s7]) := by
  refine .agg _ _ rfl ?_ ?_
  · intro v hv
    simp at hv
    rcases hv with rfl | rfl | rfl | rfl | rfl | rfl | rfl | rfl <;> assumption
  · intro i v s hv hs
    match i with
    | 0 => simp at hv hs; subst hv hs; exact r0
    | 1 => simp at hv hs; subst hv hs; exact r1
    | 2 => simp at hv hs; subst hv hs; exact r2
    | 3 => simp at hv hs; subst hv hs; exact r3
    | 4 => simp at hv hs; subst hv hs; exact r4
    | 5 => simp at hv hs; subst hv hs; exact r5
    | 6 => simp at hv hs; subst hv hs; exact r6
    | 7 => simp at hv hs; subst hv hs; exact r7
    | n + 8 => simp at hv
theorem open_entry {W : World} {b0 base : Nat} {spare : Nat → Bool} {held : Bool} {r : Reach} {t : TypeId} {f0 f1 f2 f3 f4 f5 f6 : Field} {g00 g01 : Field} {v : Value} {d : DataW H} {p : List MemPlace} (hs : P.underlying t = some (.struct #[f0, f1, f2, f3, f4, f5, f6])) (hC : P.cellsOf t = 8)
    (o0 : f0.offset = 0) (k0 : P.cellsOf f0.type = 2) (o1 : f1.offset = 2) (k1 : P.cellsOf f1.type = 1) (o2 : f2.offset = 3) (k2 : P.cellsOf f2.type = 1) (o3 : f3.offset = 4) (k3 : P.cellsOf f3.type = 1) (o4 : f4.offset = 5) (k4 : P.cellsOf f4.type = 1) (o5 : f5.offset = 6) (k5 : P.cellsOf f5.type = 1) (o6 : f6.offset = 7) (k6 : P.cellsOf f6.type = 1) (hs0 : P.underlying f0.type = some (.struct #[g00, g01])) (hone0 : oneCellFields P #[g00, g01] = true) 
    (hv : Value.okWide P W r b0 t v) (h : DataW.Trod enc P W base spare held t v d p) :
    ∃ (c0 c1 c2 c3 c4 c5 c6 c7 : Value) (y00 y01 y1 y2 y3 y4 y5 y6 : DataW H × List MemPlace) (n m0 : Nat), v = .agg #[c0, c1, c2, c3, c4, c5, c6, c7] ∧ d = .agg [.agg [y00.1, y01.1], y1.1, y2.1, y3.1, y4.1, y5.1, y6.1] ∧ p = (y00.2 ++ (y01.2)) ++ (y1.2 ++ (y2.2 ++ (y3.2 ++ (y4.2 ++ (y5.2 ++ (y6.2)))))) ∧
      DataW.trod enc P W base spare held m0 g00.type [c0] = some y00 ∧ DataW.trod enc P W base spare held m0 g01.type [c1] = some y01 ∧ DataW.trod enc P W base spare held n f1.type [c2] = some y1 ∧ DataW.trod enc P W base spare held n f2.type [c3] = some y2 ∧ DataW.trod enc P W base spare held n f3.type [c4] = some y3 ∧ DataW.trod enc P W base spare held n f4.type [c5] = some y4 ∧ DataW.trod enc P W base spare held n f5.type [c6] = some y5 ∧ DataW.trod enc P W base spare held n f6.type [c7] = some y6 := by
  obtain ⟨cs, rfl, hsz⟩ := okWide_struct hs hv
  obtain ⟨c0, c1, c2, c3, c4, c5, c6, c7, rfl⟩ := array8 (hsz.trans hC)
  obtain ⟨fuel, hf⟩ := h
  obtain ⟨xs, n, _, hx, hl, hlen, hf⟩ := DataW.trod_struct hs hf
  match xs, hlen with
  | [w0, w1, w2, w3, w4, w5, w6], _ =>
    simp only [Prod.mk.injEq] at hx
    have q0 := hf 0 f0 rfl
    rw [o0, k0] at q0
    have q1 := hf 1 f1 rfl
    rw [o1, k1] at q1
    have q2 := hf 2 f2 rfl
    rw [o2, k2] at q2
    have q3 := hf 3 f3 rfl
    rw [o3, k3] at q3
    have q4 := hf 4 f4 rfl
    rw [o4, k4] at q4
    have q5 := hf 5 f5 rfl
    rw [o5, k5] at q5
    have q6 := hf 6 f6 rfl
    rw [o6, k6] at q6
    have q0 : DataW.trod enc P W base spare held n f0.type [c0, c1] = some w0 := by simpa [Value.cells] using q0
    obtain ⟨xs0, m0, _, hx0, _, hlen0, hf0⟩ := DataW.trod_struct hs0 q0
    match xs0, hlen0 with
    | [y00, y01], _ =>
    obtain ⟨oo00, kk00⟩ := hone_of hone0 0 g00 rfl
    have qq00 := hf0 0 g00 rfl
    rw [oo00, kk00] at qq00
    obtain ⟨oo01, kk01⟩ := hone_of hone0 1 g01 rfl
    have qq01 := hf0 1 g01 rfl
    rw [oo01, kk01] at qq01
    subst hx0
    refine ⟨c0, c1, c2, c3, c4, c5, c6, c7, y00, y01, w1, w2, w3, w4, w5, w6, n, m0, rfl, by simpa using hx.1, by simpa using hx.2, by simpa [Value.cells] using qq00, by simpa [Value.cells] using qq01, by simpa [Value.cells] using q1, by simpa [Value.cells] using q2, by simpa [Value.cells] using q3, by simpa [Value.cells] using q4, by simpa [Value.cells] using q5, by simpa [Value.cells] using q6⟩
theorem open_event {W : World} {b0 base : Nat} {spare : Nat → Bool} {held : Bool} {r : Reach} {t : TypeId} {f0 f1 : Field} {g10 g11 g12 g13 g14 g15 : Field} {v : Value} {d : DataW H} {p : List MemPlace} (hs : P.underlying t = some (.struct #[f0, f1])) (hC : P.cellsOf t = 7)
    (o0 : f0.offset = 0) (k0 : P.cellsOf f0.type = 1) (o1 : f1.offset = 1) (k1 : P.cellsOf f1.type = 6) (hs1 : P.underlying f1.type = some (.struct #[g10, g11, g12, g13, g14, g15])) (hone1 : oneCellFields P #[g10, g11, g12, g13, g14, g15] = true) 
    (hv : Value.okWide P W r b0 t v) (h : DataW.Trod enc P W base spare held t v d p) :
    ∃ (c0 c1 c2 c3 c4 c5 c6 : Value) (y0 y10 y11 y12 y13 y14 y15 : DataW H × List MemPlace) (n m1 : Nat), v = .agg #[c0, c1, c2, c3, c4, c5, c6] ∧ d = .agg [y0.1, .agg [y10.1, y11.1, y12.1, y13.1, y14.1, y15.1]] ∧ p = y0.2 ++ ((y10.2 ++ (y11.2 ++ (y12.2 ++ (y13.2 ++ (y14.2 ++ (y15.2))))))) ∧
      DataW.trod enc P W base spare held n f0.type [c0] = some y0 ∧ DataW.trod enc P W base spare held m1 g10.type [c1] = some y10 ∧ DataW.trod enc P W base spare held m1 g11.type [c2] = some y11 ∧ DataW.trod enc P W base spare held m1 g12.type [c3] = some y12 ∧ DataW.trod enc P W base spare held m1 g13.type [c4] = some y13 ∧ DataW.trod enc P W base spare held m1 g14.type [c5] = some y14 ∧ DataW.trod enc P W base spare held m1 g15.type [c6] = some y15 := by
  obtain ⟨cs, rfl, hsz⟩ := okWide_struct hs hv
  obtain ⟨c0, c1, c2, c3, c4, c5, c6, rfl⟩ := array7 (hsz.trans hC)
  obtain ⟨fuel, hf⟩ := h
  obtain ⟨xs, n, _, hx, hl, hlen, hf⟩ := DataW.trod_struct hs hf
  match xs, hlen with
  | [w0, w1], _ =>
    simp only [Prod.mk.injEq] at hx
    have q0 := hf 0 f0 rfl
    rw [o0, k0] at q0
    have q1 := hf 1 f1 rfl
    rw [o1, k1] at q1
    have q1 : DataW.trod enc P W base spare held n f1.type [c1, c2, c3, c4, c5, c6] = some w1 := by simpa [Value.cells] using q1
    obtain ⟨xs1, m1, _, hx1, _, hlen1, hf1⟩ := DataW.trod_struct hs1 q1
    match xs1, hlen1 with
    | [y10, y11, y12, y13, y14, y15], _ =>
    obtain ⟨oo10, kk10⟩ := hone_of hone1 0 g10 rfl
    have qq10 := hf1 0 g10 rfl
    rw [oo10, kk10] at qq10
    obtain ⟨oo11, kk11⟩ := hone_of hone1 1 g11 rfl
    have qq11 := hf1 1 g11 rfl
    rw [oo11, kk11] at qq11
    obtain ⟨oo12, kk12⟩ := hone_of hone1 2 g12 rfl
    have qq12 := hf1 2 g12 rfl
    rw [oo12, kk12] at qq12
    obtain ⟨oo13, kk13⟩ := hone_of hone1 3 g13 rfl
    have qq13 := hf1 3 g13 rfl
    rw [oo13, kk13] at qq13
    obtain ⟨oo14, kk14⟩ := hone_of hone1 4 g14 rfl
    have qq14 := hf1 4 g14 rfl
    rw [oo14, kk14] at qq14
    obtain ⟨oo15, kk15⟩ := hone_of hone1 5 g15 rfl
    have qq15 := hf1 5 g15 rfl
    rw [oo15, kk15] at qq15
    subst hx1
    refine ⟨c0, c1, c2, c3, c4, c5, c6, w0, y10, y11, y12, y13, y14, y15, n, m1, rfl, by simpa using hx.1, by simpa using hx.2, by simpa [Value.cells] using q0, by simpa [Value.cells] using qq10, by simpa [Value.cells] using qq11, by simpa [Value.cells] using qq12, by simpa [Value.cells] using qq13, by simpa [Value.cells] using qq14, by simpa [Value.cells] using qq15⟩
end
end Go.Vd

set_option linter.unusedVariables false
namespace Go.Vd
open Go.Proofs Go.ChangeShapes Go.WideShapes Go.ChangeAt Go.RowKit Go.Joins Go.Deep Go.WideElems
section
variable {H : Type} {enc : TypeId × Value → H} {P : Program}
theorem its_list {α : Type} {cs : List α} (h : cs.length = 2) : ∃ c0 c1, cs = [c0, c1] := by
  match cs, h with
  | [c0, c1], _ => exact ⟨c0, c1, rfl⟩
theorem its_one {W : World} {ad : Addr} {n : Nat} {el : DataW H × List MemPlace} {e : TypeId} {f0 f1 : Field} (hs : P.underlying e = some (.struct #[f0, f1])) (hC : P.cellsOf e = 2)
    (o0 : f0.offset = 0) (k0 : P.cellsOf f0.type = 1) (o1 : f1.offset = 1) (k1 : P.cellsOf f1.type = 1) 
    (u0 : P.underlying f0.type = some (.int .i64)) (u1 : P.underlying f1.type = some (.string)) 
    (h : (W.cells? 0 ad 2).bind (DataW.trod enc P W 0 (fun _ => true) true n e) = some el) :
    ∃ x : It, ∀ j, j < 2 → ∃ v, W.cell? (ad.add j) = some v ∧ Vd.one v ∧ RelC W (fun _ => False) v (getAt (eI std fun _ => x) j) := by
  obtain ⟨cs, hcs, hf⟩ := Option.bind_eq_some_iff.1 h
  obtain ⟨_, hlen, hcell⟩ := World.cells?_some hcs
  obtain ⟨c0, c1, rfl⟩ := its_list hlen
  obtain ⟨xs, n', _, hx, hl, hlen2, hf⟩ := DataW.trod_struct hs hf
  match xs, hlen2 with
  | [w0, w1], _ =>
    have q0 := hf 0 f0 rfl
    rw [o0, k0] at q0
    have q0 : DataW.trod enc P W 0 (fun _ => true) true n' f0.type [c0] = some w0 := by simpa using q0
    have q1 := hf 1 f1 rfl
    rw [o1, k1] at q1
    have q1 : DataW.trod enc P W 0 (fun _ => true) true n' f1.type [c1] = some w1 := by simpa using q1
    obtain ⟨z0, e0, _, wf0⟩ := DataW.trod_int (cs := [c0]) u0 q0
    obtain ⟨s1, e1, _, _⟩ := DataW.trod_string (cs := [c1]) u1 q1
    simp only [List.cons.injEq, and_true] at e0 e1
    subst e0 e1
    refine ⟨(z0, s1.data.toList), fun j hj => ?_⟩
    have hcj := hcell j (by omega)
    match j, hj with
    | 0, _ => exact ⟨.int .i64 z0, by simpa using hcj, rfl, .int _ _⟩
    | 1, _ => exact ⟨.string s1, by simpa using hcj, rfl, .str _⟩
theorem open_its_trod {W : World} {t e : TypeId} {v : Value} {fuel : Nat} {x : DataW H × List MemPlace} (ht : P.underlying t = some (.slice e)) {f0 f1 : Field} (hs : P.underlying e = some (.struct #[f0, f1])) (hC : P.cellsOf e = 2)
    (o0 : f0.offset = 0) (k0 : P.cellsOf f0.type = 1) (o1 : f1.offset = 1) (k1 : P.cellsOf f1.type = 1) 
    (u0 : P.underlying f0.type = some (.int .i64)) (u1 : P.underlying f1.type = some (.string)) 
    (h : DataW.trod enc P W 0 (fun _ => true) true fuel t [v] = some x) :
    ∃ L : List (It), L.length ≤ maxLen ∧ Vd.one v ∧ RelC W (fun _ => False) v (rowS eI (0, []) 2 std fun _ => L) := by
  rcases DataW.trod_slice ht h with ⟨hcs, _⟩ | ⟨a, len, cap, elems, rest, n, _, hcs, _, _, hl, hm, hel, hx, _, _⟩
  · simp only [List.cons.injEq, and_true] at hcs
    subst hcs
    exact ⟨[], Nat.zero_le _, rfl, .slc none 0 0 2 _ (fun _ _ => undef) (Nat.le_refl _) (fun i j hi => absurd hi (by omega)) (fun h => absurd h (by omega)) (fun i j hi => absurd hi (by omega))⟩
  · simp only [List.cons.injEq, and_true] at hcs
    subst hcs
    rw [hC] at hx
    have each : ∀ i, i < len → ∃ x : It, ∀ j, j < 2 → ∃ v, W.cell? ((a.add (i * 2)).add j) = some v ∧ Vd.one v ∧ RelC W (fun _ => False) v (getAt (eI std fun _ => x) j) := by
      intro i hi
      have h1 := hx i hi
      rw [List.getElem?_eq_getElem (by omega)] at h1
      exact its_one hs hC o0 k0 o1 k1 u0 u1 h1
    obtain ⟨F, hF⟩ : ∃ F : Nat → It, ∀ i, i < len → ∀ j, j < 2 → ∃ v, W.cell? ((a.add (i * 2)).add j) = some v ∧ Vd.one v ∧ RelC W (fun _ => False) v (getAt (eI std fun _ => F i) j) :=
      ⟨fun i => if h : i < len then Classical.choose (each i h) else (0, []), fun i h => by simp only [dif_pos h]; exact Classical.choose_spec (each i h)⟩
    have hadd : ∀ i j, a.add (i * 2 + j) = (a.add (i * 2)).add j := fun i j => by
      unfold Addr.add
      by_cases h1 : i = 0
      · subst h1
        simp
      · by_cases h2 : j = 0
        · subst h2
          simp
        · rw [if_neg (by omega), if_neg h2, if_neg (show ¬ i * 2 = 0 by omega)]
          simp [Nat.add_assoc]
    let L : List (It) := (List.range len).map F
    have hlen : L.length = len := by simp [L]
    refine ⟨L, by rw [hlen]; omega, rfl, ?_⟩
    show RelC W (fun _ => False) _ (.slc L.length 2 (rowF eI (0, []) std fun _ => L))
    rw [hlen]
    have hget : ∀ i, i < len → L.getD i (0, []) = F i := fun i hi => by simp [L, List.getD_eq_getElem?_getD, hi]
    refine .slc (some a) len cap 2 _ (fun i j => (W.cell? (a.add (i * 2 + j))).getD undef) hl (fun i j hi hj => ?_) (fun h0 => ⟨a, rfl, ?_⟩) (fun i j hi hj => ?_)
    · obtain ⟨v, h1, h2, _⟩ := hF i hi j hj
      rw [hadd, h1]
      exact ⟨a, rfl, (hadd i j).symm ▸ h1, h2, fun h => h⟩
    · obtain ⟨v, h1, _⟩ := hF 0 h0 0 (by omega)
      simpa [Addr.add] using World.cell?_spot h1
    · obtain ⟨v, h1, _, h3⟩ := hF i hi j hj
      simp only [hadd, h1, Option.getD_some]
      show RelC W _ v (getAt (eI std fun _ => L.getD i (0, [])) j)
      rw [hget i hi]
      exact h3
theorem open_its_rel {W : World} {base : Nat} {t e : TypeId} {v : Value} {d : DataW H} {p : List MemPlace} {ρ : Nat → Value} {N : Nat → Prop} (ht : P.underlying t = some (.slice e)) {f0 f1 : Field} (hs : P.underlying e = some (.struct #[f0, f1])) (hC : P.cellsOf e = 2)
    (o0 : f0.offset = 0) (k0 : P.cellsOf f0.type = 1) (o1 : f1.offset = 1) (k1 : P.cellsOf f1.type = 1) 
    (u0 : P.underlying f0.type = some (.int .i64)) (u1 : P.underlying f1.type = some (.string)) 
    (hval : Value.okWide P W .any base t v) (h : DataW.Trod enc P W 0 (fun _ => true) true t v d p) :
    ∃ L : List (It), L.length ≤ maxLen ∧ Rel W ρ (fun _ => False) N v (rowS eI (0, []) 2 std fun _ => L) := by
  obtain ⟨a1, len, cap, rfl⟩ := okWide_slice ht hval
  obtain ⟨fuel, hf⟩ := h
  simp only [Value.cells] at hf
  obtain ⟨L, hL, _, hr⟩ := open_its_trod ht hs hC o0 k0 o1 k1 u0 u1 (by simpa using hf)
  exact ⟨L, hL, hr.rel⟩
end
end Go.Vd

