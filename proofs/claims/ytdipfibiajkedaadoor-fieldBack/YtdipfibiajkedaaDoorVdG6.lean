/- The reference's Put; awake; DigitRight's answer. -/
import Derived.Test.YtdipfibiajkedaaDoorVdG5
set_option linter.unusedVariables false
set_option linter.unusedSimpArgs false
set_option maxRecDepth 100000
set_option maxHeartbeats 2000000
namespace Go.Vd
open Go.Proofs
theorem decs_push : ∀ (n v : Nat), UInt8.ofNat (48 + v / 10 ^ n % 10) :: decs n v = decs (n + 1) v
  | 0, v => by simp [decs]
  | n + 1, v => by
    have e := decs_push n (v / 10)
    show UInt8.ofNat (48 + v / 10 ^ (n + 1) % 10) :: (decs n (v / 10) ++ [UInt8.ofNat (48 + v % 10)]) = decs (n + 1) (v / 10) ++ [UInt8.ofNat (48 + v % 10)]
    rw [← e, Nat.div_div_eq_div_mul, Nat.pow_succ, Nat.mul_comm 10]
    rfl
theorem cvb (q : Nat) : IntKind.u8.wrap (IntKind.u64.wrap (48 + (q : Int).tmod 10)) = ((48 + q % 10 : Nat) : Int) := by
  rw [Int.tmod_eq_emod_of_nonneg (by omega), wU64' (by omega), wU8' (by omega)]
  omega
theorem so1q (q : Nat) : strOfS 1 (lstS [[SV.int .u8 ((48 + q % 10 : Nat) : Int)]]) = [UInt8.ofNat (48 + q % 10)] := so1 (by omega)
theorem ib1q (q : Nat) : isBS 1 (lstS [[SV.int .u8 ((48 + q % 10 : Nat) : Int)]]) := ib1 (by omega)
theorem q_lt {V i : Nat} (h : V < 18446744073709551616) : V / 10 ^ i < 18446744073709551616 := Nat.lt_of_le_of_lt (Nat.div_le_self _ _) h
theorem q_step (V i : Nat) : V / 10 ^ i / 10 = V / 10 ^ (i + 1) := by rw [Nat.div_div_eq_div_mul, Nat.pow_succ]
theorem q_end (V n : Nat) : V / 10 ^ n = 0 ↔ ¬10 ^ n ≤ V := by
  rw [Nat.div_eq_zero_iff, Nat.not_le]
  have : 0 < 10 ^ n := Nat.pow_pos (by omega)
  omega
theorem so1z (q : Nat) : strOfS 1 (lstS [[SV.int .u8 (48 + (q : Int) % 10)]]) = [UInt8.ofNat (48 + q % 10)] := by
  have h := so1q q
  rw [show ((48 + q % 10 : Nat) : Int) = 48 + (q : Int) % 10 by omega] at h
  exact h
theorem ib1z (q : Nat) : isBS 1 (lstS [[SV.int .u8 (48 + (q : Int) % 10)]]) := by
  have h := ib1q q
  rw [show ((48 + q % 10 : Nat) : Int) = 48 + (q : Int) % 10 by omega] at h
  exact h
theorem pu_end {V i q : Nat} {n : Int} {S : List UInt8} (hk : ¬(n < 1 ∨ 19 < n)) (hq : q = V / 10 ^ i) (hS : S = decs i V) (hin : (i : Int) = n) : (¬q = 0 → puS (V : Int) n = [] ∧ puE (V : Int) n = 10) ∧ (q = 0 → puS (V : Int) n = S ∧ puE (V : Int) n = 0) := by
  have hi : i = n.toNat := by omega
  have hz := q_end V n.toNat
  rw [hi] at hq hS
  have hV : ((V : Int)).toNat = V := Int.toNat_natCast V
  constructor
  · intro h
    refine pu2 hk ?_
    rw [hV]
    rw [hq] at h
    omega
  · intro h
    rw [hq] at h
    have h3 := pu3 (v := (V : Int)) hk (by rw [hV]; exact hz.1 h)
    rw [hV] at h3
    rw [hS]
    exact h3
theorem e1_q {q q' : Nat} (h : q < 18446744073709551616) (e : q' = q / 10) : IntKind.u64.wrap ((q : Int) / 10) = (q' : Int) := by
  rw [wU64' (n := (q : Int) / 10) (by omega)]; omega
theorem e2_q {i i' : Nat} {n : Int} (h : (i : Int) < n) (hn : n ≤ 19) (e : i' = i + 1) : IntKind.i64.wrap ((i : Int) + 1) = (i' : Int) := by
  rw [w64 (n := (i : Int) + 1) (by omega)]; omega
theorem good_rPut (V : Nat) (n : Int) (hv : V < 18446744073709551616) (hn : -9223372036854775808 ≤ n ∧ n < 9223372036854775808) : GoodP Tryd.prog gl0 12 [.int .u64 (V : Nat), .int .i64 n] (.tup [.str (std.ts fun _ => puS (V : Int) n), .int .i64 (std.ti fun _ => puE (V : Int) n)]) := by
  refine fn_sound' (T := seatT) (G := gg3) (X := noX) seatT_ok gg3_ok noX_ok noI_ok mixed Tryd.func12 (.one) (fun A => [.int .u64 (V : Nat), .int .i64 n]) (fun A => .tup [.str (A.ts fun _ => puS (V : Int) n), .int .i64 (A.ti fun _ => puE (V : Int) n)]) fun A hA => ?_
  cbv
  repeat' (first | with_reducible exact True.intro | with_reducible exact dr_ok hA (by kernel_rfl) | with_reducible refine And.intro ?_ ?_ | (intro hc; cbv))
  rotate_right
  · have hk : ¬(n < 1 ∨ 19 < n) := by
      subst hA
      simp [std_add, std_sub, std_mul, std_quo, std_rem, std_band, std_bor, std_bxor, std_shl, std_shr, std_eq, std_ne, std_lt, std_le, std_conv, std_not, std_beq, std_bne, std_ite, std_want, std_and2, std_sadd, std_seq, std_sne, std_slt, std_sle, std_sgt, std_sge, std_slen, std_sget, std_scut, std_ofNat, std_toNat, std_nsub, std_nadd, std_lenOf, std_nz, std_nneg, std_inb, std_upto, std_slt63, std_grow, std_imp, std_impN, std_tr, std_tb, std_ti, std_ts, std_tn, std_tp, std_nmin, std_makes, std_room, std_zeros, std_nilq, std_notq, std_eqi, std_eqn, std_eqb, std_eqs, std_eqv, std_cat, std_lst, std_rset, std_rcopy, std_shift, std_eqr, std_strOf, std_bytesOf, std_isB, std_zOf, zOf_int, std_isI, isI_int, std_getL, std_nmul, std_sOf, sOf_str, std_isS, isS_str] at hc
      omega
    clear hc
    refine ⟨⟨{p : Nat × Nat × List UInt8 // (p.1 : Int) ≤ n ∧ p.2.1 = V / 10 ^ p.1 ∧ p.2.2 = decs p.1 V}, fun b p => [(0, .int .u64 (p.1.2.1 : Nat)), (6, .str p.1.2.2), (7, .int .i64 (p.1.1 : Nat))], fun b p => [], fun p => n.toNat - p.1.1, true⟩, ⟨⟨(0, V, []), by omega, by simp, rfl⟩, ?_⟩, ?_⟩
    · cbv
      subst hA
      simp [-List.getD_eq_getElem?_getD, std_add, std_sub, std_mul, std_quo, std_rem, std_band, std_bor, std_bxor, std_shl, std_shr, std_eq, std_ne, std_lt, std_le, std_conv, std_not, std_beq, std_bne, std_ite, std_want, std_and2, std_sadd, std_seq, std_sne, std_slt, std_sle, std_sgt, std_sge, std_slen, std_sget, std_scut, std_ofNat, std_toNat, std_nsub, std_nadd, std_lenOf, std_nz, std_nneg, std_inb, std_upto, std_slt63, std_grow, std_imp, std_impN, std_tr, std_tb, std_ti, std_ts, std_tn, std_tp, std_nmin, std_makes, std_room, std_zeros, std_nilq, std_notq, std_eqi, std_eqn, std_eqb, std_eqs, std_eqv, std_cat, std_lst, std_rset, std_rcopy, std_shift, std_eqr, std_strOf, std_bytesOf, std_isB, std_zOf, zOf_int, std_isI, isI_int, std_getL, std_nmul, std_sOf, sOf_str, std_isS, isS_str]
    · rintro ⟨⟨i, q, S⟩, hi, hq, hS⟩
      simp only at hi hq hS
      have hq8 : q < 18446744073709551616 := by rw [hq]; exact q_lt hv
      have hSl : S.length = i := by rw [hS, decs_len]
      cbv
      repeat' (first | with_reducible exact True.intro | with_reducible exact dr_ok hA (by kernel_rfl) | with_reducible refine And.intro ?_ ?_ | (intro hc; cbv))
      all_goals first
        | (fail_if_success (refine Exists.intro ?_ ?_)
           subst hA
           simp [std_add, std_sub, std_mul, std_quo, std_rem, std_band, std_bor, std_bxor, std_shl, std_shr, std_eq, std_ne, std_lt, std_le, std_conv, std_not, std_beq, std_bne, std_ite, std_want, std_and2, std_sadd, std_seq, std_sne, std_slt, std_sle, std_sgt, std_sge, std_slen, std_sget, std_scut, std_ofNat, std_toNat, std_nsub, std_nadd, std_lenOf, std_nz, std_nneg, std_inb, std_upto, std_slt63, std_grow, std_imp, std_impN, std_tr, std_tb, std_ti, std_ts, std_tn, std_tp, std_nmin, std_makes, std_room, std_zeros, std_nilq, std_notq, std_eqi, std_eqn, std_eqb, std_eqs, std_eqv, std_cat, std_lst, std_rset, std_rcopy, std_shift, std_eqr, std_strOf, std_bytesOf, std_isB, std_zOf, zOf_int, std_isI, isI_int, std_getL, std_nmul, std_sOf, sOf_str, std_isS, isS_str, cvb, so1z q, ib1z q, hSl] at hc ⊢ <;> first
             | omega
             | skip)
        | skip
      all_goals (try (rename_i c2; have c3 : n ≤ (i : Int) := (by simp [std_add, std_sub, std_mul, std_quo, std_rem, std_band, std_bor, std_bxor, std_shl, std_shr, std_eq, std_ne, std_lt, std_le, std_conv, std_not, std_beq, std_bne, std_ite, std_want, std_and2, std_sadd, std_seq, std_sne, std_slt, std_sle, std_sgt, std_sge, std_slen, std_sget, std_scut, std_ofNat, std_toNat, std_nsub, std_nadd, std_lenOf, std_nz, std_nneg, std_inb, std_upto, std_slt63, std_grow, std_imp, std_impN, std_tr, std_tb, std_ti, std_ts, std_tn, std_tp, std_nmin, std_makes, std_room, std_zeros, std_nilq, std_notq, std_eqi, std_eqn, std_eqb, std_eqs, std_eqv, std_cat, std_lst, std_rset, std_rcopy, std_shift, std_eqr, std_strOf, std_bytesOf, std_isB, std_zOf, zOf_int, std_isI, isI_int, std_getL, std_nmul, std_sOf, sOf_str, std_isS, isS_str] at c2; exact c2); have hE := pu_end hk hq hS (Int.le_antisymm hi c3); first | exact (hE.1 hc).1 | exact (hE.1 hc).2.symm | exact (hE.2 hc).1.symm | exact (hE.2 hc).2.symm))
      have hlt : (i : Int) < n := by
        subst hA
        simp [std_add, std_sub, std_mul, std_quo, std_rem, std_band, std_bor, std_bxor, std_shl, std_shr, std_eq, std_ne, std_lt, std_le, std_conv, std_not, std_beq, std_bne, std_ite, std_want, std_and2, std_sadd, std_seq, std_sne, std_slt, std_sle, std_sgt, std_sge, std_slen, std_sget, std_scut, std_ofNat, std_toNat, std_nsub, std_nadd, std_lenOf, std_nz, std_nneg, std_inb, std_upto, std_slt63, std_grow, std_imp, std_impN, std_tr, std_tb, std_ti, std_ts, std_tn, std_tp, std_nmin, std_makes, std_room, std_zeros, std_nilq, std_notq, std_eqi, std_eqn, std_eqb, std_eqs, std_eqv, std_cat, std_lst, std_rset, std_rcopy, std_shift, std_eqr, std_strOf, std_bytesOf, std_isB, std_zOf, zOf_int, std_isI, isI_int, std_getL, std_nmul, std_sOf, sOf_str, std_isS, isS_str] at hc
        exact hc
      obtain ⟨i', hi'⟩ : ∃ i', i' = i + 1 := ⟨_, rfl⟩
      obtain ⟨q', hq'⟩ : ∃ q', q' = q / 10 := ⟨_, rfl⟩
      have e1 : IntKind.u64.wrap ((q : Int) / 10) = (q' : Int) := e1_q hq8 hq'
      have e2 : IntKind.i64.wrap ((i : Int) + 1) = (i' : Int) := e2_q (n := n) hlt (by omega) hi'
      obtain ⟨S', hS'⟩ : ∃ S', S' = UInt8.ofNat (48 + q % 10) :: S := ⟨_, rfl⟩
      refine ⟨⟨(i', q', S'), by (show (i' : Int) ≤ n); omega, by (show q' = V / 10 ^ i'); rw [hq', hq, hi', q_step], by (show S' = decs i' V); rw [hS', hi', hS, hq, decs_push]⟩, ?_, show n.toNat - i' < n.toNat - i by omega⟩
      cbv
      subst hA
      simp [-UInt8.ofNat_add, std_add, std_sub, std_mul, std_quo, std_rem, std_band, std_bor, std_bxor, std_shl, std_shr, std_eq, std_ne, std_lt, std_le, std_conv, std_not, std_beq, std_bne, std_ite, std_want, std_and2, std_sadd, std_seq, std_sne, std_slt, std_sle, std_sgt, std_sge, std_slen, std_sget, std_scut, std_ofNat, std_toNat, std_nsub, std_nadd, std_lenOf, std_nz, std_nneg, std_inb, std_upto, std_slt63, std_grow, std_imp, std_impN, std_tr, std_tb, std_ti, std_ts, std_tn, std_tp, std_nmin, std_makes, std_room, std_zeros, std_nilq, std_notq, std_eqi, std_eqn, std_eqb, std_eqs, std_eqv, std_cat, std_lst, std_rset, std_rcopy, std_shift, std_eqr, std_strOf, std_bytesOf, std_isB, std_zOf, zOf_int, std_isI, isI_int, std_getL, std_nmul, std_sOf, sOf_str, std_isS, isS_str, cvb, so1z q]
      first
        | exact ⟨e1, hS'.symm, e2⟩
        | (rw [hS']; exact ⟨e1, rfl, e2⟩)
  all_goals (subst hA; simp [std_add, std_sub, std_mul, std_quo, std_rem, std_band, std_bor, std_bxor, std_shl, std_shr, std_eq, std_ne, std_lt, std_le, std_conv, std_not, std_beq, std_bne, std_ite, std_want, std_and2, std_sadd, std_seq, std_sne, std_slt, std_sle, std_sgt, std_sge, std_slen, std_sget, std_scut, std_ofNat, std_toNat, std_nsub, std_nadd, std_lenOf, std_nz, std_nneg, std_inb, std_upto, std_slt63, std_grow, std_imp, std_impN, std_tr, std_tb, std_ti, std_ts, std_tn, std_tp, std_nmin, std_makes, std_room, std_zeros, std_nilq, std_notq, std_eqi, std_eqn, std_eqb, std_eqs, std_eqv, std_cat, std_lst, std_rset, std_rcopy, std_shift, std_eqr, std_strOf, std_bytesOf, std_isB, std_zOf, zOf_int, std_isI, isI_int, std_getL, std_nmul, std_sOf, sOf_str, std_isS, isS_str] at *)
  all_goals first
    | exact (pu1 hc).1
    | exact (pu1 hc).2.symm
    | trace_state
end Go.Vd
