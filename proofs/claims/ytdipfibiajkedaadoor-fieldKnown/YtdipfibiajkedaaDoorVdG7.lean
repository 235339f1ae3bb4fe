/- awake; DigitRight's answer. -/
import Derived.Test.YtdipfibiajkedaaDoorVdG6
set_option linter.unusedVariables false
set_option linter.unusedSimpArgs false
set_option maxRecDepth 100000
set_option maxHeartbeats 2000000
namespace Go.Vd
open Go.Proofs
theorem good_rPut' (v n : Int) (hv : 0 ≤ v ∧ v < 18446744073709551616) (hn : -9223372036854775808 ≤ n ∧ n < 9223372036854775808) : GoodP Tryd.prog gl0 12 [.int .u64 v, .int .i64 n] (.tup [.str (std.ts fun _ => puS v n), .int .i64 (std.ti fun _ => puE v n)]) := by
  obtain ⟨V, rfl⟩ : ∃ V : Nat, v = V := ⟨v.toNat, by omega⟩
  exact good_rPut V n (by omega) hn
noncomputable def c_gPut : Ct := fun A args => match args with
  | [.int .u64 v, .int .i64 n] => some (some (A.tp fun _ => (0 ≤ v ∧ v < 18446744073709551616) ∧ (-9223372036854775808 ≤ n ∧ n < 9223372036854775808)), .tup [.str (A.ts fun _ => puS v n), .int .i64 (A.ti fun _ => puE v n)])
  | _ => none
noncomputable def c_rPut : Ct := fun A args => match args with
  | [.int .u64 v, .int .i64 n] => some (some (A.tp fun _ => (0 ≤ v ∧ v < 18446744073709551616) ∧ (-9223372036854775808 ≤ n ∧ n < 9223372036854775808)), .tup [.str (A.ts fun _ => puS v n), .int .i64 (A.ti fun _ => puE v n)])
  | _ => none
noncomputable def c_gGet : Ct := fun A args => match args with
  | [.str L] => some (none, .tup [.int .u64 (A.ti fun _ => (gVal L : Int)), .int .i64 (A.ti fun _ => gErr L)])
  | _ => none
noncomputable def c_rGet : Ct := fun A args => match args with
  | [.str L] => some (none, .tup [.int .u64 (A.ti fun _ => (gVal L : Int)), .int .i64 (A.ti fun _ => gErr L)])
  | _ => none
noncomputable def c_gCheck : Ct := fun A args => match args with
  | [.str L] => some (some (A.tp fun _ => L.length ≤ 50000), .tup [.str (A.ts fun _ => chS L), .int .i64 (A.ti fun _ => chE L)])
  | _ => none
noncomputable def c_rCheck : Ct := fun A args => match args with
  | [.str L] => some (some (A.tp fun _ => L.length ≤ 50000), .tup [.str (A.ts fun _ => chS L), .int .i64 (A.ti fun _ => chE L)])
  | _ => none
noncomputable def gg4 : Ar → Pu := addC 11 c_gPut (addC 12 c_rPut (addC 13 c_gGet (addC 14 c_rGet (addC 15 c_gCheck (addC 16 c_rCheck (gg3))))))
theorem gg4_ok : PuOk Tryd.prog gl0 (gg4 std) := by
  refine addC_ok (addC_ok (addC_ok (addC_ok (addC_ok (addC_ok (gg3_ok) ⟨_, Tryd.func16, rfl, by decide⟩ ?_) ⟨_, Tryd.func15, rfl, by decide⟩ ?_) ⟨_, Tryd.func14, rfl, by decide⟩ ?_) ⟨_, Tryd.func13, rfl, by decide⟩ ?_) ⟨_, Tryd.func12, rfl, by decide⟩ ?_) ⟨_, Tryd.func11, rfl, by decide⟩ ?_
  · intro args p r h hp
    unfold c_rCheck at h
    split at h <;> cases h
    exact good_rCheck _ hp
  · intro args p r h hp
    unfold c_gCheck at h
    split at h <;> cases h
    exact good_gCheck _ hp
  · intro args p r h hp
    unfold c_rGet at h
    split at h <;> cases h
    exact good_rGet _
  · intro args p r h hp
    unfold c_gGet at h
    split at h <;> cases h
    exact good_gGet _
  · intro args p r h hp
    unfold c_rPut at h
    split at h <;> cases h
    exact good_rPut' _ _ hp.1 hp.2
  · intro args p r h hp
    unfold c_gPut at h
    split at h <;> cases h
    exact good_gPut _ _ hp.1 hp.2
theorem aw1 : puS 42 5 = [48, 48, 48, 52, 50] ∧ puE 42 5 = 0 ∧ puE 100 2 = 10 := by decide +kernel
theorem aw2 : (gVal [48, 48, 48, 52, 50] : Int) = 42 ∧ gErr [48, 48, 48, 52, 50] = 0 := by decide +kernel
theorem aw3 : chS [55, 57, 57, 50, 55, 51, 57, 56, 55, 49] = [51] ∧ chE [55, 57, 57, 50, 55, 51, 57, 56, 55, 49] = 0 := by decide +kernel
theorem aw4 : lFine [55, 57, 57, 50, 55, 51, 57, 56, 55, 49, 51] = true ∧ lFine [55, 57, 57, 50, 55, 51, 57, 56, 55, 49, 50] = false ∧ isD [48] = true := by decide +kernel
theorem good_awake  : GoodP Tryd.prog gl0 10 [] (.bool true) := by
  refine fn_sound' (T := seatT) (G := gg4) (X := noX) seatT_ok gg4_ok noX_ok noI_ok mixed Tryd.func10 (.one) (fun A => []) (fun A => .bool true) fun A hA => ?_
  cbv
  repeat' (first | with_reducible exact True.intro | with_reducible exact dr_ok hA (by kernel_rfl) | with_reducible refine And.intro ?_ ?_ | (intro hc; cbv))
  all_goals (subst hA; simp [std_add, std_sub, std_mul, std_quo, std_rem, std_band, std_bor, std_bxor, std_shl, std_shr, std_eq, std_ne, std_lt, std_le, std_conv, std_not, std_beq, std_bne, std_ite, std_want, std_and2, std_sadd, std_seq, std_sne, std_slt, std_sle, std_sgt, std_sge, std_slen, std_sget, std_scut, std_ofNat, std_toNat, std_nsub, std_nadd, std_lenOf, std_nz, std_nneg, std_inb, std_upto, std_slt63, std_grow, std_imp, std_impN, std_tr, std_tb, std_ti, std_ts, std_tn, std_tp, std_nmin, std_makes, std_room, std_zeros, std_nilq, std_notq, std_eqi, std_eqn, std_eqb, std_eqs, std_eqv, std_cat, std_lst, std_rset, std_rcopy, std_shift, std_eqr, std_strOf, std_bytesOf, std_isB, std_zOf, zOf_int, std_isI, isI_int, std_getL, std_nmul, std_sOf, sOf_str, std_isS, isS_str, aw1, aw2, aw3, aw4] at *)
  all_goals trace_state
noncomputable def c_awake : Ct := fun A args => match args with
  | [] => some (none, .bool true)
  | _ => none
noncomputable def gg5 : Ar → Pu := addC 10 c_awake (gg4)
theorem gg5_ok : PuOk Tryd.prog gl0 (gg5 std) := by
  refine addC_ok (gg4_ok) ⟨_, Tryd.func10, rfl, by decide⟩ ?_
  · intro args p r h hp
    unfold c_awake at h
    split at h <;> cases h
    exact good_awake
theorem good_DigitRight (L : List UInt8) (v n : Int) (hv : 0 ≤ v ∧ v < 18446744073709551616) (hn : -9223372036854775808 ≤ n ∧ n < 9223372036854775808) : GoodP Tryd.prog gl0 3 [.str L, .int .u64 v, .int .i64 n] (.bool true) := by
  refine fn_sound' (T := seatT) (G := gg5) (X := noX) seatT_ok gg5_ok noX_ok noI_ok mixed Tryd.func3 (.one) (fun A => [.str L, .int .u64 v, .int .i64 n]) (fun A => .bool true) fun A hA => ?_
  cbv
  repeat' (first | with_reducible exact True.intro | with_reducible exact dr_ok hA (by kernel_rfl) | with_reducible refine And.intro ?_ ?_ | (intro hc; cbv))
  all_goals (subst hA; simp [std_add, std_sub, std_mul, std_quo, std_rem, std_band, std_bor, std_bxor, std_shl, std_shr, std_eq, std_ne, std_lt, std_le, std_conv, std_not, std_beq, std_bne, std_ite, std_want, std_and2, std_sadd, std_seq, std_sne, std_slt, std_sle, std_sgt, std_sge, std_slen, std_sget, std_scut, std_ofNat, std_toNat, std_nsub, std_nadd, std_lenOf, std_nz, std_nneg, std_inb, std_upto, std_slt63, std_grow, std_imp, std_impN, std_tr, std_tb, std_ti, std_ts, std_tn, std_tp, std_nmin, std_makes, std_room, std_zeros, std_nilq, std_notq, std_eqi, std_eqn, std_eqb, std_eqs, std_eqv, std_cat, std_lst, std_rset, std_rcopy, std_shift, std_eqr, std_strOf, std_bytesOf, std_isB, std_zOf, zOf_int, std_isI, isI_int, std_getL, std_nmul, std_sOf, sOf_str, std_isS, isS_str] at *)
  all_goals first
    | omega
    | (constructor <;> omega)
    | trace_state
end Go.Vd
