/- The core's laws: CoreRight. -/
import Derived.Test.YtcjogfdlpoablaaDoorVdC9
set_option linter.unusedVariables false
set_option linter.unusedSimpArgs false
set_option maxRecDepth 100000
set_option maxHeartbeats 8000000
namespace Go.Vd
open Go.Proofs
theorem stp_lens (e : Ent) (v : Int) (d : Dl) (n : Int) : (stp e v d n).a.length ≤ 1000000 ∧ (stp e v d n).i.length ≤ 1000000 := by
  by_cases h : stpE e v d n = 0
  · have hg := core_steps h
    have g2 := hg.2.1
    have g3 := hg.2.2.1
    omega
  · rw [stp_S0 h]; exact ⟨by decide, by decide⟩
theorem fin_eq (z : Int) : (decide (z = 2) || (decide (z = 3) || (decide (z = 5) || decide (z = 6)))) = (z == 2 || z == 3 || z == 5 || z == 6) := by
  rw [Bool.eq_iff_iff]
  simp
  omega
theorem good_CoreRight (s st am tr ca v k dam ds n z : Int) (r pan code dpan dr dcode : List UInt8) : GoodP Tryd.prog gl0 11 [.agg [.int .u32 s, .str r, .int .i64 st, .str pan, .int .u64 am, .str code, .int .i64 tr, .int .i64 ca], .agg [.int .i64 v, .int .i64 k, .str dpan, .int .u64 dam, .int .u32 ds, .str dr, .str dcode], .int .i64 n, .int .i64 z] (.bool true) := by
  refine fn_sound' (T := seatT) (G := gd7) (X := noX) seatT_ok gd7_ok noX_ok noI_ok mixed Tryd.func11 (.one) (fun A => [.agg [.int .u32 s, .str r, .int .i64 st, .str pan, .int .u64 am, .str code, .int .i64 tr, .int .i64 ca], .agg [.int .i64 v, .int .i64 k, .str dpan, .int .u64 dam, .int .u32 ds, .str dr, .str dcode], .int .i64 n, .int .i64 z]) (fun A => .bool true) fun A hA => ?_
  cbv
  repeat' (first | with_reducible exact True.intro | with_reducible exact dr_ok hA (by kernel_rfl) | with_reducible refine And.intro ?_ ?_ | (intro hc; cbv))
  all_goals (subst hA; try simp [-List.getD_eq_getElem?_getD, std_add, std_sub, std_mul, std_quo, std_rem, std_band, std_bor, std_bxor, std_shl, std_shr, std_eq, std_ne, std_lt, std_le, std_conv, std_not, std_beq, std_bne, std_ite, std_want, std_and2, std_sadd, std_seq, std_sne, std_slt, std_sle, std_sgt, std_sge, std_slen, std_sget, std_scut, std_ofNat, std_toNat, std_nsub, std_nadd, std_lenOf, std_nz, std_nneg, std_inb, std_upto, std_slt63, std_grow, std_imp, std_impN, std_tr, std_tb, std_ti, std_ts, std_tn, std_tp, std_nmin, std_makes, std_room, std_zeros, std_nilq, std_notq, std_eqi, std_eqn, std_eqb, std_eqs, std_eqv, std_cat, std_lst, std_rset, std_rcopy, std_shift, std_eqr, std_strOf, std_bytesOf, std_isB, std_zOf, zOf_int, std_isI, isI_int, std_getL, std_nmul, std_sOf, sOf_str, std_isS, isS_str, lstOf_lit inj_eD, isRow_lit] at *)
  all_goals first
    | omega
    | exact ⟨⟨by omega, by omega⟩, by omega, by omega, by omega⟩
    | exact ⟨⟨by omega, by omega, by omega⟩, by omega, by omega, by omega⟩
    | exact ⟨by omega, by omega, by omega⟩
    | (have hl := stp_lens ⟨s, r, st, pan, am, code, tr, ca⟩ v ⟨k, dpan, dam, ds, dr, dcode⟩ n
       have hz := fin_eq z
       generalize stp ⟨s, r, st, pan, am, code, tr, ca⟩ v ⟨k, dpan, dam, ds, dr, dcode⟩ n = S at *
       clear hc
       cases hk : stpOk ⟨s, r, st, pan, am, code, tr, ca⟩ v ⟨k, dpan, dam, ds, dr, dcode⟩ n <;> simp [stpE, hk, hz, hl] <;> done)
    | trace_state
end Go.Vd
