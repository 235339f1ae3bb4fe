/- QueueRight. -/
import Derived.Test.YtpkpbmpfmglbaacVdQ3
set_option linter.unusedVariables false
set_option linter.unusedSimpArgs false
set_option maxRecDepth 100000
set_option maxHeartbeats 4000000
namespace Go.Vd
open Go.Proofs
theorem looks_b {L : List (List UInt8)} (h : looks L = true) : L.length ≤ 1000000 ∧ bsList L := by
  have := looks_iff.1 h
  exact ⟨by omega, fun b hb => by have := this.2 b hb; omega⟩
theorem looks_k {L : List (List UInt8)} (h : looks L = true) : L.length ≤ 1000 ∧ bsList L := by
  have := looks_iff.1 h
  exact ⟨by omega, fun b hb => by have := this.2 b hb; omega⟩
theorem bs_append {L M : List (List UInt8)} (h1 : bsList L) (h2 : bsList M) : bsList (L ++ M) := fun b hb => (List.mem_append.1 hb).elim (h1 b) (h2 b)
theorem qPutL_b {r : Int} {L M : List (List UInt8)} (h1 : L.length ≤ 1000 ∧ bsList L) (h2 : M.length ≤ 1000 ∧ bsList M) : (qPutL r L M).length ≤ 1000000 ∧ bsList (qPutL r L M) := by
  unfold qPutL
  split
  · exact ⟨by rw [List.length_append]; omega, bs_append h1.2 h2.2⟩
  · exact ⟨by omega, h1.2⟩
theorem qTakeL_b {r : Int} {L : List (List UInt8)} (h1 : L.length ≤ 1000 ∧ bsList L) : (qTakeL r L).length ≤ 1000000 ∧ bsList (qTakeL r L) := by
  unfold qTakeL
  split
  · exact ⟨by rw [List.length_tail]; omega, fun b hb => h1.2 b (List.mem_of_mem_tail hb)⟩
  · exact ⟨by omega, h1.2⟩
theorem good_QueueRight (r z : Int) (L M : List (List UInt8)) : GoodP Try.prog gl0 3 [sQ std r fun _ => L, rowS eBs [] 1 std fun _ => M, .int .i64 z] (.bool true) := by
  refine fn_sound' (T := seatT) (G := gq7) (X := noX) seatT_ok gq7_ok noX_ok noI_ok mixed Try.func3 (.one) (fun A => [sQ A r fun _ => L, rowS eBs [] 1 A fun _ => M, .int .i64 z]) (fun A => .bool true) fun A hA => ?_
  cbv
  repeat' (first | with_reducible exact True.intro | with_reducible exact dr_ok hA (by kernel_rfl) | with_reducible refine And.intro ?_ ?_ | (intro hc; cbv))
  all_goals (subst hA; simp [-List.getD_eq_getElem?_getD, std_add, std_sub, std_mul, std_quo, std_rem, std_band, std_bor, std_bxor, std_shl, std_shr, std_eq, std_ne, std_lt, std_le, std_conv, std_not, std_beq, std_bne, std_ite, std_want, std_and2, std_sadd, std_seq, std_sne, std_slt, std_sle, std_sgt, std_sge, std_slen, std_sget, std_scut, std_ofNat, std_toNat, std_nsub, std_nadd, std_lenOf, std_nz, std_nneg, std_inb, std_upto, std_slt63, std_grow, std_imp, std_impN, std_tr, std_tb, std_ti, std_ts, std_tn, std_tp, std_nmin, std_makes, std_room, std_zeros, std_nilq, std_notq, std_eqi, std_eqn, std_eqb, std_eqs, std_eqv, std_cat, std_lst, std_rset, std_rcopy, std_shift, std_eqr, std_strOf, std_bytesOf, std_isB, strOf_lit, lstOf_lit inj_eB, lstOf_lit inj_eZ, lstOf_lit inj_eBs, lstOf_lit inj_eS, isRow_lit, isB_lit, isRow_nil, lstOf_nil inj_eB, lstOf_nil inj_eZ, lstOf_nil inj_eBs, lstOf_nil inj_eS] at *)
  all_goals (have hlk : looks L = true ∧ looks M = true := by assumption)
  all_goals (have b1 := looks_k hlk.1; have b2 := looks_k hlk.2)
  all_goals first
    | exact ⟨⟨by omega, b1.2⟩, by omega, b2.2⟩
    | exact ⟨by omega, by omega⟩
    | exact ⟨by omega, b1.2⟩
    | exact fun h => ⟨h, (qPutL_b b1 b2).1⟩
    | exact fun h => ⟨h, (qTakeL_b b1).1⟩
    | (have h0 : qOk r L.length = true := by assumption
       have := qOk_iff.1 h0
       rw [w64 (by omega)]; simp [qLeft, h0]; done)
    | (have h0 : qOk r L.length = false := by assumption
       simp [qLeft, h0]; done)
    | (simp [rRoom] at *; omega)
end Go.Vd
