/- WireRight. -/
import Derived.Test.YtpkpbmpfmglbaacVdR4
set_option linter.unusedVariables false
set_option linter.unusedSimpArgs false
set_option maxRecDepth 100000
set_option maxHeartbeats 4000000
namespace Go.Vd
open Go.Proofs
noncomputable def c_wAwake : Ct := fun A args => match args with
  | [] => some (none, .bool true)
  | _ => none
noncomputable def gw5 : Ar → Pu := addC 19 c_wAwake (gw4)
theorem gw5_ok : PuOk Try.prog gl0 (gw5 std) := by
  refine addC_ok (gw4_ok) ⟨_, Try.func19, rfl, by decide⟩ ?_
  · intro args p r h hp
    unfold c_wAwake at h
    split at h <;> cases h
    exact good_wAwake
theorem wlooks {L : List (List UInt8)} (h : looks L = true) : L.length ≤ 300 ∧ bsList L := by
  have := looks_iff.1 h
  exact ⟨by omega, fun b hb => by have := this.2 b hb; omega⟩
theorem wPutL_b {L : List (List UInt8)} {b : List UInt8} (h1 : L.length ≤ 300 ∧ bsList L) (h2 : b.length ≤ 1000000) : (wPutL L b).length ≤ 1000000 ∧ bsList (wPutL L b) := by
  unfold wPutL
  split
  · exact ⟨by rw [List.length_append]; simp; omega, fun x hx => (List.mem_append.1 hx).elim (h1.2 x) (fun hx => by rw [List.mem_singleton.1 hx]; exact h2)⟩
  · exact ⟨by omega, h1.2⟩
theorem wPassL_b {L : List (List UInt8)} {z : Int} (h1 : L.length ≤ 300 ∧ bsList L) : (wPassL L z).length ≤ 1000000 ∧ bsList (wPassL L z) := by
  unfold wPassL
  split
  · exact ⟨Nat.le_trans (List.length_eraseIdx_le _ _) (by omega), fun x hx => h1.2 x (List.mem_of_mem_eraseIdx hx)⟩
  · exact ⟨by omega, h1.2⟩
theorem wTwL_b {L : List (List UInt8)} {z : Int} (h1 : L.length ≤ 300 ∧ bsList L) : (wTwL L z).length ≤ 1000000 ∧ bsList (wTwL L z) := by
  unfold wTwL
  split
  · exact wPutL_b h1 (getD_len h1.2 _)
  · exact ⟨by omega, h1.2⟩
theorem good_WireRight (z : Int) (L : List (List UInt8)) (b : List UInt8) : GoodP Try.prog gl0 5 [sW std fun _ => L, rowS eB 0 1 std fun _ => b, .int .i64 z] (.bool true) := by
  refine fn_sound' (T := seatT) (G := gw5) (X := noX) seatT_ok gw5_ok noX_ok noI_ok mixed Try.func5 (.one) (fun A => [sW A fun _ => L, rowS eB 0 1 A fun _ => b, .int .i64 z]) (fun A => .bool true) fun A hA => ?_
  cbv
  repeat' (first | with_reducible exact True.intro | with_reducible exact dr_ok hA (by kernel_rfl) | with_reducible refine And.intro ?_ ?_ | (intro hc; cbv))
  all_goals (subst hA; simp [-List.getD_eq_getElem?_getD, std_add, std_sub, std_mul, std_quo, std_rem, std_band, std_bor, std_bxor, std_shl, std_shr, std_eq, std_ne, std_lt, std_le, std_conv, std_not, std_beq, std_bne, std_ite, std_want, std_and2, std_sadd, std_seq, std_sne, std_slt, std_sle, std_sgt, std_sge, std_slen, std_sget, std_scut, std_ofNat, std_toNat, std_nsub, std_nadd, std_lenOf, std_nz, std_nneg, std_inb, std_upto, std_slt63, std_grow, std_imp, std_impN, std_tr, std_tb, std_ti, std_ts, std_tn, std_tp, std_nmin, std_makes, std_room, std_zeros, std_nilq, std_notq, std_eqi, std_eqn, std_eqb, std_eqs, std_eqv, std_cat, std_lst, std_rset, std_rcopy, std_shift, std_eqr, std_strOf, std_bytesOf, std_isB, strOf_lit, lstOf_lit inj_eB, lstOf_lit inj_eZ, lstOf_lit inj_eBs, lstOf_lit inj_eS, isRow_lit, isB_lit, isRow_nil, lstOf_nil inj_eB, lstOf_nil inj_eZ, lstOf_nil inj_eBs, lstOf_nil inj_eS] at *)
  all_goals (have hlk : looks L = true ∧ (b.length : Int) ≤ 3000 := by assumption)
  all_goals (have b1 := wlooks hlk.1)
  all_goals (have b2 : b.length ≤ 1000000 := by omega)
  all_goals first
    | omega
    | exact ⟨by omega, b1.2, b2⟩
    | exact ⟨by omega, b1.2⟩
    | exact fun h => ⟨h, (wPutL_b b1 b2).1⟩
    | exact fun h => ⟨h, (wPassL_b b1).1⟩
    | exact fun h => ⟨h, (wTwL_b b1).1⟩
end Go.Vd
