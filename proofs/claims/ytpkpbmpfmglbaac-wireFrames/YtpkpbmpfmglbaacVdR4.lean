/- The wire's laws: awake. -/
import Derived.Test.YtpkpbmpfmglbaacVdR3
set_option linter.unusedVariables false
set_option linter.unusedSimpArgs false
set_option maxRecDepth 100000
set_option maxHeartbeats 4000000
namespace Go.Vd
open Go.Proofs
noncomputable def c_wPass : Ct := fun A args => match args with
  | [.agg [.slc n 1 f], .int .i64 z] => some (some (A.tp fun _ => isRow eBs [] 1 n f ∧ n ≤ 1000000 ∧ bsList (lstOf eBs [] 1 n f)), .tup [sW A fun _ => wPassL (lstOf eBs [] 1 n f) z, rowS eB 0 1 A fun _ => wPassB (lstOf eBs [] 1 n f) z, .int .i64 (A.ti fun _ => wErr (lstOf eBs [] 1 n f).length z)])
  | _ => none
noncomputable def c_rwPass : Ct := fun A args => match args with
  | [.agg [.slc n 1 f], .int .i64 z] => some (some (A.tp fun _ => isRow eBs [] 1 n f ∧ n ≤ 1000000), .tup [sW A fun _ => wPassL (lstOf eBs [] 1 n f) z, rowS eB 0 1 A fun _ => wPassB (lstOf eBs [] 1 n f) z, .int .i64 (A.ti fun _ => wErr (lstOf eBs [] 1 n f).length z)])
  | _ => none
noncomputable def c_wTwice : Ct := fun A args => match args with
  | [.agg [.slc n 1 f], .int .i64 z] => some (some (A.tp fun _ => isRow eBs [] 1 n f ∧ n ≤ 1000000 ∧ bsList (lstOf eBs [] 1 n f)), .tup [sW A fun _ => wTwL (lstOf eBs [] 1 n f) z, .int .i64 (A.ti fun _ => wTwE (lstOf eBs [] 1 n f).length z)])
  | _ => none
noncomputable def c_rwTwice : Ct := fun A args => match args with
  | [.agg [.slc n 1 f], .int .i64 z] => some (some (A.tp fun _ => isRow eBs [] 1 n f ∧ n ≤ 1000000), .tup [sW A fun _ => wTwL (lstOf eBs [] 1 n f) z, .int .i64 (A.ti fun _ => wTwE (lstOf eBs [] 1 n f).length z)])
  | _ => none
noncomputable def c_wSame : Ct := fun A args => match args with
  | [.agg [.slc n 1 f], .agg [.slc m 1 g]] => some (some (A.tp fun _ => isRow eBs [] 1 n f ∧ isRow eBs [] 1 m g ∧ n ≤ 1000000), .bool (A.tb fun _ => decide (lstOf eBs [] 1 n f = lstOf eBs [] 1 m g)))
  | _ => none
noncomputable def gw4 : Ar → Pu := addC 22 c_wPass (addC 23 c_rwPass (addC 24 c_wTwice (addC 25 c_rwTwice (addC 27 c_wSame (gw3)))))
theorem gw4_ok : PuOk Try.prog gl0 (gw4 std) := by
  refine addC_ok (addC_ok (addC_ok (addC_ok (addC_ok (gw3_ok) ⟨_, Try.func27, rfl, by decide⟩ ?_) ⟨_, Try.func25, rfl, by decide⟩ ?_) ⟨_, Try.func24, rfl, by decide⟩ ?_) ⟨_, Try.func23, rfl, by decide⟩ ?_) ⟨_, Try.func22, rfl, by decide⟩ ?_
  · intro args p r h hp
    unfold c_wSame at h
    split at h <;> cases h
    exact good_sv (good_wSame _ _ (by rw [lstOf_length hp.1]; exact hp.2.2)) ⟨⟨_, rfl, hp.1.sv, trivial⟩, ⟨_, rfl, hp.2.1.sv, trivial⟩, trivial⟩
  · intro args p r h hp
    unfold c_rwTwice at h
    split at h <;> cases h
    exact good_sv (good_rwTwice _ _ (by rw [lstOf_length hp.1]; exact hp.2)) ⟨⟨_, rfl, hp.1.sv, trivial⟩, rfl, trivial⟩
  · intro args p r h hp
    unfold c_wTwice at h
    split at h <;> cases h
    exact good_sv (good_wTwice _ _ (by rw [lstOf_length hp.1]; exact hp.2.1) hp.2.2) ⟨⟨_, rfl, hp.1.sv, trivial⟩, rfl, trivial⟩
  · intro args p r h hp
    unfold c_rwPass at h
    split at h <;> cases h
    exact good_sv (good_rwPass _ _ (by rw [lstOf_length hp.1]; exact hp.2)) ⟨⟨_, rfl, hp.1.sv, trivial⟩, rfl, trivial⟩
  · intro args p r h hp
    unfold c_wPass at h
    split at h <;> cases h
    exact good_sv (good_wPass _ _ (by rw [lstOf_length hp.1]; exact hp.2.1) hp.2.2) ⟨⟨_, rfl, hp.1.sv, trivial⟩, rfl, trivial⟩
theorem la : lstOf eB 0 1 1 (lstS [[SV.int IntKind.u8 97]]) = [97] := lstOf_eq inj_eB (Reps.one (cell_eB rfl))
theorem lb : lstOf eB 0 1 1 (lstS [[SV.int IntKind.u8 98]]) = [98] := lstOf_eq inj_eB (Reps.one (cell_eB rfl))
theorem ra : isRow eB 0 1 1 (lstS [[SV.int IntKind.u8 97]]) := ⟨[97], Reps.one (cell_eB rfl)⟩
theorem rb : isRow eB 0 1 1 (lstS [[SV.int IntKind.u8 98]]) := ⟨[98], Reps.one (cell_eB rfl)⟩
theorem wp1 : wPutL [] [97] = [[97]] := rfl
theorem wp2 : wPutL [[97]] [98] = [[97], [98]] := rfl
theorem wp3 : wPassL [[97], [98]] 3 = [[97]] := by decide
theorem wp4 : wPassB [[97], [98]] 3 = [98] := by decide
theorem wp5 : wTwL [[97], [98]] 0 = [[97], [98], [97]] := by decide
theorem good_wAwake  : GoodP Try.prog gl0 19 [] (.bool true) := by
  refine fn_sound' (T := seatT) (G := gw4) (X := noX) seatT_ok gw4_ok noX_ok noI_ok mixed Try.func19 (.one) (fun A => []) (fun A => .bool true) fun A hA => ?_
  cbv
  repeat' (first | with_reducible exact True.intro | with_reducible exact dr_ok hA (by kernel_rfl) | with_reducible refine And.intro ?_ ?_ | (intro hc; cbv))
  all_goals (subst hA; simp only [std_add, std_sub, std_mul, std_quo, std_rem, std_band, std_bor, std_bxor, std_shl, std_shr, std_eq, std_ne, std_lt, std_le, std_conv, std_not, std_beq, std_bne, std_ite, std_want, std_and2, std_sadd, std_seq, std_sne, std_slt, std_sle, std_sgt, std_sge, std_slen, std_sget, std_scut, std_ofNat, std_toNat, std_nsub, std_nadd, std_lenOf, std_nz, std_nneg, std_inb, std_upto, std_slt63, std_grow, std_imp, std_impN, std_tr, std_tb, std_ti, std_ts, std_tn, std_tp, std_nmin, std_makes, std_room, std_zeros, std_nilq, std_notq, std_eqi, std_eqn, std_eqb, std_eqs, std_eqv, std_cat, std_lst, std_rset, std_rcopy, std_shift, std_eqr, std_strOf, std_bytesOf, std_isB, strOf_lit, lstOf_lit inj_eB, lstOf_lit inj_eZ, lstOf_lit inj_eBs, lstOf_lit inj_eS, isRow_lit, isB_lit, isRow_nil, lstOf_nil inj_eB, lstOf_nil inj_eZ, lstOf_nil inj_eBs, lstOf_nil inj_eS, la, lb, ra, rb, wp1, wp2, wp3, wp4, wp5])
  all_goals first
    | decide
    | exact ⟨trivial, by decide, by unfold bsList; decide, trivial, by decide⟩
    | exact ⟨trivial, by decide, by unfold bsList; decide⟩
    | trace_state
end Go.Vd
