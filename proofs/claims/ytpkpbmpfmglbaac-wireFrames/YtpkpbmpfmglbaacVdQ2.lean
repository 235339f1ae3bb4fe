/- The queue's functions. -/
import Derived.Test.YtpkpbmpfmglbaacVdQ1
set_option linter.unusedVariables false
set_option linter.unusedSimpArgs false
set_option maxRecDepth 100000
set_option maxHeartbeats 1000000
namespace Go.Vd
open Go.Proofs
theorem w64len {L M : List (List UInt8)} (hL : L.length ≤ 1000000) (hM : M.length ≤ 1000000) : IntKind.i64.wrap ((L.length : Int) + M.length) = (L.length : Int) + M.length := w64 (by omega)
noncomputable def c_Lists : Ct := fun A args => match args with
  | [.slc n 1 f] => some (some (A.tp fun _ => isRow eBs [] 1 n f ∧ n ≤ 1000000 ∧ bsList (lstOf eBs [] 1 n f)), rLists A fun _ => lstOf eBs [] 1 n f)
  | _ => none
noncomputable def gq2 : Ar → Pu := addC 36 c_Lists (gq1)
theorem gq2_ok : PuOk Try.prog gl0 (gq2 std) := by
  refine addC_ok (gq1_ok) ⟨_, Try.func36, rfl, by decide⟩ ?_
  · intro args p r h hp
    unfold c_Lists at h
    split at h <;> cases h
    exact good_sv (good_Lists _ (by rw [lstOf_length hp.1]; exact hp.2.1) hp.2.2) ⟨hp.1.sv, trivial⟩
def sQ (A : Ar) (r : Int) (L : Unit → List (List UInt8)) : SV := .agg [.int .i64 r, rowS eBs [] 1 A L]
def fQ (A : Ar) (r : Int) (L : Unit → List (List UInt8)) : SV := .agg [.int .i64 r, rLists A L]
theorem good_fQueue (r : Int) (L : List (List UInt8)) (hL : L.length ≤ 1000000) (hb : bsList L) : GoodP Try.prog gl0 29 [sQ std r fun _ => L] (fQ std r fun _ => L) := by
  refine fn_sound' (T := seatT) (G := gq2) (X := noX) seatT_ok gq2_ok noX_ok noI_ok mixed Try.func29 (.fresh 35 1) (fun A => [sQ A r fun _ => L]) (fun A => fQ A r fun _ => L) fun A hA => ?_
  cbv
  repeat' (first | with_reducible exact True.intro | with_reducible exact dr_ok hA (by kernel_rfl) | with_reducible refine And.intro ?_ ?_ | (intro hc; cbv))
  all_goals (subst hA; simp [-List.getD_eq_getElem?_getD, std_add, std_sub, std_mul, std_quo, std_rem, std_band, std_bor, std_bxor, std_shl, std_shr, std_eq, std_ne, std_lt, std_le, std_conv, std_not, std_beq, std_bne, std_ite, std_want, std_and2, std_sadd, std_seq, std_sne, std_slt, std_sle, std_sgt, std_sge, std_slen, std_sget, std_scut, std_ofNat, std_toNat, std_nsub, std_nadd, std_lenOf, std_nz, std_nneg, std_inb, std_upto, std_slt63, std_grow, std_imp, std_impN, std_tr, std_tb, std_ti, std_ts, std_tn, std_tp, std_nmin, std_makes, std_room, std_zeros, std_nilq, std_notq, std_eqi, std_eqn, std_eqb, std_eqs, std_eqv, std_cat, std_lst, std_rset, std_rcopy, std_shift, std_eqr, std_strOf, std_bytesOf, std_isB])
  · exact ⟨isRow_lit _, hL, by rw [lstOf_lit inj_eBs]; exact hb⟩
  · rw [lstOf_lit inj_eBs]
  · rw [lstOf_lit inj_eBs]; simp
def rRoom (r : Int) : Bool := decide (1 ≤ r) && decide (r ≤ 64)
theorem good_rightRoom (r : Int) : GoodP Try.prog gl0 28 [.int .i64 r] (.bool (std.tb fun _ => rRoom r)) := by
  refine fn_sound' (T := seatT) (G := noC) (X := noX) seatT_ok noC_ok noX_ok noI_ok mixed Try.func28 (.one) (fun A => [.int .i64 r]) (fun A => .bool (A.tb fun _ => rRoom r)) fun A hA => ?_
  cbv
  repeat' (first | with_reducible exact True.intro | with_reducible exact dr_ok hA (by kernel_rfl) | with_reducible refine And.intro ?_ ?_ | (intro hc; cbv))
  all_goals (subst hA; simp [-List.getD_eq_getElem?_getD, std_add, std_sub, std_mul, std_quo, std_rem, std_band, std_bor, std_bxor, std_shl, std_shr, std_eq, std_ne, std_lt, std_le, std_conv, std_not, std_beq, std_bne, std_ite, std_want, std_and2, std_sadd, std_seq, std_sne, std_slt, std_sle, std_sgt, std_sge, std_slen, std_sget, std_scut, std_ofNat, std_toNat, std_nsub, std_nadd, std_lenOf, std_nz, std_nneg, std_inb, std_upto, std_slt63, std_grow, std_imp, std_impN, std_tr, std_tb, std_ti, std_ts, std_tn, std_tp, std_nmin, std_makes, std_room, std_zeros, std_nilq, std_notq, std_eqi, std_eqn, std_eqb, std_eqs, std_eqv, std_cat, std_lst, std_rset, std_rcopy, std_shift, std_eqr, std_strOf, std_bytesOf, std_isB]; try simp [rRoom])
noncomputable def c_fQueue : Ct := fun A args => match args with
  | [.agg [.int .i64 r, .slc n 1 f]] => some (some (A.tp fun _ => isRow eBs [] 1 n f ∧ n ≤ 1000000 ∧ bsList (lstOf eBs [] 1 n f)), fQ A r fun _ => lstOf eBs [] 1 n f)
  | _ => none
noncomputable def c_rightRoom : Ct := fun A args => match args with
  | [.int .i64 r] => some (none, .bool (A.tb fun _ => rRoom r))
  | _ => none
noncomputable def gq3 : Ar → Pu := addC 29 c_fQueue (addC 28 c_rightRoom (gq2))
theorem gq3_ok : PuOk Try.prog gl0 (gq3 std) := by
  refine addC_ok (addC_ok (gq2_ok) ⟨_, Try.func28, rfl, by decide⟩ ?_) ⟨_, Try.func29, rfl, by decide⟩ ?_
  · intro args p r h hp
    unfold c_rightRoom at h
    split at h <;> cases h
    exact good_rightRoom _
  · intro args p r h hp
    unfold c_fQueue at h
    split at h <;> cases h
    exact good_sv (good_fQueue _ _ (by rw [lstOf_length hp.1]; exact hp.2.1) hp.2.2) ⟨⟨_, rfl, rfl, hp.1.sv, trivial⟩, trivial⟩
def qOk (r : Int) (n : Nat) : Bool := rRoom r && decide ((n : Int) ≤ r)
theorem good_qRight (r : Int) (L : List (List UInt8)) : GoodP Try.prog gl0 16 [sQ std r fun _ => L] (.bool (std.tb fun _ => qOk r L.length)) := by
  refine fn_sound' (T := seatT) (G := gq3) (X := noX) seatT_ok gq3_ok noX_ok noI_ok mixed Try.func16 (.one) (fun A => [sQ A r fun _ => L]) (fun A => .bool (A.tb fun _ => qOk r L.length)) fun A hA => ?_
  cbv
  repeat' (first | with_reducible exact True.intro | with_reducible exact dr_ok hA (by kernel_rfl) | with_reducible refine And.intro ?_ ?_ | (intro hc; cbv))
  all_goals (subst hA; simp [-List.getD_eq_getElem?_getD, std_add, std_sub, std_mul, std_quo, std_rem, std_band, std_bor, std_bxor, std_shl, std_shr, std_eq, std_ne, std_lt, std_le, std_conv, std_not, std_beq, std_bne, std_ite, std_want, std_and2, std_sadd, std_seq, std_sne, std_slt, std_sle, std_sgt, std_sge, std_slen, std_sget, std_scut, std_ofNat, std_toNat, std_nsub, std_nadd, std_lenOf, std_nz, std_nneg, std_inb, std_upto, std_slt63, std_grow, std_imp, std_impN, std_tr, std_tb, std_ti, std_ts, std_tn, std_tp, std_nmin, std_makes, std_room, std_zeros, std_nilq, std_notq, std_eqi, std_eqn, std_eqb, std_eqs, std_eqv, std_cat, std_lst, std_rset, std_rcopy, std_shift, std_eqr, std_strOf, std_bytesOf, std_isB]; try simp [qOk])
theorem good_rRight (r : Int) (L : List (List UInt8)) : GoodP Try.prog gl0 11 [sQ std r fun _ => L] (.bool (std.tb fun _ => qOk r L.length)) := by
  refine fn_sound' (T := seatT) (G := gq3) (X := noX) seatT_ok gq3_ok noX_ok noI_ok mixed Try.func11 (.one) (fun A => [sQ A r fun _ => L]) (fun A => .bool (A.tb fun _ => qOk r L.length)) fun A hA => ?_
  cbv
  repeat' (first | with_reducible exact True.intro | with_reducible exact dr_ok hA (by kernel_rfl) | with_reducible refine And.intro ?_ ?_ | (intro hc; cbv))
  all_goals (subst hA; simp [-List.getD_eq_getElem?_getD, std_add, std_sub, std_mul, std_quo, std_rem, std_band, std_bor, std_bxor, std_shl, std_shr, std_eq, std_ne, std_lt, std_le, std_conv, std_not, std_beq, std_bne, std_ite, std_want, std_and2, std_sadd, std_seq, std_sne, std_slt, std_sle, std_sgt, std_sge, std_slen, std_sget, std_scut, std_ofNat, std_toNat, std_nsub, std_nadd, std_lenOf, std_nz, std_nneg, std_inb, std_upto, std_slt63, std_grow, std_imp, std_impN, std_tr, std_tb, std_ti, std_ts, std_tn, std_tp, std_nmin, std_makes, std_room, std_zeros, std_nilq, std_notq, std_eqi, std_eqn, std_eqb, std_eqs, std_eqv, std_cat, std_lst, std_rset, std_rcopy, std_shift, std_eqr, std_strOf, std_bytesOf, std_isB]; try simp [qOk, rRoom])
  all_goals (rw [Bool.eq_iff_iff]; simp; omega)
noncomputable def c_qRight : Ct := fun A args => match args with
  | [.agg [.int .i64 r, .slc n 1 f]] => some (some (A.tp fun _ => isRow eBs [] 1 n f), .bool (A.tb fun _ => qOk r (lstOf eBs [] 1 n f).length))
  | _ => none
noncomputable def c_rRight : Ct := fun A args => match args with
  | [.agg [.int .i64 r, .slc n 1 f]] => some (some (A.tp fun _ => isRow eBs [] 1 n f), .bool (A.tb fun _ => qOk r (lstOf eBs [] 1 n f).length))
  | _ => none
noncomputable def gq4 : Ar → Pu := addC 16 c_qRight (addC 11 c_rRight (gq3))
theorem gq4_ok : PuOk Try.prog gl0 (gq4 std) := by
  refine addC_ok (addC_ok (gq3_ok) ⟨_, Try.func11, rfl, by decide⟩ ?_) ⟨_, Try.func16, rfl, by decide⟩ ?_
  · intro args p r h hp
    unfold c_rRight at h
    split at h <;> cases h
    exact good_sv (good_rRight _ _) ⟨⟨_, rfl, rfl, hp.sv, trivial⟩, trivial⟩
  · intro args p r h hp
    unfold c_qRight at h
    split at h <;> cases h
    exact good_sv (good_qRight _ _) ⟨⟨_, rfl, rfl, hp.sv, trivial⟩, trivial⟩
def qLeft (r : Int) (n : Nat) : Int := if qOk r n then r - n else 0
theorem qOk_iff {r : Int} {n : Nat} : qOk r n = true ↔ 1 ≤ r ∧ r ≤ 64 ∧ (n : Int) ≤ r := by simp [qOk, rRoom, and_assoc]
theorem good_qLeft (r : Int) (L : List (List UInt8)) : GoodP Try.prog gl0 17 [sQ std r fun _ => L] (.int .i64 (std.ti fun _ => qLeft r L.length)) := by
  refine fn_sound' (T := seatT) (G := gq4) (X := noX) seatT_ok gq4_ok noX_ok noI_ok mixed Try.func17 (.one) (fun A => [sQ A r fun _ => L]) (fun A => .int .i64 (A.ti fun _ => qLeft r L.length)) fun A hA => ?_
  cbv
  repeat' (first | with_reducible exact True.intro | with_reducible exact dr_ok hA (by kernel_rfl) | with_reducible refine And.intro ?_ ?_ | (intro hc; cbv))
  all_goals (subst hA; simp [-List.getD_eq_getElem?_getD, std_add, std_sub, std_mul, std_quo, std_rem, std_band, std_bor, std_bxor, std_shl, std_shr, std_eq, std_ne, std_lt, std_le, std_conv, std_not, std_beq, std_bne, std_ite, std_want, std_and2, std_sadd, std_seq, std_sne, std_slt, std_sle, std_sgt, std_sge, std_slen, std_sget, std_scut, std_ofNat, std_toNat, std_nsub, std_nadd, std_lenOf, std_nz, std_nneg, std_inb, std_upto, std_slt63, std_grow, std_imp, std_impN, std_tr, std_tb, std_ti, std_ts, std_tn, std_tp, std_nmin, std_makes, std_room, std_zeros, std_nilq, std_notq, std_eqi, std_eqn, std_eqb, std_eqs, std_eqv, std_cat, std_lst, std_rset, std_rcopy, std_shift, std_eqr, std_strOf, std_bytesOf, std_isB, lstOf_lit inj_eBs] at *)
  · exact isRow_lit _
  · simp [qLeft, hc]
  · have := qOk_iff.1 hc
    rw [w64 (by omega)]; simp [qLeft, hc]
theorem good_qown (L : List UInt8) (hL : L.length ≤ 1000000) : GoodP Try.prog gl0 30 [rowS eB 0 1 std fun _ => L] (rowS eB 0 1 std fun _ => L) := by
  refine fn_sound' (T := seatT) (G := gq4) (X := noX) seatT_ok gq4_ok noX_ok noI_ok mixed Try.func30 (.none) (fun A => [rowS eB 0 1 A fun _ => L]) (fun A => rowS eB 0 1 A fun _ => L) fun A hA => ?_
  cbv
  repeat' (first | with_reducible exact True.intro | with_reducible exact dr_ok hA (by kernel_rfl) | with_reducible refine And.intro ?_ ?_ | (intro hc; cbv))
  all_goals (subst hA; simp [-List.getD_eq_getElem?_getD, std_add, std_sub, std_mul, std_quo, std_rem, std_band, std_bor, std_bxor, std_shl, std_shr, std_eq, std_ne, std_lt, std_le, std_conv, std_not, std_beq, std_bne, std_ite, std_want, std_and2, std_sadd, std_seq, std_sne, std_slt, std_sle, std_sgt, std_sge, std_slen, std_sget, std_scut, std_ofNat, std_toNat, std_nsub, std_nadd, std_lenOf, std_nz, std_nneg, std_inb, std_upto, std_slt63, std_grow, std_imp, std_impN, std_tr, std_tb, std_ti, std_ts, std_tn, std_tp, std_nmin, std_makes, std_room, std_zeros, std_nilq, std_notq, std_eqi, std_eqn, std_eqb, std_eqs, std_eqv, std_cat, std_lst, std_rset, std_rcopy, std_shift, std_eqr, std_strOf, std_bytesOf, std_isB])
  · omega
  · exact (Reps.copied (.lit L)).eqr
noncomputable def c_qLeft : Ct := fun A args => match args with
  | [.agg [.int .i64 r, .slc n 1 f]] => some (some (A.tp fun _ => isRow eBs [] 1 n f), .int .i64 (A.ti fun _ => qLeft r (lstOf eBs [] 1 n f).length))
  | _ => none
noncomputable def c_qown : Ct := fun A args => match args with
  | [.slc n 1 f] => some (some (A.tp fun _ => isRow eB 0 1 n f ∧ n ≤ 1000000), rowS eB 0 1 A fun _ => lstOf eB 0 1 n f)
  | _ => none
noncomputable def gq5 : Ar → Pu := addC 17 c_qLeft (addC 30 c_qown (gq4))
theorem gq5_ok : PuOk Try.prog gl0 (gq5 std) := by
  refine addC_ok (addC_ok (gq4_ok) ⟨_, Try.func30, rfl, by decide⟩ ?_) ⟨_, Try.func17, rfl, by decide⟩ ?_
  · intro args p r h hp
    unfold c_qown at h
    split at h <;> cases h
    exact good_sv (good_qown _ (by rw [lstOf_length hp.1]; exact hp.2)) ⟨hp.1.sv, trivial⟩
  · intro args p r h hp
    unfold c_qLeft at h
    split at h <;> cases h
    exact good_sv (good_qLeft _ _) ⟨⟨_, rfl, rfl, hp.sv, trivial⟩, trivial⟩
theorem good_qNew (r : Int) : GoodP Try.prog gl0 9 [.int .i64 r] (.tup [sQ std (std.ti fun _ => if rRoom r then r else 0) fun _ => [], .int .i64 (std.ti fun _ => if rRoom r then 0 else 1)]) := by
  refine fn_sound' (T := seatT) (G := gq5) (X := noX) seatT_ok gq5_ok noX_ok noI_ok mixed Try.func9 (.none) (fun A => [.int .i64 r]) (fun A => .tup [sQ A (A.ti fun _ => if rRoom r then r else 0) fun _ => [], .int .i64 (A.ti fun _ => if rRoom r then 0 else 1)]) fun A hA => ?_
  cbv
  repeat' (first | with_reducible exact True.intro | with_reducible exact dr_ok hA (by kernel_rfl) | with_reducible refine And.intro ?_ ?_ | (intro hc; cbv))
  all_goals (subst hA; simp [-List.getD_eq_getElem?_getD, std_add, std_sub, std_mul, std_quo, std_rem, std_band, std_bor, std_bxor, std_shl, std_shr, std_eq, std_ne, std_lt, std_le, std_conv, std_not, std_beq, std_bne, std_ite, std_want, std_and2, std_sadd, std_seq, std_sne, std_slt, std_sle, std_sgt, std_sge, std_slen, std_sget, std_scut, std_ofNat, std_toNat, std_nsub, std_nadd, std_lenOf, std_nz, std_nneg, std_inb, std_upto, std_slt63, std_grow, std_imp, std_impN, std_tr, std_tb, std_ti, std_ts, std_tn, std_tp, std_nmin, std_makes, std_room, std_zeros, std_nilq, std_notq, std_eqi, std_eqn, std_eqb, std_eqs, std_eqv, std_cat, std_lst, std_rset, std_rcopy, std_shift, std_eqr, std_strOf, std_bytesOf, std_isB, strOf_lit, lstOf_lit inj_eB, lstOf_lit inj_eZ, lstOf_lit inj_eBs, lstOf_lit inj_eS] at *)
  all_goals simp [hc]
def qFits (r : Int) (n m : Nat) : Bool := qOk r n && decide ((m : Int) ≤ r - n)
def qPutL (r : Int) (L M : List (List UInt8)) : List (List UInt8) := if qFits r L.length M.length then L ++ M else L
def qPutE (r : Int) (n m : Nat) : Int := if !qOk r n then 1 else if qFits r n m then 0 else 7
theorem qFits_no {r : Int} {n m : Nat} (h : qOk r n = false) : qFits r n m = false := by simp [qFits, h]
theorem qFits_lt {r : Int} {n m : Nat} (h : qLeft r n < m) : qFits r n m = false := by
  unfold qLeft at h
  cases hq : qOk r n
  · exact qFits_no hq
  · rw [hq] at h; simp [qFits, hq] at h ⊢; omega
theorem qFits_le {r : Int} {n m : Nat} (h0 : qOk r n = true) (h : ¬ qLeft r n < m) : qFits r n m = true := by
  unfold qLeft at h
  rw [h0] at h; simp [qFits, h0] at h ⊢; omega
theorem good_qPut (r : Int) (L M : List (List UInt8)) (hL : L.length ≤ 1000000) (hb : bsList L) (hM : M.length ≤ 1000000) (hm : bsList M) : GoodP Try.prog gl0 12 [sQ std r fun _ => L, rowS eBs [] 1 std fun _ => M] (.tup [sQ std r fun _ => qPutL r L M, .int .i64 (std.ti fun _ => qPutE r L.length M.length)]) := by
  refine fn_sound' (T := seatT) (G := gq5) (X := noX) seatT_ok gq5_ok noX_ok noI_ok mixed Try.func12 (.none) (fun A => [sQ A r fun _ => L, rowS eBs [] 1 A fun _ => M]) (fun A => .tup [sQ A r fun _ => qPutL r L M, .int .i64 (A.ti fun _ => qPutE r L.length M.length)]) fun A hA => ?_
  cbv
  repeat' (first | with_reducible exact True.intro | with_reducible exact dr_ok hA (by kernel_rfl) | with_reducible refine And.intro ?_ ?_ | (intro hc; cbv))
  all_goals first
    | (subst hA; simp [-List.getD_eq_getElem?_getD, std_add, std_sub, std_mul, std_quo, std_rem, std_band, std_bor, std_bxor, std_shl, std_shr, std_eq, std_ne, std_lt, std_le, std_conv, std_not, std_beq, std_bne, std_ite, std_want, std_and2, std_sadd, std_seq, std_sne, std_slt, std_sle, std_sgt, std_sge, std_slen, std_sget, std_scut, std_ofNat, std_toNat, std_nsub, std_nadd, std_lenOf, std_nz, std_nneg, std_inb, std_upto, std_slt63, std_grow, std_imp, std_impN, std_tr, std_tb, std_ti, std_ts, std_tn, std_tp, std_nmin, std_makes, std_room, std_zeros, std_nilq, std_notq, std_eqi, std_eqn, std_eqb, std_eqs, std_eqv, std_cat, std_lst, std_rset, std_rcopy, std_shift, std_eqr, std_strOf, std_bytesOf, std_isB, strOf_lit, lstOf_lit inj_eB, lstOf_lit inj_eZ, lstOf_lit inj_eBs, lstOf_lit inj_eS] at * <;> first
         | exact ⟨isRow_lit _, hL, hb⟩
         | exact isRow_lit _
         | (simp [qPutL, qPutE, qFits_no hc, hc]; done)
         | (simp [qPutL, qPutE, qFits_lt hc]; done)
         | (rename_i hq; simp [qPutL, qPutE, qFits_lt hc, hq]; done))
    | skip
  simp only [lit_A hA inj_eB, lit_A hA inj_eZ, lit_A hA inj_eBs, lit_A hA inj_eS]
  rename_i hq
  have h0 : qOk r L.length = true := by subst hA; simpa [-List.getD_eq_getElem?_getD, std_add, std_sub, std_mul, std_quo, std_rem, std_band, std_bor, std_bxor, std_shl, std_shr, std_eq, std_ne, std_lt, std_le, std_conv, std_not, std_beq, std_bne, std_ite, std_want, std_and2, std_sadd, std_seq, std_sne, std_slt, std_sle, std_sgt, std_sge, std_slen, std_sget, std_scut, std_ofNat, std_toNat, std_nsub, std_nadd, std_lenOf, std_nz, std_nneg, std_inb, std_upto, std_slt63, std_grow, std_imp, std_impN, std_tr, std_tb, std_ti, std_ts, std_tn, std_tp, std_nmin, std_makes, std_room, std_zeros, std_nilq, std_notq, std_eqi, std_eqn, std_eqb, std_eqs, std_eqv, std_cat, std_lst, std_rset, std_rcopy, std_shift, std_eqr, std_strOf, std_bytesOf, std_isB, strOf_lit, lstOf_lit inj_eB, lstOf_lit inj_eZ, lstOf_lit inj_eBs, lstOf_lit inj_eS] using hq
  have h1 : qFits r L.length M.length = true := by subst hA; refine qFits_le h0 ?_; simpa [-List.getD_eq_getElem?_getD, std_add, std_sub, std_mul, std_quo, std_rem, std_band, std_bor, std_bxor, std_shl, std_shr, std_eq, std_ne, std_lt, std_le, std_conv, std_not, std_beq, std_bne, std_ite, std_want, std_and2, std_sadd, std_seq, std_sne, std_slt, std_sle, std_sgt, std_sge, std_slen, std_sget, std_scut, std_ofNat, std_toNat, std_nsub, std_nadd, std_lenOf, std_nz, std_nneg, std_inb, std_upto, std_slt63, std_grow, std_imp, std_impN, std_tr, std_tb, std_ti, std_ts, std_tn, std_tp, std_nmin, std_makes, std_room, std_zeros, std_nilq, std_notq, std_eqi, std_eqn, std_eqb, std_eqs, std_eqv, std_cat, std_lst, std_rset, std_rcopy, std_shift, std_eqr, std_strOf, std_bytesOf, std_isB, strOf_lit, lstOf_lit inj_eB, lstOf_lit inj_eZ, lstOf_lit inj_eBs, lstOf_lit inj_eS] using hc
  clear hq hc
  refine ⟨⟨{i : Nat // i ≤ M.length}, fun b i => [(22, .int .i64 (i.1 : Nat))], fun b i => [(4, .row 35 1 (A.tn fun _ => L.length + i.1) (rowF eBs [] A fun _ => L ++ M.take i.1)), (0, .box 24 [.int .i64 r, .own 4])], fun i => M.length - i.1, true⟩, ⟨⟨0, by omega⟩, ?_⟩, ?_⟩
  · cbv
    subst hA
    simp [-List.getD_eq_getElem?_getD, std_add, std_sub, std_mul, std_quo, std_rem, std_band, std_bor, std_bxor, std_shl, std_shr, std_eq, std_ne, std_lt, std_le, std_conv, std_not, std_beq, std_bne, std_ite, std_want, std_and2, std_sadd, std_seq, std_sne, std_slt, std_sle, std_sgt, std_sge, std_slen, std_sget, std_scut, std_ofNat, std_toNat, std_nsub, std_nadd, std_lenOf, std_nz, std_nneg, std_inb, std_upto, std_slt63, std_grow, std_imp, std_impN, std_tr, std_tb, std_ti, std_ts, std_tn, std_tp, std_nmin, std_makes, std_room, std_zeros, std_nilq, std_notq, std_eqi, std_eqn, std_eqb, std_eqs, std_eqv, std_cat, std_lst, std_rset, std_rcopy, std_shift, std_eqr, std_strOf, std_bytesOf, std_isB]
  · rintro ⟨i, hi⟩
    cbv
    repeat' (first | with_reducible exact True.intro | with_reducible exact dr_ok hA (by kernel_rfl) | with_reducible refine And.intro ?_ ?_ | (intro hc; cbv))
    · subst hA; simp [std_add, std_sub, std_mul, std_quo, std_rem, std_band, std_bor, std_bxor, std_shl, std_shr, std_eq, std_ne, std_lt, std_le, std_conv, std_not, std_beq, std_bne, std_ite, std_want, std_and2, std_sadd, std_seq, std_sne, std_slt, std_sle, std_sgt, std_sge, std_slen, std_sget, std_scut, std_ofNat, std_toNat, std_nsub, std_nadd, std_lenOf, std_nz, std_nneg, std_inb, std_upto, std_slt63, std_grow, std_imp, std_impN, std_tr, std_tb, std_ti, std_ts, std_tn, std_tp, std_nmin, std_makes, std_room, std_zeros, std_nilq, std_notq, std_eqi, std_eqn, std_eqb, std_eqs, std_eqv, std_cat, std_lst, std_rset, std_rcopy, std_shift, std_eqr, std_strOf, std_bytesOf, std_isB] at hc ⊢; omega
    · subst hA; exact ⟨isRow_lit _, getD_len hm _⟩
    · subst hA; simp [std_add, std_sub, std_mul, std_quo, std_rem, std_band, std_bor, std_bxor, std_shl, std_shr, std_eq, std_ne, std_lt, std_le, std_conv, std_not, std_beq, std_bne, std_ite, std_want, std_and2, std_sadd, std_seq, std_sne, std_slt, std_sle, std_sgt, std_sge, std_slen, std_sget, std_scut, std_ofNat, std_toNat, std_nsub, std_nadd, std_lenOf, std_nz, std_nneg, std_inb, std_upto, std_slt63, std_grow, std_imp, std_impN, std_tr, std_tb, std_ti, std_ts, std_tn, std_tp, std_nmin, std_makes, std_room, std_zeros, std_nilq, std_notq, std_eqi, std_eqn, std_eqb, std_eqs, std_eqv, std_cat, std_lst, std_rset, std_rcopy, std_shift, std_eqr, std_strOf, std_bytesOf, std_isB]; omega
    · have hlt : i < M.length := by subst hA; simp [std_add, std_sub, std_mul, std_quo, std_rem, std_band, std_bor, std_bxor, std_shl, std_shr, std_eq, std_ne, std_lt, std_le, std_conv, std_not, std_beq, std_bne, std_ite, std_want, std_and2, std_sadd, std_seq, std_sne, std_slt, std_sle, std_sgt, std_sge, std_slen, std_sget, std_scut, std_ofNat, std_toNat, std_nsub, std_nadd, std_lenOf, std_nz, std_nneg, std_inb, std_upto, std_slt63, std_grow, std_imp, std_impN, std_tr, std_tb, std_ti, std_ts, std_tn, std_tp, std_nmin, std_makes, std_room, std_zeros, std_nilq, std_notq, std_eqi, std_eqn, std_eqb, std_eqs, std_eqv, std_cat, std_lst, std_rset, std_rcopy, std_shift, std_eqr, std_strOf, std_bytesOf, std_isB] at hc; omega
      refine ⟨⟨i + 1, by omega⟩, ?_, show M.length - (i + 1) < M.length - i by omega⟩
      cbv
      subst hA
      simp [-List.getD_eq_getElem?_getD, std_add, std_sub, std_mul, std_quo, std_rem, std_band, std_bor, std_bxor, std_shl, std_shr, std_eq, std_ne, std_lt, std_le, std_conv, std_not, std_beq, std_bne, std_ite, std_want, std_and2, std_sadd, std_seq, std_sne, std_slt, std_sle, std_sgt, std_sge, std_slen, std_sget, std_scut, std_ofNat, std_toNat, std_nsub, std_nadd, std_lenOf, std_nz, std_nneg, std_inb, std_upto, std_slt63, std_grow, std_imp, std_impN, std_tr, std_tb, std_ti, std_ts, std_tn, std_tp, std_nmin, std_makes, std_room, std_zeros, std_nilq, std_notq, std_eqi, std_eqn, std_eqb, std_eqs, std_eqv, std_cat, std_lst, std_rset, std_rcopy, std_shift, std_eqr, std_strOf, std_bytesOf, std_isB, strOf_lit, lstOf_lit inj_eB, lstOf_lit inj_eZ, lstOf_lit inj_eBs, lstOf_lit inj_eS]
      refine ⟨w64 (by omega), ?_, ?_⟩
      · omega
      · exact snoc_row (by simp; omega) (cell_eBs (.lit _)) (by rw [List.append_assoc, take_snoc hlt]) (by omega)
    all_goals (have hi' : i = M.length := by subst hA; simp [std_add, std_sub, std_mul, std_quo, std_rem, std_band, std_bor, std_bxor, std_shl, std_shr, std_eq, std_ne, std_lt, std_le, std_conv, std_not, std_beq, std_bne, std_ite, std_want, std_and2, std_sadd, std_seq, std_sne, std_slt, std_sle, std_sgt, std_sge, std_slen, std_sget, std_scut, std_ofNat, std_toNat, std_nsub, std_nadd, std_lenOf, std_nz, std_nneg, std_inb, std_upto, std_slt63, std_grow, std_imp, std_impN, std_tr, std_tb, std_ti, std_ts, std_tn, std_tp, std_nmin, std_makes, std_room, std_zeros, std_nilq, std_notq, std_eqi, std_eqn, std_eqb, std_eqs, std_eqv, std_cat, std_lst, std_rset, std_rcopy, std_shift, std_eqr, std_strOf, std_bytesOf, std_isB] at hc; omega)
    all_goals subst hi'
    · subst hA; rfl
    · subst hA; simp [std_add, std_sub, std_mul, std_quo, std_rem, std_band, std_bor, std_bxor, std_shl, std_shr, std_eq, std_ne, std_lt, std_le, std_conv, std_not, std_beq, std_bne, std_ite, std_want, std_and2, std_sadd, std_seq, std_sne, std_slt, std_sle, std_sgt, std_sge, std_slen, std_sget, std_scut, std_ofNat, std_toNat, std_nsub, std_nadd, std_lenOf, std_nz, std_nneg, std_inb, std_upto, std_slt63, std_grow, std_imp, std_impN, std_tr, std_tb, std_ti, std_ts, std_tn, std_tp, std_nmin, std_makes, std_room, std_zeros, std_nilq, std_notq, std_eqi, std_eqn, std_eqb, std_eqs, std_eqv, std_cat, std_lst, std_rset, std_rcopy, std_shift, std_eqr, std_strOf, std_bytesOf, std_isB, qPutL, h1]
    · subst hA; simp [-List.getD_eq_getElem?_getD, std_add, std_sub, std_mul, std_quo, std_rem, std_band, std_bor, std_bxor, std_shl, std_shr, std_eq, std_ne, std_lt, std_le, std_conv, std_not, std_beq, std_bne, std_ite, std_want, std_and2, std_sadd, std_seq, std_sne, std_slt, std_sle, std_sgt, std_sge, std_slen, std_sget, std_scut, std_ofNat, std_toNat, std_nsub, std_nadd, std_lenOf, std_nz, std_nneg, std_inb, std_upto, std_slt63, std_grow, std_imp, std_impN, std_tr, std_tb, std_ti, std_ts, std_tn, std_tp, std_nmin, std_makes, std_room, std_zeros, std_nilq, std_notq, std_eqi, std_eqn, std_eqb, std_eqs, std_eqv, std_cat, std_lst, std_rset, std_rcopy, std_shift, std_eqr, std_strOf, std_bytesOf, std_isB, qPutL, h1]
    · subst hA; simp [std_add, std_sub, std_mul, std_quo, std_rem, std_band, std_bor, std_bxor, std_shl, std_shr, std_eq, std_ne, std_lt, std_le, std_conv, std_not, std_beq, std_bne, std_ite, std_want, std_and2, std_sadd, std_seq, std_sne, std_slt, std_sle, std_sgt, std_sge, std_slen, std_sget, std_scut, std_ofNat, std_toNat, std_nsub, std_nadd, std_lenOf, std_nz, std_nneg, std_inb, std_upto, std_slt63, std_grow, std_imp, std_impN, std_tr, std_tb, std_ti, std_ts, std_tn, std_tp, std_nmin, std_makes, std_room, std_zeros, std_nilq, std_notq, std_eqi, std_eqn, std_eqb, std_eqs, std_eqv, std_cat, std_lst, std_rset, std_rcopy, std_shift, std_eqr, std_strOf, std_bytesOf, std_isB, qPutE, h0, h1]
def qTakeL (r : Int) (L : List (List UInt8)) : List (List UInt8) := if qOk r L.length then L.tail else L
def qTakeB (r : Int) (L : List (List UInt8)) : List UInt8 := if qOk r L.length then L.getD 0 [] else []
def qTakeE (r : Int) (L : List (List UInt8)) : Int := if qOk r L.length then (if L = [] then 5 else 0) else 1
theorem shift_tail {L : List (List UInt8)} (h : L ≠ []) {n : Nat} (hn : n = L.tail.length) : eqrS n 1 (shiftS (rowF eBs [] std fun x => L) 1) (rowF eBs [] std fun x => L.tail) := by
  have h0 : 0 < L.length := List.length_pos_iff.2 h
  subst hn
  have := (Reps.lit (enc := eBs) (d := []) (k := 1) L).shift (m := L.tail.length) 1 (by simp; omega)
  refine (this.congr rfl ?_).eqr
  rw [List.drop_one, List.take_of_length_le (by simp)]
theorem good_qTake (r : Int) (L : List (List UInt8)) (hL : L.length ≤ 1000000) (hb : bsList L) : GoodP Try.prog gl0 14 [sQ std r fun _ => L] (.tup [sQ std r fun _ => qTakeL r L, rowS eB 0 1 std fun _ => qTakeB r L, .int .i64 (std.ti fun _ => qTakeE r L)]) := by
  refine fn_sound' (T := seatT) (G := gq5) (X := noX) seatT_ok gq5_ok noX_ok noI_ok mixed Try.func14 (.none) (fun A => [sQ A r fun _ => L]) (fun A => .tup [sQ A r fun _ => qTakeL r L, rowS eB 0 1 A fun _ => qTakeB r L, .int .i64 (A.ti fun _ => qTakeE r L)]) fun A hA => ?_
  cbv
  repeat' (first | with_reducible exact True.intro | with_reducible exact dr_ok hA (by kernel_rfl) | with_reducible refine And.intro ?_ ?_ | (intro hc; cbv))
  all_goals (subst hA; simp [-List.getD_eq_getElem?_getD, std_add, std_sub, std_mul, std_quo, std_rem, std_band, std_bor, std_bxor, std_shl, std_shr, std_eq, std_ne, std_lt, std_le, std_conv, std_not, std_beq, std_bne, std_ite, std_want, std_and2, std_sadd, std_seq, std_sne, std_slt, std_sle, std_sgt, std_sge, std_slen, std_sget, std_scut, std_ofNat, std_toNat, std_nsub, std_nadd, std_lenOf, std_nz, std_nneg, std_inb, std_upto, std_slt63, std_grow, std_imp, std_impN, std_tr, std_tb, std_ti, std_ts, std_tn, std_tp, std_nmin, std_makes, std_room, std_zeros, std_nilq, std_notq, std_eqi, std_eqn, std_eqb, std_eqs, std_eqv, std_cat, std_lst, std_rset, std_rcopy, std_shift, std_eqr, std_strOf, std_bytesOf, std_isB, strOf_lit, lstOf_lit inj_eB, lstOf_lit inj_eZ, lstOf_lit inj_eBs, lstOf_lit inj_eS] at *)
  all_goals first
    | exact ⟨isRow_lit _, hL, hb⟩
    | exact isRow_lit _
    | (simp [-List.getD_eq_getElem?_getD, qTakeL, qTakeB, qTakeE, hc]; done)
    | (rename_i h0; simp [-List.getD_eq_getElem?_getD, qTakeL, qTakeB, qTakeE, hc, h0]; done)
    | (rename_i h0; simp [-List.getD_eq_getElem?_getD, qTakeL, qTakeB, qTakeE, hc, h0]; exact shift_tail hc (by simp))
    | (subst hc; simp_all [-List.getD_eq_getElem?_getD, qTakeL, qTakeB, qTakeE]; done)
    | (have := List.length_pos_iff.2 (show L ≠ [] from hc); omega)
    | (have := List.length_pos_iff.2 (show L ≠ [] from hc); simp; omega)
theorem qFits_no2 {r : Int} {n m : Nat} (h : r < (n : Int) + m) : qFits r n m = false := by simp [qFits]; intro _; omega
theorem qFits_yes2 {r : Int} {n m : Nat} (h0 : qOk r n = true) (h : (n : Int) + m ≤ r) : qFits r n m = true := by simp [qFits, h0]; omega
theorem good_rPut (r : Int) (L M : List (List UInt8)) (hL : L.length ≤ 1000000) (hM : M.length ≤ 1000000) : GoodP Try.prog gl0 13 [sQ std r fun _ => L, rowS eBs [] 1 std fun _ => M] (.tup [sQ std r fun _ => qPutL r L M, .int .i64 (std.ti fun _ => qPutE r L.length M.length)]) := by
  refine fn_sound' (T := seatT) (G := gq5) (X := noX) seatT_ok gq5_ok noX_ok noI_ok mixed Try.func13 (.none) (fun A => [sQ A r fun _ => L, rowS eBs [] 1 A fun _ => M]) (fun A => .tup [sQ A r fun _ => qPutL r L M, .int .i64 (A.ti fun _ => qPutE r L.length M.length)]) fun A hA => ?_
  cbv
  repeat' (first | with_reducible exact True.intro | with_reducible exact dr_ok hA (by kernel_rfl) | with_reducible refine And.intro ?_ ?_ | (intro hc; cbv))
  all_goals (subst hA; simp [-List.getD_eq_getElem?_getD, std_add, std_sub, std_mul, std_quo, std_rem, std_band, std_bor, std_bxor, std_shl, std_shr, std_eq, std_ne, std_lt, std_le, std_conv, std_not, std_beq, std_bne, std_ite, std_want, std_and2, std_sadd, std_seq, std_sne, std_slt, std_sle, std_sgt, std_sge, std_slen, std_sget, std_scut, std_ofNat, std_toNat, std_nsub, std_nadd, std_lenOf, std_nz, std_nneg, std_inb, std_upto, std_slt63, std_grow, std_imp, std_impN, std_tr, std_tb, std_ti, std_ts, std_tn, std_tp, std_nmin, std_makes, std_room, std_zeros, std_nilq, std_notq, std_eqi, std_eqn, std_eqb, std_eqs, std_eqv, std_cat, std_lst, std_rset, std_rcopy, std_shift, std_eqr, std_strOf, std_bytesOf, std_isB, strOf_lit, lstOf_lit inj_eB, lstOf_lit inj_eZ, lstOf_lit inj_eBs, lstOf_lit inj_eS, w64len hL hM] at *)
  all_goals first
    | exact isRow_lit _
    | (constructor <;> omega)
    | (simp [qPutL, qPutE, qFits_no hc, hc]; done)
    | (rename_i h0; simp [qPutL, qPutE, qFits_no2 hc, h0]; done)
    | (rename_i h0; simp [qPutL, qPutE, qFits_yes2 h0 hc, h0]; done)
    | (rename_i h0; simp only [qPutL, qFits_yes2 h0 hc, if_true]; (apply eqr_of; (focus (repeat' (first | with_reducible exact Reps.lit _ | with_reducible apply Reps.catE | exact Reps.nil | (simp; done) | omega))); (focus (first | (simp; done) | omega | rfl)); (focus (first | (simp; done) | rfl))))
    | trace_state
theorem good_rTake (r : Int) (L : List (List UInt8)) : GoodP Try.prog gl0 15 [sQ std r fun _ => L] (.tup [sQ std r fun _ => qTakeL r L, rowS eB 0 1 std fun _ => qTakeB r L, .int .i64 (std.ti fun _ => qTakeE r L)]) := by
  refine fn_sound' (T := seatT) (G := gq5) (X := noX) seatT_ok gq5_ok noX_ok noI_ok mixed Try.func15 (.none) (fun A => [sQ A r fun _ => L]) (fun A => .tup [sQ A r fun _ => qTakeL r L, rowS eB 0 1 A fun _ => qTakeB r L, .int .i64 (A.ti fun _ => qTakeE r L)]) fun A hA => ?_
  cbv
  repeat' (first | with_reducible exact True.intro | with_reducible exact dr_ok hA (by kernel_rfl) | with_reducible refine And.intro ?_ ?_ | (intro hc; cbv))
  all_goals (subst hA; simp [-List.getD_eq_getElem?_getD, std_add, std_sub, std_mul, std_quo, std_rem, std_band, std_bor, std_bxor, std_shl, std_shr, std_eq, std_ne, std_lt, std_le, std_conv, std_not, std_beq, std_bne, std_ite, std_want, std_and2, std_sadd, std_seq, std_sne, std_slt, std_sle, std_sgt, std_sge, std_slen, std_sget, std_scut, std_ofNat, std_toNat, std_nsub, std_nadd, std_lenOf, std_nz, std_nneg, std_inb, std_upto, std_slt63, std_grow, std_imp, std_impN, std_tr, std_tb, std_ti, std_ts, std_tn, std_tp, std_nmin, std_makes, std_room, std_zeros, std_nilq, std_notq, std_eqi, std_eqn, std_eqb, std_eqs, std_eqv, std_cat, std_lst, std_rset, std_rcopy, std_shift, std_eqr, std_strOf, std_bytesOf, std_isB, strOf_lit, lstOf_lit inj_eB, lstOf_lit inj_eZ, lstOf_lit inj_eBs, lstOf_lit inj_eS] at *)
  all_goals first
    | exact isRow_lit _
    | (simp [-List.getD_eq_getElem?_getD, qTakeL, qTakeB, qTakeE, hc]; done)
    | (rename_i h0; simp [-List.getD_eq_getElem?_getD, qTakeL, qTakeB, qTakeE, hc, h0]; done)
    | (rename_i h0; simp [-List.getD_eq_getElem?_getD, qTakeL, qTakeB, qTakeE, hc, h0]; exact shift_tail hc (by simp))
    | (subst hc; simp_all [-List.getD_eq_getElem?_getD, qTakeL, qTakeB, qTakeE]; done)
    | (have := List.length_pos_iff.2 hc; omega)
  all_goals trace_state
theorem lists_step {L M : List (List UInt8)} {i : Nat} (h : L.take i = M.take i) (hL : i < L.length) (hM : i < M.length) : L.take (i + 1) = M.take (i + 1) ↔ L.getD i [] = M.getD i [] := by
  rw [← take_snoc (d := []) hL, ← take_snoc (d := []) hM, h]
  constructor
  · intro e; simpa using e
  · intro e; rw [e]
theorem lists_end {L M : List (List UInt8)} {i : Nat} (h : L.take (i + 1) ≠ M.take (i + 1)) : L ≠ M := fun e => h (by rw [e])
theorem good_bLists (L M : List (List UInt8)) (hL : L.length ≤ 1000000) : GoodP Try.prog gl0 18 [rowS eBs [] 1 std fun _ => L, rowS eBs [] 1 std fun _ => M] (.bool (std.tb fun _ => decide (L = M))) := by
  refine fn_sound' (T := seatT) (G := gq5) (X := noX) seatT_ok gq5_ok noX_ok noI_ok mixed Try.func18 (.one) (fun A => [rowS eBs [] 1 A fun _ => L, rowS eBs [] 1 A fun _ => M]) (fun A => .bool (A.tb fun _ => decide (L = M))) fun A hA => ?_
  cbv
  repeat' (first | with_reducible exact True.intro | with_reducible exact dr_ok hA (by kernel_rfl) | with_reducible refine And.intro ?_ ?_ | (intro hc; cbv))
  · subst hA; simp [-List.getD_eq_getElem?_getD, std_add, std_sub, std_mul, std_quo, std_rem, std_band, std_bor, std_bxor, std_shl, std_shr, std_eq, std_ne, std_lt, std_le, std_conv, std_not, std_beq, std_bne, std_ite, std_want, std_and2, std_sadd, std_seq, std_sne, std_slt, std_sle, std_sgt, std_sge, std_slen, std_sget, std_scut, std_ofNat, std_toNat, std_nsub, std_nadd, std_lenOf, std_nz, std_nneg, std_inb, std_upto, std_slt63, std_grow, std_imp, std_impN, std_tr, std_tb, std_ti, std_ts, std_tn, std_tp, std_nmin, std_makes, std_room, std_zeros, std_nilq, std_notq, std_eqi, std_eqn, std_eqb, std_eqs, std_eqv, std_cat, std_lst, std_rset, std_rcopy, std_shift, std_eqr, std_strOf, std_bytesOf, std_isB, strOf_lit, lstOf_lit inj_eB, lstOf_lit inj_eZ, lstOf_lit inj_eBs, lstOf_lit inj_eS] at *
    intro e; exact hc (by rw [e])
  have hlen : L.length = M.length := by subst hA; simp [std_add, std_sub, std_mul, std_quo, std_rem, std_band, std_bor, std_bxor, std_shl, std_shr, std_eq, std_ne, std_lt, std_le, std_conv, std_not, std_beq, std_bne, std_ite, std_want, std_and2, std_sadd, std_seq, std_sne, std_slt, std_sle, std_sgt, std_sge, std_slen, std_sget, std_scut, std_ofNat, std_toNat, std_nsub, std_nadd, std_lenOf, std_nz, std_nneg, std_inb, std_upto, std_slt63, std_grow, std_imp, std_impN, std_tr, std_tb, std_ti, std_ts, std_tn, std_tp, std_nmin, std_makes, std_room, std_zeros, std_nilq, std_notq, std_eqi, std_eqn, std_eqb, std_eqs, std_eqv, std_cat, std_lst, std_rset, std_rcopy, std_shift, std_eqr, std_strOf, std_bytesOf, std_isB] at hc; omega
  refine ⟨⟨{i : Nat // i ≤ L.length ∧ L.take i = M.take i}, fun b i => [(5, .int .i64 (i.1 : Nat))], fun b i => [], fun i => L.length - i.1, true⟩, ⟨⟨0, by omega, rfl⟩, ?_⟩, ?_⟩
  · cbv
    subst hA
    simp [-List.getD_eq_getElem?_getD, std_add, std_sub, std_mul, std_quo, std_rem, std_band, std_bor, std_bxor, std_shl, std_shr, std_eq, std_ne, std_lt, std_le, std_conv, std_not, std_beq, std_bne, std_ite, std_want, std_and2, std_sadd, std_seq, std_sne, std_slt, std_sle, std_sgt, std_sge, std_slen, std_sget, std_scut, std_ofNat, std_toNat, std_nsub, std_nadd, std_lenOf, std_nz, std_nneg, std_inb, std_upto, std_slt63, std_grow, std_imp, std_impN, std_tr, std_tb, std_ti, std_ts, std_tn, std_tp, std_nmin, std_makes, std_room, std_zeros, std_nilq, std_notq, std_eqi, std_eqn, std_eqb, std_eqs, std_eqv, std_cat, std_lst, std_rset, std_rcopy, std_shift, std_eqr, std_strOf, std_bytesOf, std_isB]
  · rintro ⟨i, hi, ht⟩
    cbv
    repeat' (first | with_reducible exact True.intro | with_reducible exact dr_ok hA (by kernel_rfl) | with_reducible refine And.intro ?_ ?_ | (intro hc; cbv))
    · subst hA; simp [std_add, std_sub, std_mul, std_quo, std_rem, std_band, std_bor, std_bxor, std_shl, std_shr, std_eq, std_ne, std_lt, std_le, std_conv, std_not, std_beq, std_bne, std_ite, std_want, std_and2, std_sadd, std_seq, std_sne, std_slt, std_sle, std_sgt, std_sge, std_slen, std_sget, std_scut, std_ofNat, std_toNat, std_nsub, std_nadd, std_lenOf, std_nz, std_nneg, std_inb, std_upto, std_slt63, std_grow, std_imp, std_impN, std_tr, std_tb, std_ti, std_ts, std_tn, std_tp, std_nmin, std_makes, std_room, std_zeros, std_nilq, std_notq, std_eqi, std_eqn, std_eqb, std_eqs, std_eqv, std_cat, std_lst, std_rset, std_rcopy, std_shift, std_eqr, std_strOf, std_bytesOf, std_isB] at hc ⊢; omega
    · subst hA; exact isB_row (.lit _)
    · subst hA; simp [std_add, std_sub, std_mul, std_quo, std_rem, std_band, std_bor, std_bxor, std_shl, std_shr, std_eq, std_ne, std_lt, std_le, std_conv, std_not, std_beq, std_bne, std_ite, std_want, std_and2, std_sadd, std_seq, std_sne, std_slt, std_sle, std_sgt, std_sge, std_slen, std_sget, std_scut, std_ofNat, std_toNat, std_nsub, std_nadd, std_lenOf, std_nz, std_nneg, std_inb, std_upto, std_slt63, std_grow, std_imp, std_impN, std_tr, std_tb, std_ti, std_ts, std_tn, std_tp, std_nmin, std_makes, std_room, std_zeros, std_nilq, std_notq, std_eqi, std_eqn, std_eqb, std_eqs, std_eqv, std_cat, std_lst, std_rset, std_rcopy, std_shift, std_eqr, std_strOf, std_bytesOf, std_isB] at hc ⊢; omega
    · subst hA; exact isB_row (.lit _)
    · rename_i h1
      have hlt : i < L.length := by subst hA; simp [std_add, std_sub, std_mul, std_quo, std_rem, std_band, std_bor, std_bxor, std_shl, std_shr, std_eq, std_ne, std_lt, std_le, std_conv, std_not, std_beq, std_bne, std_ite, std_want, std_and2, std_sadd, std_seq, std_sne, std_slt, std_sle, std_sgt, std_sge, std_slen, std_sget, std_scut, std_ofNat, std_toNat, std_nsub, std_nadd, std_lenOf, std_nz, std_nneg, std_inb, std_upto, std_slt63, std_grow, std_imp, std_impN, std_tr, std_tb, std_ti, std_ts, std_tn, std_tp, std_nmin, std_makes, std_room, std_zeros, std_nilq, std_notq, std_eqi, std_eqn, std_eqb, std_eqs, std_eqv, std_cat, std_lst, std_rset, std_rcopy, std_shift, std_eqr, std_strOf, std_bytesOf, std_isB] at h1; omega
      have hne : L.getD i [] ≠ M.getD i [] := by subst hA; simpa [-List.getD_eq_getElem?_getD, std_add, std_sub, std_mul, std_quo, std_rem, std_band, std_bor, std_bxor, std_shl, std_shr, std_eq, std_ne, std_lt, std_le, std_conv, std_not, std_beq, std_bne, std_ite, std_want, std_and2, std_sadd, std_seq, std_sne, std_slt, std_sle, std_sgt, std_sge, std_slen, std_sget, std_scut, std_ofNat, std_toNat, std_nsub, std_nadd, std_lenOf, std_nz, std_nneg, std_inb, std_upto, std_slt63, std_grow, std_imp, std_impN, std_tr, std_tb, std_ti, std_ts, std_tn, std_tp, std_nmin, std_makes, std_room, std_zeros, std_nilq, std_notq, std_eqi, std_eqn, std_eqb, std_eqs, std_eqv, std_cat, std_lst, std_rset, std_rcopy, std_shift, std_eqr, std_strOf, std_bytesOf, std_isB, strOf_row (Reps.lit _)] using hc
      have := lists_end fun e => hne ((lists_step ht hlt (by omega)).1 e)
      subst hA; simp [std_add, std_sub, std_mul, std_quo, std_rem, std_band, std_bor, std_bxor, std_shl, std_shr, std_eq, std_ne, std_lt, std_le, std_conv, std_not, std_beq, std_bne, std_ite, std_want, std_and2, std_sadd, std_seq, std_sne, std_slt, std_sle, std_sgt, std_sge, std_slen, std_sget, std_scut, std_ofNat, std_toNat, std_nsub, std_nadd, std_lenOf, std_nz, std_nneg, std_inb, std_upto, std_slt63, std_grow, std_imp, std_impN, std_tr, std_tb, std_ti, std_ts, std_tn, std_tp, std_nmin, std_makes, std_room, std_zeros, std_nilq, std_notq, std_eqi, std_eqn, std_eqb, std_eqs, std_eqv, std_cat, std_lst, std_rset, std_rcopy, std_shift, std_eqr, std_strOf, std_bytesOf, std_isB, this]
    · rename_i h1
      have hlt : i < L.length := by subst hA; simp [std_add, std_sub, std_mul, std_quo, std_rem, std_band, std_bor, std_bxor, std_shl, std_shr, std_eq, std_ne, std_lt, std_le, std_conv, std_not, std_beq, std_bne, std_ite, std_want, std_and2, std_sadd, std_seq, std_sne, std_slt, std_sle, std_sgt, std_sge, std_slen, std_sget, std_scut, std_ofNat, std_toNat, std_nsub, std_nadd, std_lenOf, std_nz, std_nneg, std_inb, std_upto, std_slt63, std_grow, std_imp, std_impN, std_tr, std_tb, std_ti, std_ts, std_tn, std_tp, std_nmin, std_makes, std_room, std_zeros, std_nilq, std_notq, std_eqi, std_eqn, std_eqb, std_eqs, std_eqv, std_cat, std_lst, std_rset, std_rcopy, std_shift, std_eqr, std_strOf, std_bytesOf, std_isB] at h1; omega
      have he : L.getD i [] = M.getD i [] := by subst hA; simpa [-List.getD_eq_getElem?_getD, std_add, std_sub, std_mul, std_quo, std_rem, std_band, std_bor, std_bxor, std_shl, std_shr, std_eq, std_ne, std_lt, std_le, std_conv, std_not, std_beq, std_bne, std_ite, std_want, std_and2, std_sadd, std_seq, std_sne, std_slt, std_sle, std_sgt, std_sge, std_slen, std_sget, std_scut, std_ofNat, std_toNat, std_nsub, std_nadd, std_lenOf, std_nz, std_nneg, std_inb, std_upto, std_slt63, std_grow, std_imp, std_impN, std_tr, std_tb, std_ti, std_ts, std_tn, std_tp, std_nmin, std_makes, std_room, std_zeros, std_nilq, std_notq, std_eqi, std_eqn, std_eqb, std_eqs, std_eqv, std_cat, std_lst, std_rset, std_rcopy, std_shift, std_eqr, std_strOf, std_bytesOf, std_isB, strOf_row (Reps.lit _)] using hc
      refine ⟨⟨i + 1, by omega, (lists_step ht hlt (by omega)).2 he⟩, ?_, show L.length - (i + 1) < L.length - i by omega⟩
      cbv
      subst hA
      simp [std_add, std_sub, std_mul, std_quo, std_rem, std_band, std_bor, std_bxor, std_shl, std_shr, std_eq, std_ne, std_lt, std_le, std_conv, std_not, std_beq, std_bne, std_ite, std_want, std_and2, std_sadd, std_seq, std_sne, std_slt, std_sle, std_sgt, std_sge, std_slen, std_sget, std_scut, std_ofNat, std_toNat, std_nsub, std_nadd, std_lenOf, std_nz, std_nneg, std_inb, std_upto, std_slt63, std_grow, std_imp, std_impN, std_tr, std_tb, std_ti, std_ts, std_tn, std_tp, std_nmin, std_makes, std_room, std_zeros, std_nilq, std_notq, std_eqi, std_eqn, std_eqb, std_eqs, std_eqv, std_cat, std_lst, std_rset, std_rcopy, std_shift, std_eqr, std_strOf, std_bytesOf, std_isB]
      exact w64 (by omega)
    · have : i = L.length := by subst hA; simp [std_add, std_sub, std_mul, std_quo, std_rem, std_band, std_bor, std_bxor, std_shl, std_shr, std_eq, std_ne, std_lt, std_le, std_conv, std_not, std_beq, std_bne, std_ite, std_want, std_and2, std_sadd, std_seq, std_sne, std_slt, std_sle, std_sgt, std_sge, std_slen, std_sget, std_scut, std_ofNat, std_toNat, std_nsub, std_nadd, std_lenOf, std_nz, std_nneg, std_inb, std_upto, std_slt63, std_grow, std_imp, std_impN, std_tr, std_tb, std_ti, std_ts, std_tn, std_tp, std_nmin, std_makes, std_room, std_zeros, std_nilq, std_notq, std_eqi, std_eqn, std_eqb, std_eqs, std_eqv, std_cat, std_lst, std_rset, std_rcopy, std_shift, std_eqr, std_strOf, std_bytesOf, std_isB] at hc; omega
      subst this
      have he : L = M := by rw [List.take_length, List.take_of_length_le (by omega)] at ht; exact ht
      subst hA; simp [std_add, std_sub, std_mul, std_quo, std_rem, std_band, std_bor, std_bxor, std_shl, std_shr, std_eq, std_ne, std_lt, std_le, std_conv, std_not, std_beq, std_bne, std_ite, std_want, std_and2, std_sadd, std_seq, std_sne, std_slt, std_sle, std_sgt, std_sge, std_slen, std_sget, std_scut, std_ofNat, std_toNat, std_nsub, std_nadd, std_lenOf, std_nz, std_nneg, std_inb, std_upto, std_slt63, std_grow, std_imp, std_impN, std_tr, std_tb, std_ti, std_ts, std_tn, std_tp, std_nmin, std_makes, std_room, std_zeros, std_nilq, std_notq, std_eqi, std_eqn, std_eqb, std_eqs, std_eqv, std_cat, std_lst, std_rset, std_rcopy, std_shift, std_eqr, std_strOf, std_bytesOf, std_isB, he]
noncomputable def c_qNew : Ct := fun A args => match args with
  | [.int .i64 r] => some (none, .tup [sQ A (A.ti fun _ => if rRoom r then r else 0) fun _ => [], .int .i64 (A.ti fun _ => if rRoom r then 0 else 1)])
  | _ => none
noncomputable def c_qPut : Ct := fun A args => match args with
  | [.agg [.int .i64 r, .slc n 1 f], .slc m 1 g] => some (some (A.tp fun _ => (isRow eBs [] 1 n f ∧ isRow eBs [] 1 m g) ∧ (n ≤ 1000000 ∧ bsList (lstOf eBs [] 1 n f)) ∧ m ≤ 1000000 ∧ bsList (lstOf eBs [] 1 m g)), .tup [sQ A r fun _ => qPutL r (lstOf eBs [] 1 n f) (lstOf eBs [] 1 m g), .int .i64 (A.ti fun _ => qPutE r (lstOf eBs [] 1 n f).length (lstOf eBs [] 1 m g).length)])
  | _ => none
noncomputable def c_qTake : Ct := fun A args => match args with
  | [.agg [.int .i64 r, .slc n 1 f]] => some (some (A.tp fun _ => isRow eBs [] 1 n f ∧ n ≤ 1000000 ∧ bsList (lstOf eBs [] 1 n f)), .tup [sQ A r fun _ => qTakeL r (lstOf eBs [] 1 n f), rowS eB 0 1 A fun _ => qTakeB r (lstOf eBs [] 1 n f), .int .i64 (A.ti fun _ => qTakeE r (lstOf eBs [] 1 n f))])
  | _ => none
noncomputable def c_rPut : Ct := fun A args => match args with
  | [.agg [.int .i64 r, .slc n 1 f], .slc m 1 g] => some (some (A.tp fun _ => (isRow eBs [] 1 n f ∧ isRow eBs [] 1 m g) ∧ n ≤ 1000000 ∧ m ≤ 1000000), .tup [sQ A r fun _ => qPutL r (lstOf eBs [] 1 n f) (lstOf eBs [] 1 m g), .int .i64 (A.ti fun _ => qPutE r (lstOf eBs [] 1 n f).length (lstOf eBs [] 1 m g).length)])
  | _ => none
noncomputable def c_rTake : Ct := fun A args => match args with
  | [.agg [.int .i64 r, .slc n 1 f]] => some (some (A.tp fun _ => isRow eBs [] 1 n f), .tup [sQ A r fun _ => qTakeL r (lstOf eBs [] 1 n f), rowS eB 0 1 A fun _ => qTakeB r (lstOf eBs [] 1 n f), .int .i64 (A.ti fun _ => qTakeE r (lstOf eBs [] 1 n f))])
  | _ => none
noncomputable def c_bLists : Ct := fun A args => match args with
  | [.slc n 1 f, .slc m 1 g] => some (some (A.tp fun _ => isRow eBs [] 1 n f ∧ isRow eBs [] 1 m g ∧ n ≤ 1000000), .bool (A.tb fun _ => decide (lstOf eBs [] 1 n f = lstOf eBs [] 1 m g)))
  | _ => none
noncomputable def gq6 : Ar → Pu := addC 9 c_qNew (addC 12 c_qPut (addC 14 c_qTake (addC 13 c_rPut (addC 15 c_rTake (addC 18 c_bLists (gq5))))))
theorem gq6_ok : PuOk Try.prog gl0 (gq6 std) := by
  refine addC_ok (addC_ok (addC_ok (addC_ok (addC_ok (addC_ok (gq5_ok) ⟨_, Try.func18, rfl, by decide⟩ ?_) ⟨_, Try.func15, rfl, by decide⟩ ?_) ⟨_, Try.func13, rfl, by decide⟩ ?_) ⟨_, Try.func14, rfl, by decide⟩ ?_) ⟨_, Try.func12, rfl, by decide⟩ ?_) ⟨_, Try.func9, rfl, by decide⟩ ?_
  · intro args p r h hp
    unfold c_bLists at h
    split at h <;> cases h
    exact good_sv (good_bLists _ _ (by rw [lstOf_length hp.1]; exact hp.2.2)) ⟨hp.1.sv, hp.2.1.sv, trivial⟩
  · intro args p r h hp
    unfold c_rTake at h
    split at h <;> cases h
    exact good_sv (good_rTake _ _) ⟨⟨_, rfl, rfl, hp.sv, trivial⟩, trivial⟩
  · intro args p r h hp
    unfold c_rPut at h
    split at h <;> cases h
    exact good_sv (good_rPut _ _ _ (by rw [lstOf_length hp.1.1]; exact hp.2.1) (by rw [lstOf_length hp.1.2]; exact hp.2.2)) ⟨⟨_, rfl, rfl, hp.1.1.sv, trivial⟩, hp.1.2.sv, trivial⟩
  · intro args p r h hp
    unfold c_qTake at h
    split at h <;> cases h
    exact good_sv (good_qTake _ _ (by rw [lstOf_length hp.1]; exact hp.2.1) hp.2.2) ⟨⟨_, rfl, rfl, hp.1.sv, trivial⟩, trivial⟩
  · intro args p r h hp
    unfold c_qPut at h
    split at h <;> cases h
    exact good_sv (good_qPut _ _ _ (by rw [lstOf_length hp.1.1]; exact hp.2.1.1) hp.2.1.2 (by rw [lstOf_length hp.1.2]; exact hp.2.2.1) hp.2.2.2) ⟨⟨_, rfl, rfl, hp.1.1.sv, trivial⟩, hp.1.2.sv, trivial⟩
  · intro args p r h hp
    unfold c_qNew at h
    split at h <;> cases h
    exact good_qNew _
end Go.Vd
