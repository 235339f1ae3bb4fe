/- The wire's functions. -/
import Derived.Test.YtpkpbmpfmglbaacVdQ3
set_option linter.unusedVariables false
set_option linter.unusedSimpArgs false
set_option maxRecDepth 100000
set_option maxHeartbeats 2000000
namespace Go.Vd
open Go.Proofs
theorem good_CloneF (L : List UInt8) (hL : L.length ≤ 1000000) : GoodP Try.prog gl0 32 [rowS eB 0 1 std fun _ => L] (rowS eB 0 1 std fun _ => L) := by
  refine fn_sound' (T := seatT) (G := noC) (X := noX) seatT_ok noC_ok noX_ok noI_ok mixed Try.func32 (.none) (fun A => [rowS eB 0 1 A fun _ => L]) (fun A => rowS eB 0 1 A fun _ => L) fun A hA => ?_
  cbv
  repeat' (first | with_reducible exact True.intro | with_reducible exact dr_ok hA (by kernel_rfl) | with_reducible refine And.intro ?_ ?_ | (intro hc; cbv))
  all_goals (subst hA; simp only [std_add, std_sub, std_mul, std_quo, std_rem, std_band, std_bor, std_bxor, std_shl, std_shr, std_eq, std_ne, std_lt, std_le, std_conv, std_not, std_beq, std_bne, std_ite, std_want, std_and2, std_sadd, std_seq, std_sne, std_slt, std_sle, std_sgt, std_sge, std_slen, std_sget, std_scut, std_ofNat, std_toNat, std_nsub, std_nadd, std_lenOf, std_nz, std_nneg, std_inb, std_upto, std_slt63, std_grow, std_imp, std_impN, std_tr, std_tb, std_ti, std_ts, std_tn, std_tp, std_nmin, std_makes, std_room, std_zeros, std_nilq, std_notq, std_eqi, std_eqn, std_eqb, std_eqs, std_eqv, std_cat, std_lst, std_rset, std_rcopy, std_shift, std_eqr, std_strOf, std_bytesOf, std_isB] at *)
  all_goals first
    | omega
    | (constructor <;> omega)
    | (apply eqr_of; (focus (repeat' (first | with_reducible exact Reps.lit _ | with_reducible apply Reps.catE | exact Reps.nil | (simp; done) | omega))); (focus (first | (simp; done) | omega | rfl)); (focus (first | (simp; done) | rfl)))
    | (have := hc (by assumption); omega)
    | (have := hc (by assumption); exact eqr_of Reps.nil (by omega) (List.length_eq_zero_iff.1 this).symm)
noncomputable def c_CloneF : Ct := fun A args => match args with
  | [.slc n 1 f] => some (some (A.tp fun _ => isRow eB 0 1 n f ∧ n ≤ 1000000), rowS eB 0 1 A fun _ => lstOf eB 0 1 n f)
  | _ => none
noncomputable def gw1 : Ar → Pu := addC 32 c_CloneF (gq7)
theorem gw1_ok : PuOk Try.prog gl0 (gw1 std) := by
  refine addC_ok (gq7_ok) ⟨_, Try.func32, rfl, by decide⟩ ?_
  · intro args p r h hp
    unfold c_CloneF at h
    split at h <;> cases h
    exact good_sv (good_CloneF _ (by rw [lstOf_length hp.1]; exact hp.2)) ⟨hp.1.sv, trivial⟩
def sW (A : Ar) (L : Unit → List (List UInt8)) : SV := .agg [rowS eBs [] 1 A L]
def fW (A : Ar) (L : Unit → List (List UInt8)) : SV := .agg [rLists A L]
theorem good_fWire (L : List (List UInt8)) (hL : L.length ≤ 1000000) (hb : bsList L) : GoodP Try.prog gl0 31 [sW std fun _ => L] (fW std fun _ => L) := by
  refine fn_sound' (T := seatT) (G := gw1) (X := noX) seatT_ok gw1_ok noX_ok noI_ok mixed Try.func31 (.fresh 35 1) (fun A => [sW A fun _ => L]) (fun A => fW A fun _ => L) fun A hA => ?_
  cbv
  repeat' (first | with_reducible exact True.intro | with_reducible exact dr_ok hA (by kernel_rfl) | with_reducible refine And.intro ?_ ?_ | (intro hc; cbv))
  all_goals (subst hA; simp [-List.getD_eq_getElem?_getD, std_add, std_sub, std_mul, std_quo, std_rem, std_band, std_bor, std_bxor, std_shl, std_shr, std_eq, std_ne, std_lt, std_le, std_conv, std_not, std_beq, std_bne, std_ite, std_want, std_and2, std_sadd, std_seq, std_sne, std_slt, std_sle, std_sgt, std_sge, std_slen, std_sget, std_scut, std_ofNat, std_toNat, std_nsub, std_nadd, std_lenOf, std_nz, std_nneg, std_inb, std_upto, std_slt63, std_grow, std_imp, std_impN, std_tr, std_tb, std_ti, std_ts, std_tn, std_tp, std_nmin, std_makes, std_room, std_zeros, std_nilq, std_notq, std_eqi, std_eqn, std_eqb, std_eqs, std_eqv, std_cat, std_lst, std_rset, std_rcopy, std_shift, std_eqr, std_strOf, std_bytesOf, std_isB])
  · exact ⟨isRow_lit _, hL, by rw [lstOf_lit inj_eBs]; exact hb⟩
  · rw [lstOf_lit inj_eBs]
  · rw [lstOf_lit inj_eBs]; simp
theorem good_wRight (L : List (List UInt8)) : GoodP Try.prog gl0 26 [sW std fun _ => L] (.bool (std.tb fun _ => decide (L.length ≤ 200))) := by
  refine fn_sound' (T := seatT) (G := gw1) (X := noX) seatT_ok gw1_ok noX_ok noI_ok mixed Try.func26 (.one) (fun A => [sW A fun _ => L]) (fun A => .bool (A.tb fun _ => decide (L.length ≤ 200))) fun A hA => ?_
  cbv
  repeat' (first | with_reducible exact True.intro | with_reducible exact dr_ok hA (by kernel_rfl) | with_reducible refine And.intro ?_ ?_ | (intro hc; cbv))
  all_goals (subst hA; simp [-List.getD_eq_getElem?_getD, std_add, std_sub, std_mul, std_quo, std_rem, std_band, std_bor, std_bxor, std_shl, std_shr, std_eq, std_ne, std_lt, std_le, std_conv, std_not, std_beq, std_bne, std_ite, std_want, std_and2, std_sadd, std_seq, std_sne, std_slt, std_sle, std_sgt, std_sge, std_slen, std_sget, std_scut, std_ofNat, std_toNat, std_nsub, std_nadd, std_lenOf, std_nz, std_nneg, std_inb, std_upto, std_slt63, std_grow, std_imp, std_impN, std_tr, std_tb, std_ti, std_ts, std_tn, std_tp, std_nmin, std_makes, std_room, std_zeros, std_nilq, std_notq, std_eqi, std_eqn, std_eqb, std_eqs, std_eqv, std_cat, std_lst, std_rset, std_rcopy, std_shift, std_eqr, std_strOf, std_bytesOf, std_isB])
  omega
noncomputable def c_fWire : Ct := fun A args => match args with
  | [.agg [.slc n 1 f]] => some (some (A.tp fun _ => isRow eBs [] 1 n f ∧ n ≤ 1000000 ∧ bsList (lstOf eBs [] 1 n f)), fW A fun _ => lstOf eBs [] 1 n f)
  | _ => none
noncomputable def c_wRight : Ct := fun A args => match args with
  | [.agg [.slc n 1 f]] => some (some (A.tp fun _ => isRow eBs [] 1 n f), .bool (A.tb fun _ => decide ((lstOf eBs [] 1 n f).length ≤ 200)))
  | _ => none
noncomputable def gw2 : Ar → Pu := addC 31 c_fWire (addC 26 c_wRight (gw1))
theorem gw2_ok : PuOk Try.prog gl0 (gw2 std) := by
  refine addC_ok (addC_ok (gw1_ok) ⟨_, Try.func26, rfl, by decide⟩ ?_) ⟨_, Try.func31, rfl, by decide⟩ ?_
  · intro args p r h hp
    unfold c_wRight at h
    split at h <;> cases h
    exact good_sv (good_wRight _) ⟨⟨_, rfl, hp.sv, trivial⟩, trivial⟩
  · intro args p r h hp
    unfold c_fWire at h
    split at h <;> cases h
    exact good_sv (good_fWire _ (by rw [lstOf_length hp.1]; exact hp.2.1) hp.2.2) ⟨⟨_, rfl, hp.1.sv, trivial⟩, trivial⟩
def wPutL (L : List (List UInt8)) (b : List UInt8) : List (List UInt8) := if L.length < 200 then L ++ [b] else L
def wPutE (n : Nat) : Int := if 200 < n then 1 else if n = 200 then 7 else 0
def wErr (n : Nat) (at_ : Int) : Int := if 200 < n ∨ at_ < 0 then 1 else if n = 0 then 5 else 0
def wAt (n : Nat) (at_ : Int) : Nat := (at_.tmod n).toNat
theorem wErr_ok {n : Nat} {z : Int} (h : wErr n z = 0) : n ≤ 200 ∧ 0 ≤ z ∧ 0 < n := by
  unfold wErr at h
  split at h
  · cases h
  · split at h
    · cases h
    · omega
theorem wErr_1 {n : Nat} {z : Int} (h : 200 < (n : Int) ∨ z < 0) : wErr n z = 1 := by unfold wErr; exact if_pos (by omega)
theorem wErr_5 {n : Nat} {z : Int} (h : (n : Int) ≤ 200 ∧ 0 ≤ z) (h0 : n = 0) : wErr n z = 5 := by unfold wErr; rw [if_neg (by omega), if_pos h0]
theorem wErr_0 {n : Nat} {z : Int} (h : (n : Int) ≤ 200 ∧ 0 ≤ z) (h0 : 0 < n) : wErr n z = 0 := by unfold wErr; rw [if_neg (by omega), if_neg (by omega)]
theorem wPutL_no {L : List (List UInt8)} {b : List UInt8} (h : 200 ≤ L.length) : wPutL L b = L := if_neg (by omega)
theorem wPutL_yes {L : List (List UInt8)} {b : List UInt8} (h : L.length < 200) : wPutL L b = L ++ [b] := if_pos h
theorem wAt_lt {n : Nat} {z : Int} (h : 0 < n) (hz : 0 ≤ z) : wAt n z < n ∧ (wAt n z : Int) = z.tmod n := by
  have h1 := Int.tmod_nonneg (n : Int) hz
  have h2 := Int.tmod_lt_of_pos z (show (0 : Int) < n by omega)
  unfold wAt
  omega
theorem good_wplace (z : Int) (L : List (List UInt8)) : GoodP Try.prog gl0 33 [sW std fun _ => L, .int .i64 z] (.tup [.int .i64 (std.ti fun _ => if wErr L.length z = 0 then z.tmod L.length else 0), .int .i64 (std.ti fun _ => wErr L.length z)]) := by
  refine fn_sound' (T := seatT) (G := gw2) (X := noX) seatT_ok gw2_ok noX_ok noI_ok mixed Try.func33 (.one) (fun A => [sW A fun _ => L, .int .i64 z]) (fun A => .tup [.int .i64 (A.ti fun _ => if wErr L.length z = 0 then z.tmod L.length else 0), .int .i64 (A.ti fun _ => wErr L.length z)]) fun A hA => ?_
  cbv
  repeat' (first | with_reducible exact True.intro | with_reducible exact dr_ok hA (by kernel_rfl) | with_reducible refine And.intro ?_ ?_ | (intro hc; cbv))
  all_goals (subst hA; simp [-List.getD_eq_getElem?_getD, std_add, std_sub, std_mul, std_quo, std_rem, std_band, std_bor, std_bxor, std_shl, std_shr, std_eq, std_ne, std_lt, std_le, std_conv, std_not, std_beq, std_bne, std_ite, std_want, std_and2, std_sadd, std_seq, std_sne, std_slt, std_sle, std_sgt, std_sge, std_slen, std_sget, std_scut, std_ofNat, std_toNat, std_nsub, std_nadd, std_lenOf, std_nz, std_nneg, std_inb, std_upto, std_slt63, std_grow, std_imp, std_impN, std_tr, std_tb, std_ti, std_ts, std_tn, std_tp, std_nmin, std_makes, std_room, std_zeros, std_nilq, std_notq, std_eqi, std_eqn, std_eqb, std_eqs, std_eqv, std_cat, std_lst, std_rset, std_rcopy, std_shift, std_eqr, std_strOf, std_bytesOf, std_isB, strOf_lit, lstOf_lit inj_eB, lstOf_lit inj_eZ, lstOf_lit inj_eBs, lstOf_lit inj_eS, isRow_lit, isB_lit, isRow_nil, lstOf_nil inj_eB, lstOf_nil inj_eZ, lstOf_nil inj_eBs, lstOf_nil inj_eS] at *)
  all_goals (try (have h0 := List.length_pos_iff.2 hc))
  all_goals (try (have h0 : L.length = 0 := by rw [hc]; rfl))
  all_goals first
    | assumption
    | exact (wErr_1 (by omega)).symm
    | exact (wErr_5 (by omega) h0).symm
    | exact (wErr_0 (by omega) h0).symm
    | exact fun h => absurd (wErr_ok h) (by omega)
    | exact fun h => absurd (wErr_0 (by omega) h0) h
theorem good_wwrong (z : Int) (L : List (List UInt8)) : GoodP Try.prog gl0 35 [sW std fun _ => L, .int .i64 z] (.int .i64 (std.ti fun _ => wErr L.length z)) := by
  refine fn_sound' (T := seatT) (G := gw2) (X := noX) seatT_ok gw2_ok noX_ok noI_ok mixed Try.func35 (.one) (fun A => [sW A fun _ => L, .int .i64 z]) (fun A => .int .i64 (A.ti fun _ => wErr L.length z)) fun A hA => ?_
  cbv
  repeat' (first | with_reducible exact True.intro | with_reducible exact dr_ok hA (by kernel_rfl) | with_reducible refine And.intro ?_ ?_ | (intro hc; cbv))
  all_goals (subst hA; simp [-List.getD_eq_getElem?_getD, std_add, std_sub, std_mul, std_quo, std_rem, std_band, std_bor, std_bxor, std_shl, std_shr, std_eq, std_ne, std_lt, std_le, std_conv, std_not, std_beq, std_bne, std_ite, std_want, std_and2, std_sadd, std_seq, std_sne, std_slt, std_sle, std_sgt, std_sge, std_slen, std_sget, std_scut, std_ofNat, std_toNat, std_nsub, std_nadd, std_lenOf, std_nz, std_nneg, std_inb, std_upto, std_slt63, std_grow, std_imp, std_impN, std_tr, std_tb, std_ti, std_ts, std_tn, std_tp, std_nmin, std_makes, std_room, std_zeros, std_nilq, std_notq, std_eqi, std_eqn, std_eqb, std_eqs, std_eqv, std_cat, std_lst, std_rset, std_rcopy, std_shift, std_eqr, std_strOf, std_bytesOf, std_isB, strOf_lit, lstOf_lit inj_eB, lstOf_lit inj_eZ, lstOf_lit inj_eBs, lstOf_lit inj_eS, isRow_lit, isB_lit, isRow_nil, lstOf_nil inj_eB, lstOf_nil inj_eZ, lstOf_nil inj_eBs, lstOf_nil inj_eS] at *)
  all_goals (try (have h0 := List.length_pos_iff.2 hc))
  all_goals (try (have h0 : L.length = 0 := by rw [hc]; rfl))
  all_goals first
    | assumption
    | exact (wErr_1 (by omega)).symm
    | exact (wErr_5 (by omega) h0).symm
    | exact (wErr_0 (by omega) h0).symm
    | exact fun h => absurd (wErr_ok h) (by omega)
    | exact fun h => absurd (wErr_0 (by omega) h0) h
theorem good_wPut (L : List (List UInt8)) (b : List UInt8) (hL : L.length ≤ 1000000) (hb : bsList L) (hB : b.length ≤ 1000000) : GoodP Try.prog gl0 20 [sW std fun _ => L, rowS eB 0 1 std fun _ => b] (.tup [sW std fun _ => wPutL L b, .int .i64 (std.ti fun _ => wPutE L.length)]) := by
  refine fn_sound' (T := seatT) (G := gw2) (X := noX) seatT_ok gw2_ok noX_ok noI_ok mixed Try.func20 (.none) (fun A => [sW A fun _ => L, rowS eB 0 1 A fun _ => b]) (fun A => .tup [sW A fun _ => wPutL L b, .int .i64 (A.ti fun _ => wPutE L.length)]) fun A hA => ?_
  cbv
  repeat' (first | with_reducible exact True.intro | with_reducible exact dr_ok hA (by kernel_rfl) | with_reducible refine And.intro ?_ ?_ | (intro hc; cbv))
  all_goals (subst hA; simp [-List.getD_eq_getElem?_getD, std_add, std_sub, std_mul, std_quo, std_rem, std_band, std_bor, std_bxor, std_shl, std_shr, std_eq, std_ne, std_lt, std_le, std_conv, std_not, std_beq, std_bne, std_ite, std_want, std_and2, std_sadd, std_seq, std_sne, std_slt, std_sle, std_sgt, std_sge, std_slen, std_sget, std_scut, std_ofNat, std_toNat, std_nsub, std_nadd, std_lenOf, std_nz, std_nneg, std_inb, std_upto, std_slt63, std_grow, std_imp, std_impN, std_tr, std_tb, std_ti, std_ts, std_tn, std_tp, std_nmin, std_makes, std_room, std_zeros, std_nilq, std_notq, std_eqi, std_eqn, std_eqb, std_eqs, std_eqv, std_cat, std_lst, std_rset, std_rcopy, std_shift, std_eqr, std_strOf, std_bytesOf, std_isB, strOf_lit, lstOf_lit inj_eB, lstOf_lit inj_eZ, lstOf_lit inj_eBs, lstOf_lit inj_eS, isRow_lit, isB_lit, isRow_nil, lstOf_nil inj_eB, lstOf_nil inj_eZ, lstOf_nil inj_eBs, lstOf_nil inj_eS] at *)
  all_goals first
    | exact ⟨hL, hb⟩
    | exact hB
    | omega
    | (constructor <;> omega)
    | (unfold wPutE; repeat' split) <;> omega
    | (rw [wPutL_no (by omega)]; (exact (Reps.lit L).eqr))
    | (rw [wPutL_no (by omega)])
    | (rw [wPutL_yes (by omega)]; (simp; done))
    | (rw [wPutL_yes (by omega)]; (exact snoc_row rfl (cell_eBs (.lit _)) rfl (by simp)))
    | (rw [wPutL_yes (by omega)]; (exact eqr_of (Reps.catE (Reps.catE Reps.nil (Reps.lit L) rfl) (Reps.one (cell_eBs (.lit _))) (by omega)) (by simp) (by simp)))
theorem good_rwPut (L : List (List UInt8)) (b : List UInt8) (hL : L.length ≤ 1000000) : GoodP Try.prog gl0 21 [sW std fun _ => L, rowS eB 0 1 std fun _ => b] (.tup [sW std fun _ => wPutL L b, .int .i64 (std.ti fun _ => wPutE L.length)]) := by
  refine fn_sound' (T := seatT) (G := gw2) (X := noX) seatT_ok gw2_ok noX_ok noI_ok mixed Try.func21 (.none) (fun A => [sW A fun _ => L, rowS eB 0 1 A fun _ => b]) (fun A => .tup [sW A fun _ => wPutL L b, .int .i64 (A.ti fun _ => wPutE L.length)]) fun A hA => ?_
  cbv
  repeat' (first | with_reducible exact True.intro | with_reducible exact dr_ok hA (by kernel_rfl) | with_reducible refine And.intro ?_ ?_ | (intro hc; cbv))
  all_goals (subst hA; simp [-List.getD_eq_getElem?_getD, std_add, std_sub, std_mul, std_quo, std_rem, std_band, std_bor, std_bxor, std_shl, std_shr, std_eq, std_ne, std_lt, std_le, std_conv, std_not, std_beq, std_bne, std_ite, std_want, std_and2, std_sadd, std_seq, std_sne, std_slt, std_sle, std_sgt, std_sge, std_slen, std_sget, std_scut, std_ofNat, std_toNat, std_nsub, std_nadd, std_lenOf, std_nz, std_nneg, std_inb, std_upto, std_slt63, std_grow, std_imp, std_impN, std_tr, std_tb, std_ti, std_ts, std_tn, std_tp, std_nmin, std_makes, std_room, std_zeros, std_nilq, std_notq, std_eqi, std_eqn, std_eqb, std_eqs, std_eqv, std_cat, std_lst, std_rset, std_rcopy, std_shift, std_eqr, std_strOf, std_bytesOf, std_isB, strOf_lit, lstOf_lit inj_eB, lstOf_lit inj_eZ, lstOf_lit inj_eBs, lstOf_lit inj_eS, isRow_lit, isB_lit, isRow_nil, lstOf_nil inj_eB, lstOf_nil inj_eZ, lstOf_nil inj_eBs, lstOf_nil inj_eS] at *)
  all_goals first
    | exact ⟨hL, hb⟩
    | exact hB
    | omega
    | (constructor <;> omega)
    | (unfold wPutE; repeat' split) <;> omega
    | (rw [wPutL_no (by omega)]; (exact (Reps.lit L).eqr))
    | (rw [wPutL_no (by omega)])
    | (rw [wPutL_yes (by omega)]; (simp; done))
    | (rw [wPutL_yes (by omega)]; (exact snoc_row rfl (cell_eBs (.lit _)) rfl (by simp)))
    | (rw [wPutL_yes (by omega)]; (exact eqr_of (Reps.catE (Reps.catE Reps.nil (Reps.lit L) rfl) (Reps.one (cell_eBs (.lit _))) (by omega)) (by simp) (by simp)))
end Go.Vd
