/- Copies. -/
import Derived.Test.YtpkpbmpfmglbaacVdQT
import Derived.Test.YtpkpbmpfmglbaacVdSimp
set_option linter.unusedVariables false
set_option linter.unusedSimpArgs false
set_option maxRecDepth 100000
set_option maxHeartbeats 1000000
namespace Go.Vd
open Go.Proofs
def bsList : List (List UInt8) → Prop := fun L => ∀ b ∈ L, b.length ≤ 1000000
theorem getD_len {L : List (List UInt8)} (h : bsList L) (i : Nat) : (L.getD i []).length ≤ 1000000 := by
  rw [List.getD_eq_getElem?_getD]
  rcases Nat.lt_or_ge i L.length with hi | hi
  · rw [List.getElem?_eq_getElem hi]
    exact h _ (List.getElem_mem hi)
  · rw [List.getElem?_eq_none hi]; simp
def rClone (A : Ar) (L : Unit → List UInt8) : SV := .frs 5 1 (A.tn fun _ => (L ()).length) (rowF eB 0 A L)
def rClones (A : Ar) (L : Unit → List (List UInt8)) : SV := .frs 35 1 (A.tn fun _ => (L ()).length) (rowF eBs [] A L)
theorem good_Clone (L : List UInt8) (hL : L.length ≤ 1000000) : GoodP Try.prog gl0 32 [rowS eB 0 1 std fun _ => L] (rClone std fun _ => L) := by
  refine fn_sound' (T := seatT) (G := noC) (X := noX) seatT_ok noC_ok noX_ok noI_ok mixed Try.func32 (.fresh 5 1) (fun A => [rowS eB 0 1 A fun _ => L]) (fun A => rClone A fun _ => L) fun A hA => ?_
  cbv
  repeat' (first | with_reducible exact True.intro | with_reducible exact dr_ok hA (by kernel_rfl) | with_reducible refine And.intro ?_ ?_ | (intro hc; cbv))
  all_goals (subst hA; simp only [std_add, std_sub, std_mul, std_quo, std_rem, std_band, std_bor, std_bxor, std_shl, std_shr, std_eq, std_ne, std_lt, std_le, std_conv, std_not, std_beq, std_bne, std_ite, std_want, std_and2, std_sadd, std_seq, std_sne, std_slt, std_sle, std_sgt, std_sge, std_slen, std_sget, std_scut, std_ofNat, std_toNat, std_nsub, std_nadd, std_lenOf, std_nz, std_nneg, std_inb, std_upto, std_slt63, std_grow, std_imp, std_impN, std_tr, std_tb, std_ti, std_ts, std_tn, std_tp, std_nmin, std_makes, std_room, std_zeros, std_nilq, std_notq, std_eqi, std_eqn, std_eqb, std_eqs, std_eqv, std_cat, std_lst, std_rset, std_rcopy, std_shift, std_eqr, std_strOf, std_bytesOf, std_isB] at *)
  all_goals first
    | omega
    | (constructor <;> omega)
    | (apply eqr_of; (focus (repeat' (first | with_reducible exact Reps.lit _ | with_reducible apply Reps.catE | exact Reps.nil | (simp; done) | omega))); (focus (first | (simp; done) | omega | rfl)); (focus (first | (simp; done) | rfl)))
    | (have := hc (by assumption); omega)
    | (have := hc (by assumption); exact eqr_of Reps.nil (by omega) (List.length_eq_zero_iff.1 this).symm)
theorem good_Clones (L : List (List UInt8)) (hL : L.length ≤ 1000000) : GoodP Try.prog gl0 37 [rowS eBs [] 1 std fun _ => L] (rClones std fun _ => L) := by
  refine fn_sound' (T := seatT) (G := noC) (X := noX) seatT_ok noC_ok noX_ok noI_ok mixed Try.func37 (.fresh 35 1) (fun A => [rowS eBs [] 1 A fun _ => L]) (fun A => rClones A fun _ => L) fun A hA => ?_
  cbv
  repeat' (first | with_reducible exact True.intro | with_reducible exact dr_ok hA (by kernel_rfl) | with_reducible refine And.intro ?_ ?_ | (intro hc; cbv))
  all_goals (subst hA; simp only [std_add, std_sub, std_mul, std_quo, std_rem, std_band, std_bor, std_bxor, std_shl, std_shr, std_eq, std_ne, std_lt, std_le, std_conv, std_not, std_beq, std_bne, std_ite, std_want, std_and2, std_sadd, std_seq, std_sne, std_slt, std_sle, std_sgt, std_sge, std_slen, std_sget, std_scut, std_ofNat, std_toNat, std_nsub, std_nadd, std_lenOf, std_nz, std_nneg, std_inb, std_upto, std_slt63, std_grow, std_imp, std_impN, std_tr, std_tb, std_ti, std_ts, std_tn, std_tp, std_nmin, std_makes, std_room, std_zeros, std_nilq, std_notq, std_eqi, std_eqn, std_eqb, std_eqs, std_eqv, std_cat, std_lst, std_rset, std_rcopy, std_shift, std_eqr, std_strOf, std_bytesOf, std_isB] at *)
  all_goals first
    | omega
    | (constructor <;> omega)
    | (apply eqr_of; (focus (repeat' (first | with_reducible exact Reps.lit _ | with_reducible apply Reps.catE | exact Reps.nil | (simp; done) | omega))); (focus (first | (simp; done) | omega | rfl)); (focus (first | (simp; done) | rfl)))
    | (have := hc (by assumption); omega)
    | (have := hc (by assumption); exact eqr_of Reps.nil (by omega) (List.length_eq_zero_iff.1 this).symm)
noncomputable def c_Clone : Ct := fun A args => match args with
  | [.slc n 1 f] => some (some (A.tp fun _ => isRow eB 0 1 n f ∧ n ≤ 1000000), rClone A fun _ => lstOf eB 0 1 n f)
  | _ => none
noncomputable def c_Clones : Ct := fun A args => match args with
  | [.slc n 1 f] => some (some (A.tp fun _ => isRow eBs [] 1 n f ∧ n ≤ 1000000), rClones A fun _ => lstOf eBs [] 1 n f)
  | _ => none
noncomputable def gq1 : Ar → Pu := addC 32 c_Clone (addC 37 c_Clones (noC))
theorem gq1_ok : PuOk Try.prog gl0 (gq1 std) := by
  refine addC_ok (addC_ok (noC_ok) ⟨_, Try.func37, rfl, by decide⟩ ?_) ⟨_, Try.func32, rfl, by decide⟩ ?_
  · intro args p r h hp
    unfold c_Clones at h
    split at h <;> cases h
    exact good_sv (good_Clones _ (by rw [lstOf_length hp.1]; exact hp.2)) ⟨hp.1.sv, trivial⟩
  · intro args p r h hp
    unfold c_Clone at h
    split at h <;> cases h
    exact good_sv (good_Clone _ (by rw [lstOf_length hp.1]; exact hp.2)) ⟨hp.1.sv, trivial⟩
def rLists (A : Ar) (L : Unit → List (List UInt8)) : SV := rClones A L
theorem good_Lists (L : List (List UInt8)) (hL : L.length ≤ 1000000) (hb : bsList L) : GoodP Try.prog gl0 36 [rowS eBs [] 1 std fun _ => L] (rLists std fun _ => L) := by
  refine fn_sound' (T := seatT) (G := gq1) (X := noX) seatT_ok gq1_ok noX_ok noI_ok mixed Try.func36 (.fresh 35 1) (fun A => [rowS eBs [] 1 A fun _ => L]) (fun A => rLists A fun _ => L) fun A hA => ?_
  cbv
  repeat' (first | with_reducible exact True.intro | with_reducible exact dr_ok hA (by kernel_rfl) | with_reducible refine And.intro ?_ ?_ | (intro hc; cbv))
  · subst hA; exact ⟨isRow_lit _, hL⟩
  simp only [lit_A hA inj_eB, lit_A hA inj_eZ, lit_A hA inj_eBs, lit_A hA inj_eS]
  refine ⟨⟨{i : Nat // i ≤ L.length}, fun b i => [(9, .int .i64 (i.1 : Nat)), (0, .own 2), (7, .own 2), (20, .any)], fun b i => [(2, .row 35 1 (A.tn fun _ => L.length) (rowF eBs [] A fun _ => L))], fun i => L.length - i.1, true⟩, ⟨⟨0, by omega⟩, ?_⟩, ?_⟩
  · cbv
    subst hA
    simp [std_add, std_sub, std_mul, std_quo, std_rem, std_band, std_bor, std_bxor, std_shl, std_shr, std_eq, std_ne, std_lt, std_le, std_conv, std_not, std_beq, std_bne, std_ite, std_want, std_and2, std_sadd, std_seq, std_sne, std_slt, std_sle, std_sgt, std_sge, std_slen, std_sget, std_scut, std_ofNat, std_toNat, std_nsub, std_nadd, std_lenOf, std_nz, std_nneg, std_inb, std_upto, std_slt63, std_grow, std_imp, std_impN, std_tr, std_tb, std_ti, std_ts, std_tn, std_tp, std_nmin, std_makes, std_room, std_zeros, std_nilq, std_notq, std_eqi, std_eqn, std_eqb, std_eqs, std_eqv, std_cat, std_lst, std_rset, std_rcopy, std_shift, std_eqr, std_strOf, std_bytesOf, std_isB]
  · rintro ⟨i, hi⟩
    cbv
    repeat' (first | with_reducible exact True.intro | with_reducible exact dr_ok hA (by kernel_rfl) | with_reducible refine And.intro ?_ ?_ | (intro hc; cbv))
    · subst hA; simp [std_add, std_sub, std_mul, std_quo, std_rem, std_band, std_bor, std_bxor, std_shl, std_shr, std_eq, std_ne, std_lt, std_le, std_conv, std_not, std_beq, std_bne, std_ite, std_want, std_and2, std_sadd, std_seq, std_sne, std_slt, std_sle, std_sgt, std_sge, std_slen, std_sget, std_scut, std_ofNat, std_toNat, std_nsub, std_nadd, std_lenOf, std_nz, std_nneg, std_inb, std_upto, std_slt63, std_grow, std_imp, std_impN, std_tr, std_tb, std_ti, std_ts, std_tn, std_tp, std_nmin, std_makes, std_room, std_zeros, std_nilq, std_notq, std_eqi, std_eqn, std_eqb, std_eqs, std_eqv, std_cat, std_lst, std_rset, std_rcopy, std_shift, std_eqr, std_strOf, std_bytesOf, std_isB] at hc ⊢; omega
    · subst hA
      exact ⟨isRow_lit _, getD_len hb _⟩
    · subst hA; simp [std_add, std_sub, std_mul, std_quo, std_rem, std_band, std_bor, std_bxor, std_shl, std_shr, std_eq, std_ne, std_lt, std_le, std_conv, std_not, std_beq, std_bne, std_ite, std_want, std_and2, std_sadd, std_seq, std_sne, std_slt, std_sle, std_sgt, std_sge, std_slen, std_sget, std_scut, std_ofNat, std_toNat, std_nsub, std_nadd, std_lenOf, std_nz, std_nneg, std_inb, std_upto, std_slt63, std_grow, std_imp, std_impN, std_tr, std_tb, std_ti, std_ts, std_tn, std_tp, std_nmin, std_makes, std_room, std_zeros, std_nilq, std_notq, std_eqi, std_eqn, std_eqb, std_eqs, std_eqv, std_cat, std_lst, std_rset, std_rcopy, std_shift, std_eqr, std_strOf, std_bytesOf, std_isB] at hc ⊢; omega
    · have hlt : i < L.length := by subst hA; simp [std_add, std_sub, std_mul, std_quo, std_rem, std_band, std_bor, std_bxor, std_shl, std_shr, std_eq, std_ne, std_lt, std_le, std_conv, std_not, std_beq, std_bne, std_ite, std_want, std_and2, std_sadd, std_seq, std_sne, std_slt, std_sle, std_sgt, std_sge, std_slen, std_sget, std_scut, std_ofNat, std_toNat, std_nsub, std_nadd, std_lenOf, std_nz, std_nneg, std_inb, std_upto, std_slt63, std_grow, std_imp, std_impN, std_tr, std_tb, std_ti, std_ts, std_tn, std_tp, std_nmin, std_makes, std_room, std_zeros, std_nilq, std_notq, std_eqi, std_eqn, std_eqb, std_eqs, std_eqv, std_cat, std_lst, std_rset, std_rcopy, std_shift, std_eqr, std_strOf, std_bytesOf, std_isB] at hc; omega
      refine ⟨⟨i + 1, by omega⟩, ?_, show L.length - (i + 1) < L.length - i by omega⟩
      cbv
      subst hA
      simp [-List.getD_eq_getElem?_getD, std_add, std_sub, std_mul, std_quo, std_rem, std_band, std_bor, std_bxor, std_shl, std_shr, std_eq, std_ne, std_lt, std_le, std_conv, std_not, std_beq, std_bne, std_ite, std_want, std_and2, std_sadd, std_seq, std_sne, std_slt, std_sle, std_sgt, std_sge, std_slen, std_sget, std_scut, std_ofNat, std_toNat, std_nsub, std_nadd, std_lenOf, std_nz, std_nneg, std_inb, std_upto, std_slt63, std_grow, std_imp, std_impN, std_tr, std_tb, std_ti, std_ts, std_tn, std_tp, std_nmin, std_makes, std_room, std_zeros, std_nilq, std_notq, std_eqi, std_eqn, std_eqb, std_eqs, std_eqv, std_cat, std_lst, std_rset, std_rcopy, std_shift, std_eqr, std_strOf, std_bytesOf, std_isB, lstOf_lit inj_eB]
      refine ⟨w64 (by omega), ?_⟩
      exact eqr_of (M := L.set i (L.getD i [])) (Reps.rset' (k := 1) (enc := eBs) (.lit L) hlt _ rfl (cell_eBs (.lit _))) rfl set_getD
    · have : i = L.length := by subst hA; simp [std_add, std_sub, std_mul, std_quo, std_rem, std_band, std_bor, std_bxor, std_shl, std_shr, std_eq, std_ne, std_lt, std_le, std_conv, std_not, std_beq, std_bne, std_ite, std_want, std_and2, std_sadd, std_seq, std_sne, std_slt, std_sle, std_sgt, std_sge, std_slen, std_sget, std_scut, std_ofNat, std_toNat, std_nsub, std_nadd, std_lenOf, std_nz, std_nneg, std_inb, std_upto, std_slt63, std_grow, std_imp, std_impN, std_tr, std_tb, std_ti, std_ts, std_tn, std_tp, std_nmin, std_makes, std_room, std_zeros, std_nilq, std_notq, std_eqi, std_eqn, std_eqb, std_eqs, std_eqv, std_cat, std_lst, std_rset, std_rcopy, std_shift, std_eqr, std_strOf, std_bytesOf, std_isB] at hc; omega
      subst hA this
      simp [std_add, std_sub, std_mul, std_quo, std_rem, std_band, std_bor, std_bxor, std_shl, std_shr, std_eq, std_ne, std_lt, std_le, std_conv, std_not, std_beq, std_bne, std_ite, std_want, std_and2, std_sadd, std_seq, std_sne, std_slt, std_sle, std_sgt, std_sge, std_slen, std_sget, std_scut, std_ofNat, std_toNat, std_nsub, std_nadd, std_lenOf, std_nz, std_nneg, std_inb, std_upto, std_slt63, std_grow, std_imp, std_impN, std_tr, std_tb, std_ti, std_ts, std_tn, std_tp, std_nmin, std_makes, std_room, std_zeros, std_nilq, std_notq, std_eqi, std_eqn, std_eqb, std_eqs, std_eqv, std_cat, std_lst, std_rset, std_rcopy, std_shift, std_eqr, std_strOf, std_bytesOf, std_isB]
    · subst hA
      simp [std_add, std_sub, std_mul, std_quo, std_rem, std_band, std_bor, std_bxor, std_shl, std_shr, std_eq, std_ne, std_lt, std_le, std_conv, std_not, std_beq, std_bne, std_ite, std_want, std_and2, std_sadd, std_seq, std_sne, std_slt, std_sle, std_sgt, std_sge, std_slen, std_sget, std_scut, std_ofNat, std_toNat, std_nsub, std_nadd, std_lenOf, std_nz, std_nneg, std_inb, std_upto, std_slt63, std_grow, std_imp, std_impN, std_tr, std_tb, std_ti, std_ts, std_tn, std_tp, std_nmin, std_makes, std_room, std_zeros, std_nilq, std_notq, std_eqi, std_eqn, std_eqb, std_eqs, std_eqv, std_cat, std_lst, std_rset, std_rcopy, std_shift, std_eqr, std_strOf, std_bytesOf, std_isB]
end Go.Vd
