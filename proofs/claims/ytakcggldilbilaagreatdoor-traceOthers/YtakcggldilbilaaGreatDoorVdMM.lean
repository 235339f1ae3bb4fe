/- Messages and deals: whether they are right. -/
import Derived.Test.YtakcggldilbilaaGreatDoorVdH9
import Derived.Test.YtakcggldilbilaaGreatDoorVdKM
import Derived.Test.YtakcggldilbilaaGreatDoorVdEnc
import Derived.Test.YtakcggldilbilaaGreatDoorVdSimp
set_option linter.unusedVariables false
set_option linter.unusedSimpArgs false
set_option maxRecDepth 100000
set_option maxHeartbeats 4000000
namespace Go.Vd
open Go.Proofs
abbrev It := Int × List UInt8
def eI : En It := fun A x => [.int .i64 (A.ti fun _ => (x ()).1), .str (A.ts fun _ => (x ()).2)]
theorem inj_eI : Inj eI 2 := fun x y h => by
  obtain ⟨s, h1, h2⟩ := h 0 (by omega)
  obtain ⟨t, h3, h4⟩ := h 1 (by omega)
  have h1 : Ceq s (.int .i64 x.1) := h1
  have h2 : Ceq s (.int .i64 y.1) := h2
  have h3 : Ceq t (.str x.2) := h3
  have h4 : Ceq t (.str y.2) := h4
  rw [Ceq.int] at h1 h2
  rw [Ceq.str] at h3 h4
  subst h1 h3
  injection h2 with _ h2
  injection h4 with h4
  exact Prod.ext h2 h4
theorem cell_eI (z : Int) (s : List UInt8) : ∀ j, j < 2 → Ceq (getAt [SV.int .i64 z, SV.str s] j) (getAt (eI std fun _ => (z, s)) j) := by
  intro j hj
  rcases (show j = 0 ∨ j = 1 by omega) with rfl | rfl
  · exact .refl _
  · exact .refl _
def mT (s : List UInt8) : Bool := [[48, 49, 48, 48], [48, 49, 49, 48], [48, 52, 48, 48], [48, 52, 49, 48], [48, 52, 50, 48], [48, 52, 50, 49], [48, 52, 51, 48]].contains s
def mOk (L : List It) (i : Nat) : Bool := (i == 0 || decide ((L.getD (i - 1) (0, [])).1 < (L.getD i (0, [])).1)) && rr (L.getD i (0, [])).1 (L.getD i (0, [])).2
def mUp (L : List It) (k : Nat) : Bool := (List.range k).all (mOk L)
def mR (T : List UInt8) (L : List It) : Bool := mT T && (!L.isEmpty && mUp L L.length)
theorem mUp_succ (L : List It) (k : Nat) : mUp L (k + 1) = (mUp L k && mOk L k) := by
  unfold mUp; rw [List.range_succ, List.all_append]; simp
theorem mUp_false {L : List It} {i : Nat} (hi : i < L.length) (h : mOk L i = false) : mUp L L.length = false := by
  unfold mUp
  rw [List.all_eq_false]
  exact ⟨i, List.mem_range.2 hi, by rw [h]; simp⟩
theorem mR_false {T : List UInt8} {L : List It} {i : Nat} (hi : i < L.length) (h : mOk L i = false) : mR T L = false := by
  unfold mR; rw [mUp_false hi h]; simp
theorem mR_head {T : List UInt8} {L : List It} (h : mT T = false ∨ L = []) : mR T L = false := by
  unfold mR
  rcases h with h | h
  · rw [h]; rfl
  · subst h; simp
theorem mOk_lo {L : List It} {i : Nat} (h0 : 0 < i) (h : (L.getD i (0, [])).1 ≤ (L.getD (i - 1) (0, [])).1) : mOk L i = false := by
  unfold mOk
  rw [decide_eq_false (by omega), show (i == 0) = false by (rw [beq_eq_false_iff_ne]; omega)]
  rfl
theorem mOk_rr {L : List It} {i : Nat} (h : rr (L.getD i (0, [])).1 (L.getD i (0, [])).2 = false) : mOk L i = false := by
  unfold mOk; rw [h]; simp
theorem mOk_yes {L : List It} {i : Nat} (h0 : 0 < i → (L.getD (i - 1) (0, [])).1 < (L.getD i (0, [])).1) (h : rr (L.getD i (0, [])).1 (L.getD i (0, [])).2 = true) : mOk L i = true := by
  unfold mOk
  rw [h]
  rcases Nat.eq_zero_or_pos i with h1 | h1
  · subst h1; rfl
  · rw [decide_eq_true (h0 h1)]; simp
theorem wm1 {i : Nat} (h : 0 < i) (h1 : i ≤ 1000000) : IntKind.i64.wrap ((i : Int) - 1) = ((i - 1 : Nat) : Int) := (w64 (by omega)).trans (by omega)
theorem mR_true {T : List UInt8} {L : List It} (h1 : mT T = true) (h2 : ¬L = []) (h3 : mUp L L.length = true) : mR T L = true := by
  unfold mR; rw [h1, h3]; cases L with
  | nil => exact absurd rfl h2
  | cons a l => rfl
theorem good_mIsT (s : List UInt8) : GoodP Tryz.prog gl0 83 [.str s] (.bool (std.tb fun _ => mT s)) := by
  refine fn_sound' (T := seatT) (G := noC) (X := noX) seatT_ok noC_ok noX_ok noI_ok mixed Tryz.func83 (.one) (fun A => [.str s]) (fun A => .bool (A.tb fun _ => mT s)) fun A hA => ?_
  cbv
  repeat' (first | with_reducible exact True.intro | with_reducible exact dr_ok hA (by kernel_rfl) | with_reducible refine And.intro ?_ ?_ | (intro hc; cbv))
  all_goals (subst hA; simp [std_add, std_sub, std_mul, std_quo, std_rem, std_band, std_bor, std_bxor, std_shl, std_shr, std_eq, std_ne, std_lt, std_le, std_conv, std_not, std_beq, std_bne, std_ite, std_want, std_and2, std_sadd, std_seq, std_sne, std_slt, std_sle, std_sgt, std_sge, std_slen, std_sget, std_scut, std_ofNat, std_toNat, std_nsub, std_nadd, std_lenOf, std_nz, std_nneg, std_inb, std_upto, std_slt63, std_grow, std_imp, std_impN, std_tr, std_tb, std_ti, std_ts, std_tn, std_tp, std_nmin, std_makes, std_room, std_zeros, std_nilq, std_notq, std_eqi, std_eqn, std_eqb, std_eqs, std_eqv, std_cat, std_lst, std_rset, std_rcopy, std_shift, std_eqr, std_strOf, std_bytesOf, std_isB, std_zOf, zOf_int, std_isI, isI_int, std_getL, std_nmul, std_sOf, sOf_str, std_isS, isS_str, std_fadd, std_fsub, std_fav, std_fsv, std_feq, std_fne, std_flt, std_fle, std_fgt, std_fge, std_fOf, std_fTo, std_fTv] at *)
  all_goals first | contradiction | (simp [mT, *]; done) | (subst_vars; decide)
noncomputable def c_mIsT : Ct := fun A args => match args with
  | [.str s] => some (none, .bool (A.tb fun _ => mT s))
  | _ => none
noncomputable def c_mgRight : Ct := fun A args => match args with
  | [.int .i64 n, .str r] => some (some (A.tp fun _ => r.length ≤ 1000000), .bool (A.tb fun _ => rr n r))
  | _ => none
noncomputable def gm0 : Ar → Pu := addC 83 c_mIsT (addC 106 c_mgRight (gh2))
theorem gm0_ok : PuOk Tryz.prog gl0 (gm0 std) := by
  refine addC_ok (addC_ok (gh2_ok) ⟨_, Tryz.func106, rfl, by decide⟩ ?_) ⟨_, Tryz.func83, rfl, by decide⟩ ?_
  · intro args p r h hp
    unfold c_mgRight at h
    split at h <;> cases h
    exact good_gRight _ _ hp
  · intro args p r h hp
    unfold c_mIsT at h
    split at h <;> cases h
    exact good_mIsT _
theorem good_mRight (T : List UInt8) (L : List It) (hL : L.length ≤ 1000000) (hS : ∀ i, (L.getD i (0, [])).2.length ≤ 1000000) : GoodP Tryz.prog gl0 55 [.agg [.str T, rowS eI (0, []) 2 std fun _ => L]] (.bool (std.tb fun _ => mR T L)) := by
  refine fn_sound' (T := seatT) (G := gm0) (X := noX) seatT_ok gm0_ok noX_ok noI_ok mixed Tryz.func55 (.one) (fun A => [.agg [.str T, rowS eI (0, []) 2 A fun _ => L]]) (fun A => .bool (A.tb fun _ => mR T L)) fun A hA => ?_
  cbv
  repeat' (first | with_reducible exact True.intro | with_reducible exact dr_ok hA (by kernel_rfl) | with_reducible refine And.intro ?_ ?_ | (intro hc; cbv))
  rotate_right
  all_goals first
    | (fail_if_success (refine Exists.intro ?_ ?_)
       subst hA
       simp [std_add, std_sub, std_mul, std_quo, std_rem, std_band, std_bor, std_bxor, std_shl, std_shr, std_eq, std_ne, std_lt, std_le, std_conv, std_not, std_beq, std_bne, std_ite, std_want, std_and2, std_sadd, std_seq, std_sne, std_slt, std_sle, std_sgt, std_sge, std_slen, std_sget, std_scut, std_ofNat, std_toNat, std_nsub, std_nadd, std_lenOf, std_nz, std_nneg, std_inb, std_upto, std_slt63, std_grow, std_imp, std_impN, std_tr, std_tb, std_ti, std_ts, std_tn, std_tp, std_nmin, std_makes, std_room, std_zeros, std_nilq, std_notq, std_eqi, std_eqn, std_eqb, std_eqs, std_eqv, std_cat, std_lst, std_rset, std_rcopy, std_shift, std_eqr, std_strOf, std_bytesOf, std_isB, std_zOf, zOf_int, std_isI, isI_int, std_getL, std_nmul, std_sOf, sOf_str, std_isS, isS_str, std_fadd, std_fsub, std_fav, std_fsv, std_feq, std_fne, std_flt, std_fle, std_fgt, std_fge, std_fOf, std_fTo, std_fTv] at *
       done)
    | (fail_if_success (refine Exists.intro ?_ ?_)
       subst hA
       simp [std_add, std_sub, std_mul, std_quo, std_rem, std_band, std_bor, std_bxor, std_shl, std_shr, std_eq, std_ne, std_lt, std_le, std_conv, std_not, std_beq, std_bne, std_ite, std_want, std_and2, std_sadd, std_seq, std_sne, std_slt, std_sle, std_sgt, std_sge, std_slen, std_sget, std_scut, std_ofNat, std_toNat, std_nsub, std_nadd, std_lenOf, std_nz, std_nneg, std_inb, std_upto, std_slt63, std_grow, std_imp, std_impN, std_tr, std_tb, std_ti, std_ts, std_tn, std_tp, std_nmin, std_makes, std_room, std_zeros, std_nilq, std_notq, std_eqi, std_eqn, std_eqb, std_eqs, std_eqv, std_cat, std_lst, std_rset, std_rcopy, std_shift, std_eqr, std_strOf, std_bytesOf, std_isB, std_zOf, zOf_int, std_isI, isI_int, std_getL, std_nmul, std_sOf, sOf_str, std_isS, isS_str, std_fadd, std_fsub, std_fav, std_fsv, std_feq, std_fne, std_flt, std_fle, std_fgt, std_fge, std_fOf, std_fTo, std_fTv] at *
       first
         | omega
         | exact (mR_head (by first | assumption | exact .inl (by assumption) | exact .inr (by assumption))).symm
         | exact mR_head (by first | assumption | exact .inl (by assumption) | exact .inr (by assumption))
         | trace_state)
    | skip
  have h0 : mT T = true ∧ ¬L = [] := by
    subst hA
    simp [std_add, std_sub, std_mul, std_quo, std_rem, std_band, std_bor, std_bxor, std_shl, std_shr, std_eq, std_ne, std_lt, std_le, std_conv, std_not, std_beq, std_bne, std_ite, std_want, std_and2, std_sadd, std_seq, std_sne, std_slt, std_sle, std_sgt, std_sge, std_slen, std_sget, std_scut, std_ofNat, std_toNat, std_nsub, std_nadd, std_lenOf, std_nz, std_nneg, std_inb, std_upto, std_slt63, std_grow, std_imp, std_impN, std_tr, std_tb, std_ti, std_ts, std_tn, std_tp, std_nmin, std_makes, std_room, std_zeros, std_nilq, std_notq, std_eqi, std_eqn, std_eqb, std_eqs, std_eqv, std_cat, std_lst, std_rset, std_rcopy, std_shift, std_eqr, std_strOf, std_bytesOf, std_isB, std_zOf, zOf_int, std_isI, isI_int, std_getL, std_nmul, std_sOf, sOf_str, std_isS, isS_str, std_fadd, std_fsub, std_fav, std_fsv, std_feq, std_fne, std_flt, std_fle, std_fgt, std_fge, std_fOf, std_fTo, std_fTv] at hc
    exact hc
  refine ⟨⟨{i : Nat // i ≤ L.length ∧ mUp L i = true}, fun b i => [(18, .int .i64 (i.1 : Nat))], fun b i => [], fun i => L.length - i.1, true⟩, ⟨⟨0, by omega, rfl⟩, ?_⟩, ?_⟩
  · cbv
    subst hA
    simp [-List.getD_eq_getElem?_getD, std_add, std_sub, std_mul, std_quo, std_rem, std_band, std_bor, std_bxor, std_shl, std_shr, std_eq, std_ne, std_lt, std_le, std_conv, std_not, std_beq, std_bne, std_ite, std_want, std_and2, std_sadd, std_seq, std_sne, std_slt, std_sle, std_sgt, std_sge, std_slen, std_sget, std_scut, std_ofNat, std_toNat, std_nsub, std_nadd, std_lenOf, std_nz, std_nneg, std_inb, std_upto, std_slt63, std_grow, std_imp, std_impN, std_tr, std_tb, std_ti, std_ts, std_tn, std_tp, std_nmin, std_makes, std_room, std_zeros, std_nilq, std_notq, std_eqi, std_eqn, std_eqb, std_eqs, std_eqv, std_cat, std_lst, std_rset, std_rcopy, std_shift, std_eqr, std_strOf, std_bytesOf, std_isB, std_zOf, zOf_int, std_isI, isI_int, std_getL, std_nmul, std_sOf, sOf_str, std_isS, isS_str, std_fadd, std_fsub, std_fav, std_fsv, std_feq, std_fne, std_flt, std_fle, std_fgt, std_fge, std_fOf, std_fTo, std_fTv]
  · rintro ⟨i, hi, hz⟩
    cbv
    repeat' (first | with_reducible exact True.intro | with_reducible exact dr_ok hA (by kernel_rfl) | with_reducible refine And.intro ?_ ?_ | (intro hc; cbv))
    all_goals first
      | (fail_if_success (refine Exists.intro ?_ ?_)
         subst hA
         simp [-List.getD_eq_getElem?_getD, std_add, std_sub, std_mul, std_quo, std_rem, std_band, std_bor, std_bxor, std_shl, std_shr, std_eq, std_ne, std_lt, std_le, std_conv, std_not, std_beq, std_bne, std_ite, std_want, std_and2, std_sadd, std_seq, std_sne, std_slt, std_sle, std_sgt, std_sge, std_slen, std_sget, std_scut, std_ofNat, std_toNat, std_nsub, std_nadd, std_lenOf, std_nz, std_nneg, std_inb, std_upto, std_slt63, std_grow, std_imp, std_impN, std_tr, std_tb, std_ti, std_ts, std_tn, std_tp, std_nmin, std_makes, std_room, std_zeros, std_nilq, std_notq, std_eqi, std_eqn, std_eqb, std_eqs, std_eqv, std_cat, std_lst, std_rset, std_rcopy, std_shift, std_eqr, std_strOf, std_bytesOf, std_isB, std_zOf, zOf_int, std_isI, isI_int, std_getL, std_nmul, std_sOf, sOf_str, std_isS, isS_str, std_fadd, std_fsub, std_fav, std_fsv, std_feq, std_fne, std_flt, std_fle, std_fgt, std_fge, std_fOf, std_fTo, std_fTv] at *
         done)
      | (fail_if_success (refine Exists.intro ?_ ?_)
         clear hz
         subst hA
         simp [-List.getD_eq_getElem?_getD, std_add, std_sub, std_mul, std_quo, std_rem, std_band, std_bor, std_bxor, std_shl, std_shr, std_eq, std_ne, std_lt, std_le, std_conv, std_not, std_beq, std_bne, std_ite, std_want, std_and2, std_sadd, std_seq, std_sne, std_slt, std_sle, std_sgt, std_sge, std_slen, std_sget, std_scut, std_ofNat, std_toNat, std_nsub, std_nadd, std_lenOf, std_nz, std_nneg, std_inb, std_upto, std_slt63, std_grow, std_imp, std_impN, std_tr, std_tb, std_ti, std_ts, std_tn, std_tp, std_nmin, std_makes, std_room, std_zeros, std_nilq, std_notq, std_eqi, std_eqn, std_eqb, std_eqs, std_eqv, std_cat, std_lst, std_rset, std_rcopy, std_shift, std_eqr, std_strOf, std_bytesOf, std_isB, std_zOf, zOf_int, std_isI, isI_int, std_getL, std_nmul, std_sOf, sOf_str, std_isS, isS_str, std_fadd, std_fsub, std_fav, std_fsv, std_feq, std_fne, std_flt, std_fle, std_fgt, std_fge, std_fOf, std_fTo, std_fTv] at *
         first
           | omega
           | exact hS _
           | (intro h1; rw [wm1 h1 (by omega)]; omega)
           | exact mR_false (by assumption) (mOk_rr (by assumption))
           | (have h1 : 0 < i := hc.1
              rw [wm1 h1 (by omega), Int.toNat_natCast] at hc
              exact mR_false (by assumption) (mOk_lo h1 hc.2))
           | (exfalso; omega))
      | (fail_if_success (refine Exists.intro ?_ ?_)
         have hie : i = L.length := by (clear hz; subst hA; simp [std_add, std_sub, std_mul, std_quo, std_rem, std_band, std_bor, std_bxor, std_shl, std_shr, std_eq, std_ne, std_lt, std_le, std_conv, std_not, std_beq, std_bne, std_ite, std_want, std_and2, std_sadd, std_seq, std_sne, std_slt, std_sle, std_sgt, std_sge, std_slen, std_sget, std_scut, std_ofNat, std_toNat, std_nsub, std_nadd, std_lenOf, std_nz, std_nneg, std_inb, std_upto, std_slt63, std_grow, std_imp, std_impN, std_tr, std_tb, std_ti, std_ts, std_tn, std_tp, std_nmin, std_makes, std_room, std_zeros, std_nilq, std_notq, std_eqi, std_eqn, std_eqb, std_eqs, std_eqv, std_cat, std_lst, std_rset, std_rcopy, std_shift, std_eqr, std_strOf, std_bytesOf, std_isB, std_zOf, zOf_int, std_isI, isI_int, std_getL, std_nmul, std_sOf, sOf_str, std_isS, isS_str, std_fadd, std_fsub, std_fav, std_fsv, std_feq, std_fne, std_flt, std_fle, std_fgt, std_fge, std_fOf, std_fTo, std_fTv] at * <;> omega)
         rw [hie] at hz
         have hm := mR_true h0.1 h0.2 hz
         subst hA
         simp [std_add, std_sub, std_mul, std_quo, std_rem, std_band, std_bor, std_bxor, std_shl, std_shr, std_eq, std_ne, std_lt, std_le, std_conv, std_not, std_beq, std_bne, std_ite, std_want, std_and2, std_sadd, std_seq, std_sne, std_slt, std_sle, std_sgt, std_sge, std_slen, std_sget, std_scut, std_ofNat, std_toNat, std_nsub, std_nadd, std_lenOf, std_nz, std_nneg, std_inb, std_upto, std_slt63, std_grow, std_imp, std_impN, std_tr, std_tb, std_ti, std_ts, std_tn, std_tp, std_nmin, std_makes, std_room, std_zeros, std_nilq, std_notq, std_eqi, std_eqn, std_eqb, std_eqs, std_eqv, std_cat, std_lst, std_rset, std_rcopy, std_shift, std_eqr, std_strOf, std_bytesOf, std_isB, std_zOf, zOf_int, std_isI, isI_int, std_getL, std_nmul, std_sOf, sOf_str, std_isS, isS_str, std_fadd, std_fsub, std_fav, std_fsv, std_feq, std_fne, std_flt, std_fle, std_fgt, std_fge, std_fOf, std_fTo, std_fTv, hm]; done)
      | (have hlt : i < L.length := by (clear hz; subst hA; simp [std_add, std_sub, std_mul, std_quo, std_rem, std_band, std_bor, std_bxor, std_shl, std_shr, std_eq, std_ne, std_lt, std_le, std_conv, std_not, std_beq, std_bne, std_ite, std_want, std_and2, std_sadd, std_seq, std_sne, std_slt, std_sle, std_sgt, std_sge, std_slen, std_sget, std_scut, std_ofNat, std_toNat, std_nsub, std_nadd, std_lenOf, std_nz, std_nneg, std_inb, std_upto, std_slt63, std_grow, std_imp, std_impN, std_tr, std_tb, std_ti, std_ts, std_tn, std_tp, std_nmin, std_makes, std_room, std_zeros, std_nilq, std_notq, std_eqi, std_eqn, std_eqb, std_eqs, std_eqv, std_cat, std_lst, std_rset, std_rcopy, std_shift, std_eqr, std_strOf, std_bytesOf, std_isB, std_zOf, zOf_int, std_isI, isI_int, std_getL, std_nmul, std_sOf, sOf_str, std_isS, isS_str, std_fadd, std_fsub, std_fav, std_fsv, std_feq, std_fne, std_flt, std_fle, std_fgt, std_fge, std_fOf, std_fTo, std_fTv] at * <;> omega)
         have hok : mOk L i = true := by
           clear hz
           subst hA
           simp [-List.getD_eq_getElem?_getD, std_add, std_sub, std_mul, std_quo, std_rem, std_band, std_bor, std_bxor, std_shl, std_shr, std_eq, std_ne, std_lt, std_le, std_conv, std_not, std_beq, std_bne, std_ite, std_want, std_and2, std_sadd, std_seq, std_sne, std_slt, std_sle, std_sgt, std_sge, std_slen, std_sget, std_scut, std_ofNat, std_toNat, std_nsub, std_nadd, std_lenOf, std_nz, std_nneg, std_inb, std_upto, std_slt63, std_grow, std_imp, std_impN, std_tr, std_tb, std_ti, std_ts, std_tn, std_tp, std_nmin, std_makes, std_room, std_zeros, std_nilq, std_notq, std_eqi, std_eqn, std_eqb, std_eqs, std_eqv, std_cat, std_lst, std_rset, std_rcopy, std_shift, std_eqr, std_strOf, std_bytesOf, std_isB, std_zOf, zOf_int, std_isI, isI_int, std_getL, std_nmul, std_sOf, sOf_str, std_isS, isS_str, std_fadd, std_fsub, std_fav, std_fsv, std_feq, std_fne, std_flt, std_fle, std_fgt, std_fge, std_fOf, std_fTo, std_fTv] at *
           refine mOk_yes (fun h1 => ?_) (by assumption)
           have h2 := (by assumption : 0 < i → _) h1
           rw [wm1 h1 (by omega), Int.toNat_natCast] at h2
           exact h2
         obtain ⟨i', hi'⟩ : ∃ i', i' = i + 1 := ⟨_, rfl⟩
         refine ⟨⟨i', by omega, by rw [hi', mUp_succ, hz, hok]; rfl⟩, ?_, show L.length - i' < L.length - i by omega⟩
         cbv
         subst hA
         simp [std_add, std_sub, std_mul, std_quo, std_rem, std_band, std_bor, std_bxor, std_shl, std_shr, std_eq, std_ne, std_lt, std_le, std_conv, std_not, std_beq, std_bne, std_ite, std_want, std_and2, std_sadd, std_seq, std_sne, std_slt, std_sle, std_sgt, std_sge, std_slen, std_sget, std_scut, std_ofNat, std_toNat, std_nsub, std_nadd, std_lenOf, std_nz, std_nneg, std_inb, std_upto, std_slt63, std_grow, std_imp, std_impN, std_tr, std_tb, std_ti, std_ts, std_tn, std_tp, std_nmin, std_makes, std_room, std_zeros, std_nilq, std_notq, std_eqi, std_eqn, std_eqb, std_eqs, std_eqv, std_cat, std_lst, std_rset, std_rcopy, std_shift, std_eqr, std_strOf, std_bytesOf, std_isB, std_zOf, zOf_int, std_isI, isI_int, std_getL, std_nmul, std_sOf, sOf_str, std_isS, isS_str, std_fadd, std_fsub, std_fav, std_fsv, std_feq, std_fne, std_flt, std_fle, std_fgt, std_fge, std_fOf, std_fTo, std_fTv]
         exact (w64 (by omega)).trans (by omega))
      | trace_state
theorem good_mRight' {T : List UInt8} {n : Nat} {f : Nat → Nat → SV} (hp : isRow eI (0, []) 2 n f ∧ n ≤ 1000000 ∧ ∀ i, ((lstOf eI (0, []) 2 n f).getD i (0, [])).2.length ≤ 1000000) :
    GoodP Tryz.prog gl0 55 [.agg [.str T, .slc n 2 f]] (.bool (std.tb fun _ => mR T (lstOf eI (0, []) 2 n f))) :=
  good_sv (good_mRight T (lstOf eI (0, []) 2 n f) (by rw [lstOf_length hp.1]; exact hp.2.1) hp.2.2) ⟨⟨_, rfl, rfl, hp.1.sv, trivial⟩, trivial⟩
noncomputable def c_mRight : Ct := fun A args => match args with
  | [.agg [.str T, .slc n 2 f]] => some (some (A.tp fun _ => isRow eI (0, []) 2 n f ∧ n ≤ 1000000 ∧ ∀ i, ((lstOf eI (0, []) 2 n f).getD i (0, [])).2.length ≤ 1000000), .bool (A.tb fun _ => mR T (lstOf eI (0, []) 2 n f)))
  | _ => none
noncomputable def gm1 : Ar → Pu := addC 55 c_mRight (gm0)
theorem gm1_ok : PuOk Tryz.prog gl0 (gm1 std) := by
  refine addC_ok (gm0_ok) ⟨_, Tryz.func55, rfl, by decide⟩ ?_
  · intro args p r h hp
    unfold c_mRight at h
    split at h <;> cases h
    exact good_mRight' hp
def dAsks (k : Int) : Bool := decide (k = 1) || (decide (k = 3) || (decide (k = 5) || decide (k = 6)))
theorem good_dIsKind (k : Int) : GoodP Tryz.prog gl0 58 [.int .i64 k] (.bool (std.tb fun _ => decide (1 ≤ k ∧ k ≤ 7))) := by
  refine fn_sound' (T := seatT) (G := noC) (X := noX) seatT_ok noC_ok noX_ok noI_ok mixed Tryz.func58 (.one) (fun A => [.int .i64 k]) (fun A => .bool (A.tb fun _ => decide (1 ≤ k ∧ k ≤ 7))) fun A hA => ?_
  cbv
  repeat' (first | with_reducible exact True.intro | with_reducible exact dr_ok hA (by kernel_rfl) | with_reducible refine And.intro ?_ ?_ | (intro hc; cbv))
  all_goals (subst hA; simp [std_add, std_sub, std_mul, std_quo, std_rem, std_band, std_bor, std_bxor, std_shl, std_shr, std_eq, std_ne, std_lt, std_le, std_conv, std_not, std_beq, std_bne, std_ite, std_want, std_and2, std_sadd, std_seq, std_sne, std_slt, std_sle, std_sgt, std_sge, std_slen, std_sget, std_scut, std_ofNat, std_toNat, std_nsub, std_nadd, std_lenOf, std_nz, std_nneg, std_inb, std_upto, std_slt63, std_grow, std_imp, std_impN, std_tr, std_tb, std_ti, std_ts, std_tn, std_tp, std_nmin, std_makes, std_room, std_zeros, std_nilq, std_notq, std_eqi, std_eqn, std_eqb, std_eqs, std_eqv, std_cat, std_lst, std_rset, std_rcopy, std_shift, std_eqr, std_strOf, std_bytesOf, std_isB, std_zOf, zOf_int, std_isI, isI_int, std_getL, std_nmul, std_sOf, sOf_str, std_isS, isS_str, std_fadd, std_fsub, std_fav, std_fsv, std_feq, std_fne, std_flt, std_fle, std_fgt, std_fge, std_fOf, std_fTo, std_fTv] at *)
  all_goals first
    | (rw [Bool.eq_iff_iff]; simp; done)
    | trace_state
theorem good_dTells (k : Int) : GoodP Tryz.prog gl0 91 [.int .i64 k] (.bool (std.tb fun _ => decide (k = 5) || decide (k = 6))) := by
  refine fn_sound' (T := seatT) (G := noC) (X := noX) seatT_ok noC_ok noX_ok noI_ok mixed Tryz.func91 (.one) (fun A => [.int .i64 k]) (fun A => .bool (A.tb fun _ => decide (k = 5) || decide (k = 6))) fun A hA => ?_
  cbv
  repeat' (first | with_reducible exact True.intro | with_reducible exact dr_ok hA (by kernel_rfl) | with_reducible refine And.intro ?_ ?_ | (intro hc; cbv))
  all_goals (subst hA; simp [std_add, std_sub, std_mul, std_quo, std_rem, std_band, std_bor, std_bxor, std_shl, std_shr, std_eq, std_ne, std_lt, std_le, std_conv, std_not, std_beq, std_bne, std_ite, std_want, std_and2, std_sadd, std_seq, std_sne, std_slt, std_sle, std_sgt, std_sge, std_slen, std_sget, std_scut, std_ofNat, std_toNat, std_nsub, std_nadd, std_lenOf, std_nz, std_nneg, std_inb, std_upto, std_slt63, std_grow, std_imp, std_impN, std_tr, std_tb, std_ti, std_ts, std_tn, std_tp, std_nmin, std_makes, std_room, std_zeros, std_nilq, std_notq, std_eqi, std_eqn, std_eqb, std_eqs, std_eqv, std_cat, std_lst, std_rset, std_rcopy, std_shift, std_eqr, std_strOf, std_bytesOf, std_isB, std_zOf, zOf_int, std_isI, isI_int, std_getL, std_nmul, std_sOf, sOf_str, std_isS, isS_str, std_fadd, std_fsub, std_fav, std_fsv, std_feq, std_fne, std_flt, std_fle, std_fgt, std_fge, std_fOf, std_fTo, std_fTv] at *)
  all_goals first
    | (rw [Bool.eq_iff_iff]; simp; done)
    | (rw [Bool.eq_iff_iff]; simp; omega)
    | trace_state
noncomputable def c_dTells : Ct := fun A args => match args with
  | [.int .i64 k] => some (none, .bool (A.tb fun _ => decide (k = 5) || decide (k = 6)))
  | _ => none
noncomputable def gm2 : Ar → Pu := addC 91 c_dTells (gm1)
theorem gm2_ok : PuOk Tryz.prog gl0 (gm2 std) := by
  refine addC_ok (gm1_ok) ⟨_, Tryz.func91, rfl, by decide⟩ ?_
  · intro args p r h hp
    unfold c_dTells at h
    split at h <;> cases h
    exact good_dTells _
theorem good_dAsks (k : Int) : GoodP Tryz.prog gl0 60 [.int .i64 k] (.bool (std.tb fun _ => dAsks k)) := by
  refine fn_sound' (T := seatT) (G := gm2) (X := noX) seatT_ok gm2_ok noX_ok noI_ok mixed Tryz.func60 (.one) (fun A => [.int .i64 k]) (fun A => .bool (A.tb fun _ => dAsks k)) fun A hA => ?_
  cbv
  repeat' (first | with_reducible exact True.intro | with_reducible exact dr_ok hA (by kernel_rfl) | with_reducible refine And.intro ?_ ?_ | (intro hc; cbv))
  all_goals (subst hA; simp [std_add, std_sub, std_mul, std_quo, std_rem, std_band, std_bor, std_bxor, std_shl, std_shr, std_eq, std_ne, std_lt, std_le, std_conv, std_not, std_beq, std_bne, std_ite, std_want, std_and2, std_sadd, std_seq, std_sne, std_slt, std_sle, std_sgt, std_sge, std_slen, std_sget, std_scut, std_ofNat, std_toNat, std_nsub, std_nadd, std_lenOf, std_nz, std_nneg, std_inb, std_upto, std_slt63, std_grow, std_imp, std_impN, std_tr, std_tb, std_ti, std_ts, std_tn, std_tp, std_nmin, std_makes, std_room, std_zeros, std_nilq, std_notq, std_eqi, std_eqn, std_eqb, std_eqs, std_eqv, std_cat, std_lst, std_rset, std_rcopy, std_shift, std_eqr, std_strOf, std_bytesOf, std_isB, std_zOf, zOf_int, std_isI, isI_int, std_getL, std_nmul, std_sOf, sOf_str, std_isS, isS_str, std_fadd, std_fsub, std_fav, std_fsv, std_feq, std_fne, std_flt, std_fle, std_fgt, std_fge, std_fOf, std_fTo, std_fTv] at *)
  all_goals first
    | (unfold dAsks; rw [Bool.eq_iff_iff]; simp; done)
    | (unfold dAsks; rw [Bool.eq_iff_iff]; simp; omega)
    | trace_state
theorem i1r (n : Int) (s : List UInt8) : Reps eI (0, []) 2 1 (lstS [[SV.int .i64 n, SV.str s]]) [(n, s)] := Reps.one (cell_eI n s)
theorem i1l (n : Int) (s : List UInt8) : lstOf eI (0, []) 2 1 (lstS [[SV.int .i64 n, SV.str s]]) = [(n, s)] := lstOf_eq inj_eI (i1r n s)
theorem i1w (n : Int) (s : List UInt8) : isRow eI (0, []) 2 1 (lstS [[SV.int .i64 n, SV.str s]]) := ⟨_, i1r n s⟩
theorem i1s (n : Int) {s : List UInt8} (h : s.length ≤ 1000000) : ∀ i, (([(n, s)] : List It).getD i (0, [])).2.length ≤ 1000000
  | 0 => h
  | _ + 1 => show ([] : List UInt8).length ≤ 1000000 from Nat.zero_le _
theorem mR_one (n : Int) (s : List UInt8) : mR [48, 49, 48, 48] [(n, s)] = rr n s := by
  unfold mR mUp
  simp [mT, mOk]
theorem good_dFits (n : Int) (s : List UInt8) (hs : s.length ≤ 1000000) : GoodP Tryz.prog gl0 59 [.int .i64 n, .str s] (.bool (std.tb fun _ => rr n s)) := by
  refine fn_sound' (T := seatT) (G := gm2) (X := noX) seatT_ok gm2_ok noX_ok noI_ok mixed Tryz.func59 (.one) (fun A => [.int .i64 n, .str s]) (fun A => .bool (A.tb fun _ => rr n s)) fun A hA => ?_
  cbv
  repeat' (first | with_reducible exact True.intro | with_reducible exact dr_ok hA (by kernel_rfl) | with_reducible refine And.intro ?_ ?_ | (intro hc; cbv))
  all_goals (subst hA; try simp [-List.getD_eq_getElem?_getD, std_add, std_sub, std_mul, std_quo, std_rem, std_band, std_bor, std_bxor, std_shl, std_shr, std_eq, std_ne, std_lt, std_le, std_conv, std_not, std_beq, std_bne, std_ite, std_want, std_and2, std_sadd, std_seq, std_sne, std_slt, std_sle, std_sgt, std_sge, std_slen, std_sget, std_scut, std_ofNat, std_toNat, std_nsub, std_nadd, std_lenOf, std_nz, std_nneg, std_inb, std_upto, std_slt63, std_grow, std_imp, std_impN, std_tr, std_tb, std_ti, std_ts, std_tn, std_tp, std_nmin, std_makes, std_room, std_zeros, std_nilq, std_notq, std_eqi, std_eqn, std_eqb, std_eqs, std_eqv, std_cat, std_lst, std_rset, std_rcopy, std_shift, std_eqr, std_strOf, std_bytesOf, std_isB, std_zOf, zOf_int, std_isI, isI_int, std_getL, std_nmul, std_sOf, sOf_str, std_isS, isS_str, std_fadd, std_fsub, std_fav, std_fsv, std_feq, std_fne, std_flt, std_fle, std_fgt, std_fge, std_fOf, std_fTo, std_fTv, i1l, i1w, mR_one] at *)
  all_goals first
    | exact i1s n hs
    | trace_state
noncomputable def c_dIsKind : Ct := fun A args => match args with
  | [.int .i64 k] => some (none, .bool (A.tb fun _ => decide (1 ≤ k ∧ k ≤ 7)))
  | _ => none
noncomputable def c_dAsks : Ct := fun A args => match args with
  | [.int .i64 k] => some (none, .bool (A.tb fun _ => dAsks k))
  | _ => none
noncomputable def c_dFits : Ct := fun A args => match args with
  | [.int .i64 n, .str s] => some (some (A.tp fun _ => s.length ≤ 1000000), .bool (A.tb fun _ => rr n s))
  | _ => none
noncomputable def gm3 : Ar → Pu := addC 58 c_dIsKind (addC 60 c_dAsks (addC 59 c_dFits (gm2)))
theorem gm3_ok : PuOk Tryz.prog gl0 (gm3 std) := by
  refine addC_ok (addC_ok (addC_ok (gm2_ok) ⟨_, Tryz.func59, rfl, by decide⟩ ?_) ⟨_, Tryz.func60, rfl, by decide⟩ ?_) ⟨_, Tryz.func58, rfl, by decide⟩ ?_
  · intro args p r h hp
    unfold c_dFits at h
    split at h <;> cases h
    exact good_dFits _ _ hp
  · intro args p r h hp
    unfold c_dAsks at h
    split at h <;> cases h
    exact good_dAsks _
  · intro args p r h hp
    unfold c_dIsKind at h
    split at h <;> cases h
    exact good_dIsKind _
def dR (k a s : Int) (p r c : List UInt8) : Bool :=
  decide (1 ≤ k ∧ k ≤ 7) && (decide (s ≤ 999999) && (rr 37 r && (if dAsks k = true then lFine p && (decide ((p.length : Int) ≤ 19) && (decide (a < 1000000000000) && c == [])) else rr 39 c && (p == [] && decide (a = 0)))))
theorem good_dRight (k a s : Int) (p r c : List UInt8) (hp : p.length ≤ 100000) (hr : r.length ≤ 1000000) (hcc : c.length ≤ 1000000) : GoodP Tryz.prog gl0 21 [.agg [.int .i64 k, .str p, .int .u64 a, .int .u32 s, .str r, .str c]] (.bool (std.tb fun _ => dR k a s p r c)) := by
  refine fn_sound' (T := seatT) (G := gm3) (X := noX) seatT_ok gm3_ok noX_ok noI_ok mixed Tryz.func21 (.one) (fun A => [.agg [.int .i64 k, .str p, .int .u64 a, .int .u32 s, .str r, .str c]]) (fun A => .bool (A.tb fun _ => dR k a s p r c)) fun A hA => ?_
  cbv
  repeat' (first | with_reducible exact True.intro | with_reducible exact dr_ok hA (by kernel_rfl) | with_reducible refine And.intro ?_ ?_ | (intro hc; cbv))
  all_goals (subst hA; simp [-List.getD_eq_getElem?_getD, std_add, std_sub, std_mul, std_quo, std_rem, std_band, std_bor, std_bxor, std_shl, std_shr, std_eq, std_ne, std_lt, std_le, std_conv, std_not, std_beq, std_bne, std_ite, std_want, std_and2, std_sadd, std_seq, std_sne, std_slt, std_sle, std_sgt, std_sge, std_slen, std_sget, std_scut, std_ofNat, std_toNat, std_nsub, std_nadd, std_lenOf, std_nz, std_nneg, std_inb, std_upto, std_slt63, std_grow, std_imp, std_impN, std_tr, std_tb, std_ti, std_ts, std_tn, std_tp, std_nmin, std_makes, std_room, std_zeros, std_nilq, std_notq, std_eqi, std_eqn, std_eqb, std_eqs, std_eqv, std_cat, std_lst, std_rset, std_rcopy, std_shift, std_eqr, std_strOf, std_bytesOf, std_isB, std_zOf, zOf_int, std_isI, isI_int, std_getL, std_nmul, std_sOf, sOf_str, std_isS, isS_str, std_fadd, std_fsub, std_fav, std_fsv, std_feq, std_fne, std_flt, std_fle, std_fgt, std_fge, std_fOf, std_fTo, std_fTv] at *)
  all_goals first
    | omega
    | (unfold dR
       rcases hc with (hc | hc) | hc
       · rw [decide_eq_false (p := 1 ≤ k ∧ k ≤ 7) (by omega)]; rfl
       · rw [decide_eq_false (p := s ≤ 999999) (by omega)]; simp
       · rw [hc]; simp)
    | (have hd : dAsks k = true := by assumption
       unfold dR
       rw [decide_eq_true hc.1.1, decide_eq_true hc.1.2, hc.2, if_pos hd]
       simp only [Bool.true_and, Bool.and_assoc]
       cases c <;> rfl)
    | (have hd : dAsks k = false := by assumption
       unfold dR
       rw [decide_eq_true hc.1.1, decide_eq_true hc.1.2, hc.2, if_neg (by rw [hd]; simp)]
       simp only [Bool.true_and, Bool.and_assoc]
       cases p <;> rfl)
    | trace_state
end Go.Vd

set_option linter.unusedVariables false
set_option linter.unusedSimpArgs false
set_option maxRecDepth 100000
namespace Go.Vd
open Go.Proofs

def bfield (n : Int) : Bool := decide (2 ≤ n) && decide (n ≤ 128) && !(n == 65)
def bhi (n : Int) : Nat := if n ≤ 64 then 2 ^ (64 - n).toNat else 0
def blo (n : Int) : Nat := if n ≤ 64 then 0 else 2 ^ (128 - n).toNat
def bright (h l : Nat) : Bool := !l.testBit 63 && (h.testBit 63 == decide (l ≠ 0))
def bhas (h l : Nat) (n : Int) : Bool := bfield n && (if n ≤ 64 then h.testBit (64 - n).toNat else l.testBit (128 - n).toNat)
/-- A field more. -/
def bput (h l : Nat) (n : Int) : Nat × Nat :=
  if bright h l && bfield n then (if l ||| blo n ≠ 0 then (h ||| bhi n) ||| 9223372036854775808 else h ||| bhi n, l ||| blo n) else (h, l)
def berr (h l : Nat) (n : Int) : Int := if bright h l && bfield n then 0 else 1

theorem bfield_iff {n : Int} : bfield n = true ↔ 2 ≤ n ∧ n ≤ 128 ∧ n ≠ 65 := by simp [bfield, and_assoc]
theorem bhi_lt (n : Int) (h : 2 ≤ n) : bhi n < 18446744073709551616 := by
  unfold bhi; split
  · exact pow_lt64 (by omega)
  · decide
theorem blo_lt (n : Int) (h : n ≤ 128) : blo n < 18446744073709551616 := by
  unfold blo; split
  · decide
  · exact pow_lt64 (by omega)
theorem or_lt64 {a b : Nat} (ha : a < 18446744073709551616) (hb : b < 18446744073709551616) : a ||| b < 18446744073709551616 := Nat.or_lt_two_pow (n := 64) ha hb
theorem bput_lt {h l : Nat} (n : Int) (hh : h < 18446744073709551616) (hl : l < 18446744073709551616) : (bput h l n).1 < 18446744073709551616 ∧ (bput h l n).2 < 18446744073709551616 := by
  unfold bput
  split
  · rename_i hb
    simp only [Bool.and_eq_true] at hb
    have hf := bfield_iff.1 hb.2
    refine ⟨?_, or_lt64 hl (blo_lt n hf.2.1)⟩
    simp only
    split
    · exact or_lt64 (or_lt64 hh (bhi_lt n hf.1)) (by decide)
    · exact or_lt64 hh (bhi_lt n hf.1)
  · exact ⟨hh, hl⟩
theorem band0 (l : Nat) (hl : l < 18446744073709551616) : (bits .and .u64 (l : Int) 9223372036854775808 == 0) = !l.testBit 63 := by
  have := bits_and_u64_nat l 9223372036854775808 hl (by decide)
  have e : ((9223372036854775808 : Nat) : Int) = 9223372036854775808 := rfl
  rw [e] at this
  rw [this]
  have h2 := band_top (h := l)
  cases hb : l.testBit 63
  · rw [h2.2 hb]; rfl
  · have h3 : ¬ (l &&& 9223372036854775808 = 0) := fun e => by rw [h2.1 e] at hb; cases hb
    simp only [Bool.not_true, beq_eq_false_iff_ne]; omega

def r22 (A : Ar) (n : Int) : SV := .bool (A.tb fun _ => bfield n)
theorem good22 (n : Int) : GoodP Tryz.prog gl0 157 [.int .i64 n] (r22 std n) := by
  refine fn_sound' (T := seatT) (G := noC) (X := noX) seatT_ok noC_ok noX_ok noI_ok mixed Tryz.func157 .one (fun A => [.int .i64 n]) (fun A => r22 A n) fun A hA => ?_
  cbv
  repeat with_reducible refine And.intro (dr_ok hA (by kernel_rfl)) ?_
  subst hA
  simp [sS, bfield, bne]
def r23 (A : Ar) (n : Int) : SV := .agg [.int .u64 (A.ti fun _ => bhi n), .int .u64 (A.ti fun _ => blo n)]
theorem good23 (n : Int) (h1 : 2 ≤ n) (h2 : n ≤ 128) : GoodP Tryz.prog gl0 159 [.int .i64 n] (r23 std n) := by
  refine fn_sound' (T := seatT) (G := noC) (X := noX) seatT_ok noC_ok noX_ok noI_ok mixed Tryz.func159 .one (fun A => [.int .i64 n]) (fun A => r23 A n) fun A hA => ?_
  cbv
  refine ⟨fun hc => ?_, fun hc => ?_⟩ <;> cbv <;> subst hA <;> simp [sS] at hc ⊢
  · rw [w64 (by omega)]
    refine ⟨by omega, ?_, ?_⟩
    · rw [show min (64 - n).toNat IntKind.u64.bits = (64 - n).toNat by simp [IntKind.bits]; omega]
      have := shl1 (k := (64 - n).toNat) (by omega)
      simpa [bhi, hc] using this
    · simp [blo, hc]
  · rw [w64 (by omega)]
    refine ⟨by omega, ?_, ?_⟩
    · rw [show bhi n = 0 by unfold bhi; rw [if_neg (by omega)]]; rfl
    · rw [show min (128 - n).toNat IntKind.u64.bits = (128 - n).toNat by simp [IntKind.bits]; omega]
      have := shl1 (k := (128 - n).toNat) (by omega)
      rw [show blo n = 2 ^ (128 - n).toNat by unfold blo; rw [if_neg (by omega)]]
      simpa using this
def r27 (A : Ar) (h : Int) : SV := .bool (A.tb fun _ => h.toNat.testBit 63)
theorem good27 {h : Int} (l : Int) (hh : r64 h) : GoodP Tryz.prog gl0 130 [.agg [.int .u64 h, .int .u64 l]] (r27 std h) := by
  obtain ⟨h, rfl, lh⟩ := r64_nat hh
  refine fn_sound' (T := seatT) (G := noC) (X := noX) seatT_ok noC_ok noX_ok noI_ok mixed Tryz.func130 .one (fun A => [.agg [.int .u64 h, .int .u64 l]]) (fun A => r27 A h) fun A hA => ?_
  cbv
  repeat with_reducible refine And.intro (dr_ok hA (by kernel_rfl)) ?_
  subst hA
  have := band0 h lh
  simp only [sS, bne, Int.ofNat_eq_natCast, Int.toNat_natCast]
  rw [this]
  simp
def r28 (A : Ar) (a b c d : Int) : SV := .agg [.int .u64 (A.ti fun _ => (a.toNat &&& c.toNat : Nat)), .int .u64 (A.ti fun _ => (b.toNat &&& d.toNat : Nat))]
theorem good28 {a b c d : Int} (ha : r64 a) (hb : r64 b) (hc : r64 c) (hd : r64 d) : GoodP Tryz.prog gl0 158 [.agg [.int .u64 a, .int .u64 b], .agg [.int .u64 c, .int .u64 d]] (r28 std a b c d) := by
  obtain ⟨a, rfl, la⟩ := r64_nat ha
  obtain ⟨b, rfl, lb⟩ := r64_nat hb
  obtain ⟨c, rfl, lc⟩ := r64_nat hc
  obtain ⟨d, rfl, ld⟩ := r64_nat hd
  refine fn_sound' (T := seatT) (G := noC) (X := noX) seatT_ok noC_ok noX_ok noI_ok mixed Tryz.func158 .one (fun A => [.agg [.int .u64 a, .int .u64 b], .agg [.int .u64 c, .int .u64 d]]) (fun A => r28 A a b c d) fun A hA => ?_
  cbv
  repeat with_reducible refine And.intro (dr_ok hA (by kernel_rfl)) ?_
  subst hA
  simp [sS, bits_and_u64_nat, la, lb, lc, ld]

/-! ### Their contracts -/
noncomputable def c22 : Ct := fun A args => match args with
  | [.int .i64 n] => some (none, r22 A n)
  | _ => none
noncomputable def c23 : Ct := fun A args => match args with
  | [.int .i64 n] => some (some (A.tp fun _ => 2 ≤ n ∧ n ≤ 128), r23 A n)
  | _ => none
noncomputable def c27 : Ct := fun A args => match args with
  | [.agg [.int .u64 h, .int .u64 l]] => some (some (A.tp fun _ => r64 h), r27 A h)
  | _ => none
noncomputable def c28 : Ct := fun A args => match args with
  | [.agg [.int .u64 a, .int .u64 b], .agg [.int .u64 c, .int .u64 d]] => some (some (A.tp fun _ => r64 a ∧ r64 b ∧ r64 c ∧ r64 d), r28 A a b c d)
  | _ => none
noncomputable def g1 : Ar → Pu := addC 157 c22 (addC 159 c23 (addC 130 c27 (addC 158 c28 noC)))
theorem g1_ok : PuOk Tryz.prog gl0 (g1 std) := by
  refine addC_ok (addC_ok (addC_ok (addC_ok noC_ok ⟨_, Tryz.func158, rfl, by decide⟩ ?_) ⟨_, Tryz.func130, rfl, by decide⟩ ?_) ⟨_, Tryz.func159, rfl, by decide⟩ ?_) ⟨_, Tryz.func157, rfl, by decide⟩ ?_
  · intro args p r h hp
    unfold c28 at h
    split at h <;> cases h
    exact good28 hp.1 hp.2.1 hp.2.2.1 hp.2.2.2
  · intro args p r h hp
    unfold c27 at h
    split at h <;> cases h
    exact good27 _ hp
  · intro args p r h hp
    unfold c23 at h
    split at h <;> cases h
    exact good23 _ hp.1 hp.2
  · intro args p r h hp
    unfold c22 at h
    split at h <;> cases h
    exact good22 _
def r11 (A : Ar) (h l : Int) : SV := .bool (A.tb fun _ => bright h.toNat l.toNat)
theorem good11 {h l : Int} (hh : r64 h) (hl : r64 l) : GoodP Tryz.prog gl0 131 [.agg [.int .u64 h, .int .u64 l]] (r11 std h l) := by
  obtain ⟨h, rfl, lh⟩ := r64_nat hh
  obtain ⟨l, rfl, ll⟩ := r64_nat hl
  refine fn_sound' (T := seatT) (G := g1) (X := noX) seatT_ok g1_ok noX_ok noI_ok mixed Tryz.func131 .one (fun A => [.agg [.int .u64 h, .int .u64 l]]) (fun A => r11 A h l) fun A hA => ?_
  cbv
  repeat with_reducible refine And.intro (dr_ok hA (by kernel_rfl)) ?_
  subst hA
  have e0 : (Int.ofNat l : Int) = (l : Int) := rfl
  simp only [sS, e0, band0 l ll]
  simp [hh, hl, bright]
  cases hb : l.testBit 63 <;> simp [bne, Bool.beq_eq_decide_eq]
def r13 (A : Ar) (h l n : Int) : SV := .bool (A.tb fun _ => bhas h.toNat l.toNat n)
theorem good13 {h l : Int} (n : Int) (hh : r64 h) (hl : r64 l) : GoodP Tryz.prog gl0 133 [.agg [.int .u64 h, .int .u64 l], .int .i64 n] (r13 std h l n) := by
  obtain ⟨h, rfl, lh⟩ := r64_nat hh
  obtain ⟨l, rfl, ll⟩ := r64_nat hl
  refine fn_sound' (T := seatT) (G := g1) (X := noX) seatT_ok g1_ok noX_ok noI_ok mixed Tryz.func133 .one (fun A => [.agg [.int .u64 h, .int .u64 l], .int .i64 n]) (fun A => r13 A h l n) fun A hA => ?_
  cbv
  repeat with_reducible refine And.intro (dr_ok hA (by kernel_rfl)) ?_
  subst hA
  simp [sS]
  cases hf : bfield n
  · simp [bhas, hf]
  · have hf' := bfield_iff.1 hf
    have h1 := bhi_lt n hf'.1
    have h2 := blo_lt n hf'.2.1
    simp [hh, hl, r64_of h1, r64_of h2, hf'.1, hf'.2.1, bhas, hf]
    by_cases hn : n ≤ 64
    · simp only [bhi, blo, hn, if_true]
      have := band_pow (h := h) (k := (64 - n).toNat)
      cases hb : h.testBit (64 - n).toNat
      · simp [this.2 hb]
      · have h3 : ¬ (h &&& 2 ^ (64 - n).toNat = 0) := fun e => by rw [this.1 e] at hb; cases hb
        simp [h3]
    · simp only [bhi, blo, hn, if_false]
      have := band_pow (h := l) (k := (128 - n).toNat)
      cases hb : l.testBit (128 - n).toNat
      · simp [this.2 hb]
      · have h3 : ¬ (l &&& 2 ^ (128 - n).toNat = 0) := fun e => by rw [this.1 e] at hb; cases hb
        simp [h3]
noncomputable def c11 : Ct := fun A args => match args with
  | [.agg [.int .u64 h, .int .u64 l]] => some (some (A.tp fun _ => r64 h ∧ r64 l), r11 A h l)
  | _ => none
noncomputable def c13 : Ct := fun A args => match args with
  | [.agg [.int .u64 h, .int .u64 l], .int .i64 n] => some (some (A.tp fun _ => r64 h ∧ r64 l), r13 A h l n)
  | _ => none
noncomputable def g2 : Ar → Pu := addC 131 c11 (addC 133 c13 g1)
theorem g2_ok : PuOk Tryz.prog gl0 (g2 std) := by
  refine addC_ok (addC_ok g1_ok ⟨_, Tryz.func133, rfl, by decide⟩ ?_) ⟨_, Tryz.func131, rfl, by decide⟩ ?_
  · intro args p r h hp
    unfold c13 at h
    split at h <;> cases h
    exact good13 _ hp.1 hp.2
  · intro args p r h hp
    unfold c11 at h
    split at h <;> cases h
    exact good11 hp.1 hp.2
def r7 (A : Ar) (h l n : Int) : SV := .tup [.agg [.int .u64 (A.ti fun _ => (bput h.toNat l.toNat n).1), .int .u64 (A.ti fun _ => (bput h.toNat l.toNat n).2)], .int .i64 (A.ti fun _ => berr h.toNat l.toNat n)]
theorem good7 {h l : Int} (n : Int) (hh : r64 h) (hl : r64 l) : GoodP Tryz.prog gl0 147 [.agg [.int .u64 h, .int .u64 l], .int .i64 n] (r7 std h l n) := by
  obtain ⟨h, rfl, lh⟩ := r64_nat hh
  obtain ⟨l, rfl, ll⟩ := r64_nat hl
  refine fn_sound' (T := seatT) (G := g2) (X := noX) seatT_ok g2_ok noX_ok noI_ok mixed Tryz.func147 .one (fun A => [.agg [.int .u64 h, .int .u64 l], .int .i64 n]) (fun A => r7 A h l n) fun A hA => ?_
  cbv
  repeat' (first | with_reducible exact True.intro | with_reducible exact dr_ok hA (by kernel_rfl) | with_reducible refine And.intro ?_ ?_ | (intro hc; cbv))
  all_goals (subst hA; simp [sS] at *)
  all_goals first
    | exact ⟨hh, hl⟩
    | skip
  all_goals first
    | (have : (bright h l && bfield n) = false := by rcases hc with hc | hc <;> simp [hc]
       simp [bput, berr, this]; done)
    | (have := bfield_iff.1 hc.2; exact ⟨this.1, this.2.1⟩)
    | (rename_i hc1
       have hf := bfield_iff.1 hc1.2
       have e1 := bits_or_u64_nat h (bhi n) lh (bhi_lt n hf.1)
       have e2 := bits_or_u64_nat l (blo n) ll (blo_lt n hf.2.1)
       have e3 := bits_or_u64_nat (h ||| bhi n) 9223372036854775808 (or_lt64 lh (bhi_lt n hf.1)) (by decide)
       rw [e2] at hc
       have e4 : ((9223372036854775808 : Nat) : Int) = 9223372036854775808 := rfl
       rw [e4] at e3
       by_cases hne : l ||| blo n = 0
       · first
           | (exact absurd (by rw [hne]; rfl) hc)
           | (simp only [bput, berr, hc1.1, hc1.2, Bool.and_self, if_true, hne, ne_eq, not_true_eq_false, if_false, e1, e2]; done)
           | (simp only [bput, berr, hc1.1, hc1.2, Bool.and_self, if_true, hne, ne_eq, not_true_eq_false, if_false, e1, e2]; rfl)
       · first
           | (simp only [bput, berr, hc1.1, hc1.2, Bool.and_self, if_true, hne, ne_eq, not_false_eq_true, e1, e2, e3]; done)
           | (exact absurd (by exact_mod_cast hc) hne))
noncomputable def c7 : Ct := fun A args => match args with
  | [.agg [.int .u64 h, .int .u64 l], .int .i64 n] => some (some (A.tp fun _ => r64 h ∧ r64 l), r7 A h l n)
  | _ => none
noncomputable def g3 : Ar → Pu := addC 147 c7 g2
theorem g3_ok : PuOk Tryz.prog gl0 (g3 std) := by
  refine addC_ok g2_ok ⟨_, Tryz.func147, rfl, by decide⟩ ?_
  intro args p r h hp
  unfold c7 at h
  split at h <;> cases h
  exact good7 _ hp.1 hp.2
end Go.Vd

set_option linter.unusedVariables false
set_option linter.unusedSimpArgs false
set_option maxRecDepth 100000
set_option maxHeartbeats 1000000
namespace Go.Vd
open Go.Proofs
/-- The number of the first bytes. -/
def numTo (L : List UInt8) (k : Nat) : Nat := (L.take k).foldl (fun a b => a * 256 + b.toNat) 0
theorem numTo_succ (L : List UInt8) (k : Nat) (h : k < L.length) : numTo L (k + 1) = numTo L k * 256 + (L.getD k 0).toNat := by
  unfold numTo
  rw [List.take_succ_eq_append_getElem h, List.foldl_append]
  simp [List.getD_eq_getElem?_getD, h]
theorem numTo_lt (L : List UInt8) : ∀ k, k ≤ L.length → numTo L k < 256 ^ k
  | 0, _ => by simp [numTo]
  | k + 1, h => by
    have h1 := numTo_lt L k (by omega)
    rw [numTo_succ L k (by omega), Nat.pow_succ]
    have := UInt8.toNat_lt (L.getD k 0)
    omega
theorem shl_or (a b : Nat) (hb : b < 256) : a * 256 ||| b = a * 256 + b := by
  have := Nat.shiftLeft_add_eq_or_of_lt (b := b) (i := 8) hb a
  rw [Nat.shiftLeft_eq] at this
  exact this.symm
def r31 (A : Ar) (L : Unit → List UInt8) : SV := .int .u64 (A.ti fun _ => numTo (L ()) 8)
theorem good31 (L : List UInt8) (hn : 8 ≤ L.length) : GoodP Tryz.prog gl0 129 [rowS eB 0 1 std fun _ => L] (r31 std fun _ => L) := by
  refine fn_sound' (T := seatT) (G := noC) (X := noX) seatT_ok noC_ok noX_ok noI_ok mixed Tryz.func129 .one (fun A => [rowS eB 0 1 A fun _ => L]) (fun A => r31 A fun _ => L) fun A hA => ?_
  cbv
  refine ⟨⟨{k : Nat // k ≤ 8}, fun _ k => [(3, .int .u64 (A.ti fun _ => numTo L k.1)), (5, .int .i64 (k.1 : Nat))], fun _ _ => [], fun k => 8 - k.1, true⟩, ⟨⟨0, by omega⟩, ?_⟩, ?_⟩
  · cbv
    subst hA
    simp [sS, numTo]
  · rintro ⟨k, hk⟩
    cbv
    repeat' (first | with_reducible exact True.intro | with_reducible exact dr_ok hA (by kernel_rfl) | with_reducible refine And.intro ?_ ?_ | (intro hc; cbv))
    · subst hA; simp [sS]
    · subst hA; simp [sS] at hc ⊢; omega
    · have hlt : k < 8 := by subst hA; simp [sS] at hc; omega
      refine ⟨⟨k + 1, by omega⟩, ?_, show 8 - (k + 1) < 8 - k by omega⟩
      cbv
      repeat' (first | with_reducible exact True.intro | with_reducible exact dr_ok hA (by kernel_rfl) | with_reducible refine And.intro ?_ ?_ | (intro hc; cbv))
      all_goals (subst hA; simp [sS])
      · have h1 := numTo_lt L k (by omega)
        have h3 : 256 ^ k * 256 ≤ 256 ^ 8 := by rw [← Nat.pow_succ]; exact Nat.pow_le_pow_right (by decide) hlt
        have hs := numTo_succ L k (by omega)
        rw [List.getD_eq_getElem?_getD] at hs
        have hb := UInt8.toNat_lt (L[k]?.getD 0)
        generalize (L[k]?.getD 0).toNat = b at hs hb
        rw [show min 8 IntKind.u64.bits = 8 from rfl, wu64 (n := (b : Int)) ⟨by omega, by omega⟩]
        have e1 : IntKind.u64.wrap ((numTo L k : Int) * 2 ^ 8) = ((numTo L k * 256 : Nat) : Int) := by
          rw [wu64 ⟨by omega, by omega⟩]; simp
        rw [e1, bits_or_u64_nat _ _ (by omega) (by omega), shl_or _ _ (by omega), hs]
      · rw [w64 (by omega)]
    · have : k = 8 := by subst hA; simp [sS] at hc; omega
      subst hA this
      simp [sS]

/-! ### Fields -/
def bfieldsTo (h l n : Nat) : List Int := ((List.range' 2 (n - 2)).map Int.ofNat).filter (bhas h l)
theorem bfieldsTo_succ (h l n : Nat) (hn : 2 ≤ n) : bfieldsTo h l (n + 1) = if bhas h l n then bfieldsTo h l n ++ [(n : Int)] else bfieldsTo h l n := by
  unfold bfieldsTo
  rw [show n + 1 - 2 = (n - 2) + 1 by omega, List.range'_concat, List.map_append, List.filter_append]
  simp only [List.map_cons, List.map_nil, Nat.one_mul, List.filter_cons, List.filter_nil]
  rw [show 2 + (n - 2) = n by omega]
  cases hb : bhas h l n <;> simp [hb]
theorem bfieldsTo_len (h l n : Nat) : (bfieldsTo h l n).length ≤ n := by
  unfold bfieldsTo
  refine Nat.le_trans (List.length_filter_le _ _) ?_
  simp
def bfields (h l : Nat) : List Int := bfieldsTo h l 129
def r16 (A : Ar) (h l : Int) : SV := rowS eZ 0 1 A fun _ => bfields h.toNat l.toNat
theorem good16 {h l : Int} (hh : r64 h) (hl : r64 l) : GoodP Tryz.prog gl0 86 [.agg [.int .u64 h, .int .u64 l]] (r16 std h l) := by
  obtain ⟨h, rfl, lh⟩ := r64_nat hh
  obtain ⟨l, rfl, ll⟩ := r64_nat hl
  refine fn_sound' (T := seatT) (G := g2) (X := noX) seatT_ok g2_ok noX_ok noI_ok mixed Tryz.func86 .none (fun A => [.agg [.int .u64 h, .int .u64 l]]) (fun A => r16 A h l) fun A hA => ?_
  cbv
  refine ⟨⟨{n : Nat // 2 ≤ n ∧ n ≤ 129}, fun b n => [(3, .own b), (4, .int .i64 (n.1 : Nat))], fun b n => [(b, .row 3 1 (A.tn fun _ => (bfieldsTo h l n.1).length) (rowF eZ 0 A fun _ => bfieldsTo h l n.1))], fun n => 129 - n.1, true⟩, ⟨⟨2, by omega⟩, ?_⟩, ?_⟩
  · cbv
    subst hA
    simp [sS, bfieldsTo]
  · rintro ⟨n, hn1, hn2⟩
    cbv
    repeat' (first | with_reducible exact True.intro | with_reducible exact dr_ok hA (by kernel_rfl) | with_reducible refine And.intro ?_ ?_ | (intro hc; cbv))
    · have : n = 129 := by subst hA; simp [sS] at hc; omega
      subst hA this
      simp [sS, bfields]
    · have : n = 129 := by subst hA; simp [sS] at hc; omega
      subst hA this
      simp [sS, bfields]
    · subst hA; exact ⟨hh, hl⟩
    · have := bfieldsTo_len h l n
      subst hA
      simp [sS]; omega
    · rename_i hc1
      have hlt : n < 129 := by subst hA; simp [sS] at hc1; omega
      have hb : bhas h l n = true := by subst hA; simpa [sS] using hc
      refine ⟨⟨n + 1, by omega, by omega⟩, ?_, show 129 - (n + 1) < 129 - n by omega⟩
      have hs := bfieldsTo_succ h l n hn1
      rw [hb, if_pos rfl] at hs
      cbv
      repeat' (first | with_reducible exact True.intro | with_reducible exact dr_ok hA (by kernel_rfl) | with_reducible refine And.intro ?_ ?_ | (intro hc; cbv))
      all_goals (subst hA; simp [sS, hs])
      · rw [w64 (by omega)]
      · exact snoc_row rfl (cell_eZ _) rfl rfl
    · rename_i hc1
      have hlt : n < 129 := by subst hA; simp [sS] at hc1; omega
      have hb : bhas h l n = false := by subst hA; simpa [sS] using hc
      refine ⟨⟨n + 1, by omega, by omega⟩, ?_, show 129 - (n + 1) < 129 - n by omega⟩
      have hs := bfieldsTo_succ h l n hn1
      rw [hb, if_neg (by simp)] at hs
      cbv
      repeat' (first | with_reducible exact True.intro | with_reducible exact dr_ok hA (by kernel_rfl) | with_reducible refine And.intro ?_ ?_ | (intro hc; cbv))
      all_goals (subst hA; simp [sS, hs])
      · rw [w64 (by omega)]

/-! ### Of -/
/-- The bitmap of fields, or none. -/
def bofS (L : List Int) : Option (Nat × Nat) := L.foldl (fun o n => o.bind fun m => if bright m.1 m.2 && bfield n then some (bput m.1 m.2 n) else none) (some (0, 0))
def bof (L : List Int) : Nat × Nat := (bofS L).getD (0, 0)
def boferr (L : List Int) : Int := if (bofS L).isSome then 0 else 1
theorem bofS_none (f : Nat × Nat → Int → Option (Nat × Nat)) : ∀ L : List Int, L.foldl (fun o n => o.bind fun m => f m n) none = none
  | [] => rfl
  | _ :: L => by simpa using bofS_none f L
def bofTo (L : List Int) (k : Nat) : Option (Nat × Nat) := bofS (L.take k)
theorem bofTo_succ (L : List Int) (k : Nat) (h : k < L.length) : bofTo L (k + 1) = (bofTo L k).bind fun m => if bright m.1 m.2 && bfield (L.getD k 0) then some (bput m.1 m.2 (L.getD k 0)) else none := by
  unfold bofTo bofS
  rw [List.take_succ_eq_append_getElem h, List.foldl_append]
  simp [List.getD_eq_getElem?_getD, h]
theorem bofTo_stop (L : List Int) : ∀ k j, k ≤ j → bofTo L k = none → bofTo L j = none := by
  intro k j hkj hk
  obtain ⟨d, rfl⟩ := Nat.le.dest hkj
  unfold bofTo bofS at *
  rw [List.take_add, List.foldl_append, hk]
  exact bofS_none (fun m n => if bright m.1 m.2 && bfield n then some (bput m.1 m.2 n) else none) _
theorem bofTo_all (L : List Int) : bofTo L L.length = bofS L := by unfold bofTo; rw [List.take_length]
def r9 (A : Ar) (L : Unit → List Int) : SV := .tup [.agg [.int .u64 (A.ti fun _ => (bof (L ())).1), .int .u64 (A.ti fun _ => (bof (L ())).2)], .int .i64 (A.ti fun _ => boferr (L ()))]
theorem good9 (L : List Int) (hL : L.length ≤ 9223372036854775807) : GoodP Tryz.prog gl0 110 [rowS eZ 0 1 std fun _ => L] (r9 std fun _ => L) := by
  refine fn_sound' (T := seatT) (G := g3) (X := noX) seatT_ok g3_ok noX_ok noI_ok mixed Tryz.func110 .one (fun A => [rowS eZ 0 1 A fun _ => L]) (fun A => r9 A fun _ => L) fun A hA => ?_
  cbv
  refine ⟨⟨{p : Nat × Nat × Nat // p.1 ≤ L.length ∧ bofTo L p.1 = some p.2}, fun _ p => [(5, .int .i64 (p.1.1 : Nat))], fun _ p => [(2, .box 127 [.int .u64 (p.1.2.1 : Nat), .int .u64 (p.1.2.2 : Nat)])], fun p => L.length - p.1.1, true⟩, ⟨⟨(0, 0, 0), by omega, rfl⟩, ?_⟩, ?_⟩
  · cbv
    subst hA
    simp [sS]
  · rintro ⟨⟨k, h, l⟩, hk, hm⟩
    simp only at hk hm
    cbv
    have hb : (k : Nat) < L.length → (berr h l (L.getD k 0) = 0 ↔ bofTo L (k + 1) = some (bput h l (L.getD k 0))) ∧ (berr h l (L.getD k 0) ≠ 0 → berr h l (L.getD k 0) = 1 ∧ bofTo L (k + 1) = none) := by
      intro hlt
      have hs := bofTo_succ L k hlt
      rw [hm] at hs
      simp only [Option.bind_some] at hs
      unfold berr
      cases hq : (bright h l && bfield (L.getD k 0))
      · rw [hq] at hs; simp [hs]
      · rw [hq] at hs; simp [hs]
    have hr : r64 (h : Nat) ∧ r64 (l : Nat) := by
      have : ∀ k m, bofTo L k = some m → k ≤ L.length → m.1 < 18446744073709551616 ∧ m.2 < 18446744073709551616 := by
        intro k
        induction k with
        | zero => intro m hm _; simp [bofTo, bofS] at hm; subst hm; decide
        | succ k ih =>
          intro m hm hk
          rw [bofTo_succ L k (by omega)] at hm
          cases hq : bofTo L k with
          | none => rw [hq] at hm; cases hm
          | some m' =>
            rw [hq] at hm
            simp only [Option.bind_some] at hm
            split at hm
            · cases hm
              have := ih m' hq (by omega)
              exact bput_lt _ this.1 this.2
            · cases hm
      have := this k _ hm hk
      exact ⟨r64_of this.1, r64_of this.2⟩
    repeat' (first | with_reducible exact True.intro | with_reducible exact dr_ok hA (by kernel_rfl) | with_reducible refine And.intro ?_ ?_ | (intro hc; cbv))
    · have : k = L.length := by subst hA; simp [sS] at hc; omega
      subst this
      rw [bofTo_all] at hm
      subst hA; simp [sS, bof, hm]
    · have : k = L.length := by subst hA; simp [sS] at hc; omega
      subst this
      rw [bofTo_all] at hm
      subst hA; simp [sS, bof, hm]
    · have : k = L.length := by subst hA; simp [sS] at hc; omega
      subst this
      rw [bofTo_all] at hm
      subst hA; simp [sS, boferr, hm]
    · subst hA; simp [sS] at hc ⊢; omega
    · subst hA; exact hr
    · rename_i hc1
      have hlt : k < L.length := by subst hA; simp [sS] at hc1; omega
      have h2 : berr h l (L.getD k 0) ≠ 0 := by subst hA; simp [sS] at hc ⊢; exact hc
      have h3 := bofTo_stop L (k + 1) L.length hlt ((hb hlt).2 h2).2
      rw [bofTo_all] at h3
      subst hA; simp [sS, bof, h3]
    · rename_i hc1
      have hlt : k < L.length := by subst hA; simp [sS] at hc1; omega
      have h2 : berr h l (L.getD k 0) ≠ 0 := by subst hA; simp [sS] at hc ⊢; exact hc
      have h3 := bofTo_stop L (k + 1) L.length hlt ((hb hlt).2 h2).2
      rw [bofTo_all] at h3
      subst hA; simp [sS, bof, h3]
    · rename_i hc1
      have hlt : k < L.length := by subst hA; simp [sS] at hc1; omega
      have h2 : berr h l (L.getD k 0) ≠ 0 := by subst hA; simp [sS] at hc ⊢; exact hc
      have h3 := bofTo_stop L (k + 1) L.length hlt ((hb hlt).2 h2).2
      rw [bofTo_all] at h3
      have h4 := ((hb hlt).2 h2).1
      subst hA; simp [sS, boferr, h3] at h4 ⊢; exact h4
    · rename_i hc1
      have hlt : k < L.length := by subst hA; simp [sS] at hc1; omega
      have h2 : berr h l (L.getD k 0) = 0 := by subst hA; simp [sS] at hc ⊢; exact hc
      have hx := (hb hlt).1.1 h2
      clear hb
      obtain ⟨b, hbq⟩ : ∃ b, b = bput h l (L.getD k 0) := ⟨_, rfl⟩
      have hx' : k + 1 ≤ L.length ∧ bofTo L (k + 1) = some b := ⟨hlt, by rw [hbq]; exact hx⟩
      refine ⟨⟨(k + 1, b), hx'⟩, ?_, ?_⟩
      rotate_left
      · show L.length - (k + 1) < L.length - k
        omega
      cbv
      repeat' (first | with_reducible exact True.intro | with_reducible exact dr_ok hA (by kernel_rfl) | with_reducible refine And.intro ?_ ?_ | (intro hc; cbv))
      all_goals (subst hA; simp [sS])
      · rw [w64 (by omega)]
      · rw [hbq, List.getD_eq_getElem?_getD]
      · rw [hbq, List.getD_eq_getElem?_getD]
noncomputable def c31 : Ct := fun A args => match args with
  | [.slc n 1 f] => some (some (A.tp fun _ => isRow eB 0 1 n f ∧ 8 ≤ n), r31 A fun _ => lstOf eB 0 1 n f)
  | _ => none
noncomputable def c16 : Ct := fun A args => match args with
  | [.agg [.int .u64 h, .int .u64 l]] => some (some (A.tp fun _ => r64 h ∧ r64 l), r16 A h l)
  | _ => none
noncomputable def c9 : Ct := fun A args => match args with
  | [.slc n 1 f] => some (some (A.tp fun _ => isRow eZ 0 1 n f ∧ n ≤ 9223372036854775807), r9 A fun _ => lstOf eZ 0 1 n f)
  | _ => none
noncomputable def g4 : Ar → Pu := addC 129 c31 (addC 86 c16 (addC 110 c9 g3))
theorem g4_ok : PuOk Tryz.prog gl0 (g4 std) := by
  refine addC_ok (addC_ok (addC_ok g3_ok ⟨_, Tryz.func110, rfl, by decide⟩ ?_) ⟨_, Tryz.func86, rfl, by decide⟩ ?_) ⟨_, Tryz.func129, rfl, by decide⟩ ?_
  · intro args p r h hp
    unfold c9 at h
    split at h <;> cases h
    exact good_sv (good9 _ (by rw [lstOf_length hp.1]; exact hp.2)) ⟨hp.1.sv, trivial⟩
  · intro args p r h hp
    unfold c16 at h
    split at h <;> cases h
    exact good16 hp.1 hp.2
  · intro args p r h hp
    unfold c31 at h
    split at h <;> cases h
    exact good_sv (good31 _ (by rw [lstOf_length hp.1]; exact hp.2)) ⟨hp.1.sv, trivial⟩
end Go.Vd

set_option linter.unusedVariables false
set_option linter.unusedSimpArgs false
set_option maxRecDepth 100000
set_option maxHeartbeats 1000000
namespace Go.Vd
open Go.Proofs
/-- The byte of a number, the highest first. -/
def byteAt (v i : Nat) : UInt8 := UInt8.ofNat (v / 256 ^ (7 - i))
def be8 (v : Nat) : List UInt8 := (List.range 8).map (byteAt v)
def beTo (v k : Nat) : List UInt8 := (List.range k).map (byteAt v)
theorem beTo_succ (v k : Nat) : beTo v (k + 1) = beTo v k ++ [byteAt v k] := by simp [beTo, List.range_succ]
theorem beTo_len (v k : Nat) : (beTo v k).length = k := by simp [beTo]
def bbytes (h l : Nat) : List UInt8 := if bright h l then (if h.testBit 63 then be8 h ++ be8 l else be8 h) else []
def bbErr (h l : Nat) : Int := if bright h l then 0 else 1
theorem wu8 (n : Nat) : IntKind.u8.wrap (n : Int) = ((n % 256 : Nat) : Int) := by
  simp only [IntKind.wrap, IntKind.signed, IntKind.bits, Bool.false_and, Bool.false_eq_true, if_false]
  omega
theorem byte_conv (v k : Nat) (hk : k < 8) :
    IntKind.u8.wrap ((v : Int).fdiv (2 ^ min (IntKind.i64.wrap (64 - IntKind.i64.wrap (8 * IntKind.i64.wrap (k + 1)))).toNat IntKind.u64.bits)) = ((byteAt v k).toNat : Int) := by
  rw [w64 (n := (k : Int) + 1) (by omega), w64 (n := 8 * ((k : Int) + 1)) (by omega), w64 (by omega)]
  have e : min (64 - 8 * ((k : Int) + 1)).toNat IntKind.u64.bits = 8 * (7 - k) := by simp only [IntKind.bits]; omega
  have e2 : (2 ^ (8 * (7 - k)) : Int) = ((256 ^ (7 - k) : Nat) : Int) := by rw [Int.pow_mul, Int.natCast_pow]; rfl
  rw [e, e2, Int.fdiv_eq_ediv_of_nonneg _ (Int.natCast_nonneg _), ← Int.natCast_ediv, wu8]
  simp [byteAt]
noncomputable def i18 : Nat → Option Func := addI 148 Tryz.f148 noI
theorem i18_ok : InOk Tryz.prog i18 := addI_ok noI_ok Tryz.func148 (by decide)
def r18 (A : Ar) (h l : Int) : SV := .tup [.frs 5 1 (A.tn fun _ => (bbytes h.toNat l.toNat).length) (rowF eB 0 A fun _ => bbytes h.toNat l.toNat), .int .i64 (A.ti fun _ => bbErr h.toNat l.toNat)]
theorem good18 {h l : Int} (hh : r64 h) (hl : r64 l) : GoodP Tryz.prog gl0 111 [.agg [.int .u64 h, .int .u64 l]] (r18 std h l) := by
  obtain ⟨h, rfl, lh⟩ := r64_nat hh
  obtain ⟨l, rfl, ll⟩ := r64_nat hl
  refine fn_sound' (T := seatT) (G := g4) (X := noX) seatT_ok g4_ok noX_ok i18_ok mixed Tryz.func111 (.fresh 5 1) (fun A => [.agg [.int .u64 h, .int .u64 l]]) (fun A => r18 A h l) fun A hA => ?_
  cbv
  repeat' (first | with_reducible exact True.intro | with_reducible exact dr_ok hA (by kernel_rfl) | with_reducible refine And.intro ?_ ?_ | (intro hc; cbv))
  · subst hA; exact ⟨hh, hl⟩
  · subst hA; simp [sS] at hc ⊢; simp [bbytes, hc]
  · subst hA; simp [sS] at hc ⊢; simp [bbytes, hc]; exact fun i j hi => absurd hi (by omega)
  · subst hA; simp [sS] at hc ⊢; simp [bbErr, hc]
  · have hb : bright h l = true := by subst hA; simpa [sS] using hc
    refine ⟨⟨{k : Nat // k ≤ 8}, fun b k => [(0, .own b), (6, .int .i64 (k.1 : Nat))], fun b k => [(b, .row 5 1 k.1 (rowF eB 0 A fun _ => beTo h k.1))], fun k => 8 - k.1, true⟩, ⟨⟨0, by omega⟩, ?_⟩, ?_⟩
    · cbv
      subst hA
      simp [sS]
    · rintro ⟨k, hk⟩
      cbv
      repeat' (first | with_reducible exact True.intro | with_reducible exact dr_ok hA (by kernel_rfl) | with_reducible refine And.intro ?_ ?_ | (intro hc; cbv))
      · subst hA; simp [sS] at hc ⊢; rw [w64 (n := (k : Int) + 1) (by omega), w64 (n := 8 * ((k : Int) + 1)) (by omega), w64 (by omega)]; omega
      · subst hA; simp [sS]; omega
      · have hlt : k < 8 := by subst hA; simp [sS] at hc; omega
        refine ⟨⟨k + 1, by omega⟩, ?_, show 8 - (k + 1) < 8 - k by omega⟩
        cbv
        repeat' (first | with_reducible exact True.intro | with_reducible exact dr_ok hA (by kernel_rfl) | with_reducible refine And.intro ?_ ?_ | (intro hc; cbv))
        all_goals (subst hA; simp [sS])
        · rw [w64 (by omega)]
        · exact snoc_row (by simp [beTo_len]) (cell_eB (byte_conv h k hlt)) (beTo_succ h k).symm (by simp)
      · subst hA; exact hh
      · have hk8 : k = 8 := by subst hA; simp [sS] at *; omega
        have ht : h.testBit 63 = true := by subst hA; simp [sS] at *; assumption
        subst hk8
        refine ⟨⟨{k : Nat // k ≤ 8}, fun b k => [(0, .own 10), (6, .int .i64 (k.1 : Nat))], fun b k => [(10, .row 5 1 (A.tn fun _ => 8 + k.1) (rowF eB 0 A fun _ => be8 h ++ beTo l k.1))], fun k => 8 - k.1, true⟩, ⟨⟨0, by omega⟩, ?_⟩, ?_⟩
        · cbv
          repeat' (first | with_reducible exact True.intro | with_reducible exact dr_ok hA (by kernel_rfl) | with_reducible refine And.intro ?_ ?_ | (intro hc; cbv))
          all_goals (subst hA; simp [sS, beTo, be8])
        · rintro ⟨k, hk⟩
          cbv
          repeat' (first | with_reducible exact True.intro | with_reducible exact dr_ok hA (by kernel_rfl) | with_reducible refine And.intro ?_ ?_ | (intro hc; cbv))
          · subst hA; simp [sS] at hc ⊢; rw [w64 (n := (k : Int) + 1) (by omega), w64 (n := 8 * ((k : Int) + 1)) (by omega), w64 (by omega)]; omega
          · subst hA; simp [sS]; omega
          · have hlt : k < 8 := by subst hA; simp [sS] at hc; omega
            refine ⟨⟨k + 1, by omega⟩, ?_, show 8 - (k + 1) < 8 - k by omega⟩
            cbv
            repeat' (first | with_reducible exact True.intro | with_reducible exact dr_ok hA (by kernel_rfl) | with_reducible refine And.intro ?_ ?_ | (intro hc; cbv))
            all_goals (subst hA; simp [sS])
            · rw [w64 (by omega)]
            · omega
            · exact snoc_row (by simp [beTo_len, be8]) (cell_eB (byte_conv l k hlt)) (by rw [beTo_succ, List.append_assoc]) (by omega)
          · have hk8 : k = 8 := by subst hA; simp [sS] at hc; omega
            subst hA hk8
            simp [sS, bbytes, hb, ht, be8]
          · have hk8 : k = 8 := by subst hA; simp [sS] at hc; omega
            subst hA hk8
            simp [sS, bbytes, hb, ht, be8, beTo]
          · subst hA; simp [sS, bbErr, hb]
      · have hk8 : k = 8 := by subst hA; simp [sS] at *; omega
        have ht : h.testBit 63 = false := by subst hA; simp [sS] at *; assumption
        subst hA hk8
        simp [sS, bbytes, hb, ht, be8]
      · have hk8 : k = 8 := by subst hA; simp [sS] at *; omega
        have ht : h.testBit 63 = false := by subst hA; simp [sS] at *; assumption
        subst hA hk8
        simp [sS, bbytes, hb, ht, be8, beTo]
      · subst hA; simp [sS, bbErr, hb]
end Go.Vd

set_option linter.unusedVariables false
set_option linter.unusedSimpArgs false
set_option maxRecDepth 100000
set_option maxHeartbeats 1000000
namespace Go.Vd
open Go.Proofs
noncomputable def c18 : Ct := fun A args => match args with
  | [.agg [.int .u64 h, .int .u64 l]] => some (some (A.tp fun _ => r64 h ∧ r64 l), r18 A h l)
  | _ => none
def brH (L : List UInt8) : Nat := numTo L 8
def brM (L : List UInt8) : Bool := (brH L).testBit 63
def brL (L : List UInt8) : Nat := if brM L then numTo (L.drop 8) 8 else 0
def brE (L : List UInt8) : Int :=
  if L.length < 8 then 2 else if brM L && decide (L.length < 16) then 2 else if bright (brH L) (brL L) then 0 else 3
def brN (L : List UInt8) : Int := if brE L = 0 then (if brM L then 16 else 8) else 0
def br1 (L : List UInt8) : Nat := if brE L = 0 then brH L else 0
def br2 (L : List UInt8) : Nat := if brE L = 0 then brL L else 0
theorem numTo_r (L : List UInt8) (h : 8 ≤ L.length) : r64 (numTo L 8 : Nat) := r64_of (Nat.lt_of_lt_of_le (numTo_lt L 8 h) (by decide))
theorem brL_r (L : List UInt8) (h : brM L = true → 16 ≤ L.length) : r64 (brL L : Nat) := by
  unfold brL
  split
  · rename_i hb
    exact numTo_r _ (by have := h hb; simp; omega)
  · exact r64_of (by decide)
theorem rep_drop (L : List UInt8) (a : Nat) : Reps eB 0 1 (L.length - a) (fun i => rowF eB 0 std (fun _ => L) (a + i)) (L.drop a) := by
  refine ⟨by simp, fun i j hi hj => .of_eq ?_⟩
  simp [rowF, List.getD_eq_getElem?_getD]
theorem lst_drop (L : List UInt8) (a : Nat) : lstOf eB 0 1 (L.length - a) (fun i => rowF eB 0 std (fun _ => L) (a + i)) = L.drop a := lstOf_eq inj_eB (rep_drop L a)
theorem row_drop (L : List UInt8) (a : Nat) : isRow eB 0 1 (L.length - a) (fun i => rowF eB 0 std (fun _ => L) (a + i)) := ⟨_, rep_drop L a⟩
def r20 (A : Ar) (L : Unit → List UInt8) : SV := .tup [.agg [.int .u64 (A.ti fun _ => br1 (L ())), .int .u64 (A.ti fun _ => br2 (L ()))], .int .i64 (A.ti fun _ => brN (L ())), .int .i64 (A.ti fun _ => brE (L ()))]
theorem good20 (L : List UInt8) (hn : L.length ≤ 9223372036854775807) : GoodP Tryz.prog gl0 84 [rowS eB 0 1 std fun _ => L] (r20 std fun _ => L) := by
  refine fn_sound' (T := seatT) (G := g4) (X := noX) seatT_ok g4_ok noX_ok noI_ok mixed Tryz.func84 .one (fun A => [rowS eB 0 1 A fun _ => L]) (fun A => r20 A fun _ => L) fun A hA => ?_
  cbv
  repeat' (first | with_reducible exact True.intro | with_reducible exact dr_ok hA (by kernel_rfl) | with_reducible refine And.intro ?_ ?_ | (intro hc; cbv))
  all_goals (subst hA; simp [std_add, std_sub, std_mul, std_quo, std_rem, std_band, std_bor, std_bxor, std_shl, std_shr, std_eq, std_ne, std_lt, std_le, std_conv, std_not, std_beq, std_bne, std_ite, std_want, std_and2, std_sadd, std_seq, std_sne, std_slt, std_sle, std_sgt, std_sge, std_slen, std_sget, std_scut, std_ofNat, std_toNat, std_nsub, std_nadd, std_lenOf, std_nz, std_nneg, std_inb, std_upto, std_slt63, std_grow, std_imp, std_impN, std_tr, std_tb, std_ti, std_ts, std_tn, std_tp, std_nmin, std_makes, std_room, std_zeros, std_nilq, std_notq, std_eqi, std_eqn, std_eqb, std_eqs, std_eqv, std_cat, std_lst, std_rset, std_rcopy, std_shift, std_eqr, std_strOf, std_bytesOf, std_isB, std_zOf, zOf_int, std_isI, isI_int, std_getL, std_nmul, std_sOf, sOf_str, std_isS, isS_str, std_fadd, std_fsub, std_fav, std_fsv, std_feq, std_fne, std_flt, std_fle, std_fgt, std_fge, std_fOf, std_fTo, std_fTv, strOf_lit, lstOf_lit inj_eB, lstOf_lit inj_eZ, lstOf_lit inj_eBs, lstOf_lit inj_eS, isRow_lit, isB_lit, isRow_nil, lstOf_nil inj_eB, lstOf_nil inj_eZ, lstOf_nil inj_eBs, lstOf_nil inj_eS, lst_drop, row_drop] at *)
  all_goals first
    | omega
    | exact numTo_r _ (by omega)
    | exact ⟨numTo_r _ (by omega), numTo_r _ (by simp; omega)⟩
    | exact ⟨numTo_r _ (by omega), r64_of (by decide)⟩
    | (have e1 : L.length < 8 := by omega
       simp [br1, br2, brN, brE, e1]; done)
    | (have e1 : ¬ L.length < 8 := by omega
       have e2 : L.length < 16 := by omega
       simp [br1, br2, brN, brE, brL, brM, brH, e1, e2, *]; done)
    | (have e1 : ¬ L.length < 8 := by omega
       have e2 : ¬ L.length < 16 := by omega
       simp [br1, br2, brN, brE, brL, brM, brH, e1, e2, *]; done)
    | (have e1 : ¬ L.length < 8 := by omega
       simp [br1, br2, brN, brE, brL, brM, brH, e1, *]; done)
noncomputable def c20 : Ct := fun A args => match args with
  | [.slc n 1 f] => some (some (A.tp fun _ => isRow eB 0 1 n f ∧ n ≤ 9223372036854775807), r20 A fun _ => lstOf eB 0 1 n f)
  | _ => none
theorem c20_ok {n : Nat} {f : Nat → Nat → SV} (hp : isRow eB 0 1 n f ∧ n ≤ 9223372036854775807) : GoodP Tryz.prog gl0 84 [.slc n 1 f] (r20 std fun _ => lstOf eB 0 1 n f) :=
  good_sv (good20 _ (by rw [lstOf_length hp.1]; exact hp.2)) ⟨hp.1.sv, trivial⟩
end Go.Vd

set_option linter.unusedVariables false
set_option linter.unusedSimpArgs false
set_option maxRecDepth 100000
set_option maxHeartbeats 1000000
namespace Go.Vd
open Go.Proofs
theorem bhi_bit (n : Int) (i : Nat) : (bhi n).testBit i = (decide (n ≤ 64) && decide (i = (64 - n).toNat)) := by
  unfold bhi
  split
  · rename_i h
    simp only [h, decide_true, Bool.true_and, Nat.testBit_two_pow, decide_eq_decide]
    omega
  · rename_i h; simp [h]
theorem blo_bit (n : Int) (i : Nat) : (blo n).testBit i = (decide (64 < n) && decide (i = (128 - n).toNat)) := by
  unfold blo
  split
  · rename_i h
    have : ¬ 64 < n := by omega
    simp [this]
  · rename_i h
    have : 64 < n := by omega
    simp only [this, decide_true, Bool.true_and, Nat.testBit_two_pow, decide_eq_decide]
    omega
theorem top_bit (i : Nat) : (9223372036854775808 : Nat).testBit i = decide (i = 63) := by
  rw [show (9223372036854775808 : Nat) = 2 ^ 63 from rfl, Nat.testBit_two_pow, decide_eq_decide]
  omega
theorem or_zero_iff {a b : Nat} : a ||| b = 0 ↔ a = 0 ∧ b = 0 := by
  constructor
  · intro h
    constructor
    · apply Nat.eq_of_testBit_eq; intro i
      have := congrArg (fun x => x.testBit i) h
      simp only [Nat.testBit_or, Nat.zero_testBit, Bool.or_eq_false_iff] at this
      simp [this.1]
    · apply Nat.eq_of_testBit_eq; intro i
      have := congrArg (fun x => x.testBit i) h
      simp only [Nat.testBit_or, Nat.zero_testBit, Bool.or_eq_false_iff] at this
      simp [this.2]
  · rintro ⟨rfl, rfl⟩; rfl
theorem bput_no {h l : Nat} {n : Int} (hq : (bright h l && bfield n) = false) : bput h l n = (h, l) := by simp [bput, hq]
theorem bput_snd {h l : Nat} {n : Int} (hb : bright h l = true) (hf : bfield n = true) : (bput h l n).2 = l ||| blo n := by simp [bput, hb, hf]
theorem bput_fst {h l : Nat} {n : Int} (hb : bright h l = true) (hf : bfield n = true) (i : Nat) : (bput h l n).1.testBit i = (h.testBit i || (bhi n).testBit i || (decide (i = 63) && decide (l ||| blo n ≠ 0))) := by
  simp only [bput, hb, hf, Bool.and_self, if_true]
  split
  · rename_i h0; simp [Nat.testBit_or, top_bit, h0]
  · rename_i h0
    simp only [ne_eq, Decidable.not_not] at h0
    simp [Nat.testBit_or, h0]
theorem bright_iff {h l : Nat} : bright h l = true ↔ l.testBit 63 = false ∧ (h.testBit 63 = decide (l ≠ 0)) := by
  simp [bright]
theorem bput_bright {h l : Nat} {n : Int} (hb : bright h l = true) (hf : bfield n = true) : bright (bput h l n).1 (bput h l n).2 = true := by
  have h0 := bright_iff.1 hb
  have h1 := bfield_iff.1 hf
  refine bright_iff.2 ⟨?_, ?_⟩
  · rw [bput_snd hb hf, Nat.testBit_or, h0.1, blo_bit]
    simp; omega
  · rw [bput_fst hb hf, h0.2, bhi_bit, bput_snd hb hf]
    have : ¬ (63 = (64 - n).toNat) := by omega
    simp only [this, decide_false, Bool.and_false, Bool.or_false, decide_true, Bool.true_and]
    by_cases hl : l = 0
    · simp [hl]
    · have : ¬ (l ||| blo n = 0) := fun e => hl (or_zero_iff.1 e).1
      simp [hl, this]
theorem or_self3 (a b : Nat) : (a ||| b) ||| b = a ||| b := by rw [Nat.or_assoc, Nat.or_self]
theorem bput_again {h l : Nat} {n : Int} (hb : bright h l = true) (hf : bfield n = true) : bput (bput h l n).1 (bput h l n).2 n = bput h l n := by
  have hb' := bput_bright hb hf
  apply Prod.ext
  · apply Nat.eq_of_testBit_eq; intro i
    rw [bput_fst hb' hf, bput_fst hb hf, bput_snd hb hf, or_self3]
    cases h.testBit i <;> cases (bhi n).testBit i <;> simp
  · rw [bput_snd hb' hf, bput_snd hb hf, or_self3]
theorem bput_comm {h l : Nat} {n o : Int} (hb : bright h l = true) (hf : bfield n = true) (hg : bfield o = true) : bput (bput h l n).1 (bput h l n).2 o = bput (bput h l o).1 (bput h l o).2 n := by
  have hb1 := bput_bright hb hf
  have hb2 := bput_bright hb hg
  have hc : l ||| blo n ||| blo o = l ||| blo o ||| blo n := by rw [Nat.or_assoc, Nat.or_comm (blo n), ← Nat.or_assoc]
  apply Prod.ext
  · apply Nat.eq_of_testBit_eq; intro i
    rw [bput_fst hb1 hg, bput_fst hb hf, bput_snd hb hf, bput_fst hb2 hf, bput_fst hb hg, bput_snd hb hg, hc]
    by_cases hi : i = 63
    · subst hi
      by_cases h1 : l ||| blo n = 0
      · by_cases h2 : l ||| blo o = 0
        · simp [h1, h2, Bool.or_comm, Bool.or_left_comm, Bool.or_assoc]
        · have : ¬ (l ||| blo o ||| blo n = 0) := fun e => h2 (or_zero_iff.1 e).1
          simp [this]
      · have : ¬ (l ||| blo o ||| blo n = 0) := fun e => h1 (by rw [← hc] at e; exact (or_zero_iff.1 e).1)
        simp [this]
    · simp [hi, Bool.or_comm, Bool.or_left_comm, Bool.or_assoc]
  · rw [bput_snd hb1 hg, bput_snd hb hf, bput_snd hb2 hf, bput_snd hb hg, hc]
theorem bput_has {h l : Nat} {n : Int} (hb : bright h l = true) (hf : bfield n = true) : bhas (bput h l n).1 (bput h l n).2 n = true := by
  unfold bhas
  rw [hf, bput_fst hb hf, bput_snd hb hf, Nat.testBit_or, bhi_bit, blo_bit]
  by_cases hn : n ≤ 64
  · simp [hn]
  · have : 64 < n := by omega
    simp [hn, this]
theorem bput_other {h l : Nat} {n o : Int} (hb : bright h l = true) (hf : bfield n = true) (hne : o ≠ n) : bhas (bput h l n).1 (bput h l n).2 o = bhas h l o := by
  unfold bhas
  cases hg : bfield o
  · rfl
  · have h1 := bfield_iff.1 hf
    have h2 := bfield_iff.1 hg
    rw [bput_fst hb hf, bput_snd hb hf, Nat.testBit_or, bhi_bit, blo_bit]
    by_cases hn : o ≤ 64
    · have e1 : ¬ ((64 - o).toNat = 63) := by omega
      have e2 : (decide (n ≤ 64) && decide ((64 - o).toNat = (64 - n).toNat)) = false := by simp; omega
      simp only [hn, if_true, e1, e2, decide_false, Bool.false_and, Bool.or_false]
    · have e2 : (decide (64 < n) && decide ((128 - o).toNat = (128 - n).toNat)) = false := by simp; omega
      simp only [hn, if_false, e2, Bool.or_false]
end Go.Vd

set_option linter.unusedVariables false
set_option linter.unusedSimpArgs false
set_option maxRecDepth 100000
set_option maxHeartbeats 1000000
namespace Go.Vd
open Go.Proofs
theorem be8_len (v : Nat) : (be8 v).length = 8 := by simp [be8]
theorem be8_get (v i : Nat) (h : i < 8) (r : List UInt8) : (be8 v ++ r).getD i 0 = byteAt v i := by
  rw [List.getD_eq_getElem?_getD, List.getElem?_append_left (by rw [be8_len]; exact h)]
  simp [be8, h]
theorem byteAt_nat (v i : Nat) : (byteAt v i).toNat = v / 256 ^ (7 - i) % 256 := by simp [byteAt]
theorem numTo_be8 (v : Nat) (hv : v < 18446744073709551616) (r : List UInt8) : ∀ k, k ≤ 8 → numTo (be8 v ++ r) k = v / 256 ^ (8 - k)
  | 0, _ => by
    simp only [numTo, List.take_zero, List.foldl_nil]
    rw [Nat.div_eq_of_lt]; exact hv
  | k + 1, h => by
    rw [numTo_succ _ _ (by simp [be8_len]; omega), numTo_be8 v hv r k (by omega), be8_get v k (by omega), byteAt_nat]
    rw [show 8 - k = (7 - k) + 1 by omega, Nat.pow_succ, ← Nat.div_div_eq_div_mul, show 8 - (k + 1) = 7 - k by omega]
    omega
theorem numTo_back (v : Nat) (hv : v < 18446744073709551616) (r : List UInt8) : numTo (be8 v ++ r) 8 = v := by
  rw [numTo_be8 v hv r 8 (by omega)]; simp
theorem numTo_div (L : List UInt8) (k : Nat) : ∀ d, k + d ≤ L.length → numTo L (k + d) / 256 ^ d = numTo L k
  | 0, _ => by simp
  | d + 1, h => by
    rw [← Nat.add_assoc, numTo_succ _ _ (by omega), Nat.pow_succ, Nat.mul_comm (256 ^ d), ← Nat.div_div_eq_div_mul]
    have := UInt8.toNat_lt (L.getD (k + d) 0)
    rw [show (numTo L (k + d) * 256 + (L.getD (k + d) 0).toNat) / 256 = numTo L (k + d) by omega]
    exact numTo_div L k d (by omega)
theorem byteAt_num (L : List UInt8) (h : 8 ≤ L.length) (i : Nat) (hi : i < 8) : byteAt (numTo L 8) i = L.getD i 0 := by
  apply UInt8.toNat_inj.1
  rw [byteAt_nat]
  have := numTo_div L (i + 1) (7 - i) (by omega)
  rw [show i + 1 + (7 - i) = 8 by omega] at this
  rw [this, numTo_succ _ _ (by omega)]
  have := UInt8.toNat_lt (L.getD i 0)
  omega
theorem be8_num (L : List UInt8) (h : 8 ≤ L.length) : be8 (numTo L 8) = L.take 8 := by
  apply List.ext_getElem
  · rw [be8_len]; simp; omega
  · intro i h1 h2
    rw [be8_len] at h1
    have := byteAt_num L h i h1
    rw [List.getD_eq_getElem?_getD, List.getElem?_eq_getElem (by omega)] at this
    simpa [be8] using this
theorem numTo_take (L : List UInt8) (c k : Nat) (h : k ≤ c) : numTo (L.take c) k = numTo L k := by
  unfold numTo
  rw [List.take_take, Nat.min_eq_left h]

theorem bb_len {h l : Nat} (hb : bright h l = true) : (bbytes h l).length = if h.testBit 63 then 16 else 8 := by
  unfold bbytes
  rw [hb]
  cases h.testBit 63 <;> simp [be8_len]
theorem bright_lo {h l : Nat} (hb : bright h l = true) (ht : h.testBit 63 = false) : l = 0 := by
  have := (bright_iff.1 hb).2
  rw [ht] at this
  have := of_decide_eq_false this.symm
  omega
/-- Read back, whatever is behind. -/
theorem read_back {h l : Nat} (hh : h < 18446744073709551616) (hl : l < 18446744073709551616) (hb : bright h l = true) (r : List UInt8) :
    brE (bbytes h l ++ r) = 0 ∧ br1 (bbytes h l ++ r) = h ∧ br2 (bbytes h l ++ r) = l ∧ brN (bbytes h l ++ r) = (bbytes h l).length := by
  have hlen := bb_len hb
  cases ht : h.testBit 63
  · have e : bbytes h l = be8 h := by simp [bbytes, hb, ht]
    rw [ht] at hlen
    simp only [Bool.false_eq_true, if_false] at hlen
    rw [e]
    rw [e] at hlen
    have hH : brH (be8 h ++ r) = h := numTo_back h hh r
    have hM : brM (be8 h ++ r) = false := by unfold brM; rw [hH, ht]
    have hL : brL (be8 h ++ r) = l := by unfold brL; rw [hM, bright_lo hb ht]; rfl
    have hE : brE (be8 h ++ r) = 0 := by
      unfold brE
      rw [hM, hH, hL, hb, if_neg (by simp [hlen])]; simp
    refine ⟨hE, ?_, ?_, ?_⟩
    · unfold br1; rw [hE, hH]; simp
    · unfold br2; rw [hE, hL]; simp
    · unfold brN; rw [hE, hM, hlen]; simp
  · have e : bbytes h l = be8 h ++ be8 l := by simp [bbytes, hb, ht]
    rw [ht] at hlen
    simp only [if_true] at hlen
    rw [e] at hlen ⊢
    rw [List.append_assoc]
    have hH : brH (be8 h ++ (be8 l ++ r)) = h := numTo_back h hh _
    have hM : brM (be8 h ++ (be8 l ++ r)) = true := by unfold brM; rw [hH, ht]
    have hL : brL (be8 h ++ (be8 l ++ r)) = l := by
      unfold brL; rw [hM, if_pos rfl, List.drop_append_of_le_length (by rw [be8_len]; exact Nat.le_refl _), List.drop_of_length_le (by rw [be8_len]; exact Nat.le_refl _), List.nil_append]
      exact numTo_back l hl r
    have hE : brE (be8 h ++ (be8 l ++ r)) = 0 := by
      unfold brE
      rw [hM, hH, hL, hb, if_neg (by simp [be8_len] <;> omega), if_neg (by simp [be8_len] <;> omega)]; simp
    refine ⟨hE, ?_, ?_, ?_⟩
    · unfold br1; rw [hE, hH]; simp
    · unfold br2; rw [hE, hL]; simp
    · unfold brN; rw [hE, hM, hlen]; simp
/-- Cut, too short. -/
theorem read_cut {h l : Nat} (hh : h < 18446744073709551616) (hb : bright h l = true) (c : Nat) (hc : c < (bbytes h l).length) : brE ((bbytes h l).take c) = 2 := by
  have hlen := bb_len hb
  have hl2 : ((bbytes h l).take c).length = c := by simp; omega
  unfold brE
  rw [hl2]
  by_cases h8 : c < 8
  · rw [if_pos h8]
  · rw [if_neg h8]
    cases ht : h.testBit 63
    · rw [ht] at hlen; simp only [Bool.false_eq_true, if_false] at hlen; omega
    · rw [ht] at hlen; simp only [if_true] at hlen
      have e : bbytes h l = be8 h ++ be8 l := by simp [bbytes, hb, ht]
      have hM : brM ((bbytes h l).take c) = true := by
        unfold brM brH
        rw [numTo_take _ _ _ (by omega), e, numTo_back h hh, ht]
      rw [hM, if_pos (by simp; omega)]
/-- What is read has just these bytes. -/
theorem read_bytes (L : List UInt8) (h : brE L = 0) : bright (br1 L) (br2 L) = true ∧ bbytes (br1 L) (br2 L) = L.take (brN L).toNat ∧ 0 < brN L ∧ brN L ≤ L.length ∧ br1 L < 18446744073709551616 ∧ br2 L < 18446744073709551616 := by
  have e1 : br1 L = brH L := by unfold br1; rw [h]; simp
  have e2 : br2 L = brL L := by unfold br2; rw [h]; simp
  have e3 : brN L = if brM L then 16 else 8 := by unfold brN; rw [h]; simp
  have h8 : 8 ≤ L.length := by
    refine Nat.le_of_not_lt fun hlt => ?_
    unfold brE at h; rw [if_pos hlt] at h; cases h
  have h16 : brM L = true → 16 ≤ L.length := by
    intro hM
    refine Nat.le_of_not_lt fun hlt => ?_
    unfold brE at h; rw [if_neg (by omega), hM, if_pos (by simp; omega)] at h; cases h
  have hb : bright (brH L) (brL L) = true := by
    cases hb : bright (brH L) (brL L)
    · unfold brE at h
      rw [if_neg (by omega), if_neg (by
        cases hM : brM L
        · simp
        · have := h16 hM; simp; omega), hb] at h
      cases h
    · rfl
  have r1 : brH L < 18446744073709551616 := Nat.lt_of_lt_of_le (numTo_lt L 8 h8) (by decide)
  rw [e1, e2, e3]
  refine ⟨hb, ?_, ?_, ?_, r1, ?_⟩
  · unfold bbytes
    rw [hb, if_pos rfl]
    cases hM : brM L
    · have : (brH L).testBit 63 = false := hM
      rw [this]
      simp only [Bool.false_eq_true, if_false]
      exact be8_num L h8
    · have : (brH L).testBit 63 = true := hM
      have hl := h16 hM
      rw [this]
      simp only [if_true]
      have hx : brL L = numTo (L.drop 8) 8 := by unfold brL; rw [hM]; rfl
      rw [hx, be8_num (L.drop 8) (by simp; omega), show brH L = numTo L 8 from rfl, be8_num L h8]
      have := List.take_add (l := L) (i := 8) (j := 8)
      exact this.symm
  · cases brM L <;> decide
  · cases hM : brM L
    · simp; omega
    · have := h16 hM; simp; omega
  · unfold brL
    cases hM : brM L
    · simp
    · have := h16 hM
      exact Nat.lt_of_lt_of_le (numTo_lt (L.drop 8) 8 (by simp; omega)) (by decide)

/-! ### The bitmap of its fields -/
theorem bright_ext {h l h' l' : Nat} (hh : h < 18446744073709551616) (hl : l < 18446744073709551616) (hh' : h' < 18446744073709551616) (hl' : l' < 18446744073709551616)
    (hb : bright h l = true) (hb' : bright h' l' = true) (hs : ∀ q : Int, bhas h l q = bhas h' l' q) : h = h' ∧ l = l' := by
  have e : l = l' := by
    apply Nat.eq_of_testBit_eq
    intro i
    by_cases hi : i < 63
    · have := hs (128 - i)
      have hf : bfield (128 - (i : Int)) = true := bfield_iff.2 ⟨by omega, by omega, by omega⟩
      unfold bhas at this
      rw [hf, if_neg (by omega), if_neg (by omega), show (128 - (128 - (i : Int))).toNat = i by omega] at this
      simpa using this
    · by_cases h63 : i = 63
      · subst h63; rw [(bright_iff.1 hb).1, (bright_iff.1 hb').1]
      · rw [Nat.testBit_lt_two_pow (Nat.lt_of_lt_of_le hl (by have := Nat.pow_le_pow_right (n := 2) (by decide) (show 64 ≤ i by omega); exact this)), Nat.testBit_lt_two_pow (Nat.lt_of_lt_of_le hl' (by have := Nat.pow_le_pow_right (n := 2) (by decide) (show 64 ≤ i by omega); exact this))]
  refine ⟨?_, e⟩
  apply Nat.eq_of_testBit_eq
  intro i
  by_cases hi : i < 63
  · have := hs (64 - i)
    have hf : bfield (64 - (i : Int)) = true := bfield_iff.2 ⟨by omega, by omega, by omega⟩
    unfold bhas at this
    rw [hf, if_pos (by omega), if_pos (by omega), show (64 - (64 - (i : Int))).toNat = i by omega] at this
    simpa using this
  · by_cases h63 : i = 63
    · subst h63; rw [(bright_iff.1 hb).2, (bright_iff.1 hb').2, e]
    · rw [Nat.testBit_lt_two_pow (Nat.lt_of_lt_of_le hh (by have := Nat.pow_le_pow_right (n := 2) (by decide) (show 64 ≤ i by omega); exact this)), Nat.testBit_lt_two_pow (Nat.lt_of_lt_of_le hh' (by have := Nat.pow_le_pow_right (n := 2) (by decide) (show 64 ≤ i by omega); exact this))]
theorem bofS_snoc (L : List Int) (n : Int) : bofS (L ++ [n]) = (bofS L).bind fun m => if bright m.1 m.2 && bfield n then some (bput m.1 m.2 n) else none := by
  unfold bofS
  rw [List.foldl_append]
  rfl
theorem of_fieldsTo (h l : Nat) : ∀ d, d ≤ 127 → ∃ a b, bofS (bfieldsTo h l (2 + d)) = some (a, b) ∧ bright a b = true ∧ a < 18446744073709551616 ∧ b < 18446744073709551616 ∧ ∀ q : Int, bhas a b q = (bhas h l q && decide (q < 2 + d))
  | 0, _ => by
    refine ⟨0, 0, rfl, by decide, by decide, by decide, fun q => ?_⟩
    have h0 : bhas 0 0 q = false := by unfold bhas; split <;> simp
    rw [h0]
    cases hb : bhas h l q
    · simp
    · have hf : bfield q = true := by unfold bhas at hb; simp at hb; exact hb.1
      have := (bfield_iff.1 hf).1
      simp; omega
  | d + 1, hd => by
    obtain ⟨a, b, h1, h2, h3, h4, h5⟩ := of_fieldsTo h l d (by omega)
    have hs := bfieldsTo_succ h l (2 + d) (by omega)
    rw [show 2 + (d + 1) = 2 + d + 1 by omega]
    cases hb : bhas h l ((2 + d : Nat) : Int)
    · rw [hb] at hs
      refine ⟨a, b, by rw [hs]; simpa using h1, h2, h3, h4, fun q => ?_⟩
      rw [h5]
      by_cases hq : q = ((2 + d : Nat) : Int)
      · subst hq; rw [hb]; simp
      · congr 1
        rw [decide_eq_decide]; omega
    · rw [hb, if_pos rfl] at hs
      have hf : bfield ((2 + d : Nat) : Int) = true := by unfold bhas at hb; simp only [Bool.and_eq_true] at hb; exact hb.1
      refine ⟨(bput a b ((2 + d : Nat) : Int)).1, (bput a b ((2 + d : Nat) : Int)).2, ?_, bput_bright h2 hf, (bput_lt _ h3 h4).1, (bput_lt _ h3 h4).2, fun q => ?_⟩
      · rw [hs, bofS_snoc, h1]
        simp only [Option.bind_some, h2, hf, Bool.and_self, if_true]
      · by_cases hq : q = ((2 + d : Nat) : Int)
        · subst hq; rw [bput_has h2 hf, hb]; simp; omega
        · rw [bput_other h2 hf hq, h5]
          congr 1
          rw [decide_eq_decide]; omega
theorem of_fields {h l : Nat} (hh : h < 18446744073709551616) (hl : l < 18446744073709551616) (hb : bright h l = true) : bofS (bfields h l) = some (h, l) := by
  obtain ⟨a, b, h1, h2, h3, h4, h5⟩ := of_fieldsTo h l 127 (by omega)
  have := bright_ext h3 h4 hh hl h2 hb (fun q => by
    rw [h5]
    cases hq : bhas h l q
    · rfl
    · have hf : bfield q = true := by unfold bhas at hq; simp only [Bool.and_eq_true] at hq; exact hq.1
      have := (bfield_iff.1 hf).2.1
      simp; omega)
  rw [this.1, this.2] at h1
  exact h1
end Go.Vd

set_option linter.unusedVariables false
set_option linter.unusedSimpArgs false
set_option maxRecDepth 100000
set_option maxHeartbeats 4000000
namespace Go.Vd
open Go.Proofs
theorem dOk_bf {n : Int} (h : dOk n = true) : bfield n = true := by
  have hb := dOk_b h
  refine bfield_iff.2 ⟨by omega, by omega, fun e => ?_⟩
  subst e
  exact absurd h (by decide)
theorem rr_bf {n : Int} {s : List UInt8} (h : rr n s = true) : bfield n = true := dOk_bf (rr_ok h).1
/-! ### Lists that rise -/
def ups (F : List Int) : Prop := F.Pairwise (· < ·)
theorem ups_adj {F : List Int} : (∀ i, 0 < i → i < F.length → F.getD (i - 1) 0 < F.getD i 0) → ups F := by
  intro h
  refine List.pairwise_iff_getElem.2 fun i j hi hj hij => ?_
  have key : ∀ d i, i + d + 1 < F.length → F.getD i 0 < F.getD (i + d + 1) 0 := by
    intro d
    induction d with
    | zero => intro i hi; exact h (i + 1) (by omega) hi
    | succ d ih => intro i hi; exact Int.lt_trans (ih i (by omega)) (h (i + (d + 1) + 1) (by omega) hi)
  have := key (j - i - 1) i (by omega)
  rw [show i + (j - i - 1) + 1 = j by omega] at this
  simpa [List.getD_eq_getElem?_getD, hi, hj] using this
theorem ups_ext : ∀ {F G : List Int}, ups F → ups G → (∀ q, q ∈ F ↔ q ∈ G) → F = G
  | [], [], _, _, _ => rfl
  | [], b :: G, _, _, h => by have := (h b).2 (by simp); simp at this
  | a :: F, [], _, _, h => by have := (h a).1 (by simp); simp at this
  | a :: F, b :: G, h1, h2, h => by
    have p1 := List.pairwise_cons.1 h1
    have p2 := List.pairwise_cons.1 h2
    have e : a = b := by
      rcases List.mem_cons.1 ((h a).1 (by simp)) with e | e
      · exact e
      · rcases List.mem_cons.1 ((h b).2 (by simp)) with e' | e'
        · exact e'.symm
        · have := p1.1 b e'; have := p2.1 a e; omega
    subst e
    refine congrArg (a :: ·) (ups_ext p1.2 p2.2 fun q => ?_)
    constructor
    · intro hq
      rcases List.mem_cons.1 ((h q).1 (List.mem_cons_of_mem _ hq)) with e | e
      · subst e; have := p1.1 q hq; omega
      · exact e
    · intro hq
      rcases List.mem_cons.1 ((h q).2 (List.mem_cons_of_mem _ hq)) with e | e
      · subst e; have := p2.1 q hq; omega
      · exact e
/-! ### The bitmap of fields that rise -/
theorem bof_gen : ∀ (F : List Int) (h l : Nat), bright h l = true → h < 18446744073709551616 → l < 18446744073709551616 → (∀ q ∈ F, bfield q = true) →
    ∃ a b, F.foldl (fun o n => o.bind fun m => if bright m.1 m.2 && bfield n then some (bput m.1 m.2 n) else none) (some (h, l)) = some (a, b) ∧ bright a b = true ∧ a < 18446744073709551616 ∧ b < 18446744073709551616 ∧ ∀ q, bhas a b q = (bhas h l q || decide (q ∈ F))
  | [], h, l, hb, hh, hl, _ => ⟨h, l, rfl, hb, hh, hl, fun q => by simp⟩
  | n :: F, h, l, hb, hh, hl, hF => by
    have hf := hF n (by simp)
    obtain ⟨a, b, h1, h2, h3, h4, h5⟩ := bof_gen F (bput h l n).1 (bput h l n).2 (bput_bright hb hf) (bput_lt n hh hl).1 (bput_lt n hh hl).2 (fun q hq => hF q (List.mem_cons_of_mem _ hq))
    refine ⟨a, b, ?_, h2, h3, h4, fun q => ?_⟩
    · rw [List.foldl_cons, ← h1]
      simp only [Option.bind_some, hb, hf, Bool.and_self, if_true]
    · rw [h5]
      by_cases hq : q = n
      · subst hq; rw [bput_has hb hf]; simp
      · rw [bput_other hb hf hq]; simp [hq]
theorem bfields_mem {a b : Nat} {q : Int} : q ∈ bfields a b ↔ bhas a b q = true := by
  unfold bfields bfieldsTo
  rw [List.mem_filter]
  constructor
  · exact fun h => h.2
  · intro h
    refine ⟨?_, h⟩
    have hf : bfield q = true := by unfold bhas at h; simp only [Bool.and_eq_true] at h; exact h.1
    have := bfield_iff.1 hf
    refine List.mem_map.2 ⟨q.toNat, ?_, by simp; omega⟩
    rw [List.mem_range']
    exact ⟨q.toNat - 2, by omega, by omega⟩
theorem bfields_ups (a b : Nat) : ups (bfields a b) := by
  unfold ups bfields bfieldsTo
  refine List.Pairwise.filter _ ?_
  rw [List.pairwise_map]
  have := List.pairwise_lt_range' (s := 2) (n := 127)
  refine List.Pairwise.imp ?_ this
  intro x y h
  simp
  exact h
theorem bof_ups {F : List Int} (hu : ups F) (hF : ∀ q ∈ F, bfield q = true) :
    bofS F = some (bof F) ∧ bright (bof F).1 (bof F).2 = true ∧ (bof F).1 < 18446744073709551616 ∧ (bof F).2 < 18446744073709551616 ∧ bfields (bof F).1 (bof F).2 = F ∧ boferr F = 0 := by
  obtain ⟨a, b, h1, h2, h3, h4, h5⟩ := bof_gen F 0 0 (by decide) (by decide) (by decide) hF
  have h1 : bofS F = some (a, b) := h1
  have e : bof F = (a, b) := by unfold bof; rw [h1]; rfl
  rw [e]
  refine ⟨h1, h2, h3, h4, ups_ext (bfields_ups a b) hu fun q => ?_, by unfold boferr; rw [h1]; rfl⟩
  rw [bfields_mem, h5]
  have h0 : bhas 0 0 q = false := by unfold bhas; split <;> simp
  rw [h0]; simp
/-! ### Written -/
def fs (L : List It) : List Int := L.map Prod.fst
def body (L : List It) : List UInt8 := (L.map fun x => fWr x.1 x.2).flatten
theorem body_cons (x : It) (L : List It) : body (x :: L) = fWr x.1 x.2 ++ body L := rfl
theorem body_app (L M : List It) : body (L ++ M) = body L ++ body M := by simp [body]
def mBits (L : List It) : List UInt8 := bbytes (bof (fs L)).1 (bof (fs L)).2
def mW (T : List UInt8) (L : List It) : List UInt8 := T ++ (mBits L ++ body L)
theorem mR_iff {T : List UInt8} {L : List It} : mR T L = true ↔ mT T = true ∧ ¬L = [] ∧ (∀ x ∈ L, rr x.1 x.2 = true) ∧ ups (fs L) := by
  have e1 : mUp L L.length = true ↔ (∀ x ∈ L, rr x.1 x.2 = true) ∧ ups (fs L) := by
    unfold mUp
    rw [List.all_eq_true]
    have hget : ∀ i, (fs L).getD i 0 = (L.getD i (0, [])).1 := by
      intro i
      simp [fs, List.getD_eq_getElem?_getD, List.getElem?_map]
      cases L[i]? <;> rfl
    constructor
    · intro h
      have hi : ∀ i, i < L.length → mOk L i = true := fun i hi => h i (List.mem_range.2 hi)
      refine ⟨fun x hx => ?_, ups_adj fun i h0 hl => ?_⟩
      · obtain ⟨i, hl, rfl⟩ := List.mem_iff_getElem.1 hx
        have := hi i hl
        unfold mOk at this
        simp only [Bool.and_eq_true] at this
        simpa [List.getD_eq_getElem?_getD, hl] using this.2
      · have hl' : i < L.length := by simpa [fs] using hl
        have := hi i hl'
        unfold mOk at this
        simp only [Bool.and_eq_true, Bool.or_eq_true, beq_iff_eq, decide_eq_true_eq] at this
        rw [hget, hget]
        rcases this.1 with e | e
        · omega
        · exact e
    · rintro ⟨h1, h2⟩ i hi
      have hl := List.mem_range.1 hi
      refine mOk_yes (fun h0 => ?_) ?_
      · rw [← hget, ← hget]
        have hl' : i < (fs L).length := by simpa [fs] using hl
        have := List.pairwise_iff_getElem.1 h2 (i - 1) i (by omega) hl' (by omega)
        simpa [List.getD_eq_getElem?_getD, hl', show i - 1 < (fs L).length by omega] using this
      · have := h1 _ (List.getElem_mem hl)
        simpa [List.getD_eq_getElem?_getD, hl] using this
  unfold mR
  simp only [Bool.and_eq_true, e1]
  cases L with
  | nil => simp
  | cons a l => simp
theorem mT_len {T : List UInt8} (h : mT T = true) : T.length = 4 := by
  unfold mT at h
  simp only [List.contains_cons, List.contains_nil, Bool.or_eq_true, beq_iff_eq, Bool.or_false] at h
  rcases h with rfl | rfl | rfl | rfl | rfl | rfl | rfl <;> rfl
theorem fs_bf {L : List It} (h : ∀ x ∈ L, rr x.1 x.2 = true) : ∀ q ∈ fs L, bfield q = true := by
  intro q hq
  obtain ⟨x, hx, rfl⟩ := List.mem_map.1 hq
  exact rr_bf (h x hx)
/-! ### Read -/
/-- A field more: what is wrong, what is there, what is left. -/
def itStep (o : Int × List It × List UInt8) (f : Int) : Int × List It × List UInt8 :=
  if o.1 = 0 then (if (fRd f o.2.2).2.2 = 0 then (0, o.2.1 ++ [(f, (fRd f o.2.2).1)], o.2.2.drop (fRd f o.2.2).2.1) else ((fRd f o.2.2).2.2, [], [])) else o
def itF (F : List Int) (B : List UInt8) : Int × List It × List UInt8 := F.foldl itStep (0, [], B)
theorem it_stop : ∀ (F : List Int) (o : Int × List It × List UInt8), ¬o.1 = 0 → F.foldl itStep o = o
  | [], _, _ => rfl
  | f :: F, o, h => by
    rw [List.foldl_cons, show itStep o f = o from if_neg h]
    exact it_stop F o h
theorem it_yes {acc : List It} {B : List UInt8} {f : Int} (h : (fRd f B).2.2 = 0) : itStep (0, acc, B) f = (0, acc ++ [(f, (fRd f B).1)], B.drop (fRd f B).2.1) := by
  unfold itStep; rw [if_pos rfl, if_pos h]
theorem it_no {acc : List It} {B : List UInt8} {f : Int} (h : ¬(fRd f B).2.2 = 0) : itStep (0, acc, B) f = ((fRd f B).2.2, [], []) := by
  unfold itStep; rw [if_pos rfl, if_neg h]
theorem itF_snoc (F : List Int) (f : Int) (B : List UInt8) : itF (F ++ [f]) B = itStep (itF F B) f := by
  unfold itF; rw [List.foldl_append]; rfl
theorem it_back : ∀ (L acc : List It) (X : List UInt8), (∀ x ∈ L, rr x.1 x.2 = true) → (fs L).foldl itStep (0, acc, body L ++ X) = (0, acc ++ L, X)
  | [], acc, X, _ => by simp [fs, body]
  | x :: L, acc, X, h => by
    have hr := fR_back (h x (by simp)) (body L ++ X)
    rw [body_cons, List.append_assoc]
    show (fs L).foldl itStep (itStep (0, acc, _) x.1) = _
    rw [it_yes (by rw [hr]), hr]
    simp only [List.drop_left]
    rw [it_back L _ X fun y hy => h y (List.mem_cons_of_mem _ hy)]
    simp
theorem it_cut : ∀ (L acc : List It) (c : Nat), (∀ x ∈ L, rr x.1 x.2 = true) → c < (body L).length → ((fs L).foldl itStep (0, acc, (body L).take c)).1 = 2
  | [], acc, c, _, hc => by simp [body] at hc
  | x :: L, acc, c, h, hc => by
    rw [body_cons] at hc ⊢
    show ((fs L).foldl itStep (itStep (0, acc, _) x.1)).1 = _
    by_cases h1 : c < (fWr x.1 x.2).length
    · have hr := fR_cut (h x (by simp)) h1
      rw [List.take_append_of_le_length (by omega), it_no (by rw [hr]; decide), it_stop _ _ (by simp only; rw [hr]; decide)]
      exact hr
    · have hr := fR_back (h x (by simp)) ((body L).take (c - (fWr x.1 x.2).length))
      have ht : (fWr x.1 x.2 ++ body L).take c = fWr x.1 x.2 ++ (body L).take (c - (fWr x.1 x.2).length) := by
        rw [List.take_append, List.take_of_length_le (by omega)]
      rw [ht, it_yes (by rw [hr]), hr]
      simp only [List.drop_left]
      rw [List.length_append] at hc
      exact it_cut L _ _ (fun y hy => h y (List.mem_cons_of_mem _ hy)) (by omega)
theorem it_good : ∀ (F : List Int) (acc R : List It) (B C : List UInt8), F.foldl itStep (0, acc, B) = (0, R, C) → ∃ L, R = acc ++ L ∧ fs L = F ∧ (∀ x ∈ L, rr x.1 x.2 = true) ∧ B = body L ++ C
  | [], acc, R, B, C, h => by
    simp only [List.foldl_nil, Prod.mk.injEq, true_and] at h
    exact ⟨[], by simp [h.1], rfl, by simp, by simp [body, h.2]⟩
  | f :: F, acc, R, B, C, h => by
    rw [List.foldl_cons] at h
    by_cases h0 : (fRd f B).2.2 = 0
    · rw [it_yes h0] at h
      obtain ⟨L, h1, h2, h3, h4⟩ := it_good F _ R _ C h
      obtain ⟨g1, g2, g3, g4⟩ := fR_good h0
      refine ⟨(f, (fRd f B).1) :: L, by simp [h1], by simp [fs] at h2 ⊢; exact h2, ?_, ?_⟩
      · intro x hx
        rcases List.mem_cons.1 hx with rfl | hx
        · exact g1
        · exact h3 x hx
      · rw [body_cons, g4, List.append_assoc, ← h4, List.take_append_drop]
    · rw [it_no h0, it_stop _ _ h0] at h
      have := congrArg Prod.fst h
      exact absurd this h0
def mC (B : List UInt8) : List UInt8 := B.drop 4
def mFs (B : List UInt8) : List Int := bfields (br1 (mC B)) (br2 (mC B))
def mIt (B : List UInt8) : Int × List It × List UInt8 := itF (mFs B) ((mC B).drop (brN (mC B)).toNat)
def mRe (B : List UInt8) : Int :=
  if B.length < 4 then 2 else if mT (B.take 4) = false then 3 else if ¬brE (mC B) = 0 then brE (mC B) else if mFs B = [] then 3 else if ¬(mIt B).1 = 0 then (mIt B).1 else if (mIt B).2.2 = [] then 0 else 4
def mRT (B : List UInt8) : List UInt8 := if mRe B = 0 then B.take 4 else []
def mRL (B : List UInt8) : List It := if mRe B = 0 then (mIt B).2.1 else []
theorem mRe_1 {B : List UInt8} (h : B.length < 4) : mRe B = 2 := if_pos h
theorem mRe_2 {B : List UInt8} (h : ¬B.length < 4) (h1 : mT (B.take 4) = false) : mRe B = 3 := by unfold mRe; rw [if_neg h, if_pos h1]
theorem mRe_3 {B : List UInt8} (h : ¬B.length < 4) (h1 : mT (B.take 4) = true) (h2 : ¬brE (mC B) = 0) : mRe B = brE (mC B) := by
  unfold mRe; rw [if_neg h, if_neg (by rw [h1]; simp), if_pos h2]
theorem mRe_4 {B : List UInt8} (h : ¬B.length < 4) (h1 : mT (B.take 4) = true) (h2 : brE (mC B) = 0) (h3 : mFs B = []) : mRe B = 3 := by
  unfold mRe; rw [if_neg h, if_neg (by rw [h1]; simp), if_neg (fun e => e h2), if_pos h3]
theorem mRe_5 {B : List UInt8} (h : ¬B.length < 4) (h1 : mT (B.take 4) = true) (h2 : brE (mC B) = 0) (h3 : ¬mFs B = []) (h4 : ¬(mIt B).1 = 0) : mRe B = (mIt B).1 := by
  unfold mRe; rw [if_neg h, if_neg (by rw [h1]; simp), if_neg (fun e => e h2), if_neg h3, if_pos h4]
theorem mRe_6 {B : List UInt8} (h : ¬B.length < 4) (h1 : mT (B.take 4) = true) (h2 : brE (mC B) = 0) (h3 : ¬mFs B = []) (h4 : (mIt B).1 = 0) : mRe B = if (mIt B).2.2 = [] then 0 else 4 := by
  unfold mRe; rw [if_neg h, if_neg (by rw [h1]; simp), if_neg (fun e => e h2), if_neg h3, if_neg (fun e => e h4)]
theorem fs_ne {L : List It} (h : ¬L = []) : ¬fs L = [] := fun e => h (List.map_eq_nil_iff.1 e)
/-- Read back, and what is behind. -/
theorem mw_read {T : List UInt8} {L : List It} (h : mR T L = true) (X : List UInt8) :
    (mC (mW T L ++ X)) = mBits L ++ (body L ++ X) ∧ mFs (mW T L ++ X) = fs L ∧ mIt (mW T L ++ X) = (0, L, X) ∧ brE (mC (mW T L ++ X)) = 0 ∧ (mW T L ++ X).take 4 = T ∧ ¬(mW T L ++ X).length < 4 := by
  obtain ⟨h1, h2, h3, h4⟩ := mR_iff.1 h
  have hT := mT_len h1
  obtain ⟨b1, b2, b3, b4, b5, b6⟩ := bof_ups h4 (fs_bf h3)
  have hC : mC (mW T L ++ X) = mBits L ++ (body L ++ X) := by
    unfold mC mW
    rw [List.append_assoc, List.drop_append_of_le_length (by omega), List.drop_of_length_le (by omega), List.nil_append, List.append_assoc]
  obtain ⟨r1, r2, r3, r4⟩ := read_back b3 b4 b2 (body L ++ X)
  have hF : mFs (mW T L ++ X) = fs L := by
    unfold mFs; rw [hC]; unfold mBits; rw [r2, r3, b5]
  refine ⟨hC, hF, ?_, ?_, ?_, ?_⟩
  · unfold mIt; rw [hF, hC]; unfold mBits; rw [r4, Int.toNat_natCast, List.drop_left]
    have := it_back L [] X h3
    simpa [itF] using this
  · rw [hC]; exact r1
  · unfold mW; rw [List.append_assoc, List.take_append_of_le_length (by omega), List.take_of_length_le (by omega)]
  · unfold mW; simp; omega
theorem mR_back {T : List UInt8} {L : List It} (h : mR T L = true) : mRe (mW T L) = 0 ∧ mRT (mW T L) = T ∧ mRL (mW T L) = L := by
  obtain ⟨h1, h2, h3, h4⟩ := mR_iff.1 h
  obtain ⟨c1, c2, c3, c4, c5, c6⟩ := mw_read h []
  rw [List.append_nil] at c1 c2 c3 c4 c5 c6
  have e : mRe (mW T L) = 0 := by
    rw [mRe_6 c6 (by rw [c5]; exact h1) c4 (by rw [c2]; exact fs_ne h2) (by rw [c3]), c3]; rfl
  refine ⟨e, ?_, ?_⟩
  · unfold mRT; rw [if_pos e, c5]
  · unfold mRL; rw [if_pos e, c3]
theorem mR_more {T : List UInt8} {L : List It} (h : mR T L = true) (x : UInt8) : mRe (mW T L ++ [x]) = 4 := by
  obtain ⟨h1, h2, h3, h4⟩ := mR_iff.1 h
  obtain ⟨c1, c2, c3, c4, c5, c6⟩ := mw_read h [x]
  rw [mRe_6 c6 (by rw [c5]; exact h1) c4 (by rw [c2]; exact fs_ne h2) (by rw [c3]), c3]; rfl
theorem mR_cut {T : List UInt8} {L : List It} (h : mR T L = true) {c : Nat} (hc : c < (mW T L).length) : mRe ((mW T L).take c) = 2 := by
  obtain ⟨h1, h2, h3, h4⟩ := mR_iff.1 h
  have hT := mT_len h1
  obtain ⟨b1, b2, b3, b4, b5, b6⟩ := bof_ups h4 (fs_bf h3)
  have hl : ((mW T L).take c).length = c := by rw [List.length_take]; omega
  by_cases hc4 : c < 4
  · exact mRe_1 (by omega)
  · have ht : (mW T L).take c = T ++ (mBits L ++ body L).take (c - 4) := by
      unfold mW; rw [List.take_append, List.take_of_length_le (by omega), hT]
    have hC : mC ((mW T L).take c) = (mBits L ++ body L).take (c - 4) := by
      rw [ht]; unfold mC; rw [List.drop_append_of_le_length (by omega), List.drop_of_length_le (by omega), List.nil_append]
    have hT4 : ((mW T L).take c).take 4 = T := by rw [ht, List.take_append_of_le_length (by omega), List.take_of_length_le (by omega)]
    unfold mW at hc
    rw [List.length_append, List.length_append] at hc
    by_cases hb : c - 4 < (mBits L).length
    · have : brE (mC ((mW T L).take c)) = 2 := by
        rw [hC, List.take_append_of_le_length (by omega)]
        exact read_cut b3 b2 _ hb
      rw [mRe_3 (by omega) (by rw [hT4]; exact h1) (by rw [this]; decide), this]
    · have hC2 : mC ((mW T L).take c) = mBits L ++ (body L).take (c - 4 - (mBits L).length) := by
        rw [hC, List.take_append, List.take_of_length_le (by omega)]
      obtain ⟨X, hX⟩ : ∃ X, X = (body L).take (c - 4 - (mBits L).length) := ⟨_, rfl⟩
      rw [← hX] at hC2
      have r : brE (mBits L ++ X) = 0 ∧ br1 (mBits L ++ X) = (bof (fs L)).1 ∧ br2 (mBits L ++ X) = (bof (fs L)).2 ∧ brN (mBits L ++ X) = (mBits L).length := read_back b3 b4 b2 X
      obtain ⟨r1, r2, r3, r4⟩ := r
      have hF : mFs ((mW T L).take c) = fs L := by unfold mFs; rw [hC2, r2, r3, b5]
      have hI : (mIt ((mW T L).take c)).1 = 2 := by
        unfold mIt
        rw [hF, hC2, r4, Int.toNat_natCast, List.drop_left, hX]
        exact it_cut L [] _ h3 (by omega)
      rw [mRe_5 (by omega) (by rw [hT4]; exact h1) (by rw [hC2]; exact r1) (by rw [hF]; exact fs_ne h2) (by rw [hI]; decide), hI]
theorem mR_good {B : List UInt8} (h : mRe B = 0) : mR (mRT B) (mRL B) = true ∧ mW (mRT B) (mRL B) = B := by
  have hl : ¬B.length < 4 := fun e => by rw [mRe_1 e] at h; cases h
  have h1 : mT (B.take 4) = true := by
    cases e : mT (B.take 4)
    · rw [mRe_2 hl e] at h; cases h
    · rfl
  have h2 : brE (mC B) = 0 := by
    by_cases e : brE (mC B) = 0
    · exact e
    · rw [mRe_3 hl h1 e] at h; exact absurd h e
  have h3 : ¬mFs B = [] := fun e => by rw [mRe_4 hl h1 h2 e] at h; cases h
  have h4 : (mIt B).1 = 0 := by
    by_cases e : (mIt B).1 = 0
    · exact e
    · rw [mRe_5 hl h1 h2 h3 e] at h; exact absurd h e
  have h5 : (mIt B).2.2 = [] := by
    by_cases e : (mIt B).2.2 = []
    · exact e
    · rw [mRe_6 hl h1 h2 h3 h4, if_neg e] at h; cases h
  have eT : mRT B = B.take 4 := if_pos h
  have eL : mRL B = (mIt B).2.1 := if_pos h
  have hI : mIt B = (0, (mIt B).2.1, []) := Prod.ext h4 (Prod.ext rfl h5)
  obtain ⟨L, g1, g2, g3, g4⟩ := it_good (mFs B) [] (mIt B).2.1 _ [] hI
  rw [List.nil_append] at g1
  rw [List.append_nil] at g4
  obtain ⟨k1, k2, k3, k4, k5, k6⟩ := read_bytes (mC B) h2
  have hu : ups (fs L) := by rw [g2]; exact bfields_ups _ _
  have hne : ¬L = [] := fun e => h3 (by rw [← g2, e]; rfl)
  rw [eT, eL, g1]
  refine ⟨mR_iff.2 ⟨h1, hne, g3, hu⟩, ?_⟩
  have hbits : mBits L = (mC B).take (brN (mC B)).toNat := by
    unfold mBits
    have e : bofS (fs L) = some (br1 (mC B), br2 (mC B)) := by rw [g2]; exact of_fields k5 k6 k1
    have e2 : bof (fs L) = (br1 (mC B), br2 (mC B)) := by unfold bof; rw [e]; rfl
    rw [e2]; exact k2
  unfold mW
  rw [hbits, ← g4, List.take_append_drop]
  exact List.take_append_drop 4 B
theorem mR_bad {B : List UInt8} (h : ¬mRe B = 0) : mRT B = [] ∧ mRL B = [] := ⟨if_neg h, if_neg h⟩
theorem mW_inj {T U : List UInt8} {L M : List It} (h : mR T L = true) (h' : mR U M = true) : mW T L = mW U M ↔ T = U ∧ L = M := by
  constructor
  · intro e
    have a := mR_back h
    have b := mR_back h'
    rw [e] at a
    exact ⟨a.2.1.symm.trans b.2.1, a.2.2.symm.trans b.2.2⟩
  · rintro ⟨rfl, rfl⟩; rfl
theorem mW_ne {T : List UInt8} {L : List It} (h : mR T L = true) : 12 ≤ (mW T L).length := by
  obtain ⟨h1, h2, h3, h4⟩ := mR_iff.1 h
  have hT := mT_len h1
  obtain ⟨b1, b2, b3, b4, b5, b6⟩ := bof_ups h4 (fs_bf h3)
  have := bb_len b2
  unfold mW mBits
  rw [List.length_append, List.length_append, this]
  split <;> omega
/-! ### Got -/
def mG (L : List It) (n : Int) : List UInt8 := ((L.find? fun x => x.1 == n).getD (0, [])).2
def mH (L : List It) (n : Int) : Bool := (L.find? fun x => x.1 == n).isSome
theorem mG_at {L : List It} {n : Int} {i : Nat} (hi : i < L.length) (h0 : ∀ j, j < i → ¬(L.getD j (0, [])).1 = n) (h : (L.getD i (0, [])).1 = n) : mG L n = (L.getD i (0, [])).2 ∧ mH L n = true := by
  have : L.find? (fun x => x.1 == n) = some (L.getD i (0, [])) := by
    rw [List.find?_eq_some_iff_getElem]
    refine ⟨by simpa using h, i, hi, by simp [List.getD_eq_getElem?_getD, hi], fun j hj => ?_⟩
    have := h0 j hj
    simpa [List.getD_eq_getElem?_getD, show j < L.length by omega] using this
  unfold mG mH
  rw [this]
  exact ⟨rfl, rfl⟩
theorem mG_none {L : List It} {n : Int} (h0 : ∀ j, j < L.length → ¬(L.getD j (0, [])).1 = n) : mG L n = [] ∧ mH L n = false := by
  have : L.find? (fun x => x.1 == n) = none := by
    rw [List.find?_eq_none]
    intro x hx
    obtain ⟨j, hj, rfl⟩ := List.mem_iff_getElem.1 hx
    have := h0 j hj
    simpa [List.getD_eq_getElem?_getD, hj] using this
  unfold mG mH
  rw [this]
  exact ⟨rfl, rfl⟩
theorem ups_ne {L : List It} (hu : ups (fs L)) {i j : Nat} (hij : j < i) (hi : i < L.length) : ¬(L.getD j (0, [])).1 = (L.getD i (0, [])).1 := by
  have := List.pairwise_iff_getElem.1 hu j i (by simp [fs]; omega) (by simpa [fs] using hi) hij
  simp [fs] at this
  simp [List.getD_eq_getElem?_getD, hi, show j < L.length by omega]
  omega
theorem mH_mem (L : List It) (n : Int) : mH L n = L.any fun x => x.1 == n := by
  unfold mH
  rw [Bool.eq_iff_iff, List.find?_isSome]
  simp
end Go.Vd

