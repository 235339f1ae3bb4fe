/- Messages and deals: whether they are right. -/
import Derived.Test.YtakcggldilbilaaDoorVdH3
import Derived.WalkKit
import Derived.Lib.Walk
import Derived.Lib.AppendZerosOnto
import Derived.Lib.Overlaps
import Derived.Lib.SliceRun
import Derived.Laws.Externs
import Derived.Deep.RegionLaw
import Derived.Test.YtakcggldilbilaaDoorVdX2
set_option linter.unusedVariables false
set_option linter.unusedSimpArgs false
set_option maxRecDepth 100000
set_option maxHeartbeats 4000000
namespace Go.Vd
open Go.Proofs
abbrev It := Int × List UInt8
def eI : En It := fun A x => [.int .i64 (A.ti fun _ => (x ()).1), .str (A.ts fun _ => (x ()).2)]
theorem inj_eI : Inj eI 2 := fun x y h => by
  obtain ⟨s, h1, h2⟩ := h 0 (by omega)
  obtain ⟨t, h3, h4⟩ := h 1 (by omega)
  have h1 : Ceq s (.int .i64 x.1) := h1
  have h2 : Ceq s (.int .i64 y.1) := h2
  have h3 : Ceq t (.str x.2) := h3
  have h4 : Ceq t (.str y.2) := h4
  rw [Ceq.int] at h1 h2
  rw [Ceq.str] at h3 h4
  subst h1 h3
  injection h2 with _ h2
  injection h4 with h4
  exact Prod.ext h2 h4
theorem cell_eI (z : Int) (s : List UInt8) : ∀ j, j < 2 → Ceq (getAt [SV.int .i64 z, SV.str s] j) (getAt (eI std fun _ => (z, s)) j) := by
  intro j hj
  rcases (show j = 0 ∨ j = 1 by omega) with rfl | rfl
  · exact .refl _
  · exact .refl _
def mT (s : List UInt8) : Bool := [[48, 49, 48, 48], [48, 49, 49, 48], [48, 52, 48, 48], [48, 52, 49, 48], [48, 52, 50, 48], [48, 52, 50, 49], [48, 52, 51, 48]].contains s
def mOk (L : List It) (i : Nat) : Bool := (i == 0 || decide ((L.getD (i - 1) (0, [])).1 < (L.getD i (0, [])).1)) && rr (L.getD i (0, [])).1 (L.getD i (0, [])).2
def mUp (L : List It) (k : Nat) : Bool := (List.range k).all (mOk L)
def mR (T : List UInt8) (L : List It) : Bool := mT T && (!L.isEmpty && mUp L L.length)
theorem mUp_succ (L : List It) (k : Nat) : mUp L (k + 1) = (mUp L k && mOk L k) := by
  unfold mUp; rw [List.range_succ, List.all_append]; simp
theorem mUp_false {L : List It} {i : Nat} (hi : i < L.length) (h : mOk L i = false) : mUp L L.length = false := by
  unfold mUp
  rw [List.all_eq_false]
  exact ⟨i, List.mem_range.2 hi, by rw [h]; simp⟩
theorem mR_false {T : List UInt8} {L : List It} {i : Nat} (hi : i < L.length) (h : mOk L i = false) : mR T L = false := by
  unfold mR; rw [mUp_false hi h]; simp
theorem mR_head {T : List UInt8} {L : List It} (h : mT T = false ∨ L = []) : mR T L = false := by
  unfold mR
  rcases h with h | h
  · rw [h]; rfl
  · subst h; simp
theorem mOk_lo {L : List It} {i : Nat} (h0 : 0 < i) (h : (L.getD i (0, [])).1 ≤ (L.getD (i - 1) (0, [])).1) : mOk L i = false := by
  unfold mOk
  rw [decide_eq_false (by omega), show (i == 0) = false by (rw [beq_eq_false_iff_ne]; omega)]
  rfl
theorem mOk_rr {L : List It} {i : Nat} (h : rr (L.getD i (0, [])).1 (L.getD i (0, [])).2 = false) : mOk L i = false := by
  unfold mOk; rw [h]; simp
theorem mOk_yes {L : List It} {i : Nat} (h0 : 0 < i → (L.getD (i - 1) (0, [])).1 < (L.getD i (0, [])).1) (h : rr (L.getD i (0, [])).1 (L.getD i (0, [])).2 = true) : mOk L i = true := by
  unfold mOk
  rw [h]
  rcases Nat.eq_zero_or_pos i with h1 | h1
  · subst h1; rfl
  · rw [decide_eq_true (h0 h1)]; simp
theorem wm1 {i : Nat} (h : 0 < i) (h1 : i ≤ 1000000) : IntKind.i64.wrap ((i : Int) - 1) = ((i - 1 : Nat) : Int) := (w64 (by omega)).trans (by omega)
theorem mR_true {T : List UInt8} {L : List It} (h1 : mT T = true) (h2 : ¬L = []) (h3 : mUp L L.length = true) : mR T L = true := by
  unfold mR; rw [h1, h3]; cases L with
  | nil => exact absurd rfl h2
  | cons a l => rfl
attribute [local irreducible] vc
theorem good_mIsT (s : List UInt8) : GoodP Tryd.prog gl0 83 [.str s] (.bool (std.tb fun _ => mT s)) := by
  refine fn_sound' (T := seatT) (G := noC) (X := noX) seatT_ok noC_ok noX_ok noI_ok mixed Tryd.func83 (.one) (fun A => [.str s]) (fun A => .bool (A.tb fun _ => mT s)) fun A hA => ?_
  cbv
  repeat' (first | with_reducible exact True.intro | with_reducible exact dr_ok hA (by kernel_rfl) | with_reducible refine And.intro ?_ ?_ | (intro hc; cbv))
  all_goals (subst hA; simp [std_add, std_sub, std_mul, std_quo, std_rem, std_band, std_bor, std_bxor, std_shl, std_shr, std_eq, std_ne, std_lt, std_le, std_conv, std_not, std_beq, std_bne, std_ite, std_want, std_and2, std_sadd, std_seq, std_sne, std_slt, std_sle, std_sgt, std_sge, std_slen, std_sget, std_scut, std_ofNat, std_toNat, std_nsub, std_nadd, std_lenOf, std_nz, std_nneg, std_inb, std_upto, std_slt63, std_grow, std_imp, std_impN, std_tr, std_tb, std_ti, std_ts, std_tn, std_tp, std_nmin, std_makes, std_room, std_zeros, std_nilq, std_notq, std_eqi, std_eqn, std_eqb, std_eqs, std_eqv, std_cat, std_lst, std_rset, std_rcopy, std_shift, std_eqr, std_strOf, std_bytesOf, std_isB, std_zOf, zOf_int, std_isI, isI_int, std_getL, std_nmul, std_sOf, sOf_str, std_isS, isS_str, std_fadd, std_fsub, std_fav, std_fsv, std_feq, std_fne, std_flt, std_fle, std_fgt, std_fge, std_fOf, std_fTo, std_fTv] at *)
  all_goals first | contradiction | (simp [mT, *]; done) | (subst_vars; decide)
noncomputable def c_mIsT : Ct := fun A args => match args with
  | [.str s] => some (none, .bool (A.tb fun _ => mT s))
  | _ => none
noncomputable def c_mgRight : Ct := fun A args => match args with
  | [.int .i64 n, .str r] => some (some (A.tp fun _ => r.length ≤ 1000000), .bool (A.tb fun _ => rr n r))
  | _ => none
noncomputable def gm0 : Ar → Pu := addC 83 c_mIsT (addC 90 c_mgRight (gh2))
theorem gm0_ok : PuOk Tryd.prog gl0 (gm0 std) := by
  refine addC_ok (addC_ok (gh2_ok) ⟨_, Tryd.func90, rfl, by decide⟩ ?_) ⟨_, Tryd.func83, rfl, by decide⟩ ?_
  · intro args p r h hp
    unfold c_mgRight at h
    split at h <;> cases h
    exact good_gRight _ _ hp
  · intro args p r h hp
    unfold c_mIsT at h
    split at h <;> cases h
    exact good_mIsT _
theorem good_mRight (T : List UInt8) (L : List It) (hL : L.length ≤ 1000000) (hS : ∀ i, (L.getD i (0, [])).2.length ≤ 1000000) : GoodP Tryd.prog gl0 28 [.agg [.str T, rowS eI (0, []) 2 std fun _ => L]] (.bool (std.tb fun _ => mR T L)) := by
  refine fn_sound' (T := seatT) (G := gm0) (X := noX) seatT_ok gm0_ok noX_ok noI_ok mixed Tryd.func28 (.one) (fun A => [.agg [.str T, rowS eI (0, []) 2 A fun _ => L]]) (fun A => .bool (A.tb fun _ => mR T L)) fun A hA => ?_
  cbv
  repeat' (first | with_reducible exact True.intro | with_reducible exact dr_ok hA (by kernel_rfl) | with_reducible refine And.intro ?_ ?_ | (intro hc; cbv))
  rotate_right
  all_goals first
    | (fail_if_success (refine Exists.intro ?_ ?_)
       subst hA
       simp [std_add, std_sub, std_mul, std_quo, std_rem, std_band, std_bor, std_bxor, std_shl, std_shr, std_eq, std_ne, std_lt, std_le, std_conv, std_not, std_beq, std_bne, std_ite, std_want, std_and2, std_sadd, std_seq, std_sne, std_slt, std_sle, std_sgt, std_sge, std_slen, std_sget, std_scut, std_ofNat, std_toNat, std_nsub, std_nadd, std_lenOf, std_nz, std_nneg, std_inb, std_upto, std_slt63, std_grow, std_imp, std_impN, std_tr, std_tb, std_ti, std_ts, std_tn, std_tp, std_nmin, std_makes, std_room, std_zeros, std_nilq, std_notq, std_eqi, std_eqn, std_eqb, std_eqs, std_eqv, std_cat, std_lst, std_rset, std_rcopy, std_shift, std_eqr, std_strOf, std_bytesOf, std_isB, std_zOf, zOf_int, std_isI, isI_int, std_getL, std_nmul, std_sOf, sOf_str, std_isS, isS_str, std_fadd, std_fsub, std_fav, std_fsv, std_feq, std_fne, std_flt, std_fle, std_fgt, std_fge, std_fOf, std_fTo, std_fTv] at *
       done)
    | (fail_if_success (refine Exists.intro ?_ ?_)
       subst hA
       simp [std_add, std_sub, std_mul, std_quo, std_rem, std_band, std_bor, std_bxor, std_shl, std_shr, std_eq, std_ne, std_lt, std_le, std_conv, std_not, std_beq, std_bne, std_ite, std_want, std_and2, std_sadd, std_seq, std_sne, std_slt, std_sle, std_sgt, std_sge, std_slen, std_sget, std_scut, std_ofNat, std_toNat, std_nsub, std_nadd, std_lenOf, std_nz, std_nneg, std_inb, std_upto, std_slt63, std_grow, std_imp, std_impN, std_tr, std_tb, std_ti, std_ts, std_tn, std_tp, std_nmin, std_makes, std_room, std_zeros, std_nilq, std_notq, std_eqi, std_eqn, std_eqb, std_eqs, std_eqv, std_cat, std_lst, std_rset, std_rcopy, std_shift, std_eqr, std_strOf, std_bytesOf, std_isB, std_zOf, zOf_int, std_isI, isI_int, std_getL, std_nmul, std_sOf, sOf_str, std_isS, isS_str, std_fadd, std_fsub, std_fav, std_fsv, std_feq, std_fne, std_flt, std_fle, std_fgt, std_fge, std_fOf, std_fTo, std_fTv] at *
       first
         | omega
         | exact (mR_head (by first | assumption | exact .inl (by assumption) | exact .inr (by assumption))).symm
         | exact mR_head (by first | assumption | exact .inl (by assumption) | exact .inr (by assumption))
         | trace_state)
    | skip
  have h0 : mT T = true ∧ ¬L = [] := by
    subst hA
    simp [std_add, std_sub, std_mul, std_quo, std_rem, std_band, std_bor, std_bxor, std_shl, std_shr, std_eq, std_ne, std_lt, std_le, std_conv, std_not, std_beq, std_bne, std_ite, std_want, std_and2, std_sadd, std_seq, std_sne, std_slt, std_sle, std_sgt, std_sge, std_slen, std_sget, std_scut, std_ofNat, std_toNat, std_nsub, std_nadd, std_lenOf, std_nz, std_nneg, std_inb, std_upto, std_slt63, std_grow, std_imp, std_impN, std_tr, std_tb, std_ti, std_ts, std_tn, std_tp, std_nmin, std_makes, std_room, std_zeros, std_nilq, std_notq, std_eqi, std_eqn, std_eqb, std_eqs, std_eqv, std_cat, std_lst, std_rset, std_rcopy, std_shift, std_eqr, std_strOf, std_bytesOf, std_isB, std_zOf, zOf_int, std_isI, isI_int, std_getL, std_nmul, std_sOf, sOf_str, std_isS, isS_str, std_fadd, std_fsub, std_fav, std_fsv, std_feq, std_fne, std_flt, std_fle, std_fgt, std_fge, std_fOf, std_fTo, std_fTv] at hc
    exact hc
  refine ⟨⟨{i : Nat // i ≤ L.length ∧ mUp L i = true}, fun b i => [(18, .int .i64 (i.1 : Nat))], fun b i => [], fun i => L.length - i.1, true⟩, ⟨⟨0, by omega, rfl⟩, ?_⟩, ?_⟩
  · cbv
    subst hA
    simp [-List.getD_eq_getElem?_getD, std_add, std_sub, std_mul, std_quo, std_rem, std_band, std_bor, std_bxor, std_shl, std_shr, std_eq, std_ne, std_lt, std_le, std_conv, std_not, std_beq, std_bne, std_ite, std_want, std_and2, std_sadd, std_seq, std_sne, std_slt, std_sle, std_sgt, std_sge, std_slen, std_sget, std_scut, std_ofNat, std_toNat, std_nsub, std_nadd, std_lenOf, std_nz, std_nneg, std_inb, std_upto, std_slt63, std_grow, std_imp, std_impN, std_tr, std_tb, std_ti, std_ts, std_tn, std_tp, std_nmin, std_makes, std_room, std_zeros, std_nilq, std_notq, std_eqi, std_eqn, std_eqb, std_eqs, std_eqv, std_cat, std_lst, std_rset, std_rcopy, std_shift, std_eqr, std_strOf, std_bytesOf, std_isB, std_zOf, zOf_int, std_isI, isI_int, std_getL, std_nmul, std_sOf, sOf_str, std_isS, isS_str, std_fadd, std_fsub, std_fav, std_fsv, std_feq, std_fne, std_flt, std_fle, std_fgt, std_fge, std_fOf, std_fTo, std_fTv]
  · rintro ⟨i, hi, hz⟩
    cbv
    repeat' (first | with_reducible exact True.intro | with_reducible exact dr_ok hA (by kernel_rfl) | with_reducible refine And.intro ?_ ?_ | (intro hc; cbv))
    all_goals first
      | (fail_if_success (refine Exists.intro ?_ ?_)
         subst hA
         simp [-List.getD_eq_getElem?_getD, std_add, std_sub, std_mul, std_quo, std_rem, std_band, std_bor, std_bxor, std_shl, std_shr, std_eq, std_ne, std_lt, std_le, std_conv, std_not, std_beq, std_bne, std_ite, std_want, std_and2, std_sadd, std_seq, std_sne, std_slt, std_sle, std_sgt, std_sge, std_slen, std_sget, std_scut, std_ofNat, std_toNat, std_nsub, std_nadd, std_lenOf, std_nz, std_nneg, std_inb, std_upto, std_slt63, std_grow, std_imp, std_impN, std_tr, std_tb, std_ti, std_ts, std_tn, std_tp, std_nmin, std_makes, std_room, std_zeros, std_nilq, std_notq, std_eqi, std_eqn, std_eqb, std_eqs, std_eqv, std_cat, std_lst, std_rset, std_rcopy, std_shift, std_eqr, std_strOf, std_bytesOf, std_isB, std_zOf, zOf_int, std_isI, isI_int, std_getL, std_nmul, std_sOf, sOf_str, std_isS, isS_str, std_fadd, std_fsub, std_fav, std_fsv, std_feq, std_fne, std_flt, std_fle, std_fgt, std_fge, std_fOf, std_fTo, std_fTv] at *
         done)
      | (fail_if_success (refine Exists.intro ?_ ?_)
         clear hz
         subst hA
         simp [-List.getD_eq_getElem?_getD, std_add, std_sub, std_mul, std_quo, std_rem, std_band, std_bor, std_bxor, std_shl, std_shr, std_eq, std_ne, std_lt, std_le, std_conv, std_not, std_beq, std_bne, std_ite, std_want, std_and2, std_sadd, std_seq, std_sne, std_slt, std_sle, std_sgt, std_sge, std_slen, std_sget, std_scut, std_ofNat, std_toNat, std_nsub, std_nadd, std_lenOf, std_nz, std_nneg, std_inb, std_upto, std_slt63, std_grow, std_imp, std_impN, std_tr, std_tb, std_ti, std_ts, std_tn, std_tp, std_nmin, std_makes, std_room, std_zeros, std_nilq, std_notq, std_eqi, std_eqn, std_eqb, std_eqs, std_eqv, std_cat, std_lst, std_rset, std_rcopy, std_shift, std_eqr, std_strOf, std_bytesOf, std_isB, std_zOf, zOf_int, std_isI, isI_int, std_getL, std_nmul, std_sOf, sOf_str, std_isS, isS_str, std_fadd, std_fsub, std_fav, std_fsv, std_feq, std_fne, std_flt, std_fle, std_fgt, std_fge, std_fOf, std_fTo, std_fTv] at *
         first
           | omega
           | exact hS _
           | (intro h1; rw [wm1 h1 (by omega)]; omega)
           | exact mR_false (by assumption) (mOk_rr (by assumption))
           | (have h1 : 0 < i := hc.1
              rw [wm1 h1 (by omega), Int.toNat_natCast] at hc
              exact mR_false (by assumption) (mOk_lo h1 hc.2))
           | (exfalso; omega))
      | (fail_if_success (refine Exists.intro ?_ ?_)
         have hie : i = L.length := by (clear hz; subst hA; simp [std_add, std_sub, std_mul, std_quo, std_rem, std_band, std_bor, std_bxor, std_shl, std_shr, std_eq, std_ne, std_lt, std_le, std_conv, std_not, std_beq, std_bne, std_ite, std_want, std_and2, std_sadd, std_seq, std_sne, std_slt, std_sle, std_sgt, std_sge, std_slen, std_sget, std_scut, std_ofNat, std_toNat, std_nsub, std_nadd, std_lenOf, std_nz, std_nneg, std_inb, std_upto, std_slt63, std_grow, std_imp, std_impN, std_tr, std_tb, std_ti, std_ts, std_tn, std_tp, std_nmin, std_makes, std_room, std_zeros, std_nilq, std_notq, std_eqi, std_eqn, std_eqb, std_eqs, std_eqv, std_cat, std_lst, std_rset, std_rcopy, std_shift, std_eqr, std_strOf, std_bytesOf, std_isB, std_zOf, zOf_int, std_isI, isI_int, std_getL, std_nmul, std_sOf, sOf_str, std_isS, isS_str, std_fadd, std_fsub, std_fav, std_fsv, std_feq, std_fne, std_flt, std_fle, std_fgt, std_fge, std_fOf, std_fTo, std_fTv] at * <;> omega)
         rw [hie] at hz
         have hm := mR_true h0.1 h0.2 hz
         subst hA
         simp [std_add, std_sub, std_mul, std_quo, std_rem, std_band, std_bor, std_bxor, std_shl, std_shr, std_eq, std_ne, std_lt, std_le, std_conv, std_not, std_beq, std_bne, std_ite, std_want, std_and2, std_sadd, std_seq, std_sne, std_slt, std_sle, std_sgt, std_sge, std_slen, std_sget, std_scut, std_ofNat, std_toNat, std_nsub, std_nadd, std_lenOf, std_nz, std_nneg, std_inb, std_upto, std_slt63, std_grow, std_imp, std_impN, std_tr, std_tb, std_ti, std_ts, std_tn, std_tp, std_nmin, std_makes, std_room, std_zeros, std_nilq, std_notq, std_eqi, std_eqn, std_eqb, std_eqs, std_eqv, std_cat, std_lst, std_rset, std_rcopy, std_shift, std_eqr, std_strOf, std_bytesOf, std_isB, std_zOf, zOf_int, std_isI, isI_int, std_getL, std_nmul, std_sOf, sOf_str, std_isS, isS_str, std_fadd, std_fsub, std_fav, std_fsv, std_feq, std_fne, std_flt, std_fle, std_fgt, std_fge, std_fOf, std_fTo, std_fTv, hm]; done)
      | (have hlt : i < L.length := by (clear hz; subst hA; simp [std_add, std_sub, std_mul, std_quo, std_rem, std_band, std_bor, std_bxor, std_shl, std_shr, std_eq, std_ne, std_lt, std_le, std_conv, std_not, std_beq, std_bne, std_ite, std_want, std_and2, std_sadd, std_seq, std_sne, std_slt, std_sle, std_sgt, std_sge, std_slen, std_sget, std_scut, std_ofNat, std_toNat, std_nsub, std_nadd, std_lenOf, std_nz, std_nneg, std_inb, std_upto, std_slt63, std_grow, std_imp, std_impN, std_tr, std_tb, std_ti, std_ts, std_tn, std_tp, std_nmin, std_makes, std_room, std_zeros, std_nilq, std_notq, std_eqi, std_eqn, std_eqb, std_eqs, std_eqv, std_cat, std_lst, std_rset, std_rcopy, std_shift, std_eqr, std_strOf, std_bytesOf, std_isB, std_zOf, zOf_int, std_isI, isI_int, std_getL, std_nmul, std_sOf, sOf_str, std_isS, isS_str, std_fadd, std_fsub, std_fav, std_fsv, std_feq, std_fne, std_flt, std_fle, std_fgt, std_fge, std_fOf, std_fTo, std_fTv] at * <;> omega)
         have hok : mOk L i = true := by
           clear hz
           subst hA
           simp [-List.getD_eq_getElem?_getD, std_add, std_sub, std_mul, std_quo, std_rem, std_band, std_bor, std_bxor, std_shl, std_shr, std_eq, std_ne, std_lt, std_le, std_conv, std_not, std_beq, std_bne, std_ite, std_want, std_and2, std_sadd, std_seq, std_sne, std_slt, std_sle, std_sgt, std_sge, std_slen, std_sget, std_scut, std_ofNat, std_toNat, std_nsub, std_nadd, std_lenOf, std_nz, std_nneg, std_inb, std_upto, std_slt63, std_grow, std_imp, std_impN, std_tr, std_tb, std_ti, std_ts, std_tn, std_tp, std_nmin, std_makes, std_room, std_zeros, std_nilq, std_notq, std_eqi, std_eqn, std_eqb, std_eqs, std_eqv, std_cat, std_lst, std_rset, std_rcopy, std_shift, std_eqr, std_strOf, std_bytesOf, std_isB, std_zOf, zOf_int, std_isI, isI_int, std_getL, std_nmul, std_sOf, sOf_str, std_isS, isS_str, std_fadd, std_fsub, std_fav, std_fsv, std_feq, std_fne, std_flt, std_fle, std_fgt, std_fge, std_fOf, std_fTo, std_fTv] at *
           refine mOk_yes (fun h1 => ?_) (by assumption)
           have h2 := (by assumption : 0 < i → _) h1
           rw [wm1 h1 (by omega), Int.toNat_natCast] at h2
           exact h2
         obtain ⟨i', hi'⟩ : ∃ i', i' = i + 1 := ⟨_, rfl⟩
         refine ⟨⟨i', by omega, by rw [hi', mUp_succ, hz, hok]; rfl⟩, ?_, show L.length - i' < L.length - i by omega⟩
         cbv
         subst hA
         simp [std_add, std_sub, std_mul, std_quo, std_rem, std_band, std_bor, std_bxor, std_shl, std_shr, std_eq, std_ne, std_lt, std_le, std_conv, std_not, std_beq, std_bne, std_ite, std_want, std_and2, std_sadd, std_seq, std_sne, std_slt, std_sle, std_sgt, std_sge, std_slen, std_sget, std_scut, std_ofNat, std_toNat, std_nsub, std_nadd, std_lenOf, std_nz, std_nneg, std_inb, std_upto, std_slt63, std_grow, std_imp, std_impN, std_tr, std_tb, std_ti, std_ts, std_tn, std_tp, std_nmin, std_makes, std_room, std_zeros, std_nilq, std_notq, std_eqi, std_eqn, std_eqb, std_eqs, std_eqv, std_cat, std_lst, std_rset, std_rcopy, std_shift, std_eqr, std_strOf, std_bytesOf, std_isB, std_zOf, zOf_int, std_isI, isI_int, std_getL, std_nmul, std_sOf, sOf_str, std_isS, isS_str, std_fadd, std_fsub, std_fav, std_fsv, std_feq, std_fne, std_flt, std_fle, std_fgt, std_fge, std_fOf, std_fTo, std_fTv]
         exact (w64 (by omega)).trans (by omega))
      | trace_state
theorem good_mRight' {T : List UInt8} {n : Nat} {f : Nat → Nat → SV} (hp : isRow eI (0, []) 2 n f ∧ n ≤ 1000000 ∧ ∀ i, ((lstOf eI (0, []) 2 n f).getD i (0, [])).2.length ≤ 1000000) :
    GoodP Tryd.prog gl0 28 [.agg [.str T, .slc n 2 f]] (.bool (std.tb fun _ => mR T (lstOf eI (0, []) 2 n f))) :=
  good_sv (good_mRight T (lstOf eI (0, []) 2 n f) (by rw [lstOf_length hp.1]; exact hp.2.1) hp.2.2) ⟨⟨_, rfl, rfl, hp.1.sv, trivial⟩, trivial⟩
noncomputable def c_mRight : Ct := fun A args => match args with
  | [.agg [.str T, .slc n 2 f]] => some (some (A.tp fun _ => isRow eI (0, []) 2 n f ∧ n ≤ 1000000 ∧ ∀ i, ((lstOf eI (0, []) 2 n f).getD i (0, [])).2.length ≤ 1000000), .bool (A.tb fun _ => mR T (lstOf eI (0, []) 2 n f)))
  | _ => none
noncomputable def gm1 : Ar → Pu := addC 28 c_mRight (gm0)
theorem gm1_ok : PuOk Tryd.prog gl0 (gm1 std) := by
  refine addC_ok (gm0_ok) ⟨_, Tryd.func28, rfl, by decide⟩ ?_
  · intro args p r h hp
    unfold c_mRight at h
    split at h <;> cases h
    exact good_mRight' hp
def dAsks (k : Int) : Bool := decide (k = 1) || (decide (k = 3) || (decide (k = 5) || decide (k = 6)))
theorem good_dIsKind (k : Int) : GoodP Tryd.prog gl0 104 [.int .i64 k] (.bool (std.tb fun _ => decide (1 ≤ k ∧ k ≤ 7))) := by
  refine fn_sound' (T := seatT) (G := noC) (X := noX) seatT_ok noC_ok noX_ok noI_ok mixed Tryd.func104 (.one) (fun A => [.int .i64 k]) (fun A => .bool (A.tb fun _ => decide (1 ≤ k ∧ k ≤ 7))) fun A hA => ?_
  cbv
  repeat' (first | with_reducible exact True.intro | with_reducible exact dr_ok hA (by kernel_rfl) | with_reducible refine And.intro ?_ ?_ | (intro hc; cbv))
  all_goals (subst hA; simp [std_add, std_sub, std_mul, std_quo, std_rem, std_band, std_bor, std_bxor, std_shl, std_shr, std_eq, std_ne, std_lt, std_le, std_conv, std_not, std_beq, std_bne, std_ite, std_want, std_and2, std_sadd, std_seq, std_sne, std_slt, std_sle, std_sgt, std_sge, std_slen, std_sget, std_scut, std_ofNat, std_toNat, std_nsub, std_nadd, std_lenOf, std_nz, std_nneg, std_inb, std_upto, std_slt63, std_grow, std_imp, std_impN, std_tr, std_tb, std_ti, std_ts, std_tn, std_tp, std_nmin, std_makes, std_room, std_zeros, std_nilq, std_notq, std_eqi, std_eqn, std_eqb, std_eqs, std_eqv, std_cat, std_lst, std_rset, std_rcopy, std_shift, std_eqr, std_strOf, std_bytesOf, std_isB, std_zOf, zOf_int, std_isI, isI_int, std_getL, std_nmul, std_sOf, sOf_str, std_isS, isS_str, std_fadd, std_fsub, std_fav, std_fsv, std_feq, std_fne, std_flt, std_fle, std_fgt, std_fge, std_fOf, std_fTo, std_fTv] at *)
  all_goals first
    | (rw [Bool.eq_iff_iff]; simp; done)
    | trace_state
theorem good_dTells (k : Int) : GoodP Tryd.prog gl0 100 [.int .i64 k] (.bool (std.tb fun _ => decide (k = 5) || decide (k = 6))) := by
  refine fn_sound' (T := seatT) (G := noC) (X := noX) seatT_ok noC_ok noX_ok noI_ok mixed Tryd.func100 (.one) (fun A => [.int .i64 k]) (fun A => .bool (A.tb fun _ => decide (k = 5) || decide (k = 6))) fun A hA => ?_
  cbv
  repeat' (first | with_reducible exact True.intro | with_reducible exact dr_ok hA (by kernel_rfl) | with_reducible refine And.intro ?_ ?_ | (intro hc; cbv))
  all_goals (subst hA; simp [std_add, std_sub, std_mul, std_quo, std_rem, std_band, std_bor, std_bxor, std_shl, std_shr, std_eq, std_ne, std_lt, std_le, std_conv, std_not, std_beq, std_bne, std_ite, std_want, std_and2, std_sadd, std_seq, std_sne, std_slt, std_sle, std_sgt, std_sge, std_slen, std_sget, std_scut, std_ofNat, std_toNat, std_nsub, std_nadd, std_lenOf, std_nz, std_nneg, std_inb, std_upto, std_slt63, std_grow, std_imp, std_impN, std_tr, std_tb, std_ti, std_ts, std_tn, std_tp, std_nmin, std_makes, std_room, std_zeros, std_nilq, std_notq, std_eqi, std_eqn, std_eqb, std_eqs, std_eqv, std_cat, std_lst, std_rset, std_rcopy, std_shift, std_eqr, std_strOf, std_bytesOf, std_isB, std_zOf, zOf_int, std_isI, isI_int, std_getL, std_nmul, std_sOf, sOf_str, std_isS, isS_str, std_fadd, std_fsub, std_fav, std_fsv, std_feq, std_fne, std_flt, std_fle, std_fgt, std_fge, std_fOf, std_fTo, std_fTv] at *)
  all_goals first
    | (rw [Bool.eq_iff_iff]; simp; done)
    | (rw [Bool.eq_iff_iff]; simp; omega)
    | trace_state
noncomputable def c_dTells : Ct := fun A args => match args with
  | [.int .i64 k] => some (none, .bool (A.tb fun _ => decide (k = 5) || decide (k = 6)))
  | _ => none
noncomputable def gm2 : Ar → Pu := addC 100 c_dTells (gm1)
theorem gm2_ok : PuOk Tryd.prog gl0 (gm2 std) := by
  refine addC_ok (gm1_ok) ⟨_, Tryd.func100, rfl, by decide⟩ ?_
  · intro args p r h hp
    unfold c_dTells at h
    split at h <;> cases h
    exact good_dTells _
theorem good_dAsks (k : Int) : GoodP Tryd.prog gl0 38 [.int .i64 k] (.bool (std.tb fun _ => dAsks k)) := by
  refine fn_sound' (T := seatT) (G := gm2) (X := noX) seatT_ok gm2_ok noX_ok noI_ok mixed Tryd.func38 (.one) (fun A => [.int .i64 k]) (fun A => .bool (A.tb fun _ => dAsks k)) fun A hA => ?_
  cbv
  repeat' (first | with_reducible exact True.intro | with_reducible exact dr_ok hA (by kernel_rfl) | with_reducible refine And.intro ?_ ?_ | (intro hc; cbv))
  all_goals (subst hA; simp [std_add, std_sub, std_mul, std_quo, std_rem, std_band, std_bor, std_bxor, std_shl, std_shr, std_eq, std_ne, std_lt, std_le, std_conv, std_not, std_beq, std_bne, std_ite, std_want, std_and2, std_sadd, std_seq, std_sne, std_slt, std_sle, std_sgt, std_sge, std_slen, std_sget, std_scut, std_ofNat, std_toNat, std_nsub, std_nadd, std_lenOf, std_nz, std_nneg, std_inb, std_upto, std_slt63, std_grow, std_imp, std_impN, std_tr, std_tb, std_ti, std_ts, std_tn, std_tp, std_nmin, std_makes, std_room, std_zeros, std_nilq, std_notq, std_eqi, std_eqn, std_eqb, std_eqs, std_eqv, std_cat, std_lst, std_rset, std_rcopy, std_shift, std_eqr, std_strOf, std_bytesOf, std_isB, std_zOf, zOf_int, std_isI, isI_int, std_getL, std_nmul, std_sOf, sOf_str, std_isS, isS_str, std_fadd, std_fsub, std_fav, std_fsv, std_feq, std_fne, std_flt, std_fle, std_fgt, std_fge, std_fOf, std_fTo, std_fTv] at *)
  all_goals first
    | (unfold dAsks; rw [Bool.eq_iff_iff]; simp; done)
    | (unfold dAsks; rw [Bool.eq_iff_iff]; simp; omega)
    | trace_state
theorem i1r (n : Int) (s : List UInt8) : Reps eI (0, []) 2 1 (lstS [[SV.int .i64 n, SV.str s]]) [(n, s)] := Reps.one (cell_eI n s)
theorem i1l (n : Int) (s : List UInt8) : lstOf eI (0, []) 2 1 (lstS [[SV.int .i64 n, SV.str s]]) = [(n, s)] := lstOf_eq inj_eI (i1r n s)
theorem i1w (n : Int) (s : List UInt8) : isRow eI (0, []) 2 1 (lstS [[SV.int .i64 n, SV.str s]]) := ⟨_, i1r n s⟩
theorem i1s (n : Int) {s : List UInt8} (h : s.length ≤ 1000000) : ∀ i, (([(n, s)] : List It).getD i (0, [])).2.length ≤ 1000000
  | 0 => h
  | _ + 1 => show ([] : List UInt8).length ≤ 1000000 from Nat.zero_le _
theorem mR_one (n : Int) (s : List UInt8) : mR [48, 49, 48, 48] [(n, s)] = rr n s := by
  unfold mR mUp
  simp [mT, mOk]
theorem good_dFits (n : Int) (s : List UInt8) (hs : s.length ≤ 1000000) : GoodP Tryd.prog gl0 105 [.int .i64 n, .str s] (.bool (std.tb fun _ => rr n s)) := by
  refine fn_sound' (T := seatT) (G := gm2) (X := noX) seatT_ok gm2_ok noX_ok noI_ok mixed Tryd.func105 (.one) (fun A => [.int .i64 n, .str s]) (fun A => .bool (A.tb fun _ => rr n s)) fun A hA => ?_
  cbv
  repeat' (first | with_reducible exact True.intro | with_reducible exact dr_ok hA (by kernel_rfl) | with_reducible refine And.intro ?_ ?_ | (intro hc; cbv))
  all_goals (subst hA; try simp [-List.getD_eq_getElem?_getD, std_add, std_sub, std_mul, std_quo, std_rem, std_band, std_bor, std_bxor, std_shl, std_shr, std_eq, std_ne, std_lt, std_le, std_conv, std_not, std_beq, std_bne, std_ite, std_want, std_and2, std_sadd, std_seq, std_sne, std_slt, std_sle, std_sgt, std_sge, std_slen, std_sget, std_scut, std_ofNat, std_toNat, std_nsub, std_nadd, std_lenOf, std_nz, std_nneg, std_inb, std_upto, std_slt63, std_grow, std_imp, std_impN, std_tr, std_tb, std_ti, std_ts, std_tn, std_tp, std_nmin, std_makes, std_room, std_zeros, std_nilq, std_notq, std_eqi, std_eqn, std_eqb, std_eqs, std_eqv, std_cat, std_lst, std_rset, std_rcopy, std_shift, std_eqr, std_strOf, std_bytesOf, std_isB, std_zOf, zOf_int, std_isI, isI_int, std_getL, std_nmul, std_sOf, sOf_str, std_isS, isS_str, std_fadd, std_fsub, std_fav, std_fsv, std_feq, std_fne, std_flt, std_fle, std_fgt, std_fge, std_fOf, std_fTo, std_fTv, i1l, i1w, mR_one] at *)
  all_goals first
    | exact i1s n hs
    | trace_state
noncomputable def c_dIsKind : Ct := fun A args => match args with
  | [.int .i64 k] => some (none, .bool (A.tb fun _ => decide (1 ≤ k ∧ k ≤ 7)))
  | _ => none
noncomputable def c_dAsks : Ct := fun A args => match args with
  | [.int .i64 k] => some (none, .bool (A.tb fun _ => dAsks k))
  | _ => none
noncomputable def c_dFits : Ct := fun A args => match args with
  | [.int .i64 n, .str s] => some (some (A.tp fun _ => s.length ≤ 1000000), .bool (A.tb fun _ => rr n s))
  | _ => none
noncomputable def gm3 : Ar → Pu := addC 104 c_dIsKind (addC 38 c_dAsks (addC 105 c_dFits (gm2)))
theorem gm3_ok : PuOk Tryd.prog gl0 (gm3 std) := by
  refine addC_ok (addC_ok (addC_ok (gm2_ok) ⟨_, Tryd.func105, rfl, by decide⟩ ?_) ⟨_, Tryd.func38, rfl, by decide⟩ ?_) ⟨_, Tryd.func104, rfl, by decide⟩ ?_
  · intro args p r h hp
    unfold c_dFits at h
    split at h <;> cases h
    exact good_dFits _ _ hp
  · intro args p r h hp
    unfold c_dAsks at h
    split at h <;> cases h
    exact good_dAsks _
  · intro args p r h hp
    unfold c_dIsKind at h
    split at h <;> cases h
    exact good_dIsKind _
def dR (k a s : Int) (p r c : List UInt8) : Bool :=
  decide (1 ≤ k ∧ k ≤ 7) && (decide (s ≤ 999999) && (rr 37 r && (if dAsks k = true then lFine p && (decide ((p.length : Int) ≤ 19) && (decide (a < 1000000000000) && c == [])) else rr 39 c && (p == [] && decide (a = 0)))))
theorem good_dRight (k a s : Int) (p r c : List UInt8) (hp : p.length ≤ 100000) (hr : r.length ≤ 1000000) (hcc : c.length ≤ 1000000) : GoodP Tryd.prog gl0 37 [.agg [.int .i64 k, .str p, .int .u64 a, .int .u32 s, .str r, .str c]] (.bool (std.tb fun _ => dR k a s p r c)) := by
  refine fn_sound' (T := seatT) (G := gm3) (X := noX) seatT_ok gm3_ok noX_ok noI_ok mixed Tryd.func37 (.one) (fun A => [.agg [.int .i64 k, .str p, .int .u64 a, .int .u32 s, .str r, .str c]]) (fun A => .bool (A.tb fun _ => dR k a s p r c)) fun A hA => ?_
  cbv
  repeat' (first | with_reducible exact True.intro | with_reducible exact dr_ok hA (by kernel_rfl) | with_reducible refine And.intro ?_ ?_ | (intro hc; cbv))
  all_goals (subst hA; simp [-List.getD_eq_getElem?_getD, std_add, std_sub, std_mul, std_quo, std_rem, std_band, std_bor, std_bxor, std_shl, std_shr, std_eq, std_ne, std_lt, std_le, std_conv, std_not, std_beq, std_bne, std_ite, std_want, std_and2, std_sadd, std_seq, std_sne, std_slt, std_sle, std_sgt, std_sge, std_slen, std_sget, std_scut, std_ofNat, std_toNat, std_nsub, std_nadd, std_lenOf, std_nz, std_nneg, std_inb, std_upto, std_slt63, std_grow, std_imp, std_impN, std_tr, std_tb, std_ti, std_ts, std_tn, std_tp, std_nmin, std_makes, std_room, std_zeros, std_nilq, std_notq, std_eqi, std_eqn, std_eqb, std_eqs, std_eqv, std_cat, std_lst, std_rset, std_rcopy, std_shift, std_eqr, std_strOf, std_bytesOf, std_isB, std_zOf, zOf_int, std_isI, isI_int, std_getL, std_nmul, std_sOf, sOf_str, std_isS, isS_str, std_fadd, std_fsub, std_fav, std_fsv, std_feq, std_fne, std_flt, std_fle, std_fgt, std_fge, std_fOf, std_fTo, std_fTv] at *)
  all_goals first
    | omega
    | (unfold dR
       rcases hc with (hc | hc) | hc
       · rw [decide_eq_false (p := 1 ≤ k ∧ k ≤ 7) (by omega)]; rfl
       · rw [decide_eq_false (p := s ≤ 999999) (by omega)]; simp
       · rw [hc]; simp)
    | (have hd : dAsks k = true := by assumption
       unfold dR
       rw [decide_eq_true hc.1.1, decide_eq_true hc.1.2, hc.2, if_pos hd]
       simp only [Bool.true_and, Bool.and_assoc]
       cases c <;> rfl)
    | (have hd : dAsks k = false := by assumption
       unfold dR
       rw [decide_eq_true hc.1.1, decide_eq_true hc.1.2, hc.2, if_neg (by rw [hd]; simp)]
       simp only [Bool.true_and, Bool.and_assoc]
       cases p <;> rfl)
    | trace_state
end Go.Vd

set_option linter.unusedVariables false
set_option linter.unusedSimpArgs false
set_option maxRecDepth 100000
set_option maxHeartbeats 4000000
namespace Go.Vd
open Go.Proofs
def sKey (A : Ar) (s : Int) (r : List UInt8) : SV := .agg [.int .u32 s, .str r]
attribute [local irreducible] vc
theorem good_nan32 (a : Int) : GoodP Tryd.prog gl0 183 [.int .u32 a] (.bool false) := by
  refine fn_sound' (T := seatT) (G := noC) (X := noX) seatT_ok noC_ok noX_ok noI_ok mixed Tryd.func183 (.one) (fun A => [.int .u32 a]) (fun A => .bool false) fun A hA => ?_
  cbv
  repeat' (first | with_reducible exact True.intro | with_reducible exact dr_ok hA (by kernel_rfl) | with_reducible refine And.intro ?_ ?_ | (intro hc; cbv))
  all_goals (subst hA; simp [-List.getD_eq_getElem?_getD, sS])
theorem good_nanS (a : List UInt8) : GoodP Tryd.prog gl0 184 [.str a] (.bool false) := by
  refine fn_sound' (T := seatT) (G := noC) (X := noX) seatT_ok noC_ok noX_ok noI_ok mixed Tryd.func184 (.one) (fun A => [.str a]) (fun A => .bool false) fun A hA => ?_
  cbv
  repeat' (first | with_reducible exact True.intro | with_reducible exact dr_ok hA (by kernel_rfl) | with_reducible refine And.intro ?_ ?_ | (intro hc; cbv))
  all_goals (subst hA; simp [-List.getD_eq_getElem?_getD, sS])
noncomputable def c_nan32 : Ct := fun A args => match args with
  | [.int .u32 a] => some (none, .bool false)
  | _ => none
noncomputable def c_nanS : Ct := fun A args => match args with
  | [.str a] => some (none, .bool false)
  | _ => none
noncomputable def gk1 : Ar → Pu := addC 183 c_nan32 (addC 184 c_nanS (gm3))
theorem gk1_ok : PuOk Tryd.prog gl0 (gk1 std) := by
  refine addC_ok (addC_ok (gm3_ok) ⟨_, Tryd.func184, rfl, by decide⟩ ?_) ⟨_, Tryd.func183, rfl, by decide⟩ ?_
  · intro args p r h hp
    unfold c_nanS at h
    split at h <;> cases h
    exact good_nanS _
  · intro args p r h hp
    unfold c_nan32 at h
    split at h <;> cases h
    exact good_nan32 _
theorem good_cmp32 (a b : Int) : GoodP Tryd.prog gl0 159 [.int .u32 a, .int .u32 b] (.int .i64 (std.ti fun _ => ordI a b)) := by
  refine fn_sound' (T := seatT) (G := gk1) (X := noX) seatT_ok gk1_ok noX_ok noI_ok mixed Tryd.func159 (.one) (fun A => [.int .u32 a, .int .u32 b]) (fun A => .int .i64 (A.ti fun _ => ordI a b)) fun A hA => ?_
  cbv
  repeat' (first | with_reducible exact True.intro | with_reducible exact dr_ok hA (by kernel_rfl) | with_reducible refine And.intro ?_ ?_ | (intro hc; cbv))
  all_goals (subst hA; simp [sS] at *)
  all_goals (unfold ordI)
  all_goals first
    | (rw [if_pos (by assumption)]; done)
    | (rw [if_neg (by omega), if_pos (by omega)]; done)
    | (rw [if_neg (by omega), if_neg (by omega)]; done)
    | trace_state
theorem good_cmpS (a b : List UInt8) : GoodP Tryd.prog gl0 160 [.str a, .str b] (.int .i64 (std.ti fun _ => ordS a b)) := by
  refine fn_sound' (T := seatT) (G := gk1) (X := noX) seatT_ok gk1_ok noX_ok noI_ok mixed Tryd.func160 (.one) (fun A => [.str a, .str b]) (fun A => .int .i64 (A.ti fun _ => ordS a b)) fun A hA => ?_
  cbv
  repeat' (first | with_reducible exact True.intro | with_reducible exact dr_ok hA (by kernel_rfl) | with_reducible refine And.intro ?_ ?_ | (intro hc; cbv))
  all_goals (subst hA; simp only [sS, bytesLess_eq] at *)
  all_goals (try simp only [decide_eq_true_eq, decide_eq_false_iff_not, Bool.not_eq_false', Bool.not_eq_true', Bool.or_eq_true, Bool.or_eq_false_iff, beq_iff_eq, beq_eq_false_iff_ne] at *)
  all_goals first
    | (simp at *; done)
    | (rcases triS a b with ⟨h1, n, e⟩ | ⟨n, e⟩ | ⟨h1, n, e⟩ <;> (first | (rw [e]; done) | exact absurd h1 (by assumption) | (exfalso; subst n; simp_all [List.lt_irrefl]; done) | (exfalso; simp_all; done) | (exfalso; exact List.lt_irrefl _ (List.lt_trans h1 (by assumption))) | (exfalso; (rcases (by assumption : a < b ∨ a = b) with h4 | h4); (exact List.lt_irrefl _ (List.lt_trans h1 h4)); exact n h4)))
    | trace_state
theorem good_cOr (L : List Int) (hL : L.length ≤ 1000) : GoodP Tryd.prog gl0 158 [rowS eZ 0 1 std fun _ => L] (.int .i64 (std.ti fun _ => orL L)) := by
  refine fn_sound' (T := seatT) (G := noC) (X := noX) seatT_ok noC_ok noX_ok noI_ok mixed Tryd.func158 (.one) (fun A => [rowS eZ 0 1 A fun _ => L]) (fun A => .int .i64 (A.ti fun _ => orL L)) fun A hA => ?_
  cbv
  repeat' (first | with_reducible exact True.intro | with_reducible exact dr_ok hA (by kernel_rfl) | with_reducible refine And.intro ?_ ?_ | (intro hc; cbv))
  refine ⟨⟨{i : Nat // i ≤ L.length ∧ ∀ x ∈ L.take i, x = 0}, fun b i => [(8, .int .i64 (i.1 : Nat))], fun b i => [], fun i => L.length - i.1, true⟩, ⟨⟨0, by omega, by simp⟩, ?_⟩, ?_⟩
  · cbv
    subst hA
    simp [-List.getD_eq_getElem?_getD, sS]
  · rintro ⟨i, hi, hz⟩
    cbv
    repeat' (first | with_reducible exact True.intro | with_reducible exact dr_ok hA (by kernel_rfl) | with_reducible refine And.intro ?_ ?_ | (intro hc; cbv))
    rotate_right 2
    · have hlt : i < L.length := by subst hA; simp [sS] at *; omega
      have h0 : L.getD i 0 = 0 := by subst hA; simpa [-List.getD_eq_getElem?_getD, sS] using hc
      refine ⟨⟨i + 1, by omega, fun x hx => ?_⟩, ?_, show L.length - (i + 1) < L.length - i by omega⟩
      · rw [← take_snoc (d := 0) hlt] at hx
        rcases List.mem_append.1 hx with hx | hx
        · exact hz x hx
        · rw [List.mem_singleton.1 hx]; exact h0
      · cbv
        subst hA
        simp [sS]
        exact w64 (by omega)
    · have hie : i = L.length := by subst hA; simp [sS] at *; omega
      subst hie
      rw [List.take_length] at hz
      subst hA
      simp [sS, orL_all hz]
    · subst hA; simp [sS] at *; omega
    · have hlt : i < L.length := by subst hA; simp [sS] at *; omega
      have h0 : ¬L.getD i 0 = 0 := by subst hA; simpa [-List.getD_eq_getElem?_getD, sS] using hc
      have h1 := orL_zero hz hlt
      rw [if_neg h0] at h1
      subst hA
      simp [-List.getD_eq_getElem?_getD, sS, h1]
def orInts (A : Ar) (L : Unit → List Int) : SV := rowS eZ 0 1 A L
noncomputable def c_cmp32 : Ct := fun A args => match args with
  | [.int .u32 a, .int .u32 b] => some (none, .int .i64 (A.ti fun _ => ordI a b))
  | _ => none
noncomputable def c_cmpS : Ct := fun A args => match args with
  | [.str a, .str b] => some (none, .int .i64 (A.ti fun _ => ordS a b))
  | _ => none
noncomputable def c_cOr : Ct := fun A args => match args with
  | [.slc n 1 f] => some (some (A.tp fun _ => isRow eZ 0 1 n f ∧ n ≤ 1000), .int .i64 (A.ti fun _ => orL (lstOf eZ 0 1 n f)))
  | _ => none
noncomputable def gk2 : Ar → Pu := addC 159 c_cmp32 (addC 160 c_cmpS (addC 158 c_cOr (gk1)))
theorem gk2_ok : PuOk Tryd.prog gl0 (gk2 std) := by
  refine addC_ok (addC_ok (addC_ok (gk1_ok) ⟨_, Tryd.func158, rfl, by decide⟩ ?_) ⟨_, Tryd.func160, rfl, by decide⟩ ?_) ⟨_, Tryd.func159, rfl, by decide⟩ ?_
  · intro args p r h hp
    unfold c_cOr at h
    split at h <;> cases h
    exact good_sv (good_cOr _ (by rw [lstOf_length hp.1]; exact hp.2)) ⟨hp.1.sv, trivial⟩
  · intro args p r h hp
    unfold c_cmpS at h
    split at h <;> cases h
    exact good_cmpS _ _
  · intro args p r h hp
    unfold c_cmp32 at h
    split at h <;> cases h
    exact good_cmp32 _ _
theorem q2 (x y : Int) : Reps eZ 0 1 2 (lstS [[SV.int .i64 x], [SV.int .i64 y]]) [x, y] := Reps.lst (l := [_, _]) (L := [x, y]) ⟨cell_eZ x, cell_eZ y, trivial⟩
theorem good_kOrder (s t : Int) (r q : List UInt8) : GoodP Tryd.prog gl0 116 [sKey std s r, sKey std t q] (.int .i64 (std.ti fun _ => ordK s r t q)) := by
  refine fn_sound' (T := seatT) (G := gk2) (X := noX) seatT_ok gk2_ok noX_ok noI_ok mixed Tryd.func116 (.one) (fun A => [sKey A s r, sKey A t q]) (fun A => .int .i64 (A.ti fun _ => ordK s r t q)) fun A hA => ?_
  cbv
  repeat' (first | with_reducible exact True.intro | with_reducible exact dr_ok hA (by kernel_rfl) | with_reducible refine And.intro ?_ ?_ | (intro hc; cbv))
  all_goals (subst hA; simp only [sS])
  · exact ⟨⟨_, q2 _ _⟩, by omega⟩
  · rw [lstOf_eq inj_eZ (q2 _ _), ordK_or]
theorem good_kOf (a c s : Int) (p r e : List UInt8) : GoodP Tryd.prog gl0 68 [.agg [.int .i64 a, .str p, .int .u64 c, .int .u32 s, .str r, .str e]] (sKey std s r) := by
  refine fn_sound' (T := seatT) (G := noC) (X := noX) seatT_ok noC_ok noX_ok noI_ok mixed Tryd.func68 (.one) (fun A => [.agg [.int .i64 a, .str p, .int .u64 c, .int .u32 s, .str r, .str e]]) (fun A => sKey A s r) fun A hA => ?_
  cbv
  repeat' (first | with_reducible exact True.intro | with_reducible exact dr_ok hA (by kernel_rfl) | with_reducible refine And.intro ?_ ?_ | (intro hc; cbv))
  all_goals (subst hA; simp [sS] at *)
theorem good_dShort (a c s : Int) (p r e : List UInt8) : GoodP Tryd.prog gl0 31 [.agg [.int .i64 a, .str p, .int .u64 c, .int .u32 s, .str r, .str e]] (.bool (std.tb fun _ => decide (p.length ≤ 300 ∧ r.length ≤ 300 ∧ e.length ≤ 300))) := by
  refine fn_sound' (T := seatT) (G := noC) (X := noX) seatT_ok noC_ok noX_ok noI_ok mixed Tryd.func31 (.one) (fun A => [.agg [.int .i64 a, .str p, .int .u64 c, .int .u32 s, .str r, .str e]]) (fun A => .bool (A.tb fun _ => decide (p.length ≤ 300 ∧ r.length ≤ 300 ∧ e.length ≤ 300))) fun A hA => ?_
  cbv
  repeat' (first | with_reducible exact True.intro | with_reducible exact dr_ok hA (by kernel_rfl) | with_reducible refine And.intro ?_ ?_ | (intro hc; cbv))
  all_goals (subst hA; simp [sS] at *)
  all_goals first
    | (rw [Bool.eq_iff_iff]; simp; omega)
    | (intro _ _; constructor <;> assumption)
    | trace_state
theorem good_kRight (s : Int) (r : List UInt8) : GoodP Tryd.prog gl0 111 [sKey std s r] (.bool (std.tb fun _ => keyOk s r)) := by
  refine fn_sound' (T := seatT) (G := noC) (X := noX) seatT_ok noC_ok noX_ok noI_ok mixed Tryd.func111 (.one) (fun A => [sKey A s r]) (fun A => .bool (A.tb fun _ => keyOk s r)) fun A hA => ?_
  cbv
  repeat' (first | with_reducible exact True.intro | with_reducible exact dr_ok hA (by kernel_rfl) | with_reducible refine And.intro ?_ ?_ | (intro hc; cbv))
  rotate_right
  · have h0 : s ≤ 999999 ∧ r.length = 12 := by subst hA; simp [sS] at *; omega
    refine ⟨⟨{i : Nat // i ≤ r.length ∧ (r.take i).all okB = true}, fun b i => [(16, .int .i64 (i.1 : Nat))], fun b i => [], fun i => r.length - i.1, true⟩, ⟨⟨0, by omega, by simp⟩, ?_⟩, ?_⟩
    · cbv
      subst hA
      simp [-List.getD_eq_getElem?_getD, sS]
    · rintro ⟨i, hi, hz⟩
      cbv
      repeat' (first | with_reducible exact True.intro | with_reducible exact dr_ok hA (by kernel_rfl) | with_reducible refine And.intro ?_ ?_ | (intro hc; cbv))
      all_goals first
        | (fail_if_success (refine Exists.intro ?_ ?_)
           subst hA
           simp [-List.getD_eq_getElem?_getD, sS, gD] at *
           done)
        | (fail_if_success (refine Exists.intro ?_ ?_)
           subst hA
           simp [-List.getD_eq_getElem?_getD, sS, gD] at *
           first
             | omega
             | (constructor <;> omega)
             | (have hlt : i < r.length := by omega
                have hx : okB (r.getD i 0) = false := by (simp [-List.getD_eq_getElem?_getD, okB]; omega)
                rw [keyOk, all_false hlt hx]; simp; done)
             | (have hie : i = r.length := by omega
                subst hie
                rw [List.take_of_length_le (Nat.le_refl _)] at hz
                simp [keyOk, h0]; exact hz)
             | trace_state)
        | (have hlt : i < r.length := by clear hz; subst hA; simp [sS] at *; omega
           have hx : okB (r.getD i 0) = true := by
             clear hz
             subst hA
             simp [-List.getD_eq_getElem?_getD, sS, gD] at *
             simp [-List.getD_eq_getElem?_getD, okB]
             omega
           refine ⟨⟨i + 1, by omega, by rw [all_take hlt, hz, hx]; rfl⟩, ?_, show r.length - (i + 1) < r.length - i by omega⟩
           cbv
           subst hA
           simp [sS]
           exact w64 (by omega))
        | trace_state
  all_goals (subst hA; simp [sS] at *)
  all_goals (rw [Bool.eq_false_iff]; intro h; simp [keyOk] at h; omega)
theorem keyOk_le {s : Int} {r : List UInt8} (h : keyOk s r = true) : s ≤ 999999 ∧ r.length = 12 := by
  simp [keyOk] at h
  exact ⟨h.1, h.2.1⟩
noncomputable def c_kRight : Ct := fun A args => match args with
  | [.agg [.int .u32 s, .str r]] => some (none, .bool (A.tb fun _ => keyOk s r))
  | _ => none
noncomputable def c_kOrder : Ct := fun A args => match args with
  | [.agg [.int .u32 s, .str r], .agg [.int .u32 t, .str q]] => some (none, .int .i64 (A.ti fun _ => ordK s r t q))
  | _ => none
noncomputable def c_kOf : Ct := fun A args => match args with
  | [.agg [.int .i64 a, .str p, .int .u64 c, .int .u32 s, .str r, .str e]] => some (none, .agg [.int .u32 s, .str r])
  | _ => none
noncomputable def c_dShort : Ct := fun A args => match args with
  | [.agg [.int .i64 a, .str p, .int .u64 c, .int .u32 s, .str r, .str e]] => some (none, .bool (A.tb fun _ => decide (p.length ≤ 300 ∧ r.length ≤ 300 ∧ e.length ≤ 300)))
  | _ => none
noncomputable def c_dRight : Ct := fun A args => match args with
  | [.agg [.int .i64 k, .str p, .int .u64 a, .int .u32 s, .str r, .str c]] => some (some (A.tp fun _ => p.length ≤ 100000 ∧ r.length ≤ 1000000 ∧ c.length ≤ 1000000), .bool (A.tb fun _ => dR k a s p r c))
  | _ => none
noncomputable def gk8 : Ar → Pu := addC 111 c_kRight (addC 116 c_kOrder (addC 68 c_kOf (addC 31 c_dShort (addC 37 c_dRight (gk2)))))
theorem gk8_ok : PuOk Tryd.prog gl0 (gk8 std) := by
  refine addC_ok (addC_ok (addC_ok (addC_ok (addC_ok (gk2_ok) ⟨_, Tryd.func37, rfl, by decide⟩ ?_) ⟨_, Tryd.func31, rfl, by decide⟩ ?_) ⟨_, Tryd.func68, rfl, by decide⟩ ?_) ⟨_, Tryd.func116, rfl, by decide⟩ ?_) ⟨_, Tryd.func111, rfl, by decide⟩ ?_
  · intro args p r h hp
    unfold c_dRight at h
    split at h <;> cases h
    exact good_dRight _ _ _ _ _ _ hp.1 hp.2.1 hp.2.2
  · intro args p r h hp
    unfold c_dShort at h
    split at h <;> cases h
    exact good_dShort _ _ _ _ _ _
  · intro args p r h hp
    unfold c_kOf at h
    split at h <;> cases h
    exact good_kOf _ _ _ _ _ _
  · intro args p r h hp
    unfold c_kOrder at h
    split at h <;> cases h
    exact good_kOrder _ _ _ _
  · intro args p r h hp
    unfold c_kRight at h
    split at h <;> cases h
    exact good_kRight _ _
end Go.Vd

set_option linter.unusedVariables false
set_option linter.unusedSimpArgs false
set_option maxRecDepth 100000
set_option maxHeartbeats 8000000
namespace Go.Vd
open Go.Proofs
structure Hld where
  s : Int
  r : List UInt8
  am : Int
  st : Int
  deriving DecidableEq
def H0 : Hld := ⟨0, [], 0, 0⟩
def hR (e : Hld) : Bool := keyOk e.s e.r && (decide (e.am < 1000000000000) && (decide (1 ≤ e.st) && decide (e.st ≤ 3)))
attribute [local irreducible] vc
theorem good_lHold (s am st : Int) (r : List UInt8) : GoodP Tryd.prog gl0 123 [.agg [.int .u32 s, .str r, .int .u64 am, .int .i64 st]] (.bool (std.tb fun _ => hR ⟨s, r, am, st⟩)) := by
  refine fn_sound' (T := seatT) (G := gk8) (X := noX) seatT_ok gk8_ok noX_ok noI_ok mixed Tryd.func123 (.one) (fun A => [.agg [.int .u32 s, .str r, .int .u64 am, .int .i64 st]]) (fun A => .bool (A.tb fun _ => hR ⟨s, r, am, st⟩)) fun A hA => ?_
  cbv
  repeat' (first | with_reducible exact True.intro | with_reducible exact dr_ok hA (by kernel_rfl) | with_reducible refine And.intro ?_ ?_ | (intro hc; cbv))
  all_goals (subst hA; simp [std_add, std_sub, std_mul, std_quo, std_rem, std_band, std_bor, std_bxor, std_shl, std_shr, std_eq, std_ne, std_lt, std_le, std_conv, std_not, std_beq, std_bne, std_ite, std_want, std_and2, std_sadd, std_seq, std_sne, std_slt, std_sle, std_sgt, std_sge, std_slen, std_sget, std_scut, std_ofNat, std_toNat, std_nsub, std_nadd, std_lenOf, std_nz, std_nneg, std_inb, std_upto, std_slt63, std_grow, std_imp, std_impN, std_tr, std_tb, std_ti, std_ts, std_tn, std_tp, std_nmin, std_makes, std_room, std_zeros, std_nilq, std_notq, std_eqi, std_eqn, std_eqb, std_eqs, std_eqv, std_cat, std_lst, std_rset, std_rcopy, std_shift, std_eqr, std_strOf, std_bytesOf, std_isB, std_zOf, zOf_int, std_isI, isI_int, std_getL, std_nmul, std_sOf, sOf_str, std_isS, isS_str, std_fadd, std_fsub, std_fav, std_fsv, std_feq, std_fne, std_flt, std_fle, std_fgt, std_fge, std_fOf, std_fTo, std_fTv] at *)
  all_goals (rw [Bool.eq_iff_iff]; simp [hR])
  all_goals first
    | done
    | (constructor <;> (intro h; simp [h]; try omega))
    | trace_state
noncomputable def c_lHold : Ct := fun A args => match args with
  | [.agg [.int .u32 s, .str r, .int .u64 am, .int .i64 st]] => some (none, .bool (A.tb fun _ => hR ⟨s, r, am, st⟩))
  | _ => none
noncomputable def gy1 : Ar → Pu := addC 123 c_lHold (gk8)
theorem gy1_ok : PuOk Tryd.prog gl0 (gy1 std) := by
  refine addC_ok (gk8_ok) ⟨_, Tryd.func123, rfl, by decide⟩ ?_
  · intro args p r h hp
    unfold c_lHold at h
    split at h <;> cases h
    exact good_lHold _ _ _ _
def eH : En Hld := fun A x => [.int .u32 (A.ti fun _ => (x ()).s), .str (A.ts fun _ => (x ()).r), .int .u64 (A.ti fun _ => (x ()).am), .int .i64 (A.ti fun _ => (x ()).st)]
theorem inj_eH : Inj eH 4 := fun x y h => by
  obtain ⟨s0, a0, b0⟩ := h 0 (by omega)
  obtain ⟨s1, a1, b1⟩ := h 1 (by omega)
  obtain ⟨s2, a2, b2⟩ := h 2 (by omega)
  obtain ⟨s3, a3, b3⟩ := h 3 (by omega)
  have a0 : Ceq s0 (.int .u32 x.s) := a0
  have b0 : Ceq s0 (.int .u32 y.s) := b0
  have a1 : Ceq s1 (.str x.r) := a1
  have b1 : Ceq s1 (.str y.r) := b1
  have a2 : Ceq s2 (.int .u64 x.am) := a2
  have b2 : Ceq s2 (.int .u64 y.am) := b2
  have a3 : Ceq s3 (.int .i64 x.st) := a3
  have b3 : Ceq s3 (.int .i64 y.st) := b3
  rw [Ceq.int] at a0 b0 a2 b2 a3 b3
  rw [Ceq.str] at a1 b1
  subst a0 a1 a2 a3
  cases x
  cases y
  simp at b0 b1 b2 b3
  simp only [Hld.mk.injEq]
  exact ⟨b0, b1, b2, b3⟩
theorem cell_eH (e : Hld) : ∀ j, j < 4 → Ceq (getAt [SV.int .u32 e.s, SV.str e.r, SV.int .u64 e.am, SV.int .i64 e.st] j) (getAt (eH std fun _ => e) j) := by
  intro j hj
  rcases (show j = 0 ∨ j = 1 ∨ j = 2 ∨ j = 3 by omega) with rfl | rfl | rfl | rfl <;> exact .refl _
theorem lstOf_V (L : List Hld) : lstOf eH H0 4 L.length (rowF eH { s := 0, r := [], am := 0, st := 0 } std fun _ => L) = L := lstOf_lit inj_eH L
theorem isRow_V (L : List Hld) : isRow eH H0 4 L.length (rowF eH { s := 0, r := [], am := 0, st := 0 } std fun _ => L) := isRow_lit L
def ordH (e f : Hld) : Int := ordK e.s e.r f.s f.r
def ascB : List Hld → Bool
  | [] => true
  | [e] => hR e
  | e :: f :: L => hR e && (decide (ordH e f < 0) && ascB (f :: L))
def ascP (L : List Hld) : Prop := ∀ j, j < L.length → hR (L.getD j H0) = true ∧ (0 < j → ordH (L.getD (j - 1) H0) (L.getD j H0) < 0)
theorem ascB_iff : ∀ (L : List Hld), ascB L = true ↔ ascP L
  | [] => ⟨fun _ j h => absurd h (by simp), fun _ => rfl⟩
  | [e] => by
    constructor
    · intro h j hj
      obtain rfl : j = 0 := by simp at hj; omega
      exact ⟨h, fun h => absurd h (by omega)⟩
    · intro h
      exact (h 0 (by simp)).1
  | e :: f :: L => by
    have ih := ascB_iff (f :: L)
    simp only [ascB, Bool.and_eq_true, decide_eq_true_eq]
    constructor
    · rintro ⟨h1, h2, h3⟩ j hj
      have h4 := ih.1 h3
      cases j with
      | zero => exact ⟨h1, fun h => absurd h (by omega)⟩
      | succ j =>
        have h5 := h4 j (by simpa using hj)
        refine ⟨h5.1, fun _ => ?_⟩
        cases j with
        | zero => exact h2
        | succ j => exact h5.2 (by omega)
    · intro h
      refine ⟨(h 0 (by simp)).1, (h 1 (by simp)).2 (by omega), ih.2 fun j hj => ?_⟩
      have h5 := h (j + 1) (by simpa using hj)
      refine ⟨h5.1, fun h0 => ?_⟩
      have := h5.2 (by omega)
      obtain ⟨i, rfl⟩ : ∃ i, j = i + 1 := ⟨j - 1, by omega⟩
      exact this
theorem w_succ' {a b : Nat} (h : b = a + 1) (hb : a ≤ 1000000000000) : IntKind.i64.wrap ((a : Int) + 1) = (b : Int) := by
  rw [w64 (by omega)]; omega
def leR (L : List Hld) : Bool := decide (L.length ≤ 256) && ascB L
theorem leR_no {L : List Hld} {j : Nat} (hj : j < L.length) (h : hR (L.getD j H0) = false ∨ (0 < j ∧ ¬ordH (L.getD (j - 1) H0) (L.getD j H0) < 0)) : leR L = false := by
  rw [Bool.eq_false_iff]
  intro hs
  simp only [leR, Bool.and_eq_true] at hs
  have h2 := (ascB_iff L).1 hs.2 j hj
  rcases h with h | h
  · rw [h] at h2; exact Bool.noConfusion h2.1
  · exact h.2 (h2.2 h.1)
theorem leR_yes {L : List Hld} (hl : L.length ≤ 256) (h : ascP L) : leR L = true := by
  simp only [leR, Bool.and_eq_true, decide_eq_true_eq]
  exact ⟨hl, (ascB_iff L).2 h⟩
theorem leR_big {L : List Hld} (hl : ¬L.length ≤ 256) : leR L = false := by simp [leR, hl]
theorem good_leR (L : List Hld) (hL : L.length ≤ 1000000) : GoodP Tryd.prog gl0 65 [.agg [rowS eH H0 4 std fun _ => L]] (.bool (std.tb fun _ => leR L)) := by
  refine fn_sound' (T := seatT) (G := gy1) (X := noX) seatT_ok gy1_ok noX_ok noI_ok mixed Tryd.func65 (.one) (fun A => [.agg [rowS eH H0 4 A fun _ => L]]) (fun A => .bool (A.tb fun _ => leR L)) fun A hA => ?_
  cbv
  repeat' (first | with_reducible exact True.intro | with_reducible exact dr_ok hA (by kernel_rfl) | with_reducible refine And.intro ?_ ?_ | (intro hc; cbv))
  rotate_right
  all_goals first
    | (fail_if_success (refine Exists.intro ?_ ?_)
       subst hA
       simp [std_add, std_sub, std_mul, std_quo, std_rem, std_band, std_bor, std_bxor, std_shl, std_shr, std_eq, std_ne, std_lt, std_le, std_conv, std_not, std_beq, std_bne, std_ite, std_want, std_and2, std_sadd, std_seq, std_sne, std_slt, std_sle, std_sgt, std_sge, std_slen, std_sget, std_scut, std_ofNat, std_toNat, std_nsub, std_nadd, std_lenOf, std_nz, std_nneg, std_inb, std_upto, std_slt63, std_grow, std_imp, std_impN, std_tr, std_tb, std_ti, std_ts, std_tn, std_tp, std_nmin, std_makes, std_room, std_zeros, std_nilq, std_notq, std_eqi, std_eqn, std_eqb, std_eqs, std_eqv, std_cat, std_lst, std_rset, std_rcopy, std_shift, std_eqr, std_strOf, std_bytesOf, std_isB, std_zOf, zOf_int, std_isI, isI_int, std_getL, std_nmul, std_sOf, sOf_str, std_isS, isS_str, std_fadd, std_fsub, std_fav, std_fsv, std_feq, std_fne, std_flt, std_fle, std_fgt, std_fge, std_fOf, std_fTo, std_fTv] at *
       first | done | (exact leR_big (by omega)))
    | skip
  have hl : L.length ≤ 256 := by subst hA; simp [std_add, std_sub, std_mul, std_quo, std_rem, std_band, std_bor, std_bxor, std_shl, std_shr, std_eq, std_ne, std_lt, std_le, std_conv, std_not, std_beq, std_bne, std_ite, std_want, std_and2, std_sadd, std_seq, std_sne, std_slt, std_sle, std_sgt, std_sge, std_slen, std_sget, std_scut, std_ofNat, std_toNat, std_nsub, std_nadd, std_lenOf, std_nz, std_nneg, std_inb, std_upto, std_slt63, std_grow, std_imp, std_impN, std_tr, std_tb, std_ti, std_ts, std_tn, std_tp, std_nmin, std_makes, std_room, std_zeros, std_nilq, std_notq, std_eqi, std_eqn, std_eqb, std_eqs, std_eqv, std_cat, std_lst, std_rset, std_rcopy, std_shift, std_eqr, std_strOf, std_bytesOf, std_isB, std_zOf, zOf_int, std_isI, isI_int, std_getL, std_nmul, std_sOf, sOf_str, std_isS, isS_str, std_fadd, std_fsub, std_fav, std_fsv, std_feq, std_fne, std_flt, std_fle, std_fgt, std_fge, std_fOf, std_fTo, std_fTv] at hc; omega
  clear hc
  refine ⟨⟨{i : Nat // i ≤ L.length ∧ ∀ j, j < i → hR (L.getD j H0) = true ∧ (0 < j → ordH (L.getD (j - 1) H0) (L.getD j H0) < 0)}, fun b i => [(12, .int .i64 (i.1 : Nat))], fun b i => [], fun i => L.length - i.1, true⟩, ⟨⟨0, by omega, by simp⟩, ?_⟩, ?_⟩
  · cbv
    subst hA
    simp [-List.getD_eq_getElem?_getD, std_add, std_sub, std_mul, std_quo, std_rem, std_band, std_bor, std_bxor, std_shl, std_shr, std_eq, std_ne, std_lt, std_le, std_conv, std_not, std_beq, std_bne, std_ite, std_want, std_and2, std_sadd, std_seq, std_sne, std_slt, std_sle, std_sgt, std_sge, std_slen, std_sget, std_scut, std_ofNat, std_toNat, std_nsub, std_nadd, std_lenOf, std_nz, std_nneg, std_inb, std_upto, std_slt63, std_grow, std_imp, std_impN, std_tr, std_tb, std_ti, std_ts, std_tn, std_tp, std_nmin, std_makes, std_room, std_zeros, std_nilq, std_notq, std_eqi, std_eqn, std_eqb, std_eqs, std_eqv, std_cat, std_lst, std_rset, std_rcopy, std_shift, std_eqr, std_strOf, std_bytesOf, std_isB, std_zOf, zOf_int, std_isI, isI_int, std_getL, std_nmul, std_sOf, sOf_str, std_isS, isS_str, std_fadd, std_fsub, std_fav, std_fsv, std_feq, std_fne, std_flt, std_fle, std_fgt, std_fge, std_fOf, std_fTo, std_fTv]
  · rintro ⟨i, hx⟩
    have hi := hx.1
    have hz := hx.2
    obtain ⟨e, he⟩ : ∃ e, e = L.getD i H0 := ⟨_, rfl⟩
    obtain ⟨q, hq⟩ : ∃ q, q = L.getD (i - 1) H0 := ⟨_, rfl⟩
    have hg : L.getD i { s := 0, r := [], am := 0, st := 0 } = e := he.symm
    have hw : IntKind.i64.wrap ((i : Int) - 1) = (i : Int) - 1 := w64 (by omega)
    have hg2 : L.getD ((i : Int) - 1).toNat { s := 0, r := [], am := 0, st := 0 } = q := by
      rw [hq, show ((i : Int) - 1).toNat = i - 1 by omega]; rfl
    have hg3 : L.getD (i - 1) { s := 0, r := [], am := 0, st := 0 } = q := hq.symm
    have hno := leR_no (L := L) (j := i)
    have hyes := fun h => leR_yes (L := L) hl h
    rw [← he] at hno
    rw [← hq] at hno
    rcases Nat.lt_or_ge i L.length with hlt | hge
    · have hno := hno hlt
      cbv
      repeat' (first | with_reducible exact True.intro | with_reducible exact dr_ok hA (by kernel_rfl) | with_reducible refine And.intro ?_ ?_ | (intro hc; cbv))
      all_goals first
        | (fail_if_success (refine Exists.intro ?_ ?_)
           subst hA
           simp [-List.getD_eq_getElem?_getD, std_add, std_sub, std_mul, std_quo, std_rem, std_band, std_bor, std_bxor, std_shl, std_shr, std_eq, std_ne, std_lt, std_le, std_conv, std_not, std_beq, std_bne, std_ite, std_want, std_and2, std_sadd, std_seq, std_sne, std_slt, std_sle, std_sgt, std_sge, std_slen, std_sget, std_scut, std_ofNat, std_toNat, std_nsub, std_nadd, std_lenOf, std_nz, std_nneg, std_inb, std_upto, std_slt63, std_grow, std_imp, std_impN, std_tr, std_tb, std_ti, std_ts, std_tn, std_tp, std_nmin, std_makes, std_room, std_zeros, std_nilq, std_notq, std_eqi, std_eqn, std_eqb, std_eqs, std_eqv, std_cat, std_lst, std_rset, std_rcopy, std_shift, std_eqr, std_strOf, std_bytesOf, std_isB, std_zOf, zOf_int, std_isI, isI_int, std_getL, std_nmul, std_sOf, sOf_str, std_isS, isS_str, std_fadd, std_fsub, std_fav, std_fsv, std_feq, std_fne, std_flt, std_fle, std_fgt, std_fge, std_fOf, std_fTo, std_fTv, hg, hg2, hg3, hw] at *
           first
             | done
             | omega
             | (intros; omega)
             | (intro h1 h2; exact ⟨⟨h1, h2⟩, (show (1 : Int) ≤ ((i : Nat) : Int) by omega), (show ((i : Nat) : Int) - 1 < ((L.length : Nat) : Int) by omega)⟩)
             | (intro h1 h2; exact ⟨⟨h1, h2⟩, hlt⟩)
             | (intro h1; exact ⟨h1, fun h2 => ⟨h1, h2⟩⟩)
             | exact hno (by rcases hc with h | h; exact .inl h; exact .inr ⟨h.1, by unfold ordH; omega⟩)
             | trace_state)
        | (obtain ⟨i', hi'⟩ : ∃ i', i' = i + 1 := ⟨_, rfl⟩
           have hst : hR e = true ∧ (0 < i → ordH q e < 0) := by
             subst hA
             simp [-List.getD_eq_getElem?_getD, std_add, std_sub, std_mul, std_quo, std_rem, std_band, std_bor, std_bxor, std_shl, std_shr, std_eq, std_ne, std_lt, std_le, std_conv, std_not, std_beq, std_bne, std_ite, std_want, std_and2, std_sadd, std_seq, std_sne, std_slt, std_sle, std_sgt, std_sge, std_slen, std_sget, std_scut, std_ofNat, std_toNat, std_nsub, std_nadd, std_lenOf, std_nz, std_nneg, std_inb, std_upto, std_slt63, std_grow, std_imp, std_impN, std_tr, std_tb, std_ti, std_ts, std_tn, std_tp, std_nmin, std_makes, std_room, std_zeros, std_nilq, std_notq, std_eqi, std_eqn, std_eqb, std_eqs, std_eqv, std_cat, std_lst, std_rset, std_rcopy, std_shift, std_eqr, std_strOf, std_bytesOf, std_isB, std_zOf, zOf_int, std_isI, isI_int, std_getL, std_nmul, std_sOf, sOf_str, std_isS, isS_str, std_fadd, std_fsub, std_fav, std_fsv, std_feq, std_fne, std_flt, std_fle, std_fgt, std_fge, std_fOf, std_fTo, std_fTv, hg, hg2, hg3, hw] at hc
             exact ⟨hc.1, fun h => by have := hc.2 h; unfold ordH; omega⟩
           refine ⟨⟨i', by omega, fun j hj => ?_⟩, ?_, show L.length - i' < L.length - i by omega⟩
           · rcases Nat.lt_or_ge j i with h | h
             · exact hz j h
             · obtain rfl : j = i := by omega
               rw [← he, ← hq]; exact hst
           · cbv
             subst hA
             simp [-List.getD_eq_getElem?_getD, std_add, std_sub, std_mul, std_quo, std_rem, std_band, std_bor, std_bxor, std_shl, std_shr, std_eq, std_ne, std_lt, std_le, std_conv, std_not, std_beq, std_bne, std_ite, std_want, std_and2, std_sadd, std_seq, std_sne, std_slt, std_sle, std_sgt, std_sge, std_slen, std_sget, std_scut, std_ofNat, std_toNat, std_nsub, std_nadd, std_lenOf, std_nz, std_nneg, std_inb, std_upto, std_slt63, std_grow, std_imp, std_impN, std_tr, std_tb, std_ti, std_ts, std_tn, std_tp, std_nmin, std_makes, std_room, std_zeros, std_nilq, std_notq, std_eqi, std_eqn, std_eqb, std_eqs, std_eqv, std_cat, std_lst, std_rset, std_rcopy, std_shift, std_eqr, std_strOf, std_bytesOf, std_isB, std_zOf, zOf_int, std_isI, isI_int, std_getL, std_nmul, std_sOf, sOf_str, std_isS, isS_str, std_fadd, std_fsub, std_fav, std_fsv, std_feq, std_fne, std_flt, std_fle, std_fgt, std_fge, std_fOf, std_fTo, std_fTv]
             exact w_succ' hi' (by omega))
        | trace_state
    · have hie : i = L.length := by omega
      have hall : leR L = true := hyes fun j hj => hz j (by omega)
      cbv
      repeat' (first | with_reducible exact True.intro | with_reducible exact dr_ok hA (by kernel_rfl) | with_reducible refine And.intro ?_ ?_ | (intro hc; cbv))
      all_goals first
        | (fail_if_success (refine Exists.intro ?_ ?_)
           clear hz
           subst hA
           simp [-List.getD_eq_getElem?_getD, std_add, std_sub, std_mul, std_quo, std_rem, std_band, std_bor, std_bxor, std_shl, std_shr, std_eq, std_ne, std_lt, std_le, std_conv, std_not, std_beq, std_bne, std_ite, std_want, std_and2, std_sadd, std_seq, std_sne, std_slt, std_sle, std_sgt, std_sge, std_slen, std_sget, std_scut, std_ofNat, std_toNat, std_nsub, std_nadd, std_lenOf, std_nz, std_nneg, std_inb, std_upto, std_slt63, std_grow, std_imp, std_impN, std_tr, std_tb, std_ti, std_ts, std_tn, std_tp, std_nmin, std_makes, std_room, std_zeros, std_nilq, std_notq, std_eqi, std_eqn, std_eqb, std_eqs, std_eqv, std_cat, std_lst, std_rset, std_rcopy, std_shift, std_eqr, std_strOf, std_bytesOf, std_isB, std_zOf, zOf_int, std_isI, isI_int, std_getL, std_nmul, std_sOf, sOf_str, std_isS, isS_str, std_fadd, std_fsub, std_fav, std_fsv, std_feq, std_fne, std_flt, std_fle, std_fgt, std_fge, std_fOf, std_fTo, std_fTv, hg, hg2, hg3, hw, hall] at *
           first
             | done
             | omega)
        | (exfalso; clear hz; subst hA; simp [-List.getD_eq_getElem?_getD, std_add, std_sub, std_mul, std_quo, std_rem, std_band, std_bor, std_bxor, std_shl, std_shr, std_eq, std_ne, std_lt, std_le, std_conv, std_not, std_beq, std_bne, std_ite, std_want, std_and2, std_sadd, std_seq, std_sne, std_slt, std_sle, std_sgt, std_sge, std_slen, std_sget, std_scut, std_ofNat, std_toNat, std_nsub, std_nadd, std_lenOf, std_nz, std_nneg, std_inb, std_upto, std_slt63, std_grow, std_imp, std_impN, std_tr, std_tb, std_ti, std_ts, std_tn, std_tp, std_nmin, std_makes, std_room, std_zeros, std_nilq, std_notq, std_eqi, std_eqn, std_eqb, std_eqs, std_eqv, std_cat, std_lst, std_rset, std_rcopy, std_shift, std_eqr, std_strOf, std_bytesOf, std_isB, std_zOf, zOf_int, std_isI, isI_int, std_getL, std_nmul, std_sOf, sOf_str, std_isS, isS_str, std_fadd, std_fsub, std_fav, std_fsv, std_feq, std_fne, std_flt, std_fle, std_fgt, std_fge, std_fOf, std_fTo, std_fTv] at hc; omega)
        | (exfalso; clear hz; subst hA; rename_i q; simp [-List.getD_eq_getElem?_getD, std_add, std_sub, std_mul, std_quo, std_rem, std_band, std_bor, std_bxor, std_shl, std_shr, std_eq, std_ne, std_lt, std_le, std_conv, std_not, std_beq, std_bne, std_ite, std_want, std_and2, std_sadd, std_seq, std_sne, std_slt, std_sle, std_sgt, std_sge, std_slen, std_sget, std_scut, std_ofNat, std_toNat, std_nsub, std_nadd, std_lenOf, std_nz, std_nneg, std_inb, std_upto, std_slt63, std_grow, std_imp, std_impN, std_tr, std_tb, std_ti, std_ts, std_tn, std_tp, std_nmin, std_makes, std_room, std_zeros, std_nilq, std_notq, std_eqi, std_eqn, std_eqb, std_eqs, std_eqv, std_cat, std_lst, std_rset, std_rcopy, std_shift, std_eqr, std_strOf, std_bytesOf, std_isB, std_zOf, zOf_int, std_isI, isI_int, std_getL, std_nmul, std_sOf, sOf_str, std_isS, isS_str, std_fadd, std_fsub, std_fav, std_fsv, std_feq, std_fne, std_flt, std_fle, std_fgt, std_fge, std_fOf, std_fTo, std_fTv] at q; omega)
        | trace_state
end Go.Vd

set_option linter.unusedVariables false
set_option linter.unusedSimpArgs false
set_option maxRecDepth 100000
set_option maxHeartbeats 8000000
namespace Go.Vd
open Go.Proofs
noncomputable def c_leR : Ct := fun A args => match args with
  | [.agg [.slc n 4 f]] => some (some (A.tp fun _ => isRow eH H0 4 n f ∧ n ≤ 1000000), .bool (A.tb fun _ => leR (lstOf eH H0 4 n f)))
  | _ => none
noncomputable def gy2 : Ar → Pu := addC 65 c_leR (gy1)
theorem gy2_ok : PuOk Tryd.prog gl0 (gy2 std) := by
  refine addC_ok (gy1_ok) ⟨_, Tryd.func65, rfl, by decide⟩ ?_
  · intro args p r h hp
    unfold c_leR at h
    split at h <;> cases h
    exact good_sv (good_leR _ (by rw [lstOf_length hp.1]; exact hp.2)) ⟨⟨_, rfl, hp.1.sv, trivial⟩, trivial⟩
def kE (s : Int) (r : List UInt8) (e : Hld) : Bool := decide (e.s = s) && decide (e.r = r)
def fnd (L : List Hld) (s : Int) (r : List UInt8) : Hld := (L.find? (kE s r)).getD H0
def has (L : List Hld) (s : Int) (r : List UInt8) : Bool := L.any (kE s r)
def hldS (A : Ar) (e : Unit → Hld) : SV := .agg [.int .u32 (A.ti fun _ => (e ()).s), .str (A.ts fun _ => (e ()).r), .int .u64 (A.ti fun _ => (e ()).am), .int .i64 (A.ti fun _ => (e ()).st)]
theorem kE_iff {s : Int} {r : List UInt8} {e : Hld} : kE s r e = true ↔ e.s = s ∧ e.r = r := by simp [kE]
theorem kE_no {s : Int} {r : List UInt8} {e : Hld} (h : ¬(e.s = s ∧ e.r = r)) : kE s r e = false := by
  rw [Bool.eq_false_iff]; intro h'; exact h (kE_iff.1 h')
theorem fnd_yes {L : List Hld} {s : Int} {r : List UInt8} {i : Nat} (hi : i < L.length) (h0 : ∀ j, j < i → kE s r (L.getD j H0) = false) (h : kE s r (L.getD i H0) = true) : fnd L s r = L.getD i H0 ∧ has L s r = true := by
  have hf : L.find? (kE s r) = some (L.getD i H0) := by
    rw [List.find?_eq_some_iff_getElem]
    refine ⟨h, i, hi, by simp [List.getD_eq_getElem?_getD, hi], fun j hj => ?_⟩
    have := h0 j hj
    rw [List.getD_eq_getElem?_getD, List.getElem?_eq_getElem (by omega)] at this
    simpa using this
  constructor
  · unfold fnd; rw [hf]; rfl
  · unfold has
    rw [List.any_eq_true]
    exact ⟨L.getD i H0, by rw [List.getD_eq_getElem?_getD, List.getElem?_eq_getElem hi]; exact List.getElem_mem hi, h⟩
theorem fnd_no {L : List Hld} {s : Int} {r : List UInt8} (h0 : ∀ j, j < L.length → kE s r (L.getD j H0) = false) : fnd L s r = H0 ∧ has L s r = false := by
  have hx : ∀ x ∈ L, ¬kE s r x = true := fun x hx => by
    obtain ⟨j, hj, rfl⟩ := List.getElem_of_mem hx
    have := h0 j hj
    rw [List.getD_eq_getElem?_getD, List.getElem?_eq_getElem hj] at this
    simpa using this
  constructor
  · unfold fnd; rw [List.find?_eq_none.2 hx]; rfl
  · unfold has; rw [List.any_eq_false]; exact hx
attribute [local irreducible] vc
theorem good_leFind (L : List Hld) (s : Int) (r : List UInt8) (hL : L.length ≤ 1000000) : GoodP Tryd.prog gl0 59 [.agg [rowS eH H0 4 std fun _ => L], .agg [.int .u32 s, .str r]] (.tup [hldS std fun _ => fnd L s r, .bool (std.tb fun _ => has L s r)]) := by
  refine fn_sound' (T := seatT) (G := noC) (X := noX) seatT_ok noC_ok noX_ok noI_ok mixed Tryd.func59 (.one) (fun A => [.agg [rowS eH H0 4 A fun _ => L], .agg [.int .u32 s, .str r]]) (fun A => .tup [hldS A fun _ => fnd L s r, .bool (A.tb fun _ => has L s r)]) fun A hA => ?_
  cbv
  repeat' (first | with_reducible exact True.intro | with_reducible exact dr_ok hA (by kernel_rfl) | with_reducible refine And.intro ?_ ?_ | (intro hc; cbv))
  refine ⟨⟨{i : Nat // i ≤ L.length ∧ ∀ j, j < i → kE s r (L.getD j H0) = false}, fun b i => [(11, .int .i64 (i.1 : Nat))], fun b i => [], fun i => L.length - i.1, true⟩, ⟨⟨0, by omega, by simp⟩, ?_⟩, ?_⟩
  · cbv
    subst hA
    simp [-List.getD_eq_getElem?_getD, std_add, std_sub, std_mul, std_quo, std_rem, std_band, std_bor, std_bxor, std_shl, std_shr, std_eq, std_ne, std_lt, std_le, std_conv, std_not, std_beq, std_bne, std_ite, std_want, std_and2, std_sadd, std_seq, std_sne, std_slt, std_sle, std_sgt, std_sge, std_slen, std_sget, std_scut, std_ofNat, std_toNat, std_nsub, std_nadd, std_lenOf, std_nz, std_nneg, std_inb, std_upto, std_slt63, std_grow, std_imp, std_impN, std_tr, std_tb, std_ti, std_ts, std_tn, std_tp, std_nmin, std_makes, std_room, std_zeros, std_nilq, std_notq, std_eqi, std_eqn, std_eqb, std_eqs, std_eqv, std_cat, std_lst, std_rset, std_rcopy, std_shift, std_eqr, std_strOf, std_bytesOf, std_isB, std_zOf, zOf_int, std_isI, isI_int, std_getL, std_nmul, std_sOf, sOf_str, std_isS, isS_str, std_fadd, std_fsub, std_fav, std_fsv, std_feq, std_fne, std_flt, std_fle, std_fgt, std_fge, std_fOf, std_fTo, std_fTv]
  · rintro ⟨i, hx⟩
    have hi := hx.1
    have hz := hx.2
    obtain ⟨e, he⟩ : ∃ e, e = L.getD i H0 := ⟨_, rfl⟩
    have hg : L.getD i { s := 0, r := [], am := 0, st := 0 } = e := he.symm
    rcases Nat.lt_or_ge i L.length with hlt | hge
    · have hyes := fnd_yes (s := s) (r := r) hlt hz
      rw [← he] at hyes
      cbv
      repeat' (first | with_reducible exact True.intro | with_reducible exact dr_ok hA (by kernel_rfl) | with_reducible refine And.intro ?_ ?_ | (intro hc; cbv))
      all_goals first
        | (fail_if_success (refine Exists.intro ?_ ?_)
           clear hz
           subst hA
           simp [-List.getD_eq_getElem?_getD, std_add, std_sub, std_mul, std_quo, std_rem, std_band, std_bor, std_bxor, std_shl, std_shr, std_eq, std_ne, std_lt, std_le, std_conv, std_not, std_beq, std_bne, std_ite, std_want, std_and2, std_sadd, std_seq, std_sne, std_slt, std_sle, std_sgt, std_sge, std_slen, std_sget, std_scut, std_ofNat, std_toNat, std_nsub, std_nadd, std_lenOf, std_nz, std_nneg, std_inb, std_upto, std_slt63, std_grow, std_imp, std_impN, std_tr, std_tb, std_ti, std_ts, std_tn, std_tp, std_nmin, std_makes, std_room, std_zeros, std_nilq, std_notq, std_eqi, std_eqn, std_eqb, std_eqs, std_eqv, std_cat, std_lst, std_rset, std_rcopy, std_shift, std_eqr, std_strOf, std_bytesOf, std_isB, std_zOf, zOf_int, std_isI, isI_int, std_getL, std_nmul, std_sOf, sOf_str, std_isS, isS_str, std_fadd, std_fsub, std_fav, std_fsv, std_feq, std_fne, std_flt, std_fle, std_fgt, std_fge, std_fOf, std_fTo, std_fTv, hg] at *
           first
             | done
             | omega
             | (rw [(hyes (kE_iff.2 hc)).1]; done)
             | exact (hyes (kE_iff.2 hc)).2
             | trace_state)
        | (obtain ⟨i', hi'⟩ : ∃ i', i' = i + 1 := ⟨_, rfl⟩
           have hst : kE s r e = false := by
             clear hz hyes
             subst hA
             simp [-List.getD_eq_getElem?_getD, std_add, std_sub, std_mul, std_quo, std_rem, std_band, std_bor, std_bxor, std_shl, std_shr, std_eq, std_ne, std_lt, std_le, std_conv, std_not, std_beq, std_bne, std_ite, std_want, std_and2, std_sadd, std_seq, std_sne, std_slt, std_sle, std_sgt, std_sge, std_slen, std_sget, std_scut, std_ofNat, std_toNat, std_nsub, std_nadd, std_lenOf, std_nz, std_nneg, std_inb, std_upto, std_slt63, std_grow, std_imp, std_impN, std_tr, std_tb, std_ti, std_ts, std_tn, std_tp, std_nmin, std_makes, std_room, std_zeros, std_nilq, std_notq, std_eqi, std_eqn, std_eqb, std_eqs, std_eqv, std_cat, std_lst, std_rset, std_rcopy, std_shift, std_eqr, std_strOf, std_bytesOf, std_isB, std_zOf, zOf_int, std_isI, isI_int, std_getL, std_nmul, std_sOf, sOf_str, std_isS, isS_str, std_fadd, std_fsub, std_fav, std_fsv, std_feq, std_fne, std_flt, std_fle, std_fgt, std_fge, std_fOf, std_fTo, std_fTv, hg] at hc
             exact kE_no fun h => hc h.1 h.2
           refine ⟨⟨i', by omega, fun j hj => ?_⟩, ?_, show L.length - i' < L.length - i by omega⟩
           · rcases Nat.lt_or_ge j i with h | h
             · exact hz j h
             · obtain rfl : j = i := by omega
               rw [← he]; exact hst
           · cbv
             subst hA
             simp [-List.getD_eq_getElem?_getD, std_add, std_sub, std_mul, std_quo, std_rem, std_band, std_bor, std_bxor, std_shl, std_shr, std_eq, std_ne, std_lt, std_le, std_conv, std_not, std_beq, std_bne, std_ite, std_want, std_and2, std_sadd, std_seq, std_sne, std_slt, std_sle, std_sgt, std_sge, std_slen, std_sget, std_scut, std_ofNat, std_toNat, std_nsub, std_nadd, std_lenOf, std_nz, std_nneg, std_inb, std_upto, std_slt63, std_grow, std_imp, std_impN, std_tr, std_tb, std_ti, std_ts, std_tn, std_tp, std_nmin, std_makes, std_room, std_zeros, std_nilq, std_notq, std_eqi, std_eqn, std_eqb, std_eqs, std_eqv, std_cat, std_lst, std_rset, std_rcopy, std_shift, std_eqr, std_strOf, std_bytesOf, std_isB, std_zOf, zOf_int, std_isI, isI_int, std_getL, std_nmul, std_sOf, sOf_str, std_isS, isS_str, std_fadd, std_fsub, std_fav, std_fsv, std_feq, std_fne, std_flt, std_fle, std_fgt, std_fge, std_fOf, std_fTo, std_fTv]
             exact w_succ' hi' (by omega))
        | trace_state
    · have hie : i = L.length := by omega
      have hall := fnd_no (L := L) (s := s) (r := r) fun j hj => hz j (by omega)
      cbv
      repeat' (first | with_reducible exact True.intro | with_reducible exact dr_ok hA (by kernel_rfl) | with_reducible refine And.intro ?_ ?_ | (intro hc; cbv))
      all_goals first
        | (fail_if_success (refine Exists.intro ?_ ?_)
           clear hz
           subst hA
           simp [-List.getD_eq_getElem?_getD, std_add, std_sub, std_mul, std_quo, std_rem, std_band, std_bor, std_bxor, std_shl, std_shr, std_eq, std_ne, std_lt, std_le, std_conv, std_not, std_beq, std_bne, std_ite, std_want, std_and2, std_sadd, std_seq, std_sne, std_slt, std_sle, std_sgt, std_sge, std_slen, std_sget, std_scut, std_ofNat, std_toNat, std_nsub, std_nadd, std_lenOf, std_nz, std_nneg, std_inb, std_upto, std_slt63, std_grow, std_imp, std_impN, std_tr, std_tb, std_ti, std_ts, std_tn, std_tp, std_nmin, std_makes, std_room, std_zeros, std_nilq, std_notq, std_eqi, std_eqn, std_eqb, std_eqs, std_eqv, std_cat, std_lst, std_rset, std_rcopy, std_shift, std_eqr, std_strOf, std_bytesOf, std_isB, std_zOf, zOf_int, std_isI, isI_int, std_getL, std_nmul, std_sOf, sOf_str, std_isS, isS_str, std_fadd, std_fsub, std_fav, std_fsv, std_feq, std_fne, std_flt, std_fle, std_fgt, std_fge, std_fOf, std_fTo, std_fTv, hg, hall] at *
           first
             | done
             | omega
             | rfl
             | trace_state)
        | (exfalso; clear hz; subst hA; simp [-List.getD_eq_getElem?_getD, std_add, std_sub, std_mul, std_quo, std_rem, std_band, std_bor, std_bxor, std_shl, std_shr, std_eq, std_ne, std_lt, std_le, std_conv, std_not, std_beq, std_bne, std_ite, std_want, std_and2, std_sadd, std_seq, std_sne, std_slt, std_sle, std_sgt, std_sge, std_slen, std_sget, std_scut, std_ofNat, std_toNat, std_nsub, std_nadd, std_lenOf, std_nz, std_nneg, std_inb, std_upto, std_slt63, std_grow, std_imp, std_impN, std_tr, std_tb, std_ti, std_ts, std_tn, std_tp, std_nmin, std_makes, std_room, std_zeros, std_nilq, std_notq, std_eqi, std_eqn, std_eqb, std_eqs, std_eqv, std_cat, std_lst, std_rset, std_rcopy, std_shift, std_eqr, std_strOf, std_bytesOf, std_isB, std_zOf, zOf_int, std_isI, isI_int, std_getL, std_nmul, std_sOf, sOf_str, std_isS, isS_str, std_fadd, std_fsub, std_fav, std_fsv, std_feq, std_fne, std_flt, std_fle, std_fgt, std_fge, std_fOf, std_fTo, std_fTv] at hc; omega)
        | (exfalso; clear hz; subst hA; rename_i q; simp [-List.getD_eq_getElem?_getD, std_add, std_sub, std_mul, std_quo, std_rem, std_band, std_bor, std_bxor, std_shl, std_shr, std_eq, std_ne, std_lt, std_le, std_conv, std_not, std_beq, std_bne, std_ite, std_want, std_and2, std_sadd, std_seq, std_sne, std_slt, std_sle, std_sgt, std_sge, std_slen, std_sget, std_scut, std_ofNat, std_toNat, std_nsub, std_nadd, std_lenOf, std_nz, std_nneg, std_inb, std_upto, std_slt63, std_grow, std_imp, std_impN, std_tr, std_tb, std_ti, std_ts, std_tn, std_tp, std_nmin, std_makes, std_room, std_zeros, std_nilq, std_notq, std_eqi, std_eqn, std_eqb, std_eqs, std_eqv, std_cat, std_lst, std_rset, std_rcopy, std_shift, std_eqr, std_strOf, std_bytesOf, std_isB, std_zOf, zOf_int, std_isI, isI_int, std_getL, std_nmul, std_sOf, sOf_str, std_isS, isS_str, std_fadd, std_fsub, std_fav, std_fsv, std_feq, std_fne, std_flt, std_fle, std_fgt, std_fge, std_fOf, std_fTo, std_fTv] at q; omega)
        | trace_state
noncomputable def c_leFind : Ct := fun A args => match args with
  | [.agg [.slc n 4 f], .agg [.int .u32 s, .str r]] => some (some (A.tp fun _ => isRow eH H0 4 n f ∧ n ≤ 1000000), .tup [hldS A fun _ => fnd (lstOf eH H0 4 n f) s r, .bool (A.tb fun _ => has (lstOf eH H0 4 n f) s r)])
  | _ => none
noncomputable def gy3 : Ar → Pu := addC 59 c_leFind (gy2)
theorem gy3_ok : PuOk Tryd.prog gl0 (gy3 std) := by
  refine addC_ok (gy2_ok) ⟨_, Tryd.func59, rfl, by decide⟩ ?_
  · intro args p r h hp
    unfold c_leFind at h
    split at h <;> cases h
    exact good_sv (good_leFind _ _ _ (by rw [lstOf_length hp.1]; exact hp.2)) ⟨⟨_, rfl, hp.1.sv, trivial⟩, ⟨_, rfl, rfl, rfl, trivial⟩, trivial⟩
/-! ### The place of a key -/
def ltK (s : Int) (r : List UInt8) (e : Hld) : Bool := decide (ordK e.s e.r s r < 0)
def pos (L : List Hld) (s : Int) (r : List UInt8) : Nat := (L.takeWhile (ltK s r)).length
theorem pos_le (L : List Hld) (s : Int) (r : List UInt8) : pos L s r ≤ L.length := by
  unfold pos
  exact (List.takeWhile_prefix _).length_le
theorem pos_eq {L : List Hld} {s : Int} {r : List UInt8} {i : Nat} (hi : i ≤ L.length) (h1 : ∀ j, j < i → ltK s r (L.getD j H0) = true) (h2 : i < L.length → ltK s r (L.getD i H0) = false) : pos L s r = i := by
  unfold pos
  induction L generalizing i with
  | nil => simp at hi; simp [hi]
  | cons e L ih =>
    cases i with
    | zero =>
      have := h2 (by simp)
      simp only [List.getD_cons_zero] at this
      rw [List.takeWhile_cons, if_neg (by rw [this]; simp)]
      rfl
    | succ i =>
      have h0 := h1 0 (by omega)
      simp only [List.getD_cons_zero] at h0
      rw [List.takeWhile_cons, if_pos h0, List.length_cons, ih (by simpa using hi) (fun j hj => by simpa using h1 (j + 1) (by omega)) (fun h => by simpa using h2 (by simpa using h))]
theorem ordK_lt_iff {s t : Int} {r q : List UInt8} : ordK s r t q < 0 ↔ s < t ∨ (s = t ∧ r < q) := by
  rw [ordK_eq]
  by_cases e : s = t ∧ r = q
  · rw [if_pos e]
    obtain ⟨rfl, rfl⟩ := e
    constructor
    · intro h; omega
    · rintro (h | h)
      · omega
      · exact absurd h.2 (List.lt_irrefl _)
  · rw [if_neg e]
    by_cases h : s < t ∨ (s = t ∧ r < q)
    · rw [if_pos h]; simp [h]
    · rw [if_neg h]; simp [h]
theorem ordK_trans {s t u : Int} {r q p : List UInt8} (h1 : ordK s r t q < 0) (h2 : ordK t q u p < 0) : ordK s r u p < 0 := by
  rw [ordK_lt_iff] at *
  rcases h1 with h1 | ⟨rfl, h1⟩
  · rcases h2 with h2 | ⟨rfl, h2⟩
    · exact .inl (by omega)
    · exact .inl h1
  · rcases h2 with h2 | ⟨rfl, h2⟩
    · exact .inl h2
    · exact .inr ⟨rfl, List.lt_trans h1 h2⟩
theorem asc_mono {L : List Hld} (h : ascP L) : ∀ {i j : Nat}, i < j → j < L.length → ordH (L.getD i H0) (L.getD j H0) < 0
  | i, 0, hij, _ => absurd hij (by omega)
  | i, j + 1, hij, hj => by
    have h1 := (h (j + 1) hj).2 (by omega)
    rw [Nat.add_sub_cancel] at h1
    rcases Nat.lt_or_ge i j with h2 | h2
    · exact ordK_trans (asc_mono h h2 (by omega)) h1
    · obtain rfl : i = j := by omega
      exact h1
theorem ltK_mono {L : List Hld} (h : ascP L) {s : Int} {r : List UInt8} {i j : Nat} (hij : i ≤ j) (hj : j < L.length) (hl : ltK s r (L.getD j H0) = true) : ltK s r (L.getD i H0) = true := by
  rcases Nat.lt_or_ge i j with h2 | h2
  · have h3 := asc_mono h h2 hj
    unfold ltK at *
    exact decide_eq_true (ordK_trans h3 (of_decide_eq_true hl))
  · obtain rfl : i = j := by omega
    exact hl
end Go.Vd

set_option linter.unusedVariables false
set_option linter.unusedSimpArgs false
set_option maxRecDepth 100000
set_option maxHeartbeats 8000000
namespace Go.Vd
open Go.Proofs
attribute [local irreducible] vc
theorem good_lPl1 (s am st t : Int) (r q : List UInt8) : GoodP Tryd.prog gl0 186 [.agg [.int .u32 s, .str r, .int .u64 am, .int .i64 st], .agg [.int .u32 t, .str q]] (.int .i64 (std.ti fun _ => ordK s r t q)) := by
  refine fn_sound' (T := seatT) (G := gy3) (X := noX) seatT_ok gy3_ok noX_ok noI_ok mixed Tryd.func186 (.one) (fun A => [.agg [.int .u32 s, .str r, .int .u64 am, .int .i64 st], .agg [.int .u32 t, .str q]]) (fun A => .int .i64 (A.ti fun _ => ordK s r t q)) fun A hA => ?_
  cbv
  repeat' (first | with_reducible exact True.intro | with_reducible exact dr_ok hA (by kernel_rfl) | with_reducible refine And.intro ?_ ?_ | (intro hc; cbv))
  all_goals (subst hA; simp [std_add, std_sub, std_mul, std_quo, std_rem, std_band, std_bor, std_bxor, std_shl, std_shr, std_eq, std_ne, std_lt, std_le, std_conv, std_not, std_beq, std_bne, std_ite, std_want, std_and2, std_sadd, std_seq, std_sne, std_slt, std_sle, std_sgt, std_sge, std_slen, std_sget, std_scut, std_ofNat, std_toNat, std_nsub, std_nadd, std_lenOf, std_nz, std_nneg, std_inb, std_upto, std_slt63, std_grow, std_imp, std_impN, std_tr, std_tb, std_ti, std_ts, std_tn, std_tp, std_nmin, std_makes, std_room, std_zeros, std_nilq, std_notq, std_eqi, std_eqn, std_eqb, std_eqs, std_eqv, std_cat, std_lst, std_rset, std_rcopy, std_shift, std_eqr, std_strOf, std_bytesOf, std_isB, std_zOf, zOf_int, std_isI, isI_int, std_getL, std_nmul, std_sOf, sOf_str, std_isS, isS_str, std_fadd, std_fsub, std_fav, std_fsv, std_feq, std_fne, std_flt, std_fle, std_fgt, std_fge, std_fOf, std_fTo, std_fTv] at *)
noncomputable def c_lPl1 : Ct := fun A args => match args with
  | [.agg [.int .u32 s, .str r, .int .u64 am, .int .i64 st], .agg [.int .u32 t, .str q]] => some (none, .int .i64 (A.ti fun _ => ordK s r t q))
  | _ => none
noncomputable def gy3b : Ar → Pu := addC 186 c_lPl1 (gy3)
theorem gy3b_ok : PuOk Tryd.prog gl0 (gy3b std) := by
  refine addC_ok (gy3_ok) ⟨_, Tryd.func186, rfl, by decide⟩ ?_
  · intro args p r h hp
    unfold c_lPl1 at h
    split at h <;> cases h
    exact good_lPl1 _ _ _ _ _ _
noncomputable def iY3 : Nat → Option Func := addI 185 Tryd.f185 noI
theorem iY3_ok : InOk Tryd.prog iY3 := addI_ok noI_ok Tryd.func185 (by kernel_rfl)
theorem ordK_zero {s t : Int} {r q : List UInt8} : ordK s r t q = 0 ↔ s = t ∧ r = q := by
  rw [ordK_eq]
  by_cases e : s = t ∧ r = q
  · rw [if_pos e]; simp [e]
  · rw [if_neg e]
    constructor
    · intro h; split at h <;> omega
    · intro h; exact absurd h e
def srOk (L : List Hld) (s : Int) (r : List UInt8) (i j : Nat) : Prop := i ≤ j ∧ j ≤ L.length ∧ (∀ t, t < i → ltK s r (L.getD t H0) = true) ∧ ∀ t, j ≤ t → t < L.length → ltK s r (L.getD t H0) = false
theorem mid_eq {i j m : Nat} (hm : m = (i + j) / 2) (hi : i ≤ 1000000000) (hj : j ≤ 1000000000) : std.conv .i64 (std.shr .u64 (std.conv .u64 (std.add .i64 (Int.ofNat i) (Int.ofNat j))) 1) = Int.ofNat m := by
  show IntKind.i64.wrap ((IntKind.u64.wrap (IntKind.i64.wrap ((i : Int) + (j : Int)))).fdiv (2 ^ (min (1 : Int).toNat IntKind.u64.bits))) = (m : Int)
  have e0 : IntKind.i64.wrap ((i : Int) + (j : Int)) = (i : Int) + (j : Int) := w64 (by omega)
  have e1 : IntKind.u64.wrap ((i : Int) + (j : Int)) = (i : Int) + (j : Int) := by rw [IntKind.wrap_u64]; omega
  have e2 : (2 : Int) ^ (min (1 : Int).toNat IntKind.u64.bits) = 2 := by decide
  rw [e0, e1, e2, Int.fdiv_eq_ediv_of_nonneg _ (by decide), w64 (by omega)]
  omega
theorem ltK_self {s : Int} {r : List UInt8} {e : Hld} (h : kE s r e = true) : ltK s r e = false := by
  obtain ⟨h1, h2⟩ := kE_iff.1 h
  unfold ltK
  rw [decide_eq_false]
  rw [ordK_eq, if_pos ⟨h1, h2⟩]
  decide
theorem has_at {L : List Hld} (hasc : ascP L) {s : Int} {r : List UInt8} {i : Nat} (h1 : ∀ t, t < i → ltK s r (L.getD t H0) = true) (h2 : ∀ t, i ≤ t → t < L.length → ltK s r (L.getD t H0) = false) :
    has L s r = true ↔ i < L.length ∧ kE s r (L.getD i H0) = true := by
  constructor
  · intro h
    unfold has at h
    rw [List.any_eq_true] at h
    obtain ⟨x, hx, hk⟩ := h
    obtain ⟨t, ht, rfl⟩ := List.getElem_of_mem hx
    have hgt : L[t] = L.getD t H0 := by simp [List.getD_eq_getElem?_getD, ht]
    rw [hgt] at hk
    have hti : i ≤ t := by
      rcases Nat.lt_or_ge t i with h | h
      · have := h1 t h
        rw [ltK_self hk] at this
        cases this
      · exact h
    rcases Nat.lt_or_ge i t with h | h
    · have h3 := asc_mono hasc h ht
      have h4 := h2 i (Nat.le_refl _) (by omega)
      obtain ⟨k1, k2⟩ := kE_iff.1 hk
      unfold ltK at h4
      unfold ordH at h3
      rw [k1, k2] at h3
      rw [decide_eq_true h3] at h4
      cases h4
    · obtain rfl : t = i := by omega
      exact ⟨ht, hk⟩
  · rintro ⟨h, hk⟩
    unfold has
    rw [List.any_eq_true]
    exact ⟨_, by rw [List.getD_eq_getElem?_getD, List.getElem?_eq_getElem h]; exact List.getElem_mem h, hk⟩
theorem good_lePlace (L : List Hld) (s : Int) (r : List UInt8) (hL : L.length ≤ 1000000) (hasc : ascP L) : GoodP Tryd.prog gl0 162 [rowS eH H0 4 std fun _ => L, .agg [.int .u32 s, .str r]] (.tup [.int .i64 (std.ti fun _ => (pos L s r : Int)), .bool (std.tb fun _ => has L s r)]) := by
  refine fn_sound' (T := seatT) (G := gy3b) (X := noX) seatT_ok gy3b_ok noX_ok iY3_ok mixed Tryd.func162 (.one) (fun A => [rowS eH H0 4 A fun _ => L, .agg [.int .u32 s, .str r]]) (fun A => .tup [.int .i64 (A.ti fun _ => (pos L s r : Int)), .bool (A.tb fun _ => has L s r)]) fun A hA => ?_
  cbv
  repeat' (first | with_reducible exact True.intro | with_reducible exact dr_ok hA (by kernel_rfl) | with_reducible refine And.intro ?_ ?_ | (intro hc; cbv))
  obtain ⟨n0, hn0⟩ : ∃ n0, n0 = L.length := ⟨_, rfl⟩
  refine ⟨⟨{p : Nat × Nat // srOk L s r p.1 p.2}, fun b p => [(9, .int .i64 (p.1.1 : Nat)), (10, .int .i64 (p.1.2 : Nat))], fun b p => [], fun p => p.1.2 - p.1.1, true⟩, ⟨⟨(0, n0), by omega, by omega, by simp, fun t h1 h2 => absurd h1 (by omega)⟩, ?_⟩, ?_⟩
  · cbv
    subst hA
    simp [-List.getD_eq_getElem?_getD, std_add, std_sub, std_mul, std_quo, std_rem, std_band, std_bor, std_bxor, std_shl, std_shr, std_eq, std_ne, std_lt, std_le, std_conv, std_not, std_beq, std_bne, std_ite, std_want, std_and2, std_sadd, std_seq, std_sne, std_slt, std_sle, std_sgt, std_sge, std_slen, std_sget, std_scut, std_ofNat, std_toNat, std_nsub, std_nadd, std_lenOf, std_nz, std_nneg, std_inb, std_upto, std_slt63, std_grow, std_imp, std_impN, std_tr, std_tb, std_ti, std_ts, std_tn, std_tp, std_nmin, std_makes, std_room, std_zeros, std_nilq, std_notq, std_eqi, std_eqn, std_eqb, std_eqs, std_eqv, std_cat, std_lst, std_rset, std_rcopy, std_shift, std_eqr, std_strOf, std_bytesOf, std_isB, std_zOf, zOf_int, std_isI, isI_int, std_getL, std_nmul, std_sOf, sOf_str, std_isS, isS_str, std_fadd, std_fsub, std_fav, std_fsv, std_feq, std_fne, std_flt, std_fle, std_fgt, std_fge, std_fOf, std_fTo, std_fTv, hn0]
  · rintro ⟨⟨i, j⟩, hx⟩
    have hij : i ≤ j := hx.1
    have hjL : j ≤ L.length := hx.2.1
    have h1 : ∀ t, t < i → ltK s r (L.getD t H0) = true := hx.2.2.1
    have h2 : ∀ t, j ≤ t → t < L.length → ltK s r (L.getD t H0) = false := hx.2.2.2
    rcases Nat.lt_or_ge i j with hlt | hge
    · obtain ⟨m, hm⟩ : ∃ m, m = (i + j) / 2 := ⟨_, rfl⟩
      have hmi : i ≤ m := by omega
      have hmj : m < j := by omega
      have hmL : m < L.length := by omega
      obtain ⟨e, he⟩ : ∃ e, e = L.getD m H0 := ⟨_, rfl⟩
      have hg : L.getD m { s := 0, r := [], am := 0, st := 0 } = e := he.symm
      have hyes : ltK s r e = true → srOk L s r (m + 1) j := fun hk => ⟨by omega, hjL, fun t ht => ltK_mono hasc (show t ≤ m by omega) hmL (he ▸ hk), h2⟩
      have hno : ltK s r e = false → srOk L s r i m := fun hk => ⟨hmi, by omega, h1, fun t ht1 ht2 => by
        cases hq : ltK s r (L.getD t H0)
        · rfl
        · have := ltK_mono hasc ht1 ht2 hq
          rw [← he, hk] at this
          cases this⟩
      have hmid := mid_eq hm (by omega) (by omega)
      cbv
      repeat' (first | with_reducible exact True.intro | with_reducible exact dr_ok hA (by kernel_rfl) | with_reducible refine And.intro ?_ ?_ | (intro hc; cbv))
      all_goals first
        | (fail_if_success (refine Exists.intro ?_ ?_)
           clear h1 h2 hyes hno
           subst hA
           simp only [hmid] at *
           simp [-List.getD_eq_getElem?_getD, std_add, std_sub, std_mul, std_quo, std_rem, std_band, std_bor, std_bxor, std_shl, std_shr, std_eq, std_ne, std_lt, std_le, std_conv, std_not, std_beq, std_bne, std_ite, std_want, std_and2, std_sadd, std_seq, std_sne, std_slt, std_sle, std_sgt, std_sge, std_slen, std_sget, std_scut, std_ofNat, std_toNat, std_nsub, std_nadd, std_lenOf, std_nz, std_nneg, std_inb, std_upto, std_slt63, std_grow, std_imp, std_impN, std_tr, std_tb, std_ti, std_ts, std_tn, std_tp, std_nmin, std_makes, std_room, std_zeros, std_nilq, std_notq, std_eqi, std_eqn, std_eqb, std_eqs, std_eqv, std_cat, std_lst, std_rset, std_rcopy, std_shift, std_eqr, std_strOf, std_bytesOf, std_isB, std_zOf, zOf_int, std_isI, isI_int, std_getL, std_nmul, std_sOf, sOf_str, std_isS, isS_str, std_fadd, std_fsub, std_fav, std_fsv, std_feq, std_fne, std_flt, std_fle, std_fgt, std_fge, std_fOf, std_fTo, std_fTv, hg] at *
           first
             | done
             | exact ⟨(show (0 : Int) ≤ ((m : Nat) : Int) by omega), (show ((m : Nat) : Int) < ((L.length : Nat) : Int) by omega)⟩
             | omega
             | (exfalso; omega)
             | trace_state)
        | (obtain ⟨m', hm'⟩ : ∃ m', m' = m + 1 := ⟨_, rfl⟩
           have hk : ltK s r e = true := by
             clear h1 h2 hyes hno
             subst hA
             simp only [hmid] at hc
             simp [-List.getD_eq_getElem?_getD, std_add, std_sub, std_mul, std_quo, std_rem, std_band, std_bor, std_bxor, std_shl, std_shr, std_eq, std_ne, std_lt, std_le, std_conv, std_not, std_beq, std_bne, std_ite, std_want, std_and2, std_sadd, std_seq, std_sne, std_slt, std_sle, std_sgt, std_sge, std_slen, std_sget, std_scut, std_ofNat, std_toNat, std_nsub, std_nadd, std_lenOf, std_nz, std_nneg, std_inb, std_upto, std_slt63, std_grow, std_imp, std_impN, std_tr, std_tb, std_ti, std_ts, std_tn, std_tp, std_nmin, std_makes, std_room, std_zeros, std_nilq, std_notq, std_eqi, std_eqn, std_eqb, std_eqs, std_eqv, std_cat, std_lst, std_rset, std_rcopy, std_shift, std_eqr, std_strOf, std_bytesOf, std_isB, std_zOf, zOf_int, std_isI, isI_int, std_getL, std_nmul, std_sOf, sOf_str, std_isS, isS_str, std_fadd, std_fsub, std_fav, std_fsv, std_feq, std_fne, std_flt, std_fle, std_fgt, std_fge, std_fOf, std_fTo, std_fTv, hg] at hc
             exact decide_eq_true hc
           refine ⟨⟨(m', j), by rw [hm']; exact hyes hk⟩, ?_, show j - m' < j - i by omega⟩
           cbv
           subst hA
           simp only [hmid]
           simp [-List.getD_eq_getElem?_getD, std_add, std_sub, std_mul, std_quo, std_rem, std_band, std_bor, std_bxor, std_shl, std_shr, std_eq, std_ne, std_lt, std_le, std_conv, std_not, std_beq, std_bne, std_ite, std_want, std_and2, std_sadd, std_seq, std_sne, std_slt, std_sle, std_sgt, std_sge, std_slen, std_sget, std_scut, std_ofNat, std_toNat, std_nsub, std_nadd, std_lenOf, std_nz, std_nneg, std_inb, std_upto, std_slt63, std_grow, std_imp, std_impN, std_tr, std_tb, std_ti, std_ts, std_tn, std_tp, std_nmin, std_makes, std_room, std_zeros, std_nilq, std_notq, std_eqi, std_eqn, std_eqb, std_eqs, std_eqv, std_cat, std_lst, std_rset, std_rcopy, std_shift, std_eqr, std_strOf, std_bytesOf, std_isB, std_zOf, zOf_int, std_isI, isI_int, std_getL, std_nmul, std_sOf, sOf_str, std_isS, isS_str, std_fadd, std_fsub, std_fav, std_fsv, std_feq, std_fne, std_flt, std_fle, std_fgt, std_fge, std_fOf, std_fTo, std_fTv]
           exact w_succ' hm' (by omega))
        | (have hk : ltK s r e = false := by
             clear h1 h2 hyes hno
             subst hA
             simp only [hmid] at hc
             simp [-List.getD_eq_getElem?_getD, std_add, std_sub, std_mul, std_quo, std_rem, std_band, std_bor, std_bxor, std_shl, std_shr, std_eq, std_ne, std_lt, std_le, std_conv, std_not, std_beq, std_bne, std_ite, std_want, std_and2, std_sadd, std_seq, std_sne, std_slt, std_sle, std_sgt, std_sge, std_slen, std_sget, std_scut, std_ofNat, std_toNat, std_nsub, std_nadd, std_lenOf, std_nz, std_nneg, std_inb, std_upto, std_slt63, std_grow, std_imp, std_impN, std_tr, std_tb, std_ti, std_ts, std_tn, std_tp, std_nmin, std_makes, std_room, std_zeros, std_nilq, std_notq, std_eqi, std_eqn, std_eqb, std_eqs, std_eqv, std_cat, std_lst, std_rset, std_rcopy, std_shift, std_eqr, std_strOf, std_bytesOf, std_isB, std_zOf, zOf_int, std_isI, isI_int, std_getL, std_nmul, std_sOf, sOf_str, std_isS, isS_str, std_fadd, std_fsub, std_fav, std_fsv, std_feq, std_fne, std_flt, std_fle, std_fgt, std_fge, std_fOf, std_fTo, std_fTv, hg] at hc
             exact decide_eq_false (by omega)
           refine ⟨⟨(i, m), hno hk⟩, ?_, show m - i < j - i by omega⟩
           cbv
           subst hA
           simp only [hmid]
           simp [-List.getD_eq_getElem?_getD, std_add, std_sub, std_mul, std_quo, std_rem, std_band, std_bor, std_bxor, std_shl, std_shr, std_eq, std_ne, std_lt, std_le, std_conv, std_not, std_beq, std_bne, std_ite, std_want, std_and2, std_sadd, std_seq, std_sne, std_slt, std_sle, std_sgt, std_sge, std_slen, std_sget, std_scut, std_ofNat, std_toNat, std_nsub, std_nadd, std_lenOf, std_nz, std_nneg, std_inb, std_upto, std_slt63, std_grow, std_imp, std_impN, std_tr, std_tb, std_ti, std_ts, std_tn, std_tp, std_nmin, std_makes, std_room, std_zeros, std_nilq, std_notq, std_eqi, std_eqn, std_eqb, std_eqs, std_eqv, std_cat, std_lst, std_rset, std_rcopy, std_shift, std_eqr, std_strOf, std_bytesOf, std_isB, std_zOf, zOf_int, std_isI, isI_int, std_getL, std_nmul, std_sOf, sOf_str, std_isS, isS_str, std_fadd, std_fsub, std_fav, std_fsv, std_feq, std_fne, std_flt, std_fle, std_fgt, std_fge, std_fOf, std_fTo, std_fTv])
        | trace_state
    · obtain rfl : i = j := by omega
      have hp : pos L s r = i := pos_eq hjL h1 fun h => h2 i (Nat.le_refl _) h
      have hhas := has_at hasc h1 h2
      obtain ⟨e, he⟩ : ∃ e, e = L.getD i H0 := ⟨_, rfl⟩
      have hg : L.getD i { s := 0, r := [], am := 0, st := 0 } = e := he.symm
      rw [← he] at hhas
      rw [kE_iff, ← ordK_zero] at hhas
      cbv
      repeat' (first | with_reducible exact True.intro | with_reducible exact dr_ok hA (by kernel_rfl) | with_reducible refine And.intro ?_ ?_ | (intro hc; cbv))
      all_goals first
        | (exfalso
           clear h1 h2
           subst hA
           first
             | (simp [-List.getD_eq_getElem?_getD, std_add, std_sub, std_mul, std_quo, std_rem, std_band, std_bor, std_bxor, std_shl, std_shr, std_eq, std_ne, std_lt, std_le, std_conv, std_not, std_beq, std_bne, std_ite, std_want, std_and2, std_sadd, std_seq, std_sne, std_slt, std_sle, std_sgt, std_sge, std_slen, std_sget, std_scut, std_ofNat, std_toNat, std_nsub, std_nadd, std_lenOf, std_nz, std_nneg, std_inb, std_upto, std_slt63, std_grow, std_imp, std_impN, std_tr, std_tb, std_ti, std_ts, std_tn, std_tp, std_nmin, std_makes, std_room, std_zeros, std_nilq, std_notq, std_eqi, std_eqn, std_eqb, std_eqs, std_eqv, std_cat, std_lst, std_rset, std_rcopy, std_shift, std_eqr, std_strOf, std_bytesOf, std_isB, std_zOf, zOf_int, std_isI, isI_int, std_getL, std_nmul, std_sOf, sOf_str, std_isS, isS_str, std_fadd, std_fsub, std_fav, std_fsv, std_feq, std_fne, std_flt, std_fle, std_fgt, std_fge, std_fOf, std_fTo, std_fTv] at hc; done)
             | (rename_i q; simp [-List.getD_eq_getElem?_getD, std_add, std_sub, std_mul, std_quo, std_rem, std_band, std_bor, std_bxor, std_shl, std_shr, std_eq, std_ne, std_lt, std_le, std_conv, std_not, std_beq, std_bne, std_ite, std_want, std_and2, std_sadd, std_seq, std_sne, std_slt, std_sle, std_sgt, std_sge, std_slen, std_sget, std_scut, std_ofNat, std_toNat, std_nsub, std_nadd, std_lenOf, std_nz, std_nneg, std_inb, std_upto, std_slt63, std_grow, std_imp, std_impN, std_tr, std_tb, std_ti, std_ts, std_tn, std_tp, std_nmin, std_makes, std_room, std_zeros, std_nilq, std_notq, std_eqi, std_eqn, std_eqb, std_eqs, std_eqv, std_cat, std_lst, std_rset, std_rcopy, std_shift, std_eqr, std_strOf, std_bytesOf, std_isB, std_zOf, zOf_int, std_isI, isI_int, std_getL, std_nmul, std_sOf, sOf_str, std_isS, isS_str, std_fadd, std_fsub, std_fav, std_fsv, std_feq, std_fne, std_flt, std_fle, std_fgt, std_fge, std_fOf, std_fTo, std_fTv] at q; done))
        | (clear h1 h2
           subst hA
           simp [-List.getD_eq_getElem?_getD, std_add, std_sub, std_mul, std_quo, std_rem, std_band, std_bor, std_bxor, std_shl, std_shr, std_eq, std_ne, std_lt, std_le, std_conv, std_not, std_beq, std_bne, std_ite, std_want, std_and2, std_sadd, std_seq, std_sne, std_slt, std_sle, std_sgt, std_sge, std_slen, std_sget, std_scut, std_ofNat, std_toNat, std_nsub, std_nadd, std_lenOf, std_nz, std_nneg, std_inb, std_upto, std_slt63, std_grow, std_imp, std_impN, std_tr, std_tb, std_ti, std_ts, std_tn, std_tp, std_nmin, std_makes, std_room, std_zeros, std_nilq, std_notq, std_eqi, std_eqn, std_eqb, std_eqs, std_eqv, std_cat, std_lst, std_rset, std_rcopy, std_shift, std_eqr, std_strOf, std_bytesOf, std_isB, std_zOf, zOf_int, std_isI, isI_int, std_getL, std_nmul, std_sOf, sOf_str, std_isS, isS_str, std_fadd, std_fsub, std_fav, std_fsv, std_feq, std_fne, std_flt, std_fle, std_fgt, std_fge, std_fOf, std_fTo, std_fTv, hg, hp] at *
           first
             | done
             | omega
             | (intros; omega)
             | (rw [Bool.eq_iff_iff, hhas]; simp; done)
             | (rw [Bool.eq_iff_iff, hhas]; simp; omega)
             | trace_state)
        | trace_state
noncomputable def c_lePlace : Ct := fun A args => match args with
  | [.slc n 4 f, .agg [.int .u32 s, .str r]] => some (some (A.tp fun _ => isRow eH H0 4 n f ∧ n ≤ 1000000 ∧ ascB (lstOf eH H0 4 n f) = true), .tup [.int .i64 (A.ti fun _ => (pos (lstOf eH H0 4 n f) s r : Int)), .bool (A.tb fun _ => has (lstOf eH H0 4 n f) s r)])
  | _ => none
noncomputable def gy4 : Ar → Pu := addC 162 c_lePlace (gy3b)
theorem gy4_ok : PuOk Tryd.prog gl0 (gy4 std) := by
  refine addC_ok (gy3b_ok) ⟨_, Tryd.func162, rfl, by decide⟩ ?_
  · intro args p r h hp
    unfold c_lePlace at h
    split at h <;> cases h
    exact good_sv (good_lePlace _ _ _ (by rw [lstOf_length hp.1]; exact hp.2.1) ((ascB_iff _).1 hp.2.2)) ⟨hp.1.sv, ⟨_, rfl, rfl, rfl, trivial⟩, trivial⟩
end Go.Vd

set_option linter.unusedVariables false
set_option linter.unusedSimpArgs false
namespace Go.Vd
open Go.RowKit
theorem list_ins {α : Type} (C news : List α) (K N s : Nat) (hK : K ≤ N) (hN : N + s ≤ C.length) (hn : news.length = s) :
    (((C.take (K + s) ++ (C.take N).drop K ++ C.drop (K + s + ((C.take N).drop K).length)).take K ++ news ++ (C.take (K + s) ++ (C.take N).drop K ++ C.drop (K + s + ((C.take N).drop K).length)).drop (K + s))).take (N + s) =
      (C.take N).take K ++ news ++ (C.take N).drop K := by
  have l1 : (C.take (K + s)).length = K + s := by rw [List.length_take]; omega
  have l2 : ((C.take N).drop K).length = N - K := by rw [List.length_drop, List.length_take]; omega
  have e1 : (C.take (K + s) ++ (C.take N).drop K ++ C.drop (K + s + ((C.take N).drop K).length)).take K = C.take K := by
    rw [List.append_assoc, List.take_append, show K - (C.take (K + s)).length = 0 by omega, List.take_zero, List.append_nil, List.take_take, show min K (K + s) = K by omega]
  have e2 : (C.take (K + s) ++ (C.take N).drop K ++ C.drop (K + s + ((C.take N).drop K).length)).drop (K + s) = (C.take N).drop K ++ C.drop (K + s + ((C.take N).drop K).length) := by
    rw [List.append_assoc, List.drop_append, List.drop_of_length_le (by omega), List.nil_append, l1, show K + s - (K + s) = 0 by omega, List.drop_zero]
  rw [e1, e2, ← List.append_assoc, List.take_append]
  have l3 : (C.take K ++ news ++ (C.take N).drop K).length = N + s := by rw [List.length_append, List.length_append, l2, hn, List.length_take]; omega
  rw [l3, List.take_of_length_le (by omega), show N + s - (N + s) = 0 by omega, List.take_zero, List.append_nil, List.take_take, show min K N = K by omega]
theorem list_ins2 {α : Type} (R xs news cs Z : List α) (K N s : Nat) (hK : K ≤ N) (hx : xs.length = N) (hR : R = xs.take K ++ Z) (hRl : N + s ≤ R.length) (hn : news.length = s) (hc : cs = xs.drop K) :
    ((R.take K ++ news ++ R.drop (K + news.length)).take (K + s) ++ cs ++ (R.take K ++ news ++ R.drop (K + news.length)).drop (K + s + cs.length)).take (N + s) = xs.take K ++ news ++ xs.drop K := by
  have l0 : (xs.take K).length = K := by rw [List.length_take]; omega
  have e0 : R.take K = xs.take K := by rw [hR, List.take_append, l0, show K - K = 0 by omega, List.take_zero, List.append_nil, List.take_take, show min K K = K by omega]
  have l1 : (R.take K ++ news).length = K + s := by rw [e0, List.length_append, l0, hn]
  have e1 : (R.take K ++ news ++ R.drop (K + news.length)).take (K + s) = R.take K ++ news := by
    rw [List.take_append, l1, show K + s - (K + s) = 0 by omega, List.take_zero, List.append_nil, List.take_of_length_le (by omega)]
  rw [e1, e0, hc]
  have l2 : (xs.take K ++ news ++ xs.drop K).length = N + s := by rw [List.length_append, List.length_append, l0, hn, List.length_drop]; omega
  rw [List.take_append, l2, show N + s - (N + s) = 0 by omega, List.take_zero, List.append_nil, List.take_of_length_le (by omega)]
/-- A row with one element more. -/
def insS (g : Nat → Nat → SV) (k : Nat) (h : Nat → Nat → SV) : Nat → Nat → SV := fun a b => if a < k then g a b else if a = k then h 0 b else g (a - 1) b
theorem ins_rel {w : World} {rw : Nat → Prop} {s n k : Nat} {xs news : List Value} {g h : Nat → Nat → SV} (hs : 0 < s) (hk : k ≤ n) (hxl : xs.length = n * s) (hnl : news.length = s)
    (hrel : ∀ i j u, i < n → j < s → xs[i * s + j]? = some u → RelC w rw u (g i j)) (hnR : ∀ j u, news[j]? = some u → RelC w rw u (h 0 j)) {i j : Nat} {u : Value} (hi : i < n + 1) (hj : j < s)
    (hu : (xs.take (k * s) ++ news ++ xs.drop (k * s))[i * s + j]? = some u) : RelC w rw u (insS g k h i j) := by
  have hks : k * s ≤ n * s := Nat.mul_le_mul_right s hk
  have l0 : (xs.take (k * s)).length = k * s := by rw [List.length_take]; omega
  unfold insS
  rcases Nat.lt_trichotomy i k with hlt | rfl | hgt
  · rw [if_pos hlt]
    have h1 : (i + 1) * s ≤ k * s := Nat.mul_le_mul_right s hlt
    rw [Nat.add_mul] at h1
    rw [List.append_assoc, List.getElem?_append_left (by omega), List.getElem?_take_of_lt (by omega)] at hu
    exact hrel i j u (by omega) hj hu
  · rw [if_neg (by omega), if_pos rfl]
    rw [List.append_assoc, List.getElem?_append_right (by omega), l0, List.getElem?_append_left (by omega), show i * s + j - i * s = j by omega] at hu
    exact hnR j u hu
  · rw [if_neg (by omega), if_neg (by omega)]
    have h1 : (k + 1) * s ≤ i * s := Nat.mul_le_mul_right s hgt
    have h2 : i * s = (i - 1) * s + s := by rw [← Nat.succ_mul]; congr 1; omega
    rw [Nat.add_mul] at h1
    rw [List.getElem?_append_right (by rw [List.length_append, l0, hnl]; omega), List.length_append, l0, hnl, List.getElem?_drop] at hu
    rw [show k * s + (i * s + j - (k * s + s)) = (i - 1) * s + j by omega] at hu
    exact hrel (i - 1) j u (by omega) hj hu
section
variable {P : Program}
theorem wpList_copyR (w : World) {ops : Array Oper} {rest : List Oper} {o : Oper} {a : Act} {Q : Exit → Act → World → Prop} (hgd : o.guard = none) (d s : Operand) (t t' : TypeId)
    (ho : o.op = .call { callee := .builtin .copy, args := #[d, s], argTypes := #[t, t'] }) (v u : Value) (hd : a.eval d = v) (hs : a.eval s = u) {v' : Value} {w' : World}
    (hr : (Builtin.copy_ #[t, t'] o.type #[v, u]).run P w = .ok v' w') (h : wpList P ops Q rest (a.put o.dst v') w') : wpList P ops Q (o :: rest) a w :=
  wpList_plain hgd fun _ hK => wp_value (by
    simp only [execOp, ho, resolve, invoke, builtin, Sem.run_bind, Sem.run_pure, Result.andThen_ok, List.map_toArray, List.map_cons, List.map_nil, hd, hs, hr]) (hK _ _ h)
theorem wpList_appR (w : World) {ops : Array Oper} {rest : List Oper} {o : Oper} {a : Act} {Q : Exit → Act → World → Prop} (hgd : o.guard = none) (d s : Operand) (t t' : TypeId)
    (ho : o.op = .call { callee := .builtin .append, args := #[d, s], argTypes := #[t, t'] }) (v u : Value) (hd : a.eval d = v) (hs : a.eval s = u) {v' : Value} {w' : World}
    (hr : (Builtin.append_ #[t, t'] o.type #[v, u]).run P w = .ok v' w') (h : wpList P ops Q rest (a.put o.dst v') w') : wpList P ops Q (o :: rest) a w :=
  wpList_plain hgd fun _ hK => wp_value (by
    simp only [execOp, ho, resolve, invoke, builtin, Sem.run_bind, Sem.run_pure, Result.andThen_ok, List.map_toArray, List.map_cons, List.map_nil, hd, hs, hr]) (hK _ _ h)
theorem step_copyR {ops : Array Oper} {o : Oper} {a : Act} {w : World} {K : Act → World → Prop} {Q : Exit → Act → World → Prop} {E : Prop}
    (hg : o.guard = none) (d x : Operand) (dT sT : TypeId) (hop : o.op = Op.call { callee := Callee.builtin Builtin.copy, args := #[d, x], argTypes := #[dT, sT] })
    (v u : Value) (hd : a.eval d = v) (hx : a.eval x = u) {v' : Value} {w' : World} (hr : (Builtin.copy_ #[dT, sT] o.type #[v, u]).run P w = .ok v' w') (hK : K (a.put o.dst v') w') :
    if Region.wanted o (yielded ops a.tmps) = true then Oper.wp P o a w K Q else E := by
  have hw : Region.wanted o (yielded ops a.tmps) = true := by simp [Region.wanted, hg]
  rw [if_pos hw]
  exact wp_value (by simp only [execOp, hop, resolve, invoke, builtin, Sem.run_bind, Sem.run_pure, Result.andThen_ok, List.map_toArray, List.map_cons, List.map_nil, hd, hx, hr]) hK
theorem two_slices {a b : Option Addr} {la ca lb cb : Nat} (f : (a : Option Addr) → (la ca : Nat) → (b : Option Addr) → (lb cb : Nat) → Sem Value) (g : Array Value → Sem Value) :
    Extern.SlicesOverlaps.overlaps.match_4 (fun _ => Sem Value) #[.slice a la ca, .slice b lb cb] f g = f a la ca b lb cb := rfl
/-- Is a plain block beside another one: they are never one. -/
theorem apart_plain (w : World) (tS tR e : TypeId) (ht : P.underlying tS = some (.slice e)) (size : Nat) (hz : ∀ w, (Go.sizeOf e).run P w = .ok size w)
    (a b : Addr) (la ca lb cb : Nat) (hne : a.block ≠ b.block) {ca0 cb0 : Array Value} {ta tb : TypeId} {ma : Nat × Nat} (hA : w.heap[a.block]? = some (.cells ca0 ta ma)) (hA0 : 0 < ca0.size) (hB : w.heap[b.block]? = some (.cells cb0 tb (0, 0))) :
    (Extern.SlicesOverlaps.overlaps #[tS, tS] #[tR] #[.slice (some a) la ca, .slice (some b) lb cb]).run P w = .ok (.bool false) w := by
  have hnb : (a.block != b.block) = true := by simpa using hne
  have hnb' : (a.block == b.block) = false := by simpa using hne
  have hsa : w.shape? a.block = some (ta, ca0.size) := by unfold World.shape?; rw [hA]
  have hsb : w.shape? b.block = some (tb, cb0.size) := by unfold World.shape?; rw [hB]
  have hfb : ∀ x, w.frozen? ⟨b.block, x, none⟩ = false := fun x => by unfold World.frozen?; simp only [hB]; simp
  have hfb' : w.frozen? b = false := by unfold World.frozen?; simp only [hB]; simp
  obtain ⟨q, hq⟩ : ∃ q, ca0.size = q + 1 := ⟨ca0.size - 1, by omega⟩
  rw [hq] at hsa
  unfold Extern.SlicesOverlaps.overlaps
  rw [two_slices]
  by_cases h0 : la = 0 ∨ lb = 0 ∨ size = 0
  · simp [run_underlying ht, hz, h0]
  · cases hfa : w.frozen? a <;> cases hfe : w.frozen? { block := a.block, off := q + 1 } <;>
      simp [run_underlying ht, hz, h0, hnb, hnb', frozen, noView, viewAt, mayBeOne, stringish, shape, Sem.run, hsa, hsb, hfa, hfe, hfb, hfb']
end
end Go.Vd

