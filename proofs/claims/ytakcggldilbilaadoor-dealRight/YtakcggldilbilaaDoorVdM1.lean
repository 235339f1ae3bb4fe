/- Messages and deals: whether they are right. -/
import Derived.Test.YtakcggldilbilaaDoorVdH7
set_option linter.unusedVariables false
set_option linter.unusedSimpArgs false
set_option maxRecDepth 100000
set_option maxHeartbeats 4000000
namespace Go.Vd
open Go.Proofs
abbrev It := Int × List UInt8
def eI : En It := fun A x => [.int .i64 (A.ti fun _ => (x ()).1), .str (A.ts fun _ => (x ()).2)]
theorem inj_eI : Inj eI 2 := fun x y h => by
  obtain ⟨s, h1, h2⟩ := h 0 (by omega)
  obtain ⟨t, h3, h4⟩ := h 1 (by omega)
  have h1 : Ceq s (.int .i64 x.1) := h1
  have h2 : Ceq s (.int .i64 y.1) := h2
  have h3 : Ceq t (.str x.2) := h3
  have h4 : Ceq t (.str y.2) := h4
  rw [Ceq.int] at h1 h2
  rw [Ceq.str] at h3 h4
  subst h1 h3
  injection h2 with _ h2
  injection h4 with h4
  exact Prod.ext h2 h4
theorem cell_eI (z : Int) (s : List UInt8) : ∀ j, j < 2 → Ceq (getAt [SV.int .i64 z, SV.str s] j) (getAt (eI std fun _ => (z, s)) j) := by
  intro j hj
  rcases (show j = 0 ∨ j = 1 by omega) with rfl | rfl
  · exact .refl _
  · exact .refl _
def mT (s : List UInt8) : Bool := [[48, 49, 48, 48], [48, 49, 49, 48], [48, 52, 48, 48], [48, 52, 49, 48], [48, 52, 50, 48], [48, 52, 50, 49], [48, 52, 51, 48]].contains s
def mOk (L : List It) (i : Nat) : Bool := (i == 0 || decide ((L.getD (i - 1) (0, [])).1 < (L.getD i (0, [])).1)) && rr (L.getD i (0, [])).1 (L.getD i (0, [])).2
def mUp (L : List It) (k : Nat) : Bool := (List.range k).all (mOk L)
def mR (T : List UInt8) (L : List It) : Bool := mT T && (!L.isEmpty && mUp L L.length)
theorem mUp_succ (L : List It) (k : Nat) : mUp L (k + 1) = (mUp L k && mOk L k) := by
  unfold mUp; rw [List.range_succ, List.all_append]; simp
theorem mUp_false {L : List It} {i : Nat} (hi : i < L.length) (h : mOk L i = false) : mUp L L.length = false := by
  unfold mUp
  rw [List.all_eq_false]
  exact ⟨i, List.mem_range.2 hi, by rw [h]; simp⟩
theorem mR_false {T : List UInt8} {L : List It} {i : Nat} (hi : i < L.length) (h : mOk L i = false) : mR T L = false := by
  unfold mR; rw [mUp_false hi h]; simp
theorem mR_head {T : List UInt8} {L : List It} (h : mT T = false ∨ L = []) : mR T L = false := by
  unfold mR
  rcases h with h | h
  · rw [h]; rfl
  · subst h; simp
theorem mOk_lo {L : List It} {i : Nat} (h0 : 0 < i) (h : (L.getD i (0, [])).1 ≤ (L.getD (i - 1) (0, [])).1) : mOk L i = false := by
  unfold mOk
  rw [decide_eq_false (by omega), show (i == 0) = false by (rw [beq_eq_false_iff_ne]; omega)]
  rfl
theorem mOk_rr {L : List It} {i : Nat} (h : rr (L.getD i (0, [])).1 (L.getD i (0, [])).2 = false) : mOk L i = false := by
  unfold mOk; rw [h]; simp
theorem mOk_yes {L : List It} {i : Nat} (h0 : 0 < i → (L.getD (i - 1) (0, [])).1 < (L.getD i (0, [])).1) (h : rr (L.getD i (0, [])).1 (L.getD i (0, [])).2 = true) : mOk L i = true := by
  unfold mOk
  rw [h]
  rcases Nat.eq_zero_or_pos i with h1 | h1
  · subst h1; rfl
  · rw [decide_eq_true (h0 h1)]; simp
theorem wm1 {i : Nat} (h : 0 < i) (h1 : i ≤ 1000000) : IntKind.i64.wrap ((i : Int) - 1) = ((i - 1 : Nat) : Int) := (w64 (by omega)).trans (by omega)
theorem mR_true {T : List UInt8} {L : List It} (h1 : mT T = true) (h2 : ¬L = []) (h3 : mUp L L.length = true) : mR T L = true := by
  unfold mR; rw [h1, h3]; cases L with
  | nil => exact absurd rfl h2
  | cons a l => rfl
theorem good_mIsT (s : List UInt8) : GoodP Tryd.prog gl0 83 [.str s] (.bool (std.tb fun _ => mT s)) := by
  refine fn_sound' (T := seatT) (G := noC) (X := noX) seatT_ok noC_ok noX_ok noI_ok mixed Tryd.func83 (.one) (fun A => [.str s]) (fun A => .bool (A.tb fun _ => mT s)) fun A hA => ?_
  cbv
  repeat' (first | with_reducible exact True.intro | with_reducible exact dr_ok hA (by kernel_rfl) | with_reducible refine And.intro ?_ ?_ | (intro hc; cbv))
  all_goals (subst hA; simp [std_add, std_sub, std_mul, std_quo, std_rem, std_band, std_bor, std_bxor, std_shl, std_shr, std_eq, std_ne, std_lt, std_le, std_conv, std_not, std_beq, std_bne, std_ite, std_want, std_and2, std_sadd, std_seq, std_sne, std_slt, std_sle, std_sgt, std_sge, std_slen, std_sget, std_scut, std_ofNat, std_toNat, std_nsub, std_nadd, std_lenOf, std_nz, std_nneg, std_inb, std_upto, std_slt63, std_grow, std_imp, std_impN, std_tr, std_tb, std_ti, std_ts, std_tn, std_tp, std_nmin, std_makes, std_room, std_zeros, std_nilq, std_notq, std_eqi, std_eqn, std_eqb, std_eqs, std_eqv, std_cat, std_lst, std_rset, std_rcopy, std_shift, std_eqr, std_strOf, std_bytesOf, std_isB, std_zOf, zOf_int, std_isI, isI_int, std_getL, std_nmul, std_sOf, sOf_str, std_isS, isS_str] at *)
  all_goals first | contradiction | (simp [mT, *]; done) | (subst_vars; decide)
noncomputable def c_mIsT : Ct := fun A args => match args with
  | [.str s] => some (none, .bool (A.tb fun _ => mT s))
  | _ => none
noncomputable def c_mgRight : Ct := fun A args => match args with
  | [.int .i64 n, .str r] => some (some (A.tp fun _ => r.length ≤ 1000000), .bool (A.tb fun _ => rr n r))
  | _ => none
noncomputable def gm0 : Ar → Pu := addC 83 c_mIsT (addC 90 c_mgRight (gh2))
theorem gm0_ok : PuOk Tryd.prog gl0 (gm0 std) := by
  refine addC_ok (addC_ok (gh2_ok) ⟨_, Tryd.func90, rfl, by decide⟩ ?_) ⟨_, Tryd.func83, rfl, by decide⟩ ?_
  · intro args p r h hp
    unfold c_mgRight at h
    split at h <;> cases h
    exact good_gRight _ _ hp
  · intro args p r h hp
    unfold c_mIsT at h
    split at h <;> cases h
    exact good_mIsT _
theorem good_mRight (T : List UInt8) (L : List It) (hL : L.length ≤ 1000000) (hS : ∀ i, (L.getD i (0, [])).2.length ≤ 1000000) : GoodP Tryd.prog gl0 28 [.agg [.str T, rowS eI (0, []) 2 std fun _ => L]] (.bool (std.tb fun _ => mR T L)) := by
  refine fn_sound' (T := seatT) (G := gm0) (X := noX) seatT_ok gm0_ok noX_ok noI_ok mixed Tryd.func28 (.one) (fun A => [.agg [.str T, rowS eI (0, []) 2 A fun _ => L]]) (fun A => .bool (A.tb fun _ => mR T L)) fun A hA => ?_
  cbv
  repeat' (first | with_reducible exact True.intro | with_reducible exact dr_ok hA (by kernel_rfl) | with_reducible refine And.intro ?_ ?_ | (intro hc; cbv))
  rotate_right
  all_goals first
    | (fail_if_success (refine Exists.intro ?_ ?_)
       subst hA
       simp [std_add, std_sub, std_mul, std_quo, std_rem, std_band, std_bor, std_bxor, std_shl, std_shr, std_eq, std_ne, std_lt, std_le, std_conv, std_not, std_beq, std_bne, std_ite, std_want, std_and2, std_sadd, std_seq, std_sne, std_slt, std_sle, std_sgt, std_sge, std_slen, std_sget, std_scut, std_ofNat, std_toNat, std_nsub, std_nadd, std_lenOf, std_nz, std_nneg, std_inb, std_upto, std_slt63, std_grow, std_imp, std_impN, std_tr, std_tb, std_ti, std_ts, std_tn, std_tp, std_nmin, std_makes, std_room, std_zeros, std_nilq, std_notq, std_eqi, std_eqn, std_eqb, std_eqs, std_eqv, std_cat, std_lst, std_rset, std_rcopy, std_shift, std_eqr, std_strOf, std_bytesOf, std_isB, std_zOf, zOf_int, std_isI, isI_int, std_getL, std_nmul, std_sOf, sOf_str, std_isS, isS_str] at *
       done)
    | (fail_if_success (refine Exists.intro ?_ ?_)
       subst hA
       simp [std_add, std_sub, std_mul, std_quo, std_rem, std_band, std_bor, std_bxor, std_shl, std_shr, std_eq, std_ne, std_lt, std_le, std_conv, std_not, std_beq, std_bne, std_ite, std_want, std_and2, std_sadd, std_seq, std_sne, std_slt, std_sle, std_sgt, std_sge, std_slen, std_sget, std_scut, std_ofNat, std_toNat, std_nsub, std_nadd, std_lenOf, std_nz, std_nneg, std_inb, std_upto, std_slt63, std_grow, std_imp, std_impN, std_tr, std_tb, std_ti, std_ts, std_tn, std_tp, std_nmin, std_makes, std_room, std_zeros, std_nilq, std_notq, std_eqi, std_eqn, std_eqb, std_eqs, std_eqv, std_cat, std_lst, std_rset, std_rcopy, std_shift, std_eqr, std_strOf, std_bytesOf, std_isB, std_zOf, zOf_int, std_isI, isI_int, std_getL, std_nmul, std_sOf, sOf_str, std_isS, isS_str] at *
       first
         | omega
         | exact (mR_head (by first | assumption | exact .inl (by assumption) | exact .inr (by assumption))).symm
         | exact mR_head (by first | assumption | exact .inl (by assumption) | exact .inr (by assumption))
         | trace_state)
    | skip
  have h0 : mT T = true ∧ ¬L = [] := by
    subst hA
    simp [std_add, std_sub, std_mul, std_quo, std_rem, std_band, std_bor, std_bxor, std_shl, std_shr, std_eq, std_ne, std_lt, std_le, std_conv, std_not, std_beq, std_bne, std_ite, std_want, std_and2, std_sadd, std_seq, std_sne, std_slt, std_sle, std_sgt, std_sge, std_slen, std_sget, std_scut, std_ofNat, std_toNat, std_nsub, std_nadd, std_lenOf, std_nz, std_nneg, std_inb, std_upto, std_slt63, std_grow, std_imp, std_impN, std_tr, std_tb, std_ti, std_ts, std_tn, std_tp, std_nmin, std_makes, std_room, std_zeros, std_nilq, std_notq, std_eqi, std_eqn, std_eqb, std_eqs, std_eqv, std_cat, std_lst, std_rset, std_rcopy, std_shift, std_eqr, std_strOf, std_bytesOf, std_isB, std_zOf, zOf_int, std_isI, isI_int, std_getL, std_nmul, std_sOf, sOf_str, std_isS, isS_str] at hc
    exact hc
  refine ⟨⟨{i : Nat // i ≤ L.length ∧ mUp L i = true}, fun b i => [(18, .int .i64 (i.1 : Nat))], fun b i => [], fun i => L.length - i.1, true⟩, ⟨⟨0, by omega, rfl⟩, ?_⟩, ?_⟩
  · cbv
    subst hA
    simp [-List.getD_eq_getElem?_getD, std_add, std_sub, std_mul, std_quo, std_rem, std_band, std_bor, std_bxor, std_shl, std_shr, std_eq, std_ne, std_lt, std_le, std_conv, std_not, std_beq, std_bne, std_ite, std_want, std_and2, std_sadd, std_seq, std_sne, std_slt, std_sle, std_sgt, std_sge, std_slen, std_sget, std_scut, std_ofNat, std_toNat, std_nsub, std_nadd, std_lenOf, std_nz, std_nneg, std_inb, std_upto, std_slt63, std_grow, std_imp, std_impN, std_tr, std_tb, std_ti, std_ts, std_tn, std_tp, std_nmin, std_makes, std_room, std_zeros, std_nilq, std_notq, std_eqi, std_eqn, std_eqb, std_eqs, std_eqv, std_cat, std_lst, std_rset, std_rcopy, std_shift, std_eqr, std_strOf, std_bytesOf, std_isB, std_zOf, zOf_int, std_isI, isI_int, std_getL, std_nmul, std_sOf, sOf_str, std_isS, isS_str]
  · rintro ⟨i, hi, hz⟩
    cbv
    repeat' (first | with_reducible exact True.intro | with_reducible exact dr_ok hA (by kernel_rfl) | with_reducible refine And.intro ?_ ?_ | (intro hc; cbv))
    all_goals first
      | (fail_if_success (refine Exists.intro ?_ ?_)
         subst hA
         simp [-List.getD_eq_getElem?_getD, std_add, std_sub, std_mul, std_quo, std_rem, std_band, std_bor, std_bxor, std_shl, std_shr, std_eq, std_ne, std_lt, std_le, std_conv, std_not, std_beq, std_bne, std_ite, std_want, std_and2, std_sadd, std_seq, std_sne, std_slt, std_sle, std_sgt, std_sge, std_slen, std_sget, std_scut, std_ofNat, std_toNat, std_nsub, std_nadd, std_lenOf, std_nz, std_nneg, std_inb, std_upto, std_slt63, std_grow, std_imp, std_impN, std_tr, std_tb, std_ti, std_ts, std_tn, std_tp, std_nmin, std_makes, std_room, std_zeros, std_nilq, std_notq, std_eqi, std_eqn, std_eqb, std_eqs, std_eqv, std_cat, std_lst, std_rset, std_rcopy, std_shift, std_eqr, std_strOf, std_bytesOf, std_isB, std_zOf, zOf_int, std_isI, isI_int, std_getL, std_nmul, std_sOf, sOf_str, std_isS, isS_str] at *
         done)
      | (fail_if_success (refine Exists.intro ?_ ?_)
         clear hz
         subst hA
         simp [-List.getD_eq_getElem?_getD, std_add, std_sub, std_mul, std_quo, std_rem, std_band, std_bor, std_bxor, std_shl, std_shr, std_eq, std_ne, std_lt, std_le, std_conv, std_not, std_beq, std_bne, std_ite, std_want, std_and2, std_sadd, std_seq, std_sne, std_slt, std_sle, std_sgt, std_sge, std_slen, std_sget, std_scut, std_ofNat, std_toNat, std_nsub, std_nadd, std_lenOf, std_nz, std_nneg, std_inb, std_upto, std_slt63, std_grow, std_imp, std_impN, std_tr, std_tb, std_ti, std_ts, std_tn, std_tp, std_nmin, std_makes, std_room, std_zeros, std_nilq, std_notq, std_eqi, std_eqn, std_eqb, std_eqs, std_eqv, std_cat, std_lst, std_rset, std_rcopy, std_shift, std_eqr, std_strOf, std_bytesOf, std_isB, std_zOf, zOf_int, std_isI, isI_int, std_getL, std_nmul, std_sOf, sOf_str, std_isS, isS_str] at *
         first
           | omega
           | exact hS _
           | (intro h1; rw [wm1 h1 (by omega)]; omega)
           | exact mR_false (by assumption) (mOk_rr (by assumption))
           | (have h1 : 0 < i := hc.1
              rw [wm1 h1 (by omega), Int.toNat_natCast] at hc
              exact mR_false (by assumption) (mOk_lo h1 hc.2))
           | (exfalso; omega))
      | (fail_if_success (refine Exists.intro ?_ ?_)
         have hie : i = L.length := by (clear hz; subst hA; simp [std_add, std_sub, std_mul, std_quo, std_rem, std_band, std_bor, std_bxor, std_shl, std_shr, std_eq, std_ne, std_lt, std_le, std_conv, std_not, std_beq, std_bne, std_ite, std_want, std_and2, std_sadd, std_seq, std_sne, std_slt, std_sle, std_sgt, std_sge, std_slen, std_sget, std_scut, std_ofNat, std_toNat, std_nsub, std_nadd, std_lenOf, std_nz, std_nneg, std_inb, std_upto, std_slt63, std_grow, std_imp, std_impN, std_tr, std_tb, std_ti, std_ts, std_tn, std_tp, std_nmin, std_makes, std_room, std_zeros, std_nilq, std_notq, std_eqi, std_eqn, std_eqb, std_eqs, std_eqv, std_cat, std_lst, std_rset, std_rcopy, std_shift, std_eqr, std_strOf, std_bytesOf, std_isB, std_zOf, zOf_int, std_isI, isI_int, std_getL, std_nmul, std_sOf, sOf_str, std_isS, isS_str] at * <;> omega)
         rw [hie] at hz
         have hm := mR_true h0.1 h0.2 hz
         subst hA
         simp [std_add, std_sub, std_mul, std_quo, std_rem, std_band, std_bor, std_bxor, std_shl, std_shr, std_eq, std_ne, std_lt, std_le, std_conv, std_not, std_beq, std_bne, std_ite, std_want, std_and2, std_sadd, std_seq, std_sne, std_slt, std_sle, std_sgt, std_sge, std_slen, std_sget, std_scut, std_ofNat, std_toNat, std_nsub, std_nadd, std_lenOf, std_nz, std_nneg, std_inb, std_upto, std_slt63, std_grow, std_imp, std_impN, std_tr, std_tb, std_ti, std_ts, std_tn, std_tp, std_nmin, std_makes, std_room, std_zeros, std_nilq, std_notq, std_eqi, std_eqn, std_eqb, std_eqs, std_eqv, std_cat, std_lst, std_rset, std_rcopy, std_shift, std_eqr, std_strOf, std_bytesOf, std_isB, std_zOf, zOf_int, std_isI, isI_int, std_getL, std_nmul, std_sOf, sOf_str, std_isS, isS_str, hm]; done)
      | (have hlt : i < L.length := by (clear hz; subst hA; simp [std_add, std_sub, std_mul, std_quo, std_rem, std_band, std_bor, std_bxor, std_shl, std_shr, std_eq, std_ne, std_lt, std_le, std_conv, std_not, std_beq, std_bne, std_ite, std_want, std_and2, std_sadd, std_seq, std_sne, std_slt, std_sle, std_sgt, std_sge, std_slen, std_sget, std_scut, std_ofNat, std_toNat, std_nsub, std_nadd, std_lenOf, std_nz, std_nneg, std_inb, std_upto, std_slt63, std_grow, std_imp, std_impN, std_tr, std_tb, std_ti, std_ts, std_tn, std_tp, std_nmin, std_makes, std_room, std_zeros, std_nilq, std_notq, std_eqi, std_eqn, std_eqb, std_eqs, std_eqv, std_cat, std_lst, std_rset, std_rcopy, std_shift, std_eqr, std_strOf, std_bytesOf, std_isB, std_zOf, zOf_int, std_isI, isI_int, std_getL, std_nmul, std_sOf, sOf_str, std_isS, isS_str] at * <;> omega)
         have hok : mOk L i = true := by
           clear hz
           subst hA
           simp [-List.getD_eq_getElem?_getD, std_add, std_sub, std_mul, std_quo, std_rem, std_band, std_bor, std_bxor, std_shl, std_shr, std_eq, std_ne, std_lt, std_le, std_conv, std_not, std_beq, std_bne, std_ite, std_want, std_and2, std_sadd, std_seq, std_sne, std_slt, std_sle, std_sgt, std_sge, std_slen, std_sget, std_scut, std_ofNat, std_toNat, std_nsub, std_nadd, std_lenOf, std_nz, std_nneg, std_inb, std_upto, std_slt63, std_grow, std_imp, std_impN, std_tr, std_tb, std_ti, std_ts, std_tn, std_tp, std_nmin, std_makes, std_room, std_zeros, std_nilq, std_notq, std_eqi, std_eqn, std_eqb, std_eqs, std_eqv, std_cat, std_lst, std_rset, std_rcopy, std_shift, std_eqr, std_strOf, std_bytesOf, std_isB, std_zOf, zOf_int, std_isI, isI_int, std_getL, std_nmul, std_sOf, sOf_str, std_isS, isS_str] at *
           refine mOk_yes (fun h1 => ?_) (by assumption)
           have h2 := (by assumption : 0 < i → _) h1
           rw [wm1 h1 (by omega), Int.toNat_natCast] at h2
           exact h2
         obtain ⟨i', hi'⟩ : ∃ i', i' = i + 1 := ⟨_, rfl⟩
         refine ⟨⟨i', by omega, by rw [hi', mUp_succ, hz, hok]; rfl⟩, ?_, show L.length - i' < L.length - i by omega⟩
         cbv
         subst hA
         simp [std_add, std_sub, std_mul, std_quo, std_rem, std_band, std_bor, std_bxor, std_shl, std_shr, std_eq, std_ne, std_lt, std_le, std_conv, std_not, std_beq, std_bne, std_ite, std_want, std_and2, std_sadd, std_seq, std_sne, std_slt, std_sle, std_sgt, std_sge, std_slen, std_sget, std_scut, std_ofNat, std_toNat, std_nsub, std_nadd, std_lenOf, std_nz, std_nneg, std_inb, std_upto, std_slt63, std_grow, std_imp, std_impN, std_tr, std_tb, std_ti, std_ts, std_tn, std_tp, std_nmin, std_makes, std_room, std_zeros, std_nilq, std_notq, std_eqi, std_eqn, std_eqb, std_eqs, std_eqv, std_cat, std_lst, std_rset, std_rcopy, std_shift, std_eqr, std_strOf, std_bytesOf, std_isB, std_zOf, zOf_int, std_isI, isI_int, std_getL, std_nmul, std_sOf, sOf_str, std_isS, isS_str]
         exact (w64 (by omega)).trans (by omega))
      | trace_state
theorem good_mRight' {T : List UInt8} {n : Nat} {f : Nat → Nat → SV} (hp : isRow eI (0, []) 2 n f ∧ n ≤ 1000000 ∧ ∀ i, ((lstOf eI (0, []) 2 n f).getD i (0, [])).2.length ≤ 1000000) :
    GoodP Tryd.prog gl0 28 [.agg [.str T, .slc n 2 f]] (.bool (std.tb fun _ => mR T (lstOf eI (0, []) 2 n f))) :=
  good_sv (good_mRight T (lstOf eI (0, []) 2 n f) (by rw [lstOf_length hp.1]; exact hp.2.1) hp.2.2) ⟨⟨_, rfl, rfl, hp.1.sv, trivial⟩, trivial⟩
noncomputable def c_mRight : Ct := fun A args => match args with
  | [.agg [.str T, .slc n 2 f]] => some (some (A.tp fun _ => isRow eI (0, []) 2 n f ∧ n ≤ 1000000 ∧ ∀ i, ((lstOf eI (0, []) 2 n f).getD i (0, [])).2.length ≤ 1000000), .bool (A.tb fun _ => mR T (lstOf eI (0, []) 2 n f)))
  | _ => none
noncomputable def gm1 : Ar → Pu := addC 28 c_mRight (gm0)
theorem gm1_ok : PuOk Tryd.prog gl0 (gm1 std) := by
  refine addC_ok (gm0_ok) ⟨_, Tryd.func28, rfl, by decide⟩ ?_
  · intro args p r h hp
    unfold c_mRight at h
    split at h <;> cases h
    exact good_mRight' hp
def dAsks (k : Int) : Bool := decide (k = 1) || (decide (k = 3) || (decide (k = 5) || decide (k = 6)))
theorem good_dIsKind (k : Int) : GoodP Tryd.prog gl0 104 [.int .i64 k] (.bool (std.tb fun _ => decide (1 ≤ k ∧ k ≤ 7))) := by
  refine fn_sound' (T := seatT) (G := noC) (X := noX) seatT_ok noC_ok noX_ok noI_ok mixed Tryd.func104 (.one) (fun A => [.int .i64 k]) (fun A => .bool (A.tb fun _ => decide (1 ≤ k ∧ k ≤ 7))) fun A hA => ?_
  cbv
  repeat' (first | with_reducible exact True.intro | with_reducible exact dr_ok hA (by kernel_rfl) | with_reducible refine And.intro ?_ ?_ | (intro hc; cbv))
  all_goals (subst hA; simp [std_add, std_sub, std_mul, std_quo, std_rem, std_band, std_bor, std_bxor, std_shl, std_shr, std_eq, std_ne, std_lt, std_le, std_conv, std_not, std_beq, std_bne, std_ite, std_want, std_and2, std_sadd, std_seq, std_sne, std_slt, std_sle, std_sgt, std_sge, std_slen, std_sget, std_scut, std_ofNat, std_toNat, std_nsub, std_nadd, std_lenOf, std_nz, std_nneg, std_inb, std_upto, std_slt63, std_grow, std_imp, std_impN, std_tr, std_tb, std_ti, std_ts, std_tn, std_tp, std_nmin, std_makes, std_room, std_zeros, std_nilq, std_notq, std_eqi, std_eqn, std_eqb, std_eqs, std_eqv, std_cat, std_lst, std_rset, std_rcopy, std_shift, std_eqr, std_strOf, std_bytesOf, std_isB, std_zOf, zOf_int, std_isI, isI_int, std_getL, std_nmul, std_sOf, sOf_str, std_isS, isS_str] at *)
  all_goals first
    | (rw [Bool.eq_iff_iff]; simp; done)
    | trace_state
theorem good_dTells (k : Int) : GoodP Tryd.prog gl0 100 [.int .i64 k] (.bool (std.tb fun _ => decide (k = 5) || decide (k = 6))) := by
  refine fn_sound' (T := seatT) (G := noC) (X := noX) seatT_ok noC_ok noX_ok noI_ok mixed Tryd.func100 (.one) (fun A => [.int .i64 k]) (fun A => .bool (A.tb fun _ => decide (k = 5) || decide (k = 6))) fun A hA => ?_
  cbv
  repeat' (first | with_reducible exact True.intro | with_reducible exact dr_ok hA (by kernel_rfl) | with_reducible refine And.intro ?_ ?_ | (intro hc; cbv))
  all_goals (subst hA; simp [std_add, std_sub, std_mul, std_quo, std_rem, std_band, std_bor, std_bxor, std_shl, std_shr, std_eq, std_ne, std_lt, std_le, std_conv, std_not, std_beq, std_bne, std_ite, std_want, std_and2, std_sadd, std_seq, std_sne, std_slt, std_sle, std_sgt, std_sge, std_slen, std_sget, std_scut, std_ofNat, std_toNat, std_nsub, std_nadd, std_lenOf, std_nz, std_nneg, std_inb, std_upto, std_slt63, std_grow, std_imp, std_impN, std_tr, std_tb, std_ti, std_ts, std_tn, std_tp, std_nmin, std_makes, std_room, std_zeros, std_nilq, std_notq, std_eqi, std_eqn, std_eqb, std_eqs, std_eqv, std_cat, std_lst, std_rset, std_rcopy, std_shift, std_eqr, std_strOf, std_bytesOf, std_isB, std_zOf, zOf_int, std_isI, isI_int, std_getL, std_nmul, std_sOf, sOf_str, std_isS, isS_str] at *)
  all_goals first
    | (rw [Bool.eq_iff_iff]; simp; done)
    | (rw [Bool.eq_iff_iff]; simp; omega)
    | trace_state
noncomputable def c_dTells : Ct := fun A args => match args with
  | [.int .i64 k] => some (none, .bool (A.tb fun _ => decide (k = 5) || decide (k = 6)))
  | _ => none
noncomputable def gm2 : Ar → Pu := addC 100 c_dTells (gm1)
theorem gm2_ok : PuOk Tryd.prog gl0 (gm2 std) := by
  refine addC_ok (gm1_ok) ⟨_, Tryd.func100, rfl, by decide⟩ ?_
  · intro args p r h hp
    unfold c_dTells at h
    split at h <;> cases h
    exact good_dTells _
theorem good_dAsks (k : Int) : GoodP Tryd.prog gl0 38 [.int .i64 k] (.bool (std.tb fun _ => dAsks k)) := by
  refine fn_sound' (T := seatT) (G := gm2) (X := noX) seatT_ok gm2_ok noX_ok noI_ok mixed Tryd.func38 (.one) (fun A => [.int .i64 k]) (fun A => .bool (A.tb fun _ => dAsks k)) fun A hA => ?_
  cbv
  repeat' (first | with_reducible exact True.intro | with_reducible exact dr_ok hA (by kernel_rfl) | with_reducible refine And.intro ?_ ?_ | (intro hc; cbv))
  all_goals (subst hA; simp [std_add, std_sub, std_mul, std_quo, std_rem, std_band, std_bor, std_bxor, std_shl, std_shr, std_eq, std_ne, std_lt, std_le, std_conv, std_not, std_beq, std_bne, std_ite, std_want, std_and2, std_sadd, std_seq, std_sne, std_slt, std_sle, std_sgt, std_sge, std_slen, std_sget, std_scut, std_ofNat, std_toNat, std_nsub, std_nadd, std_lenOf, std_nz, std_nneg, std_inb, std_upto, std_slt63, std_grow, std_imp, std_impN, std_tr, std_tb, std_ti, std_ts, std_tn, std_tp, std_nmin, std_makes, std_room, std_zeros, std_nilq, std_notq, std_eqi, std_eqn, std_eqb, std_eqs, std_eqv, std_cat, std_lst, std_rset, std_rcopy, std_shift, std_eqr, std_strOf, std_bytesOf, std_isB, std_zOf, zOf_int, std_isI, isI_int, std_getL, std_nmul, std_sOf, sOf_str, std_isS, isS_str] at *)
  all_goals first
    | (unfold dAsks; rw [Bool.eq_iff_iff]; simp; done)
    | (unfold dAsks; rw [Bool.eq_iff_iff]; simp; omega)
    | trace_state
theorem i1r (n : Int) (s : List UInt8) : Reps eI (0, []) 2 1 (lstS [[SV.int .i64 n, SV.str s]]) [(n, s)] := Reps.one (cell_eI n s)
theorem i1l (n : Int) (s : List UInt8) : lstOf eI (0, []) 2 1 (lstS [[SV.int .i64 n, SV.str s]]) = [(n, s)] := lstOf_eq inj_eI (i1r n s)
theorem i1w (n : Int) (s : List UInt8) : isRow eI (0, []) 2 1 (lstS [[SV.int .i64 n, SV.str s]]) := ⟨_, i1r n s⟩
theorem i1s (n : Int) {s : List UInt8} (h : s.length ≤ 1000000) : ∀ i, (([(n, s)] : List It).getD i (0, [])).2.length ≤ 1000000
  | 0 => h
  | _ + 1 => show ([] : List UInt8).length ≤ 1000000 from Nat.zero_le _
theorem mR_one (n : Int) (s : List UInt8) : mR [48, 49, 48, 48] [(n, s)] = rr n s := by
  unfold mR mUp
  simp [mT, mOk]
theorem good_dFits (n : Int) (s : List UInt8) (hs : s.length ≤ 1000000) : GoodP Tryd.prog gl0 105 [.int .i64 n, .str s] (.bool (std.tb fun _ => rr n s)) := by
  refine fn_sound' (T := seatT) (G := gm2) (X := noX) seatT_ok gm2_ok noX_ok noI_ok mixed Tryd.func105 (.one) (fun A => [.int .i64 n, .str s]) (fun A => .bool (A.tb fun _ => rr n s)) fun A hA => ?_
  cbv
  repeat' (first | with_reducible exact True.intro | with_reducible exact dr_ok hA (by kernel_rfl) | with_reducible refine And.intro ?_ ?_ | (intro hc; cbv))
  all_goals (subst hA; try simp [-List.getD_eq_getElem?_getD, std_add, std_sub, std_mul, std_quo, std_rem, std_band, std_bor, std_bxor, std_shl, std_shr, std_eq, std_ne, std_lt, std_le, std_conv, std_not, std_beq, std_bne, std_ite, std_want, std_and2, std_sadd, std_seq, std_sne, std_slt, std_sle, std_sgt, std_sge, std_slen, std_sget, std_scut, std_ofNat, std_toNat, std_nsub, std_nadd, std_lenOf, std_nz, std_nneg, std_inb, std_upto, std_slt63, std_grow, std_imp, std_impN, std_tr, std_tb, std_ti, std_ts, std_tn, std_tp, std_nmin, std_makes, std_room, std_zeros, std_nilq, std_notq, std_eqi, std_eqn, std_eqb, std_eqs, std_eqv, std_cat, std_lst, std_rset, std_rcopy, std_shift, std_eqr, std_strOf, std_bytesOf, std_isB, std_zOf, zOf_int, std_isI, isI_int, std_getL, std_nmul, std_sOf, sOf_str, std_isS, isS_str, i1l, i1w, mR_one] at *)
  all_goals first
    | exact i1s n hs
    | trace_state
noncomputable def c_dIsKind : Ct := fun A args => match args with
  | [.int .i64 k] => some (none, .bool (A.tb fun _ => decide (1 ≤ k ∧ k ≤ 7)))
  | _ => none
noncomputable def c_dAsks : Ct := fun A args => match args with
  | [.int .i64 k] => some (none, .bool (A.tb fun _ => dAsks k))
  | _ => none
noncomputable def c_dFits : Ct := fun A args => match args with
  | [.int .i64 n, .str s] => some (some (A.tp fun _ => s.length ≤ 1000000), .bool (A.tb fun _ => rr n s))
  | _ => none
noncomputable def gm3 : Ar → Pu := addC 104 c_dIsKind (addC 38 c_dAsks (addC 105 c_dFits (gm2)))
theorem gm3_ok : PuOk Tryd.prog gl0 (gm3 std) := by
  refine addC_ok (addC_ok (addC_ok (gm2_ok) ⟨_, Tryd.func105, rfl, by decide⟩ ?_) ⟨_, Tryd.func38, rfl, by decide⟩ ?_) ⟨_, Tryd.func104, rfl, by decide⟩ ?_
  · intro args p r h hp
    unfold c_dFits at h
    split at h <;> cases h
    exact good_dFits _ _ hp
  · intro args p r h hp
    unfold c_dAsks at h
    split at h <;> cases h
    exact good_dAsks _
  · intro args p r h hp
    unfold c_dIsKind at h
    split at h <;> cases h
    exact good_dIsKind _
def dR (k a s : Int) (p r c : List UInt8) : Bool :=
  decide (1 ≤ k ∧ k ≤ 7) && (decide (s ≤ 999999) && (rr 37 r && (if dAsks k = true then lFine p && (decide ((p.length : Int) ≤ 19) && (decide (a < 1000000000000) && c == [])) else rr 39 c && (p == [] && decide (a = 0)))))
theorem good_dRight (k a s : Int) (p r c : List UInt8) (hp : p.length ≤ 100000) (hr : r.length ≤ 1000000) (hcc : c.length ≤ 1000000) : GoodP Tryd.prog gl0 37 [.agg [.int .i64 k, .str p, .int .u64 a, .int .u32 s, .str r, .str c]] (.bool (std.tb fun _ => dR k a s p r c)) := by
  refine fn_sound' (T := seatT) (G := gm3) (X := noX) seatT_ok gm3_ok noX_ok noI_ok mixed Tryd.func37 (.one) (fun A => [.agg [.int .i64 k, .str p, .int .u64 a, .int .u32 s, .str r, .str c]]) (fun A => .bool (A.tb fun _ => dR k a s p r c)) fun A hA => ?_
  cbv
  repeat' (first | with_reducible exact True.intro | with_reducible exact dr_ok hA (by kernel_rfl) | with_reducible refine And.intro ?_ ?_ | (intro hc; cbv))
  all_goals (subst hA; simp [-List.getD_eq_getElem?_getD, std_add, std_sub, std_mul, std_quo, std_rem, std_band, std_bor, std_bxor, std_shl, std_shr, std_eq, std_ne, std_lt, std_le, std_conv, std_not, std_beq, std_bne, std_ite, std_want, std_and2, std_sadd, std_seq, std_sne, std_slt, std_sle, std_sgt, std_sge, std_slen, std_sget, std_scut, std_ofNat, std_toNat, std_nsub, std_nadd, std_lenOf, std_nz, std_nneg, std_inb, std_upto, std_slt63, std_grow, std_imp, std_impN, std_tr, std_tb, std_ti, std_ts, std_tn, std_tp, std_nmin, std_makes, std_room, std_zeros, std_nilq, std_notq, std_eqi, std_eqn, std_eqb, std_eqs, std_eqv, std_cat, std_lst, std_rset, std_rcopy, std_shift, std_eqr, std_strOf, std_bytesOf, std_isB, std_zOf, zOf_int, std_isI, isI_int, std_getL, std_nmul, std_sOf, sOf_str, std_isS, isS_str] at *)
  all_goals first
    | omega
    | (unfold dR
       rcases hc with (hc | hc) | hc
       · rw [decide_eq_false (p := 1 ≤ k ∧ k ≤ 7) (by omega)]; rfl
       · rw [decide_eq_false (p := s ≤ 999999) (by omega)]; simp
       · rw [hc]; simp)
    | (have hd : dAsks k = true := by assumption
       unfold dR
       rw [decide_eq_true hc.1.1, decide_eq_true hc.1.2, hc.2, if_pos hd]
       simp only [Bool.true_and, Bool.and_assoc]
       cases c <;> rfl)
    | (have hd : dAsks k = false := by assumption
       unfold dR
       rw [decide_eq_true hc.1.1, decide_eq_true hc.1.2, hc.2, if_neg (by rw [hd]; simp)]
       simp only [Bool.true_and, Bool.and_assoc]
       cases p <;> rfl)
    | trace_state
end Go.Vd
