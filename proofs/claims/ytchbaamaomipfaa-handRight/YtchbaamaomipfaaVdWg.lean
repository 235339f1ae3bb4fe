/- Hands: the reference's functions. -/
import Derived.Test.YtchbaamaomipfaaVdZ5
import Derived.Test.YtchbaamaomipfaaVdRow2
import Derived.Lib.SmallJoins
set_option linter.unusedVariables false
set_option linter.unusedSimpArgs false
set_option maxRecDepth 100000
set_option maxHeartbeats 4000000
namespace Go.Vd
open Go.Proofs Ieee
theorem tk_le (a b : Nat) : -1 ≤ tk a b ∧ tk a b < 4096 := by
  unfold tk
  cases ha : hz a with
  | none => simp
  | some x =>
    cases hb : hz b with
    | none => simp
    | some y =>
      have h1 := (hz_of ha).1
      have h2 := (hz_of hb).1
      simp only
      omega
theorem tk_isH {a b : Nat} (h : 0 ≤ tk a b) : isH a b (tk a b) := by
  have hr : rtH a b = true := by rw [tk_rt]; exact decide_eq_true h
  obtain ⟨T, hT⟩ := isH_of hr
  rw [tk_is hT]
  exact hT
attribute [local irreducible] vc
theorem good_rHands (t : Int) (h0 : 0 ≤ t ∧ t < 4096) : GoodP Try.prog gl0 20 [.int .i64 t] (.cpx (std.tn fun _ => ofR t) (std.tn fun _ => ofI t)) := by
  refine fn_sound' (T := seatT) (G := noC) (X := noX) seatT_ok noC_ok noX_ok noI_ok mixed Try.func20 (.one) (fun A => [.int .i64 t]) (fun A => .cpx (A.tn fun _ => ofR t) (A.tn fun _ => ofI t)) fun A hA => ?_
  cbv
  repeat' (first | with_reducible exact True.intro | with_reducible exact dr_ok hA (by kernel_rfl) | with_reducible refine And.intro ?_ ?_ | (intro hc; cbv))
  all_goals (subst hA; simp only [std_add, std_sub, std_mul, std_quo, std_rem, std_band, std_bor, std_bxor, std_shl, std_shr, std_eq, std_ne, std_lt, std_le, std_conv, std_not, std_beq, std_bne, std_ite, std_want, std_and2, std_sadd, std_seq, std_sne, std_slt, std_sle, std_sgt, std_sge, std_slen, std_sget, std_scut, std_ofNat, std_toNat, std_nsub, std_nadd, std_lenOf, std_nz, std_nneg, std_inb, std_upto, std_slt63, std_grow, std_imp, std_impN, std_tr, std_tb, std_ti, std_ts, std_tn, std_tp, std_nmin, std_makes, std_room, std_zeros, std_nilq, std_notq, std_eqi, std_eqn, std_eqb, std_eqs, std_eqv, std_cat, std_lst, std_rset, std_rcopy, std_shift, std_eqr, std_strOf, std_bytesOf, std_isB, std_zOf, zOf_int, std_isI, isI_int, std_getL, std_nmul, std_sOf, sOf_str, std_isS, isS_str, std_fadd, std_fsub, std_fav, std_fsv, std_feq, std_fne, std_flt, std_fle, std_fgt, std_fge, std_fOf, std_fTo, std_fTv] at *)
  all_goals first
    | decide
    | (unfold ofR; congr 1; rw [Int.tdiv_eq_ediv_of_nonneg h0.1, w64 (by omega)]; omega)
    | (unfold ofI; congr 1; rw [Int.tmod_eq_emod_of_nonneg h0.1])
    | trace_state
noncomputable def c_rHands : Ct := fun A args => match args with
  | [.int .i64 t] => some (some (A.tp fun _ => 0 ≤ t ∧ t < 4096), .cpx (A.tn fun _ => ofR t) (A.tn fun _ => ofI t))
  | _ => none
noncomputable def gw2 : Ar → Pu := addC 20 c_rHands (gw1)
theorem gw2_ok : PuOk Try.prog gl0 (gw2 std) := by
  refine addC_ok (gw1_ok) ⟨_, Try.func20, rfl, by decide⟩ ?_
  · intro args p r h hp
    unfold c_rHands at h
    split at h <;> cases h
    exact good_rHands _ hp
theorem good_rOf (t : Int) (h0 : 0 ≤ t ∧ t < 18446744073709551616) : GoodP Try.prog gl0 12 [.int .u64 t] (.cpx (std.tn fun _ => ofR (t % 4096)) (std.tn fun _ => ofI (t % 4096))) := by
  refine fn_sound' (T := seatT) (G := gw2) (X := noX) seatT_ok gw2_ok noX_ok noI_ok mixed Try.func12 (.one) (fun A => [.int .u64 t]) (fun A => .cpx (A.tn fun _ => ofR (t % 4096)) (A.tn fun _ => ofI (t % 4096))) fun A hA => ?_
  have e1 : t.tmod 4096 = t % 4096 := Int.tmod_eq_emod_of_nonneg h0.1
  have e2 : IntKind.i64.wrap (t % 4096) = t % 4096 := w64 (by omega)
  cbv
  repeat' (first | with_reducible exact True.intro | with_reducible exact dr_ok hA (by kernel_rfl) | with_reducible refine And.intro ?_ ?_ | (intro hc; cbv))
  all_goals (subst hA; simp only [std_add, std_sub, std_mul, std_quo, std_rem, std_band, std_bor, std_bxor, std_shl, std_shr, std_eq, std_ne, std_lt, std_le, std_conv, std_not, std_beq, std_bne, std_ite, std_want, std_and2, std_sadd, std_seq, std_sne, std_slt, std_sle, std_sgt, std_sge, std_slen, std_sget, std_scut, std_ofNat, std_toNat, std_nsub, std_nadd, std_lenOf, std_nz, std_nneg, std_inb, std_upto, std_slt63, std_grow, std_imp, std_impN, std_tr, std_tb, std_ti, std_ts, std_tn, std_tp, std_nmin, std_makes, std_room, std_zeros, std_nilq, std_notq, std_eqi, std_eqn, std_eqb, std_eqs, std_eqv, std_cat, std_lst, std_rset, std_rcopy, std_shift, std_eqr, std_strOf, std_bytesOf, std_isB, std_zOf, zOf_int, std_isI, isI_int, std_getL, std_nmul, std_sOf, sOf_str, std_isS, isS_str, std_fadd, std_fsub, std_fav, std_fsv, std_feq, std_fne, std_flt, std_fle, std_fgt, std_fge, std_fOf, std_fTo, std_fTv, e1, e2] at *)
  all_goals first
    | decide
    | (constructor <;> omega)
    | trace_state
noncomputable def c_rOf : Ct := fun A args => match args with
  | [.int .u64 t] => some (some (A.tp fun _ => 0 ≤ t ∧ t < 18446744073709551616), .cpx (A.tn fun _ => ofR (t % 4096)) (A.tn fun _ => ofI (t % 4096)))
  | _ => none
def rdW (a b c d : Nat) : Nat × Nat := if tk a b < 0 ∨ tk c d < 0 then (0, 0) else (ofR ((tk a b + tk c d) % 4096), ofI ((tk a b + tk c d) % 4096))
theorem q_lt {x y : Int} (h : (bif decide (x < 0) then true else decide (y < 0)) = true) : x < 0 ∨ y < 0 := by
  cases hx : decide (x < 0)
  · rw [hx] at h
    exact .inr (of_decide_eq_true h)
  · exact .inl (of_decide_eq_true hx)
theorem q_ge {x y : Int} (h : (bif decide (x < 0) then true else decide (y < 0)) = false) : 0 ≤ x ∧ 0 ≤ y := by
  cases hx : decide (x < 0)
  · rw [hx] at h
    have h1 := of_decide_eq_false hx
    have h2 : decide (y < 0) = false := h
    have h2 := of_decide_eq_false h2
    omega
  · rw [hx] at h
    cases h
theorem good_rAdd (a b c d : Nat) : GoodP Try.prog gl0 14 [.cpx a b, .cpx c d] (.cpx (std.tn fun _ => (rdW a b c d).1) (std.tn fun _ => (rdW a b c d).2)) := by
  refine fn_sound' (T := seatT) (G := gw2) (X := noX) seatT_ok gw2_ok noX_ok noI_ok mixed Try.func14 (.one) (fun A => [.cpx a b, .cpx c d]) (fun A => .cpx (A.tn fun _ => (rdW a b c d).1) (A.tn fun _ => (rdW a b c d).2)) fun A hA => ?_
  have b1 := tk_le a b
  have b2 := tk_le c d
  cbv
  repeat' (first | with_reducible exact True.intro | with_reducible exact dr_ok hA (by kernel_rfl) | with_reducible refine And.intro ?_ ?_ | (intro hc; cbv))
  all_goals (subst hA; simp only [std_add, std_sub, std_mul, std_quo, std_rem, std_band, std_bor, std_bxor, std_shl, std_shr, std_eq, std_ne, std_lt, std_le, std_conv, std_not, std_beq, std_bne, std_ite, std_want, std_and2, std_sadd, std_seq, std_sne, std_slt, std_sle, std_sgt, std_sge, std_slen, std_sget, std_scut, std_ofNat, std_toNat, std_nsub, std_nadd, std_lenOf, std_nz, std_nneg, std_inb, std_upto, std_slt63, std_grow, std_imp, std_impN, std_tr, std_tb, std_ti, std_ts, std_tn, std_tp, std_nmin, std_makes, std_room, std_zeros, std_nilq, std_notq, std_eqi, std_eqn, std_eqb, std_eqs, std_eqv, std_cat, std_lst, std_rset, std_rcopy, std_shift, std_eqr, std_strOf, std_bytesOf, std_isB, std_zOf, zOf_int, std_isI, isI_int, std_getL, std_nmul, std_sOf, sOf_str, std_isS, isS_str, std_fadd, std_fsub, std_fav, std_fsv, std_feq, std_fne, std_flt, std_fle, std_fgt, std_fge, std_fOf, std_fTo, std_fTv] at *)
  all_goals first
    | decide
    | exact id
    | (intro h; rw [h]; rfl)
    | (intro h; exact ⟨h, h⟩)
    | (have e0 : rdW a b c d = (0, 0) := if_pos (q_lt hc)
       rw [e0]
       done)
    | (have hq := q_ge hc
       have e0 : rdW a b c d = (ofR ((tk a b + tk c d) % 4096), ofI ((tk a b + tk c d) % 4096)) := if_neg (by omega)
       have e1 : IntKind.i64.wrap (tk a b + tk c d) = tk a b + tk c d := w64 (by omega)
       have e2 : (tk a b + tk c d).tmod 4096 = (tk a b + tk c d) % 4096 := Int.tmod_eq_emod_of_nonneg (by omega)
       first
         | (rw [e0, e1, e2]; done)
         | (rw [e1, e2]; constructor <;> omega))
    | trace_state
noncomputable def c_rAdd : Ct := fun A args => match args with
  | [.cpx a b, .cpx c d] => some (none, .cpx (A.tn fun _ => (rdW a b c d).1) (A.tn fun _ => (rdW a b c d).2))
  | _ => none
def rtW (a b : Nat) (n : Int) : Nat × Nat := if tk a b < 0 then (0, 0) else (ofR ((tk a b + n) % 4096), ofI ((tk a b + n) % 4096))
theorem good_rTurn (a b : Nat) (n : Int) : GoodP Try.prog gl0 16 [.cpx a b, .int .i64 n] (.cpx (std.tn fun _ => (rtW a b n).1) (std.tn fun _ => (rtW a b n).2)) := by
  refine fn_sound' (T := seatT) (G := gw2) (X := noX) seatT_ok gw2_ok noX_ok noI_ok mixed Try.func16 (.one) (fun A => [.cpx a b, .int .i64 n]) (fun A => .cpx (A.tn fun _ => (rtW a b n).1) (A.tn fun _ => (rtW a b n).2)) fun A hA => ?_
  have b1 := tk_le a b
  have hb := tnM_bd n
  have e0 : n.tmod 4096 = tnM n - 4096 := by unfold tnM; omega
  cbv
  repeat' (first | with_reducible exact True.intro | with_reducible exact dr_ok hA (by kernel_rfl) | with_reducible refine And.intro ?_ ?_ | (intro hc; cbv))
  all_goals (subst hA; simp only [std_add, std_sub, std_mul, std_quo, std_rem, std_band, std_bor, std_bxor, std_shl, std_shr, std_eq, std_ne, std_lt, std_le, std_conv, std_not, std_beq, std_bne, std_ite, std_want, std_and2, std_sadd, std_seq, std_sne, std_slt, std_sle, std_sgt, std_sge, std_slen, std_sget, std_scut, std_ofNat, std_toNat, std_nsub, std_nadd, std_lenOf, std_nz, std_nneg, std_inb, std_upto, std_slt63, std_grow, std_imp, std_impN, std_tr, std_tb, std_ti, std_ts, std_tn, std_tp, std_nmin, std_makes, std_room, std_zeros, std_nilq, std_notq, std_eqi, std_eqn, std_eqb, std_eqs, std_eqv, std_cat, std_lst, std_rset, std_rcopy, std_shift, std_eqr, std_strOf, std_bytesOf, std_isB, std_zOf, zOf_int, std_isI, isI_int, std_getL, std_nmul, std_sOf, sOf_str, std_isS, isS_str, std_fadd, std_fsub, std_fav, std_fsv, std_feq, std_fne, std_flt, std_fle, std_fgt, std_fge, std_fOf, std_fTo, std_fTv] at *)
  all_goals first
    | decide
    | (have hl := of_decide_eq_true hc
       have e1 : rtW a b n = (0, 0) := if_pos hl
       rw [e1]
       done)
    | (have hl := of_decide_eq_false hc
       have e1 : rtW a b n = (ofR ((tk a b + n) % 4096), ofI ((tk a b + n) % 4096)) := if_neg hl
       have e2 : IntKind.i64.wrap (tk a b + (tnM n - 4096)) = tk a b + (tnM n - 4096) := w64 (by omega)
       have e3 : IntKind.i64.wrap (tk a b + (tnM n - 4096) + 4096) = tk a b + tnM n := (w64 (by omega)).trans (by omega)
       have e4 : (tk a b + tnM n).tmod 4096 = (tk a b + n) % 4096 := (Int.tmod_eq_emod_of_nonneg (by omega)).trans (by omega)
       first
         | (rw [e0, e1, e2, e3, e4]; done)
         | (rw [e0, e2, e3, e4]; constructor <;> omega))
    | trace_state
noncomputable def c_rTurn : Ct := fun A args => match args with
  | [.cpx a b, .int .i64 n] => some (none, .cpx (A.tn fun _ => (rtW a b n).1) (A.tn fun _ => (rtW a b n).2))
  | _ => none
noncomputable def gw3 : Ar → Pu := addC 12 c_rOf (addC 14 c_rAdd (addC 16 c_rTurn (gw2)))
theorem gw3_ok : PuOk Try.prog gl0 (gw3 std) := by
  refine addC_ok (addC_ok (addC_ok (gw2_ok) ⟨_, Try.func16, rfl, by decide⟩ ?_) ⟨_, Try.func14, rfl, by decide⟩ ?_) ⟨_, Try.func12, rfl, by decide⟩ ?_
  · intro args p r h hp
    unfold c_rTurn at h
    split at h <;> cases h
    exact good_rTurn _ _ _
  · intro args p r h hp
    unfold c_rAdd at h
    split at h <;> cases h
    exact good_rAdd _ _ _ _
  · intro args p r h hp
    unfold c_rOf at h
    split at h <;> cases h
    exact good_rOf _ hp
end Go.Vd

set_option linter.unusedVariables false
set_option linter.unusedSimpArgs false
set_option maxRecDepth 100000
set_option maxHeartbeats 4000000
namespace Go.Vd
open Go.Proofs Ieee
theorem wy_no {a b c d : Nat} (h : (bif decide (tk a b < 0) then true else decide (tk c d < 0)) = true) : wyW a b c d = -1 := by
  unfold wyW
  rw [if_neg]
  rw [tk_rt, tk_rt]
  have := q_lt h
  simp
  omega
theorem wy_yes {a b c d : Nat} (h : 0 ≤ tk a b ∧ 0 ≤ tk c d) : wyW a b c d = (tk c d - tk a b) % 4096 := by
  unfold wyW
  rw [if_pos]
  rw [tk_rt, tk_rt]
  simp
  exact h
attribute [local irreducible] vc
theorem good_rWay (a b c d : Nat) : GoodP Try.prog gl0 18 [.cpx a b, .cpx c d] (.int .i64 (std.ti fun _ => wyW a b c d)) := by
  refine fn_sound' (T := seatT) (G := gw3) (X := noX) seatT_ok gw3_ok noX_ok noI_ok mixed Try.func18 (.one) (fun A => [.cpx a b, .cpx c d]) (fun A => .int .i64 (A.ti fun _ => wyW a b c d)) fun A hA => ?_
  have b1 := tk_le a b
  have b2 := tk_le c d
  cbv
  repeat' (first | with_reducible exact True.intro | with_reducible exact dr_ok hA (by kernel_rfl) | with_reducible refine And.intro ?_ ?_ | (intro hc; cbv))
  all_goals first
    | (fail_if_success (refine Exists.intro ?_ ?_)
       subst hA
       simp only [std_add, std_sub, std_mul, std_quo, std_rem, std_band, std_bor, std_bxor, std_shl, std_shr, std_eq, std_ne, std_lt, std_le, std_conv, std_not, std_beq, std_bne, std_ite, std_want, std_and2, std_sadd, std_seq, std_sne, std_slt, std_sle, std_sgt, std_sge, std_slen, std_sget, std_scut, std_ofNat, std_toNat, std_nsub, std_nadd, std_lenOf, std_nz, std_nneg, std_inb, std_upto, std_slt63, std_grow, std_imp, std_impN, std_tr, std_tb, std_ti, std_ts, std_tn, std_tp, std_nmin, std_makes, std_room, std_zeros, std_nilq, std_notq, std_eqi, std_eqn, std_eqb, std_eqs, std_eqv, std_cat, std_lst, std_rset, std_rcopy, std_shift, std_eqr, std_strOf, std_bytesOf, std_isB, std_zOf, zOf_int, std_isI, isI_int, std_getL, std_nmul, std_sOf, sOf_str, std_isS, isS_str, std_fadd, std_fsub, std_fav, std_fsv, std_feq, std_fne, std_flt, std_fle, std_fgt, std_fge, std_fOf, std_fTo, std_fTv] at *
       first
         | exact id
         | (intro h; rw [h]; rfl)
         | (intro h; exact ⟨h, h⟩)
         | (rw [wy_no hc]; done)
         | trace_state)
    | skip
  have hq : 0 ≤ tk a b ∧ 0 ≤ tk c d := by
    subst hA
    simp only [std_add, std_sub, std_mul, std_quo, std_rem, std_band, std_bor, std_bxor, std_shl, std_shr, std_eq, std_ne, std_lt, std_le, std_conv, std_not, std_beq, std_bne, std_ite, std_want, std_and2, std_sadd, std_seq, std_sne, std_slt, std_sle, std_sgt, std_sge, std_slen, std_sget, std_scut, std_ofNat, std_toNat, std_nsub, std_nadd, std_lenOf, std_nz, std_nneg, std_inb, std_upto, std_slt63, std_grow, std_imp, std_impN, std_tr, std_tb, std_ti, std_ts, std_tn, std_tp, std_nmin, std_makes, std_room, std_zeros, std_nilq, std_notq, std_eqi, std_eqn, std_eqb, std_eqs, std_eqv, std_cat, std_lst, std_rset, std_rcopy, std_shift, std_eqr, std_strOf, std_bytesOf, std_isB, std_zOf, zOf_int, std_isI, isI_int, std_getL, std_nmul, std_sOf, sOf_str, std_isS, isS_str, std_fadd, std_fsub, std_fav, std_fsv, std_feq, std_fne, std_flt, std_fle, std_fgt, std_fge, std_fOf, std_fTo, std_fTv] at hc
    exact q_ge hc
  have hw := wy_yes hq
  obtain ⟨x, hx⟩ : ∃ x, x = tk a b := ⟨_, rfl⟩
  obtain ⟨y, hy⟩ : ∃ y, y = tk c d := ⟨_, rfl⟩
  have hx2 : tk a b = x := hx.symm
  have hy2 : tk c d = y := hy.symm
  rw [hx2] at b1 hq hw
  rw [hy2] at b2 hq hw
  clear hc hx hy
  refine ⟨⟨{i : Int // 0 ≤ i ∧ i ≤ (y - x) % 4096}, fun q i => [(7, .int .i64 i.1)], fun q i => [], fun i => (4096 - i.1).toNat, true⟩, ⟨⟨0, by omega, by omega⟩, ?_⟩, ?_⟩
  · cbv
    subst hA
    simp [std_add, std_sub, std_mul, std_quo, std_rem, std_band, std_bor, std_bxor, std_shl, std_shr, std_eq, std_ne, std_lt, std_le, std_conv, std_not, std_beq, std_bne, std_ite, std_want, std_and2, std_sadd, std_seq, std_sne, std_slt, std_sle, std_sgt, std_sge, std_slen, std_sget, std_scut, std_ofNat, std_toNat, std_nsub, std_nadd, std_lenOf, std_nz, std_nneg, std_inb, std_upto, std_slt63, std_grow, std_imp, std_impN, std_tr, std_tb, std_ti, std_ts, std_tn, std_tp, std_nmin, std_makes, std_room, std_zeros, std_nilq, std_notq, std_eqi, std_eqn, std_eqb, std_eqs, std_eqv, std_cat, std_lst, std_rset, std_rcopy, std_shift, std_eqr, std_strOf, std_bytesOf, std_isB, std_zOf, zOf_int, std_isI, isI_int, std_getL, std_nmul, std_sOf, sOf_str, std_isS, isS_str, std_fadd, std_fsub, std_fav, std_fsv, std_feq, std_fne, std_flt, std_fle, std_fgt, std_fge, std_fOf, std_fTo, std_fTv]
  · intro z
    obtain ⟨i, hi0⟩ := z
    have hi1 := hi0.1
    have hi := hi0.2
    have e1 : IntKind.i64.wrap (x + i) = x + i := w64 (by omega)
    have e2 : (x + i).tmod 4096 = (x + i) % 4096 := Int.tmod_eq_emod_of_nonneg (by omega)
    cbv
    repeat' (first | with_reducible exact True.intro | with_reducible exact dr_ok hA (by kernel_rfl) | with_reducible refine And.intro ?_ ?_ | (intro hc; cbv))
    all_goals first
      | (fail_if_success (refine Exists.intro ?_ ?_)
         subst hA
         simp only [std_add, std_sub, std_mul, std_quo, std_rem, std_band, std_bor, std_bxor, std_shl, std_shr, std_eq, std_ne, std_lt, std_le, std_conv, std_not, std_beq, std_bne, std_ite, std_want, std_and2, std_sadd, std_seq, std_sne, std_slt, std_sle, std_sgt, std_sge, std_slen, std_sget, std_scut, std_ofNat, std_toNat, std_nsub, std_nadd, std_lenOf, std_nz, std_nneg, std_inb, std_upto, std_slt63, std_grow, std_imp, std_impN, std_tr, std_tb, std_ti, std_ts, std_tn, std_tp, std_nmin, std_makes, std_room, std_zeros, std_nilq, std_notq, std_eqi, std_eqn, std_eqb, std_eqs, std_eqv, std_cat, std_lst, std_rset, std_rcopy, std_shift, std_eqr, std_strOf, std_bytesOf, std_isB, std_zOf, zOf_int, std_isI, isI_int, std_getL, std_nmul, std_sOf, sOf_str, std_isS, isS_str, std_fadd, std_fsub, std_fav, std_fsv, std_feq, std_fne, std_flt, std_fle, std_fgt, std_fge, std_fOf, std_fTo, std_fTv, hx2, hy2, e1, e2] at *
         first
           | decide
           | (have h1 : ((x + i) % 4096 == y) = true := hc
              simp at h1
              rw [hw]
              omega)
           | (have h1 : decide (i < 4096) = false := hc
              have h1 := of_decide_eq_false h1
              omega)
           | trace_state)
      | (obtain ⟨i', hi'⟩ : ∃ i', i' = i + 1 := ⟨_, rfl⟩
         have hn : ¬(x + i) % 4096 = y := by
           subst hA
           simp only [std_add, std_sub, std_mul, std_quo, std_rem, std_band, std_bor, std_bxor, std_shl, std_shr, std_eq, std_ne, std_lt, std_le, std_conv, std_not, std_beq, std_bne, std_ite, std_want, std_and2, std_sadd, std_seq, std_sne, std_slt, std_sle, std_sgt, std_sge, std_slen, std_sget, std_scut, std_ofNat, std_toNat, std_nsub, std_nadd, std_lenOf, std_nz, std_nneg, std_inb, std_upto, std_slt63, std_grow, std_imp, std_impN, std_tr, std_tb, std_ti, std_ts, std_tn, std_tp, std_nmin, std_makes, std_room, std_zeros, std_nilq, std_notq, std_eqi, std_eqn, std_eqb, std_eqs, std_eqv, std_cat, std_lst, std_rset, std_rcopy, std_shift, std_eqr, std_strOf, std_bytesOf, std_isB, std_zOf, zOf_int, std_isI, isI_int, std_getL, std_nmul, std_sOf, sOf_str, std_isS, isS_str, std_fadd, std_fsub, std_fav, std_fsv, std_feq, std_fne, std_flt, std_fle, std_fgt, std_fge, std_fOf, std_fTo, std_fTv, hx2, hy2, e1, e2] at *
           have h1 : ((x + i) % 4096 == y) = false := hc
           simpa using h1
         have hi2 : i' ≤ (y - x) % 4096 := by omega
         have hi3 : 0 ≤ i' := by omega
         have e3 : IntKind.i64.wrap (i + 1) = i' := (w64 (by omega)).trans (by omega)
         refine ⟨⟨i', hi3, hi2⟩, ?_, show (4096 - i').toNat < (4096 - i).toNat by omega⟩
         cbv
         subst hA
         simp [std_add, std_sub, std_mul, std_quo, std_rem, std_band, std_bor, std_bxor, std_shl, std_shr, std_eq, std_ne, std_lt, std_le, std_conv, std_not, std_beq, std_bne, std_ite, std_want, std_and2, std_sadd, std_seq, std_sne, std_slt, std_sle, std_sgt, std_sge, std_slen, std_sget, std_scut, std_ofNat, std_toNat, std_nsub, std_nadd, std_lenOf, std_nz, std_nneg, std_inb, std_upto, std_slt63, std_grow, std_imp, std_impN, std_tr, std_tb, std_ti, std_ts, std_tn, std_tp, std_nmin, std_makes, std_room, std_zeros, std_nilq, std_notq, std_eqi, std_eqn, std_eqb, std_eqs, std_eqv, std_cat, std_lst, std_rset, std_rcopy, std_shift, std_eqr, std_strOf, std_bytesOf, std_isB, std_zOf, zOf_int, std_isI, isI_int, std_getL, std_nmul, std_sOf, sOf_str, std_isS, isS_str, std_fadd, std_fsub, std_fav, std_fsv, std_feq, std_fne, std_flt, std_fle, std_fgt, std_fge, std_fOf, std_fTo, std_fTv]
         exact e3)
      | trace_state
noncomputable def c_rWay : Ct := fun A args => match args with
  | [.cpx a b, .cpx c d] => some (none, .int .i64 (A.ti fun _ => wyW a b c d))
  | _ => none
theorem nx_no {t : Int} {a b : Nat} (h : tk a b < 0) : nxT t a b = 0 ∧ nxE t a b = 1 := by
  have hr : rtH a b = false := by rw [tk_rt]; exact decide_eq_false (by omega)
  exact ⟨by unfold nxT; rw [hr]; rfl, by unfold nxE; rw [hr]; rfl⟩
theorem nx_yes {t : Int} {a b : Nat} (h0 : 0 ≤ t) (h : 0 ≤ tk a b) : rtH a b = true ∧ 1 ≤ nxW t a b ∧ nxW t a b ≤ 4096 ∧ (t + nxW t a b) % 4096 = tk a b := by
  have hr : rtH a b = true := by rw [tk_rt]; exact decide_eq_true h
  have hb := nxW_bd h0 hr
  have hT := tk_isH h
  have hw := isH_way (isH_tick h0) hT
  have h1 := tk_le a b
  refine ⟨hr, hb.1, hb.2, ?_⟩
  unfold nxW at hb ⊢
  rw [hw] at hb ⊢
  split at hb <;> split <;> omega
theorem good_rNext (t : Int) (a b : Nat) (h0 : 0 ≤ t ∧ t < 18446744073709551616) : GoodP Try.prog gl0 8 [.int .u64 t, .cpx a b] (.tup [.int .u64 (std.ti fun _ => nxT t a b), .int .i64 (std.ti fun _ => nxE t a b)]) := by
  refine fn_sound' (T := seatT) (G := gw3) (X := noX) seatT_ok gw3_ok noX_ok noI_ok mixed Try.func8 (.one) (fun A => [.int .u64 t, .cpx a b]) (fun A => .tup [.int .u64 (A.ti fun _ => nxT t a b), .int .i64 (A.ti fun _ => nxE t a b)]) fun A hA => ?_
  have b1 := tk_le a b
  cbv
  repeat' (first | with_reducible exact True.intro | with_reducible exact dr_ok hA (by kernel_rfl) | with_reducible refine And.intro ?_ ?_ | (intro hc; cbv))
  all_goals first
    | (fail_if_success (refine Exists.intro ?_ ?_)
       subst hA
       simp only [std_add, std_sub, std_mul, std_quo, std_rem, std_band, std_bor, std_bxor, std_shl, std_shr, std_eq, std_ne, std_lt, std_le, std_conv, std_not, std_beq, std_bne, std_ite, std_want, std_and2, std_sadd, std_seq, std_sne, std_slt, std_sle, std_sgt, std_sge, std_slen, std_sget, std_scut, std_ofNat, std_toNat, std_nsub, std_nadd, std_lenOf, std_nz, std_nneg, std_inb, std_upto, std_slt63, std_grow, std_imp, std_impN, std_tr, std_tb, std_ti, std_ts, std_tn, std_tp, std_nmin, std_makes, std_room, std_zeros, std_nilq, std_notq, std_eqi, std_eqn, std_eqb, std_eqs, std_eqv, std_cat, std_lst, std_rset, std_rcopy, std_shift, std_eqr, std_strOf, std_bytesOf, std_isB, std_zOf, zOf_int, std_isI, isI_int, std_getL, std_nmul, std_sOf, sOf_str, std_isS, isS_str, std_fadd, std_fsub, std_fav, std_fsv, std_feq, std_fne, std_flt, std_fle, std_fgt, std_fge, std_fOf, std_fTo, std_fTv] at *
       first
         | (have hl := of_decide_eq_true hc
            first | (rw [(nx_no hl).1]; done) | (rw [(nx_no hl).2]; done))
         | trace_state)
    | skip
  have hq : 0 ≤ tk a b := by
    subst hA
    simp only [std_add, std_sub, std_mul, std_quo, std_rem, std_band, std_bor, std_bxor, std_shl, std_shr, std_eq, std_ne, std_lt, std_le, std_conv, std_not, std_beq, std_bne, std_ite, std_want, std_and2, std_sadd, std_seq, std_sne, std_slt, std_sle, std_sgt, std_sge, std_slen, std_sget, std_scut, std_ofNat, std_toNat, std_nsub, std_nadd, std_lenOf, std_nz, std_nneg, std_inb, std_upto, std_slt63, std_grow, std_imp, std_impN, std_tr, std_tb, std_ti, std_ts, std_tn, std_tp, std_nmin, std_makes, std_room, std_zeros, std_nilq, std_notq, std_eqi, std_eqn, std_eqb, std_eqs, std_eqv, std_cat, std_lst, std_rset, std_rcopy, std_shift, std_eqr, std_strOf, std_bytesOf, std_isB, std_zOf, zOf_int, std_isI, isI_int, std_getL, std_nmul, std_sOf, sOf_str, std_isS, isS_str, std_fadd, std_fsub, std_fav, std_fsv, std_feq, std_fne, std_flt, std_fle, std_fgt, std_fge, std_fOf, std_fTo, std_fTv] at hc
    have := of_decide_eq_false hc
    omega
  obtain ⟨hr, n1, n2, n3⟩ := nx_yes h0.1 hq
  have hT : nxT t a b = if t > 18446744073709551615 - nxW t a b then 0 else t + nxW t a b := if_pos hr
  have hE : nxE t a b = if t > 18446744073709551615 - nxW t a b then 10 else 0 := if_pos hr
  obtain ⟨w, hw⟩ : ∃ w, w = nxW t a b := ⟨_, rfl⟩
  obtain ⟨x, hx⟩ : ∃ x, x = tk a b := ⟨_, rfl⟩
  have hx2 : tk a b = x := hx.symm
  rw [← hw] at n1 n2 n3 hT hE
  rw [hx2] at n3 b1 hq
  clear hc hw hx hr
  refine ⟨⟨{i : Int × Int // i.1 = t + i.2 ∧ i.2 < w ∧ i.1 < 18446744073709551616 ∧ 0 ≤ i.2}, fun q i => [(0, .int .u64 i.1.1), (7, .int .i64 i.1.2)], fun q i => [], fun i => (4096 - i.1.2).toNat, true⟩, ⟨⟨(t, 0), by simp, by simp; omega, h0.2, by simp⟩, ?_⟩, ?_⟩
  · cbv
    subst hA
    simp [std_add, std_sub, std_mul, std_quo, std_rem, std_band, std_bor, std_bxor, std_shl, std_shr, std_eq, std_ne, std_lt, std_le, std_conv, std_not, std_beq, std_bne, std_ite, std_want, std_and2, std_sadd, std_seq, std_sne, std_slt, std_sle, std_sgt, std_sge, std_slen, std_sget, std_scut, std_ofNat, std_toNat, std_nsub, std_nadd, std_lenOf, std_nz, std_nneg, std_inb, std_upto, std_slt63, std_grow, std_imp, std_impN, std_tr, std_tb, std_ti, std_ts, std_tn, std_tp, std_nmin, std_makes, std_room, std_zeros, std_nilq, std_notq, std_eqi, std_eqn, std_eqb, std_eqs, std_eqv, std_cat, std_lst, std_rset, std_rcopy, std_shift, std_eqr, std_strOf, std_bytesOf, std_isB, std_zOf, zOf_int, std_isI, isI_int, std_getL, std_nmul, std_sOf, sOf_str, std_isS, isS_str, std_fadd, std_fsub, std_fav, std_fsv, std_feq, std_fne, std_flt, std_fle, std_fgt, std_fge, std_fOf, std_fTo, std_fTv]
  · intro z
    obtain ⟨⟨m, i⟩, hi0⟩ := z
    have hm := hi0.1
    have hi := hi0.2.1
    have hi2 := hi0.2.2.1
    have hi9 := hi0.2.2.2
    simp only at hm hi hi2 hi9
    have e0 : IntKind.u64.wrap x = x := wU (by omega)
    cbv
    repeat' (first | with_reducible exact True.intro | with_reducible exact dr_ok hA (by kernel_rfl) | with_reducible refine And.intro ?_ ?_ | (intro hc; cbv))
    all_goals first
      | (fail_if_success (refine Exists.intro ?_ ?_)
         subst hA
         simp only [std_add, std_sub, std_mul, std_quo, std_rem, std_band, std_bor, std_bxor, std_shl, std_shr, std_eq, std_ne, std_lt, std_le, std_conv, std_not, std_beq, std_bne, std_ite, std_want, std_and2, std_sadd, std_seq, std_sne, std_slt, std_sle, std_sgt, std_sge, std_slen, std_sget, std_scut, std_ofNat, std_toNat, std_nsub, std_nadd, std_lenOf, std_nz, std_nneg, std_inb, std_upto, std_slt63, std_grow, std_imp, std_impN, std_tr, std_tb, std_ti, std_ts, std_tn, std_tp, std_nmin, std_makes, std_room, std_zeros, std_nilq, std_notq, std_eqi, std_eqn, std_eqb, std_eqs, std_eqv, std_cat, std_lst, std_rset, std_rcopy, std_shift, std_eqr, std_strOf, std_bytesOf, std_isB, std_zOf, zOf_int, std_isI, isI_int, std_getL, std_nmul, std_sOf, sOf_str, std_isS, isS_str, std_fadd, std_fsub, std_fav, std_fsv, std_feq, std_fne, std_flt, std_fle, std_fgt, std_fge, std_fOf, std_fTo, std_fTv, hx2, e0] at *
         first
           | decide
           | (have h1 : decide (i < 4096) = false := hc
              have h1 := of_decide_eq_false h1
              omega)
           | (have h1 : (m == 18446744073709551615) = true := hc
              simp at h1
              first
                | (rw [hT, if_pos (by omega)]; done)
                | (rw [hE, if_pos (by omega)]; done))
           | (have h1 : (m == 18446744073709551615) = false := by assumption
              simp at h1
              have e1 : IntKind.u64.wrap (m + 1) = m + 1 := wU (by omega)
              have e2 : (m + 1).tmod 4096 = (m + 1) % 4096 := Int.tmod_eq_emod_of_nonneg (by omega)
              rw [e1, e2] at hc
              simp at hc
              have hwi : w = i + 1 := by omega
              first
                | (rw [hT, if_neg (by omega), e1]; omega)
                | (rw [hE, if_neg (by omega)]; done))
           | trace_state)
      | (obtain ⟨i', hi'⟩ : ∃ i', i' = i + 1 := ⟨_, rfl⟩
         have hn : ¬m = 18446744073709551615 ∧ ¬(m + 1) % 4096 = x := by
           subst hA
           simp only [std_add, std_sub, std_mul, std_quo, std_rem, std_band, std_bor, std_bxor, std_shl, std_shr, std_eq, std_ne, std_lt, std_le, std_conv, std_not, std_beq, std_bne, std_ite, std_want, std_and2, std_sadd, std_seq, std_sne, std_slt, std_sle, std_sgt, std_sge, std_slen, std_sget, std_scut, std_ofNat, std_toNat, std_nsub, std_nadd, std_lenOf, std_nz, std_nneg, std_inb, std_upto, std_slt63, std_grow, std_imp, std_impN, std_tr, std_tb, std_ti, std_ts, std_tn, std_tp, std_nmin, std_makes, std_room, std_zeros, std_nilq, std_notq, std_eqi, std_eqn, std_eqb, std_eqs, std_eqv, std_cat, std_lst, std_rset, std_rcopy, std_shift, std_eqr, std_strOf, std_bytesOf, std_isB, std_zOf, zOf_int, std_isI, isI_int, std_getL, std_nmul, std_sOf, sOf_str, std_isS, isS_str, std_fadd, std_fsub, std_fav, std_fsv, std_feq, std_fne, std_flt, std_fle, std_fgt, std_fge, std_fOf, std_fTo, std_fTv, hx2, e0] at *
           have h1 : (m == 18446744073709551615) = false := by assumption
           simp at h1
           have e1 : IntKind.u64.wrap (m + 1) = m + 1 := wU (by omega)
           have e2 : (m + 1).tmod 4096 = (m + 1) % 4096 := Int.tmod_eq_emod_of_nonneg (by omega)
           rw [e1, e2] at hc
           simp at hc
           exact ⟨h1, hc⟩
         have hi3 : i' < w := by
           rcases Int.lt_or_le i' w with h | h
           · exact h
           · exfalso
             have hwi : w = i + 1 := by omega
             rw [hwi] at n3
             exact hn.2 (by rw [← n3]; congr 1; omega)
         obtain ⟨m', hm'⟩ : ∃ m', m' = m + 1 := ⟨_, rfl⟩
         have hi4 : m' < 18446744073709551616 := by omega
         have hi5 : m' = t + i' := by omega
         have hi8 : 0 ≤ i' := by omega
         have e3 : IntKind.i64.wrap (i + 1) = i' := (w64 (by omega)).trans (by omega)
         have e1 : IntKind.u64.wrap (m + 1) = m' := (wU (by omega)).trans (by omega)
         refine ⟨⟨(m', i'), hi5, hi3, hi4, hi8⟩, ?_, show (4096 - i').toNat < (4096 - i).toNat by omega⟩
         cbv
         subst hA
         simp [std_add, std_sub, std_mul, std_quo, std_rem, std_band, std_bor, std_bxor, std_shl, std_shr, std_eq, std_ne, std_lt, std_le, std_conv, std_not, std_beq, std_bne, std_ite, std_want, std_and2, std_sadd, std_seq, std_sne, std_slt, std_sle, std_sgt, std_sge, std_slen, std_sget, std_scut, std_ofNat, std_toNat, std_nsub, std_nadd, std_lenOf, std_nz, std_nneg, std_inb, std_upto, std_slt63, std_grow, std_imp, std_impN, std_tr, std_tb, std_ti, std_ts, std_tn, std_tp, std_nmin, std_makes, std_room, std_zeros, std_nilq, std_notq, std_eqi, std_eqn, std_eqb, std_eqs, std_eqv, std_cat, std_lst, std_rset, std_rcopy, std_shift, std_eqr, std_strOf, std_bytesOf, std_isB, std_zOf, zOf_int, std_isI, isI_int, std_getL, std_nmul, std_sOf, sOf_str, std_isS, isS_str, std_fadd, std_fsub, std_fav, std_fsv, std_feq, std_fne, std_flt, std_fle, std_fgt, std_fge, std_fOf, std_fTo, std_fTv]
         first | exact ⟨e1, e3⟩ | trace_state)
      | trace_state
noncomputable def c_rNext : Ct := fun A args => match args with
  | [.int .u64 t, .cpx a b] => some (some (A.tp fun _ => 0 ≤ t ∧ t < 18446744073709551616), .tup [.int .u64 (A.ti fun _ => nxT t a b), .int .i64 (A.ti fun _ => nxE t a b)])
  | _ => none
noncomputable def gw4 : Ar → Pu := addC 18 c_rWay (addC 8 c_rNext (gw3))
theorem gw4_ok : PuOk Try.prog gl0 (gw4 std) := by
  refine addC_ok (addC_ok (gw3_ok) ⟨_, Try.func8, rfl, by decide⟩ ?_) ⟨_, Try.func18, rfl, by decide⟩ ?_
  · intro args p r h hp
    unfold c_rNext at h
    split at h <;> cases h
    exact good_rNext _ _ _ hp
  · intro args p r h hp
    unfold c_rWay at h
    split at h <;> cases h
    exact good_rWay _ _ _ _
end Go.Vd

set_option linter.unusedVariables false
set_option linter.unusedSimpArgs false
set_option maxRecDepth 100000
set_option maxHeartbeats 4000000
namespace Go.Vd
open Go.Proofs Ieee
attribute [local irreducible] vc
theorem good_hHands (a b : Nat) : GoodP Try.prog gl0 6 [.flt a, .flt b] (.cpx a b) := by
  refine fn_sound' (T := seatT) (G := noC) (X := noX) seatT_ok noC_ok noX_ok noI_ok mixed Try.func6 (.one) (fun A => [.flt a, .flt b]) (fun A => .cpx a b) fun A hA => ?_
  cbv
  repeat' (first | with_reducible exact True.intro | with_reducible exact dr_ok hA (by kernel_rfl) | with_reducible refine And.intro ?_ ?_ | (intro hc; cbv))
  all_goals (subst hA; simp only [std_add, std_sub, std_mul, std_quo, std_rem, std_band, std_bor, std_bxor, std_shl, std_shr, std_eq, std_ne, std_lt, std_le, std_conv, std_not, std_beq, std_bne, std_ite, std_want, std_and2, std_sadd, std_seq, std_sne, std_slt, std_sle, std_sgt, std_sge, std_slen, std_sget, std_scut, std_ofNat, std_toNat, std_nsub, std_nadd, std_lenOf, std_nz, std_nneg, std_inb, std_upto, std_slt63, std_grow, std_imp, std_impN, std_tr, std_tb, std_ti, std_ts, std_tn, std_tp, std_nmin, std_makes, std_room, std_zeros, std_nilq, std_notq, std_eqi, std_eqn, std_eqb, std_eqs, std_eqv, std_cat, std_lst, std_rset, std_rcopy, std_shift, std_eqr, std_strOf, std_bytesOf, std_isB, std_zOf, zOf_int, std_isI, isI_int, std_getL, std_nmul, std_sOf, sOf_str, std_isS, isS_str, std_fadd, std_fsub, std_fav, std_fsv, std_feq, std_fne, std_flt, std_fle, std_fgt, std_fge, std_fOf, std_fTo, std_fTv] at *)
noncomputable def c_hHands : Ct := fun A args => match args with
  | [.flt a, .flt b] => some (none, .cpx a b)
  | _ => none
noncomputable def gw5 : Ar → Pu := addC 6 c_hHands (gw4)
theorem gw5_ok : PuOk Try.prog gl0 (gw5 std) := by
  refine addC_ok (gw4_ok) ⟨_, Try.func6, rfl, by decide⟩ ?_
  · intro args p r h hp
    unfold c_hHands at h
    split at h <;> cases h
    exact good_hHands _ _
theorem eq00 : ((double.order 0 0 == some .eq) && (double.order 0 0 == some .eq)) = true := by
  rw [eqW_is isZ_zero isZ_zero]
  simp
theorem he_of {t : Int} (h0 : 0 ≤ t) : ((double.order (ofR t) (ofR (t % 4096)) == some .eq) && (double.order (ofI t) (ofI (t % 4096)) == some .eq)) = true :=
  (isH_eq (isH_tick h0) (isH_tick (t := t % 4096) (by omega))).trans (decide_eq_true (by omega))
theorem he_add (a b c d : Nat) : ((double.order (adW a b c d).1 (rdW a b c d).1 == some .eq) && (double.order (adW a b c d).2 (rdW a b c d).2 == some .eq)) = true := by
  by_cases h : tk a b < 0 ∨ tk c d < 0
  · have e1 : rdW a b c d = (0, 0) := if_pos h
    have e2 : adW a b c d = (0, 0) := by
      unfold adW
      rw [if_neg]
      rw [tk_rt, tk_rt]
      simp
      omega
    rw [e1, e2]
    exact eq00
  · have e1 : rdW a b c d = (ofR ((tk a b + tk c d) % 4096), ofI ((tk a b + tk c d) % 4096)) := if_neg h
    have h1 := tk_isH (a := a) (b := b) (by omega)
    have h2 := tk_isH (a := c) (b := d) (by omega)
    rw [e1]
    exact (isH_eq (isH_add h1 h2) (isH_tick (t := (tk a b + tk c d) % 4096) (by omega))).trans (decide_eq_true (by omega))
theorem he_turn (a b : Nat) (n : Int) : ((double.order (adW a b (ofR (tnM n)) (ofI (tnM n))).1 (rtW a b n).1 == some .eq) && (double.order (adW a b (ofR (tnM n)) (ofI (tnM n))).2 (rtW a b n).2 == some .eq)) = true := by
  by_cases h : tk a b < 0
  · have e1 : rtW a b n = (0, 0) := if_pos h
    have e2 : adW a b (ofR (tnM n)) (ofI (tnM n)) = (0, 0) := by
      unfold adW
      rw [if_neg]
      rw [tk_rt]
      simp
      omega
    rw [e1, e2]
    exact eq00
  · have e1 : rtW a b n = (ofR ((tk a b + n) % 4096), ofI ((tk a b + n) % 4096)) := if_neg h
    have h1 := tk_isH (a := a) (b := b) (by omega)
    rw [e1]
    exact (isH_eq (isH_turn h1 n) (isH_tick (t := (tk a b + n) % 4096) (by omega))).trans (decide_eq_true (by omega))
theorem good_HandRight (a b c d : Nat) (t n : Int) (ht : 0 ≤ t ∧ t < 18446744073709551616) (hn : -9223372036854775808 ≤ n ∧ n < 9223372036854775808) : GoodP Try.prog gl0 3 [.flt a, .flt b, .flt c, .flt d, .int .u64 t, .int .i64 n] (.bool true) := by
  refine fn_sound' (T := seatT) (G := gw5) (X := noX) seatT_ok gw5_ok noX_ok noI_ok mixed Try.func3 (.one) (fun A => [.flt a, .flt b, .flt c, .flt d, .int .u64 t, .int .i64 n]) (fun A => .bool true) fun A hA => ?_
  have hn2 : -9223372036854775808 ≤ n ∧ n ≤ 9223372036854775807 := ⟨hn.1, by omega⟩
  have k1 := he_of ht.1
  have k2 := he_add a b c d
  have k3 := he_turn a b n
  have k4 := tk_rt a b
  cbv
  repeat' (first | with_reducible exact True.intro | with_reducible exact dr_ok hA (by kernel_rfl) | with_reducible refine And.intro ?_ ?_ | (intro hc; cbv))
  all_goals (subst hA; try simp only [std_add, std_sub, std_mul, std_quo, std_rem, std_band, std_bor, std_bxor, std_shl, std_shr, std_eq, std_ne, std_lt, std_le, std_conv, std_not, std_beq, std_bne, std_ite, std_want, std_and2, std_sadd, std_seq, std_sne, std_slt, std_sle, std_sgt, std_sge, std_slen, std_sget, std_scut, std_ofNat, std_toNat, std_nsub, std_nadd, std_lenOf, std_nz, std_nneg, std_inb, std_upto, std_slt63, std_grow, std_imp, std_impN, std_tr, std_tb, std_ti, std_ts, std_tn, std_tp, std_nmin, std_makes, std_room, std_zeros, std_nilq, std_notq, std_eqi, std_eqn, std_eqb, std_eqs, std_eqv, std_cat, std_lst, std_rset, std_rcopy, std_shift, std_eqr, std_strOf, std_bytesOf, std_isB, std_zOf, zOf_int, std_isI, isI_int, std_getL, std_nmul, std_sOf, sOf_str, std_isS, isS_str, std_fadd, std_fsub, std_fav, std_fsv, std_feq, std_fne, std_flt, std_fle, std_fgt, std_fge, std_fOf, std_fTo, std_fTv, k1, k2, k3, k4] at *)
  all_goals first
    | exact id
    | (intro h; rw [h]; rfl)
    | (intro h; exact ⟨h, h⟩)
    | (exfalso; revert hc; decide)
    | exact ht
    | (intro h; exact ⟨h, ht⟩)
    | (intro h; exact ⟨⟨h, h⟩, ht⟩)
    | (intro h; exact ⟨⟨h, ht⟩, h, ht⟩)
    | (intro h; exact ⟨h, hn2⟩)
    | (intro h; exact ⟨⟨h, h⟩, hn2⟩)
    | (simp; done)
    | trace_state
end Go.Vd

set_option linter.unusedVariables false
namespace Go.Vd
open Go.Proofs Go.ChangeShapes Go.WideShapes Go.ChangeAt Go.RowKit Go.Joins Go.Deep Go.WideElems
theorem u16_wf {z : Int} (h : (Lit.int .u16 z).wf = true) : 0 ≤ z ∧ z < 65536 := by
  simp [Lit.wf] at h
  have e1 : IntKind.u16.min = 0 := by decide
  have e2 : IntKind.u16.max = 65535 := by decide
  rw [e1, e2] at h
  exact ⟨h.1, by omega⟩
section
variable {H : Type} {enc : TypeId × Value → H} {P : Program}
theorem open_eB_trod {W : World} {t e : TypeId} {v : Value} {fuel : Nat} {x : DataW H × List MemPlace} (ht : P.underlying t = some (.slice e)) (he : P.underlying e = some (.int .u8)) (hc : P.cellsOf e = 1)
    (h : DataW.trod enc P W 0 (fun _ => true) true fuel t [v] = some x) : ∃ L : List UInt8, L.length ≤ maxLen ∧ one v ∧ RelC W (fun _ => False) v (rowS eB 0 1 std fun _ => L) := by
  rcases open_ints ht he hc h with ⟨hcs, hx⟩ | ⟨a, len, cap, zs, hcs, _, hl, hm, hz, hx, hcell, hwz⟩
  · simp only [List.cons.injEq, and_true] at hcs
    subst hcs
    exact ⟨[], Nat.zero_le _, rfl, .slc none 0 0 1 _ (fun _ _ => undef) (Nat.le_refl _) (fun i j hi => absurd hi (by omega)) (fun h => absurd h (by omega)) (fun i j hi => absurd hi (by omega))⟩
  · simp only [List.cons.injEq, and_true] at hcs
    subst hcs
    simp only [if_true] at hz
    have hlen : ((zs.take len).map fun n => UInt8.ofNat n.toNat).length = len := by simp; omega
    refine ⟨(zs.take len).map fun n => UInt8.ofNat n.toNat, by rw [hlen]; omega, rfl, ?_⟩
    show RelC W (fun _ => False) _ (.slc ((zs.take len).map fun n => UInt8.ofNat n.toNat).length 1 (rowF eB 0 std fun _ => (zs.take len).map fun n => UInt8.ofNat n.toNat))
    rw [hlen]
    refine .slc (some a) len cap 1 _ (fun i _ => .int .u8 (zs.getD i 0)) hl (fun i j hi hj => ⟨a, rfl, ?_, rfl, fun h => h⟩) (fun h => ⟨a, rfl, ?_⟩) (fun i j hi hj => ?_)
    · rw [show i * 1 + j = i by omega]
      exact hcell i (by omega)
    · simpa [Addr.add] using World.cell?_spot (hcell 0 (by omega))
    · obtain rfl : j = 0 := by omega
      have hw := u8_wf (hwz (zs.getD i 0) (by rw [List.getD_eq_getElem?_getD, List.getElem?_eq_getElem (by omega)]; simp))
      have : (zs.getD i 0) = (((zs.take len).map fun n => UInt8.ofNat n.toNat).getD i 0).toNat := by
        rw [List.getD_eq_getElem?_getD, List.getD_eq_getElem?_getD, List.getElem?_map, List.getElem?_take_of_lt hi]
        rw [List.getD_eq_getElem?_getD] at hw
        rw [List.getElem?_eq_getElem (by omega)] at hw ⊢
        simp at hw ⊢
        omega
      show RelC W _ _ (SV.int .u8 _)
      rw [this]
      exact .int _ _
theorem array6 {α : Type} {cs : Array α} (h : cs.size = 6) : ∃ c0 c1 c2 c3 c4 c5, cs = #[c0, c1, c2, c3, c4, c5] := by
  obtain ⟨l⟩ := cs
  match l, h with
  | [c0, c1, c2, c3, c4, c5], _ => exact ⟨c0, c1, c2, c3, c4, c5, rfl⟩
theorem open_agg6 {W : World} {b0 base : Nat} {spare : Nat → Bool} {held : Bool} {r : Reach} {t : TypeId} {f0 f1 f2 f3 f4 f5 : Field} {v : Value} {d : DataW H} {p : List MemPlace} (hs : P.underlying t = some (.struct #[f0, f1, f2, f3, f4, f5])) (hone : oneCellFields P #[f0, f1, f2, f3, f4, f5] = true) (hC : P.cellsOf t = 6)
    (hv : Value.okWide P W r b0 t v) (h : DataW.Trod enc P W base spare held t v d p) :
    ∃ (v0 v1 v2 v3 v4 v5 : Value) (y0 y1 y2 y3 y4 y5 : DataW H × List MemPlace) (n : Nat), v = .agg #[v0, v1, v2, v3, v4, v5] ∧ d = .agg [y0.1, y1.1, y2.1, y3.1, y4.1, y5.1] ∧ p = y0.2 ++ (y1.2 ++ (y2.2 ++ (y3.2 ++ (y4.2 ++ y5.2)))) ∧
      DataW.trod enc P W base spare held n f0.type [v0] = some y0 ∧ DataW.trod enc P W base spare held n f1.type [v1] = some y1 ∧ DataW.trod enc P W base spare held n f2.type [v2] = some y2 ∧ DataW.trod enc P W base spare held n f3.type [v3] = some y3 ∧ DataW.trod enc P W base spare held n f4.type [v4] = some y4 ∧ DataW.trod enc P W base spare held n f5.type [v5] = some y5 := by
  obtain ⟨cs, rfl, hsz⟩ := okWide_struct hs hv
  obtain ⟨c0, c1, c2, c3, c4, c5, rfl⟩ := array6 (hsz.trans hC)
  obtain ⟨fuel, hf⟩ := h
  obtain ⟨xs, n, _, hx, hl, hlen, hf⟩ := DataW.trod_struct hs hf
  match xs, hlen with
  | [y0, y1, y2, y3, y4, y5], _ =>
    obtain ⟨o0, k0⟩ := hone_of hone 0 f0 rfl
    have h0 := hf 0 f0 rfl
    obtain ⟨o1, k1⟩ := hone_of hone 1 f1 rfl
    have h1 := hf 1 f1 rfl
    obtain ⟨o2, k2⟩ := hone_of hone 2 f2 rfl
    have h2 := hf 2 f2 rfl
    obtain ⟨o3, k3⟩ := hone_of hone 3 f3 rfl
    have h3 := hf 3 f3 rfl
    obtain ⟨o4, k4⟩ := hone_of hone 4 f4 rfl
    have h4 := hf 4 f4 rfl
    obtain ⟨o5, k5⟩ := hone_of hone 5 f5 rfl
    have h5 := hf 5 f5 rfl
    simp only [Prod.mk.injEq] at hx
    exact ⟨c0, c1, c2, c3, c4, c5, y0, y1, y2, y3, y4, y5, n, rfl, by simpa using hx.1, by simpa using hx.2, by simpa [Value.cells, o0, k0] using h0, by simpa [Value.cells, o1, k1] using h1, by simpa [Value.cells, o2, k2] using h2, by simpa [Value.cells, o3, k3] using h3, by simpa [Value.cells, o4, k4] using h4, by simpa [Value.cells, o5, k5] using h5⟩
theorem rel_agg6 {w : World} {ρ : Nat → Value} {rw N : Nat → Prop} {u0 u1 u2 u3 u4 u5 : Value} {s0 s1 s2 s3 s4 s5 : SV} (h0 : one u0) (h1 : one u1) (h2 : one u2) (h3 : one u3) (h4 : one u4) (h5 : one u5)
    (r0 : Rel w ρ rw N u0 s0) (r1 : Rel w ρ rw N u1 s1) (r2 : Rel w ρ rw N u2 s2) (r3 : Rel w ρ rw N u3 s3) (r4 : Rel w ρ rw N u4 s4) (r5 : Rel w ρ rw N u5 s5) : Rel w ρ rw N (.agg #[u0, u1, u2, u3, u4, u5]) (.agg [s0, s1, s2, s3, s4, s5]) := by
  refine .agg _ _ rfl ?_ ?_
  · intro v hv
    simp at hv
    rcases hv with rfl | rfl | rfl | rfl | rfl | rfl <;> assumption
  · intro i v s hv hs
    match i with
    | 0 => simp at hv hs; subst hv hs; exact r0
    | 1 => simp at hv hs; subst hv hs; exact r1
    | 2 => simp at hv hs; subst hv hs; exact r2
    | 3 => simp at hv hs; subst hv hs; exact r3
    | 4 => simp at hv hs; subst hv hs; exact r4
    | 5 => simp at hv hs; subst hv hs; exact r5
    | n + 6 => simp at hv
theorem u32_wf {z : Int} (h : (Lit.int .u32 z).wf = true) : 0 ≤ z ∧ z < 4294967296 := by
  simp [Lit.wf] at h
  have e1 : IntKind.u32.min = 0 := by decide
  have e2 : IntKind.u32.max = 4294967295 := by decide
  rw [e1, e2] at h
  exact ⟨h.1, by omega⟩
end
end Go.Vd

set_option linter.unusedVariables false
namespace Go.Vd
theorem u64_wf {z : Int} (h : (Lit.int .u64 z).wf = true) : 0 ≤ z ∧ z < 18446744073709551616 := by
  simp [Lit.wf] at h
  have e1 : IntKind.u64.min = 0 := by decide
  have e2 : IntKind.u64.max = 18446744073709551615 := by decide
  rw [e1, e2] at h
  omega
theorem i64_wf {z : Int} (h : (Lit.int .i64 z).wf = true) : -9223372036854775808 ≤ z ∧ z < 9223372036854775808 := by
  simp [Lit.wf] at h
  have e1 : IntKind.i64.min = -9223372036854775808 := by decide
  have e2 : IntKind.i64.max = 9223372036854775807 := by decide
  (try rw [e1] at h)
  (try rw [e2] at h)
  omega
theorem i16_wf {z : Int} (h : (Lit.int .i16 z).wf = true) : -32768 ≤ z ∧ z < 32768 := by
  simp [Lit.wf] at h
  have e1 : IntKind.i16.min = -32768 := by decide
  have e2 : IntKind.i16.max = 32767 := by decide
  (try rw [e1] at h)
  (try rw [e2] at h)
  omega
section
open Go.Proofs Go.ChangeShapes Go.WideShapes Go.ChangeAt Go.RowKit Go.Joins
variable {H : Type} {enc : TypeId × Value → H} {P : Program} {w : World} {base : Nat} {spare : Nat → Bool} {held : Bool}
theorem trodAll_five {t0 t1 t2 t3 t4 : TypeId} {args : Array Value} {ds : List (DataW H)} {ps : List MemPlace} (h : DataW.TrodAll enc P w base spare held [t0, t1, t2, t3, t4] args.toList ds ps) :
    ∃ v0 v1 v2 v3 v4 d0 d1 d2 d3 d4 p0 p1 p2 p3 p4, args = #[v0, v1, v2, v3, v4] ∧ ds = [d0, d1, d2, d3, d4] ∧ ps = p0 ++ p1 ++ p2 ++ p3 ++ p4 ∧ DataW.Trod enc P w base spare held t0 v0 d0 p0 ∧ DataW.Trod enc P w base spare held t1 v1 d1 p1 ∧ DataW.Trod enc P w base spare held t2 v2 d2 p2 ∧ DataW.Trod enc P w base spare held t3 v3 d3 p3 ∧ DataW.Trod enc P w base spare held t4 v4 d4 p4 := by
  obtain ⟨v0, vs0, d0, ds0, p0, q0, hargs, rfl, rfl, hd0, r0⟩ := trodAll_cons h
  obtain ⟨v1, vs1, d1, ds1, p1, q1, rfl, rfl, rfl, hd1, r1⟩ := trodAll_cons r0
  obtain ⟨v2, vs2, d2, ds2, p2, q2, rfl, rfl, rfl, hd2, r2⟩ := trodAll_cons r1
  obtain ⟨v3, vs3, d3, ds3, p3, q3, rfl, rfl, rfl, hd3, r3⟩ := trodAll_cons r2
  obtain ⟨v4, vs4, d4, ds4, p4, q4, rfl, rfl, rfl, hd4, r4⟩ := trodAll_cons r3
  obtain ⟨rfl, rfl, rfl⟩ := trodAll_nil r4
  exact ⟨v0, v1, v2, v3, v4, d0, d1, d2, d3, d4, p0, p1, p2, p3, p4, by cases args; simp_all, rfl, by simp, hd0, hd1, hd2, hd3, hd4⟩
end
end Go.Vd

set_option linter.unusedVariables false
namespace Go.Vd
section
open Go.Proofs Go.ChangeShapes Go.WideShapes Go.ChangeAt Go.RowKit Go.Joins
variable {H : Type} {enc : TypeId × Value → H} {P : Program} {w : World} {base : Nat} {spare : Nat → Bool} {held : Bool}
theorem trodAll_six {t0 t1 t2 t3 t4 t5 : TypeId} {args : Array Value} {ds : List (DataW H)} {ps : List MemPlace} (h : DataW.TrodAll enc P w base spare held [t0, t1, t2, t3, t4, t5] args.toList ds ps) :
    ∃ v0 v1 v2 v3 v4 v5 d0 d1 d2 d3 d4 d5 p0 p1 p2 p3 p4 p5, args = #[v0, v1, v2, v3, v4, v5] ∧ ds = [d0, d1, d2, d3, d4, d5] ∧ ps = p0 ++ p1 ++ p2 ++ p3 ++ p4 ++ p5 ∧ DataW.Trod enc P w base spare held t0 v0 d0 p0 ∧ DataW.Trod enc P w base spare held t1 v1 d1 p1 ∧ DataW.Trod enc P w base spare held t2 v2 d2 p2 ∧ DataW.Trod enc P w base spare held t3 v3 d3 p3 ∧ DataW.Trod enc P w base spare held t4 v4 d4 p4 ∧ DataW.Trod enc P w base spare held t5 v5 d5 p5 := by
  obtain ⟨v0, vs0, d0, ds0, p0, q0, hargs, rfl, rfl, hd0, r0⟩ := trodAll_cons h
  obtain ⟨v1, vs1, d1, ds1, p1, q1, rfl, rfl, rfl, hd1, r1⟩ := trodAll_cons r0
  obtain ⟨v2, vs2, d2, ds2, p2, q2, rfl, rfl, rfl, hd2, r2⟩ := trodAll_cons r1
  obtain ⟨v3, vs3, d3, ds3, p3, q3, rfl, rfl, rfl, hd3, r3⟩ := trodAll_cons r2
  obtain ⟨v4, vs4, d4, ds4, p4, q4, rfl, rfl, rfl, hd4, r4⟩ := trodAll_cons r3
  obtain ⟨v5, vs5, d5, ds5, p5, q5, rfl, rfl, rfl, hd5, r5⟩ := trodAll_cons r4
  obtain ⟨rfl, rfl, rfl⟩ := trodAll_nil r5
  exact ⟨v0, v1, v2, v3, v4, v5, d0, d1, d2, d3, d4, d5, p0, p1, p2, p3, p4, p5, by cases args; simp_all, rfl, by simp, hd0, hd1, hd2, hd3, hd4, hd5⟩
end
end Go.Vd

