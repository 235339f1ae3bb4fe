/- The fields' functions: the reference's, but Read. -/
import Derived.Test.YtdipfibiajkedaaDoorVdH4
set_option linter.unusedVariables false
set_option linter.unusedSimpArgs false
set_option maxRecDepth 100000
set_option maxHeartbeats 4000000
namespace Go.Vd
open Go.Proofs
theorem good_rRight (n : Int) (s : List UInt8) (hs : s.length ≤ 1000000) : GoodP Tryd.prog gl0 25 [.int .i64 n, .str s] (.bool (std.tb fun _ => rr n s)) := by
  refine fn_sound' (T := seatT) (G := gh3) (X := noX) seatT_ok gh3_ok noX_ok noI_ok mixed Tryd.func25 (.one) (fun A => [.int .i64 n, .str s]) (fun A => .bool (A.tb fun _ => rr n s)) fun A hA => ?_
  cbv
  repeat' (first | with_reducible exact True.intro | with_reducible exact dr_ok hA (by kernel_rfl) | with_reducible refine And.intro ?_ ?_ | (intro hc; cbv))
  all_goals (subst hA; simp [std_add, std_sub, std_mul, std_quo, std_rem, std_band, std_bor, std_bxor, std_shl, std_shr, std_eq, std_ne, std_lt, std_le, std_conv, std_not, std_beq, std_bne, std_ite, std_want, std_and2, std_sadd, std_seq, std_sne, std_slt, std_sle, std_sgt, std_sge, std_slen, std_sget, std_scut, std_ofNat, std_toNat, std_nsub, std_nadd, std_lenOf, std_nz, std_nneg, std_inb, std_upto, std_slt63, std_grow, std_imp, std_impN, std_tr, std_tb, std_ti, std_ts, std_tn, std_tp, std_nmin, std_makes, std_room, std_zeros, std_nilq, std_notq, std_eqi, std_eqn, std_eqb, std_eqs, std_eqv, std_cat, std_lst, std_rset, std_rcopy, std_shift, std_eqr, std_strOf, std_bytesOf, std_isB, std_zOf, zOf_int, std_isI, isI_int, std_getL, std_nmul, std_sOf, sOf_str, std_isS, isS_str] at *)
  all_goals first
    | omega
    | exact hs
    | exact fun h1 h2 h3 => ⟨⟨⟨h1, h2⟩, h3⟩, fun h => ⟨⟨⟨h1, h2⟩, h3⟩, h⟩⟩
    | (rw [rr, if_pos ⟨hc.1.1.1, hc.1.1.2, hc.1.2, hc.2⟩]; done)
    | (rw [rr, if_neg (fun h => by rcases hc with ((hc | hc) | hc) | hc; (rw [hc] at h; exact Bool.noConfusion h.1); (exact h.2.1 hc); (have := h.2.2.1; omega); (have := h.2.2.2 hc.1; omega))]; done)
    | trace_state
theorem good_rAhead (k : Int) : GoodP Tryd.prog gl0 43 [.int .i64 k] (.int .i64 (std.ti fun _ => (fAh k : Int))) := by
  refine fn_sound' (T := seatT) (G := noC) (X := noX) seatT_ok noC_ok noX_ok noI_ok mixed Tryd.func43 (.one) (fun A => [.int .i64 k]) (fun A => .int .i64 (A.ti fun _ => (fAh k : Int))) fun A hA => ?_
  cbv
  repeat' (first | with_reducible exact True.intro | with_reducible exact dr_ok hA (by kernel_rfl) | with_reducible refine And.intro ?_ ?_ | (intro hc; cbv))
  all_goals (subst hA; simp [std_add, std_sub, std_mul, std_quo, std_rem, std_band, std_bor, std_bxor, std_shl, std_shr, std_eq, std_ne, std_lt, std_le, std_conv, std_not, std_beq, std_bne, std_ite, std_want, std_and2, std_sadd, std_seq, std_sne, std_slt, std_sle, std_sgt, std_sge, std_slen, std_sget, std_scut, std_ofNat, std_toNat, std_nsub, std_nadd, std_lenOf, std_nz, std_nneg, std_inb, std_upto, std_slt63, std_grow, std_imp, std_impN, std_tr, std_tb, std_ti, std_ts, std_tn, std_tp, std_nmin, std_makes, std_room, std_zeros, std_nilq, std_notq, std_eqi, std_eqn, std_eqb, std_eqs, std_eqv, std_cat, std_lst, std_rset, std_rcopy, std_shift, std_eqr, std_strOf, std_bytesOf, std_isB, std_zOf, zOf_int, std_isI, isI_int, std_getL, std_nmul, std_sOf, sOf_str, std_isS, isS_str] at *)
  all_goals first
    | (unfold fAh; rw [if_pos (by omega)]; rfl)
    | (unfold fAh; rw [if_neg (by omega), if_pos (by omega)]; rfl)
    | (unfold fAh; rw [if_neg (by omega), if_neg (by omega)]; rfl)
    | trace_state
theorem good_rMust (v n : Int) (hv : 0 ≤ v ∧ v < 18446744073709551616) (hn : -9223372036854775808 ≤ n ∧ n < 9223372036854775808) : GoodP Tryd.prog gl0 44 [.int .u64 v, .int .i64 n] (.str (std.ts fun _ => puS v n)) := by
  refine fn_sound' (T := seatT) (G := gh3) (X := noX) seatT_ok gh3_ok noX_ok noI_ok mixed Tryd.func44 (.one) (fun A => [.int .u64 v, .int .i64 n]) (fun A => .str (A.ts fun _ => puS v n)) fun A hA => ?_
  cbv
  repeat' (first | with_reducible exact True.intro | with_reducible exact dr_ok hA (by kernel_rfl) | with_reducible refine And.intro ?_ ?_ | (intro hc; cbv))
  all_goals (subst hA; simp [std_add, std_sub, std_mul, std_quo, std_rem, std_band, std_bor, std_bxor, std_shl, std_shr, std_eq, std_ne, std_lt, std_le, std_conv, std_not, std_beq, std_bne, std_ite, std_want, std_and2, std_sadd, std_seq, std_sne, std_slt, std_sle, std_sgt, std_sge, std_slen, std_sget, std_scut, std_ofNat, std_toNat, std_nsub, std_nadd, std_lenOf, std_nz, std_nneg, std_inb, std_upto, std_slt63, std_grow, std_imp, std_impN, std_tr, std_tb, std_ti, std_ts, std_tn, std_tp, std_nmin, std_makes, std_room, std_zeros, std_nilq, std_notq, std_eqi, std_eqn, std_eqb, std_eqs, std_eqv, std_cat, std_lst, std_rset, std_rcopy, std_shift, std_eqr, std_strOf, std_bytesOf, std_isB, std_zOf, zOf_int, std_isI, isI_int, std_getL, std_nmul, std_sOf, sOf_str, std_isS, isS_str] at *)
  all_goals first
    | exact ⟨hv, hn⟩
    | exact ⟨by omega, by omega⟩
    | omega
    | trace_state
noncomputable def c_rRight : Ct := fun A args => match args with
  | [.int .i64 n, .str r] => some (some (A.tp fun _ => r.length ≤ 1000000), .bool (A.tb fun _ => rr n r))
  | _ => none
noncomputable def c_rAhead : Ct := fun A args => match args with
  | [.int .i64 k] => some (none, .int .i64 (A.ti fun _ => (fAh k : Int)))
  | _ => none
noncomputable def c_rMust : Ct := fun A args => match args with
  | [.int .u64 v, .int .i64 n] => some (some (A.tp fun _ => (0 ≤ v ∧ v < 18446744073709551616) ∧ (-9223372036854775808 ≤ n ∧ n < 9223372036854775808)), .str (A.ts fun _ => puS v n))
  | _ => none
noncomputable def gh4 : Ar → Pu := addC 25 c_rRight (addC 43 c_rAhead (addC 44 c_rMust (gh3)))
theorem gh4_ok : PuOk Tryd.prog gl0 (gh4 std) := by
  refine addC_ok (addC_ok (addC_ok (gh3_ok) ⟨_, Tryd.func44, rfl, by decide⟩ ?_) ⟨_, Tryd.func43, rfl, by decide⟩ ?_) ⟨_, Tryd.func25, rfl, by decide⟩ ?_
  · intro args p r h hp
    unfold c_rMust at h
    split at h <;> cases h
    exact good_rMust _ _ hp.1 hp.2
  · intro args p r h hp
    unfold c_rAhead at h
    split at h <;> cases h
    exact good_rAhead _
  · intro args p r h hp
    unfold c_rRight at h
    split at h <;> cases h
    exact good_rRight _ _ hp
def fWx (n : Int) (L : List UInt8) : List UInt8 := if dKd n < 3 then L else puS (L.length : Int) (fAh (dKd n) : Int) ++ L
theorem fAh_0 {k : Int} : fAh k = 0 ↔ k < 3 := by
  unfold fAh
  split
  · simp; assumption
  · split <;> simp <;> omega
theorem fAh_le (k : Int) : fAh k ≤ 3 := by unfold fAh; split; omega; split <;> omega
theorem wx_pre {k : Int} {L : List UInt8} (hL : L.length ≤ 1000000) : ((0 : Int) ≤ (L.length : Int) ∧ (L.length : Int) < 18446744073709551616) ∧ ((fAh k : Nat) : Int) < 9223372036854775808 := by
  have := fAh_le k
  refine ⟨⟨?_, ?_⟩, ?_⟩ <;> omega
theorem good_rWrite (n : Int) (L : List UInt8) (hL : L.length ≤ 1000000) : GoodP Tryd.prog gl0 27 [.int .i64 n, .str L] (rowS eB 0 1 std fun _ => fWx n L) := by
  refine fn_sound' (T := seatT) (G := gh4) (X := noX) seatT_ok gh4_ok noX_ok noI_ok mixed Tryd.func27 (.none) (fun A => [.int .i64 n, .str L]) (fun A => rowS eB 0 1 A fun _ => fWx n L) fun A hA => ?_
  cbv
  repeat' (first | with_reducible exact True.intro | with_reducible exact dr_ok hA (by kernel_rfl) | with_reducible refine And.intro ?_ ?_ | (intro hc; cbv))
  all_goals (subst hA; simp [std_add, std_sub, std_mul, std_quo, std_rem, std_band, std_bor, std_bxor, std_shl, std_shr, std_eq, std_ne, std_lt, std_le, std_conv, std_not, std_beq, std_bne, std_ite, std_want, std_and2, std_sadd, std_seq, std_sne, std_slt, std_sle, std_sgt, std_sge, std_slen, std_sget, std_scut, std_ofNat, std_toNat, std_nsub, std_nadd, std_lenOf, std_nz, std_nneg, std_inb, std_upto, std_slt63, std_grow, std_imp, std_impN, std_tr, std_tb, std_ti, std_ts, std_tn, std_tp, std_nmin, std_makes, std_room, std_zeros, std_nilq, std_notq, std_eqi, std_eqn, std_eqb, std_eqs, std_eqv, std_cat, std_lst, std_rset, std_rcopy, std_shift, std_eqr, std_strOf, std_bytesOf, std_isB, std_zOf, zOf_int, std_isI, isI_int, std_getL, std_nmul, std_sOf, sOf_str, std_isS, isS_str] at *)
  all_goals (have hu : IntKind.u64.wrap (L.length : Int) = (L.length : Int) := wU64' (by omega))
  all_goals (have hl := fAh_le (dKd n))
  all_goals (have h19 := puS_len (L.length : Int) (fAh (dKd n) : Int))
  all_goals (have hx : (dKd n < 3 → fWx n L = L) ∧ (¬dKd n < 3 → fWx n L = puS (L.length : Int) (fAh (dKd n) : Int) ++ L) := ⟨fun h => if_pos h, fun h => if_neg h⟩)
  all_goals rw [← fAh_0] at hx
  all_goals (try rw [hu])
  all_goals first
    | (rw [hx.1 hc]; exact (row_bytes L).eqr)
    | (rw [hx.1 hc]; done)
    | (rw [hx.2 hc]; exact (row_bytes _).eqr' (by simp))
    | (rw [hx.2 hc, List.length_append]; done)
    | exact Nat.le_trans (Nat.add_le_add (puS_len _ _) hL) (by decide)
    | exact wx_pre hL
    | omega
    | trace_state
end Go.Vd
