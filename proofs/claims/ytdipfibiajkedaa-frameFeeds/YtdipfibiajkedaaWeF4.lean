/- The frame's functions: Feed. -/
import Derived.Test.YtdipfibiajkedaaWeF3
set_option linter.unusedVariables false
set_option linter.unusedSimpArgs false
set_option maxRecDepth 100000
set_option maxHeartbeats 1000000
namespace Go.Vd
open Go.Proofs
def aFeed (A : Ar) (L : List UInt8) (br : Bool) (B : List UInt8) : SV := .tup [sR A (fun _ => (fFeed L br B).rest) (A.tb fun _ => (fFeed L br B).br), rowS eBs [] 1 A fun _ => (fFeed L br B).told, .int .i64 (A.ti fun _ => (fFeed L br B).e)]
theorem two_reps (L B : List UInt8) : Reps eBs [] 1 2 (lstS [[.slc L.length 1 (rowF eB 0 std fun _ => L)], [.slc B.length 1 (rowF eB 0 std fun _ => B)]]) [L, B] :=
  Reps.lst (l := [_, _]) (L := [L, B]) ⟨cell_eBs (.lit L), cell_eBs (.lit B), trivial⟩
theorem two_row (L B : List UInt8) : isRow eBs [] 1 2 (lstS [[.slc L.length 1 (rowF eB 0 std fun _ => L)], [.slc B.length 1 (rowF eB 0 std fun _ => B)]]) := ⟨_, two_reps L B⟩
theorem two_lst (L B : List UInt8) : lstOf eBs [] 1 2 (lstS [[.slc L.length 1 (rowF eB 0 std fun _ => L)], [.slc B.length 1 (rowF eB 0 std fun _ => B)]]) = [L, B] := lstOf_eq inj_eBs (two_reps L B)
theorem cut_rep (R : List UInt8) (e : Nat) (h : 2 ≤ e) (h2 : e ≤ R.length) : Reps eB 0 1 (e - 2) (fun i j => rowF eB 0 std (fun _ => R) (2 + i) j) ((R.drop 2).take (e - 2)) :=
  (((Reps.lit (enc := eB) (d := 0) (k := 1) R).shift' 2 (by omega)).take (e - 2) (by omega))
theorem good_fFeed (br : Bool) (L B : List UInt8) (hL : L.length ≤ 20000) (hB : B.length ≤ 20000) : GoodP Try.prog gl0 10 [sR std (fun _ => L) br, rowS eB 0 1 std fun _ => B] (aFeed std L br B) := by
  refine fn_sound' (T := seatT) (G := gf3) (X := noX) seatT_ok gf3_ok noX_ok noI_ok mixed Try.func10 (.none) (fun A => [sR A (fun _ => L) br, rowS eB 0 1 A fun _ => B]) (fun A => aFeed A L br B) fun A hA => ?_
  cbv
  repeat' (first | with_reducible exact True.intro | with_reducible exact dr_ok hA (by kernel_rfl) | with_reducible refine And.intro ?_ ?_ | (intro hc; cbv))
  rotate_right
  · rename_i h1
    have h0 : br = false := by assumption
    have hok : fOk L false = true := by subst hA h0; simpa [std_add, std_sub, std_mul, std_quo, std_rem, std_band, std_bor, std_bxor, std_shl, std_shr, std_eq, std_ne, std_lt, std_le, std_conv, std_not, std_beq, std_bne, std_ite, std_want, std_and2, std_sadd, std_seq, std_sne, std_slt, std_sle, std_sgt, std_sge, std_slen, std_sget, std_scut, std_ofNat, std_toNat, std_nsub, std_nadd, std_lenOf, std_nz, std_nneg, std_inb, std_upto, std_slt63, std_grow, std_imp, std_impN, std_tr, std_tb, std_ti, std_ts, std_tn, std_tp, std_nmin, std_makes, std_room, std_zeros, std_nilq, std_notq, std_eqi, std_eqn, std_eqb, std_eqs, std_eqv, std_cat, std_lst, std_rset, std_rcopy, std_shift, std_eqr, std_strOf, std_bytesOf, std_isB, std_zOf, zOf_int, std_isI, isI_int, strOf_lit, lstOf_lit inj_eB, lstOf_lit inj_eZ, lstOf_lit inj_eBs, lstOf_lit inj_eS] using h1
    subst h0
    obtain ⟨Q, hQ⟩ : ∃ Q, Q = L ++ B := ⟨_, rfl⟩
    refine ⟨⟨{p : List (List UInt8) × List UInt8 // fParse (L ++ B) = (p.1 ++ (fParse p.2).1, (fParse p.2).2) ∧ p.1.length + p.2.length ≤ 40000}, fun b p => [(7, .own b), (8, rowS eB 0 1 A fun _ => p.1.2)], fun b p => [(b, .row 22 1 (A.tn fun _ => p.1.1.length) (rowF eBs [] A fun _ => p.1.1))], fun p => p.1.2.length, true⟩, ⟨⟨([], Q), by simp [hQ], by simp [hQ]; omega⟩, ?_⟩, ?_⟩
    · cbv
      subst hA
      simp [hQ, -List.getD_eq_getElem?_getD, std_add, std_sub, std_mul, std_quo, std_rem, std_band, std_bor, std_bxor, std_shl, std_shr, std_eq, std_ne, std_lt, std_le, std_conv, std_not, std_beq, std_bne, std_ite, std_want, std_and2, std_sadd, std_seq, std_sne, std_slt, std_sle, std_sgt, std_sge, std_slen, std_sget, std_scut, std_ofNat, std_toNat, std_nsub, std_nadd, std_lenOf, std_nz, std_nneg, std_inb, std_upto, std_slt63, std_grow, std_imp, std_impN, std_tr, std_tb, std_ti, std_ts, std_tn, std_tp, std_nmin, std_makes, std_room, std_zeros, std_nilq, std_notq, std_eqi, std_eqn, std_eqb, std_eqs, std_eqv, std_cat, std_lst, std_rset, std_rcopy, std_shift, std_eqr, std_strOf, std_bytesOf, std_isB, std_zOf, zOf_int, std_isI, isI_int, strOf_lit, lstOf_lit inj_eB, lstOf_lit inj_eZ, lstOf_lit inj_eBs, lstOf_lit inj_eS, isRow_lit, isB_lit, isRow_nil, lstOf_nil inj_eB, lstOf_nil inj_eZ, lstOf_nil inj_eBs, lstOf_nil inj_eS, two_lst]
    · rintro ⟨⟨T, R⟩, hP, hn⟩
      simp only at hP hn
      cbv
      repeat' (first | with_reducible exact True.intro | with_reducible exact dr_ok hA (by kernel_rfl) | with_reducible refine And.intro ?_ ?_ | (intro hc; cbv))
      rotate_right
      · have hF := fLen_lt R
        have hw : IntKind.i64.wrap (2 + (fLen R : Int)) = 2 + (fLen R : Int) := w64 (by omega)
        rename_i hx2 hx3
        have hx4 := hc
        have h2 : ¬R.length < 2 := by subst hA; simp [std_add, std_sub, std_mul, std_quo, std_rem, std_band, std_bor, std_bxor, std_shl, std_shr, std_eq, std_ne, std_lt, std_le, std_conv, std_not, std_beq, std_bne, std_ite, std_want, std_and2, std_sadd, std_seq, std_sne, std_slt, std_sle, std_sgt, std_sge, std_slen, std_sget, std_scut, std_ofNat, std_toNat, std_nsub, std_nadd, std_lenOf, std_nz, std_nneg, std_inb, std_upto, std_slt63, std_grow, std_imp, std_impN, std_tr, std_tb, std_ti, std_ts, std_tn, std_tp, std_nmin, std_makes, std_room, std_zeros, std_nilq, std_notq, std_eqi, std_eqn, std_eqb, std_eqs, std_eqv, std_cat, std_lst, std_rset, std_rcopy, std_shift, std_eqr, std_strOf, std_bytesOf, std_isB, std_zOf, zOf_int, std_isI, isI_int] at hx2; omega
        have hm : fMay (fLen R) = true := by subst hA; simpa [-List.getD_eq_getElem?_getD, std_add, std_sub, std_mul, std_quo, std_rem, std_band, std_bor, std_bxor, std_shl, std_shr, std_eq, std_ne, std_lt, std_le, std_conv, std_not, std_beq, std_bne, std_ite, std_want, std_and2, std_sadd, std_seq, std_sne, std_slt, std_sle, std_sgt, std_sge, std_slen, std_sget, std_scut, std_ofNat, std_toNat, std_nsub, std_nadd, std_lenOf, std_nz, std_nneg, std_inb, std_upto, std_slt63, std_grow, std_imp, std_impN, std_tr, std_tb, std_ti, std_ts, std_tn, std_tp, std_nmin, std_makes, std_room, std_zeros, std_nilq, std_notq, std_eqi, std_eqn, std_eqb, std_eqs, std_eqv, std_cat, std_lst, std_rset, std_rcopy, std_shift, std_eqr, std_strOf, std_bytesOf, std_isB, std_zOf, zOf_int, std_isI, isI_int, strOf_lit, lstOf_lit inj_eB, lstOf_lit inj_eZ, lstOf_lit inj_eBs, lstOf_lit inj_eS] using hx3
        have hl : ¬R.length < 2 + fLen R := by
          subst hA
          simp [-List.getD_eq_getElem?_getD, std_add, std_sub, std_mul, std_quo, std_rem, std_band, std_bor, std_bxor, std_shl, std_shr, std_eq, std_ne, std_lt, std_le, std_conv, std_not, std_beq, std_bne, std_ite, std_want, std_and2, std_sadd, std_seq, std_sne, std_slt, std_sle, std_sgt, std_sge, std_slen, std_sget, std_scut, std_ofNat, std_toNat, std_nsub, std_nadd, std_lenOf, std_nz, std_nneg, std_inb, std_upto, std_slt63, std_grow, std_imp, std_impN, std_tr, std_tb, std_ti, std_ts, std_tn, std_tp, std_nmin, std_makes, std_room, std_zeros, std_nilq, std_notq, std_eqi, std_eqn, std_eqb, std_eqs, std_eqv, std_cat, std_lst, std_rset, std_rcopy, std_shift, std_eqr, std_strOf, std_bytesOf, std_isB, std_zOf, zOf_int, std_isI, isI_int, strOf_lit, lstOf_lit inj_eB, lstOf_lit inj_eZ, lstOf_lit inj_eBs, lstOf_lit inj_eS, hw] at hx4
          omega
        obtain ⟨T', hT'⟩ : ∃ T', T' = T ++ [(R.drop 2).take (fLen R)] := ⟨_, rfl⟩
        obtain ⟨R', hR'⟩ : ∃ R', R' = R.drop (2 + fLen R) := ⟨_, rfl⟩
        have hl' : R'.length = R.length - (2 + fLen R) := by rw [hR', List.length_drop]
        refine ⟨⟨(T', R'), by rw [hP, fParse_more h2 hm hl, hT', hR']; simp, by rw [hT', List.length_append, List.length_singleton, hl']; omega⟩, ?_, show R'.length < R.length by omega⟩
        cbv
        subst hA
        simp [-List.getD_eq_getElem?_getD, std_add, std_sub, std_mul, std_quo, std_rem, std_band, std_bor, std_bxor, std_shl, std_shr, std_eq, std_ne, std_lt, std_le, std_conv, std_not, std_beq, std_bne, std_ite, std_want, std_and2, std_sadd, std_seq, std_sne, std_slt, std_sle, std_sgt, std_sge, std_slen, std_sget, std_scut, std_ofNat, std_toNat, std_nsub, std_nadd, std_lenOf, std_nz, std_nneg, std_inb, std_upto, std_slt63, std_grow, std_imp, std_impN, std_tr, std_tb, std_ti, std_ts, std_tn, std_tp, std_nmin, std_makes, std_room, std_zeros, std_nilq, std_notq, std_eqi, std_eqn, std_eqb, std_eqs, std_eqv, std_cat, std_lst, std_rset, std_rcopy, std_shift, std_eqr, std_strOf, std_bytesOf, std_isB, std_zOf, zOf_int, std_isI, isI_int, strOf_lit, lstOf_lit inj_eB, lstOf_lit inj_eZ, lstOf_lit inj_eBs, lstOf_lit inj_eS, isRow_lit, isB_lit, isRow_nil, lstOf_nil inj_eB, lstOf_nil inj_eZ, lstOf_nil inj_eBs, lstOf_nil inj_eS, hw]
        have e0 : (2 + (fLen R : Int)).toNat = 2 + fLen R := by omega
        refine ⟨⟨by rw [e0, hl'], ?_⟩, by rw [hT']; simp, ?_⟩
        · have e1 : (2 + (fLen R : Int)).toNat = 2 + fLen R := by omega
          rw [e1, hl', hR']
          exact (Reps.shift' (Reps.lit (enc := eB) (d := 0) (k := 1) R) (2 + fLen R) (by omega)).eqr
        · have e1 : (2 + (fLen R : Int)).toNat - 2 = fLen R := by omega
          rw [e1]
          have h3 := cut_rep R (2 + fLen R) (by omega) (by omega)
          rw [Nat.add_sub_cancel_left] at h3
          exact snoc_row rfl (cell_eBs h3) hT'.symm (by rw [hT']; simp)
      all_goals (subst hA; simp [-List.getD_eq_getElem?_getD, std_add, std_sub, std_mul, std_quo, std_rem, std_band, std_bor, std_bxor, std_shl, std_shr, std_eq, std_ne, std_lt, std_le, std_conv, std_not, std_beq, std_bne, std_ite, std_want, std_and2, std_sadd, std_seq, std_sne, std_slt, std_sle, std_sgt, std_sge, std_slen, std_sget, std_scut, std_ofNat, std_toNat, std_nsub, std_nadd, std_lenOf, std_nz, std_nneg, std_inb, std_upto, std_slt63, std_grow, std_imp, std_impN, std_tr, std_tb, std_ti, std_ts, std_tn, std_tp, std_nmin, std_makes, std_room, std_zeros, std_nilq, std_notq, std_eqi, std_eqn, std_eqb, std_eqs, std_eqv, std_cat, std_lst, std_rset, std_rcopy, std_shift, std_eqr, std_strOf, std_bytesOf, std_isB, std_zOf, zOf_int, std_isI, isI_int, strOf_lit, lstOf_lit inj_eB, lstOf_lit inj_eZ, lstOf_lit inj_eBs, lstOf_lit inj_eS, isRow_lit, isB_lit, isRow_nil, lstOf_nil inj_eB, lstOf_nil inj_eZ, lstOf_nil inj_eBs, lstOf_nil inj_eS] at *)
      all_goals (have hF := fLen_lt R)
      all_goals (have hw : IntKind.i64.wrap (2 + (fLen R : Int)) = 2 + (fLen R : Int) := w64 (by omega))
      all_goals (simp only [hw] at *)
      all_goals first
        | omega
        | (constructor <;> omega)
        | (have hg : fFeed L false B = ⟨R, false, T, 0⟩ := by (rw [fFeed_go hok, hP, fParse_short (by omega)]; simp)
           rw [hg]; first | done | rfl | exact (Reps.lit _).eqr)
        | (have hg : fFeed L false B = ⟨[], true, T, 12⟩ := by (rw [fFeed_go hok, hP, fParse_bad (by omega) (by assumption)]; simp)
           rw [hg]; first | done | rfl | exact (Reps.lit _).eqr)
        | (have hg : fFeed L false B = ⟨R, false, T, 0⟩ := by (rw [fFeed_go hok, hP, fParse_part (by omega) (by assumption) (by omega)]; simp)
           rw [hg]; first | done | rfl | exact (Reps.lit _).eqr)
        | trace_state
  all_goals (subst hA; simp [-List.getD_eq_getElem?_getD, std_add, std_sub, std_mul, std_quo, std_rem, std_band, std_bor, std_bxor, std_shl, std_shr, std_eq, std_ne, std_lt, std_le, std_conv, std_not, std_beq, std_bne, std_ite, std_want, std_and2, std_sadd, std_seq, std_sne, std_slt, std_sle, std_sgt, std_sge, std_slen, std_sget, std_scut, std_ofNat, std_toNat, std_nsub, std_nadd, std_lenOf, std_nz, std_nneg, std_inb, std_upto, std_slt63, std_grow, std_imp, std_impN, std_tr, std_tb, std_ti, std_ts, std_tn, std_tp, std_nmin, std_makes, std_room, std_zeros, std_nilq, std_notq, std_eqi, std_eqn, std_eqb, std_eqs, std_eqv, std_cat, std_lst, std_rset, std_rcopy, std_shift, std_eqr, std_strOf, std_bytesOf, std_isB, std_zOf, zOf_int, std_isI, isI_int, strOf_lit, lstOf_lit inj_eB, lstOf_lit inj_eZ, lstOf_lit inj_eBs, lstOf_lit inj_eS, isRow_lit, isB_lit, isRow_nil, lstOf_nil inj_eB, lstOf_nil inj_eZ, lstOf_nil inj_eBs, lstOf_nil inj_eS, two_lst] at *)
  all_goals first
    | omega
    | (rw [fFeed_bad hc]; first | done | rfl | exact (Reps.lit _).eqr)
    | (have hb : br = true := by assumption
       subst hb
       rw [fFeed_br hc]; first | done | rfl | exact (Reps.lit _).eqr)
    | (refine ⟨two_row L B, by simp, fun b hb => ?_⟩; (simp at hb; rcases hb with rfl | rfl <;> omega))
    | trace_state
end Go.Vd
