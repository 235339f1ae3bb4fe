/- The frame's functions: the reference's Feed. -/
import Derived.Test.YtdipfibiajkedaaWeF4
set_option linter.unusedVariables false
set_option linter.unusedSimpArgs false
set_option maxRecDepth 100000
set_option maxHeartbeats 2000000
namespace Go.Vd
open Go.Proofs
theorem cat_get (R : List UInt8) (x : UInt8) {k : Nat} (h : k < R.length + 1) {f : Nat → Nat → SV} (hf : f = rowF eB 0 std fun _ => R) : catS R.length f (lstS [[SV.int IntKind.u8 (x.toNat : Int)]]) k 0 = .int .u8 (((R ++ [x]).getD k 0).toNat : Int) := by
  subst hf
  show (if k < R.length then rowF eB 0 std (fun _ => R) k 0 else lstS [[SV.int IntKind.u8 (x.toNat : Int)]] (k - R.length) 0) = _
  by_cases hk : k < R.length
  · rw [if_pos hk, getD_app hk]; rfl
  · obtain rfl : k = R.length := by omega
    rw [if_neg hk, Nat.sub_self]
    simp [lstS, getAt, List.getD_eq_getElem?_getD]
theorem fdrop_cons {B : List UInt8} {i : Nat} (h : i < B.length) : B.drop i = B.getD i 0 :: B.drop (i + 1) := by
  rw [List.drop_eq_getElem_cons h, List.getD_eq_getElem?_getD, List.getElem?_eq_getElem h]; rfl
theorem may_sum (S : List UInt8) : IntKind.i64.wrap (IntKind.i64.wrap (256 * IntKind.i64.wrap ((S.getD 0 0).toNat : Int)) + IntKind.i64.wrap ((S.getD 1 0).toNat : Int)) = (fLen S : Int) := flen_sum _ _
theorem good_rfFeed (br : Bool) (L B : List UInt8) (hL : L.length ≤ 20000) (hB : B.length ≤ 20000) : GoodP Try.prog gl0 11 [sR std (fun _ => L) br, rowS eB 0 1 std fun _ => B] (aFeed std L br B) := by
  refine fn_sound' (T := seatT) (G := gf3) (X := noX) seatT_ok gf3_ok noX_ok noI_ok mixed Try.func11 (.none) (fun A => [sR A (fun _ => L) br, rowS eB 0 1 A fun _ => B]) (fun A => aFeed A L br B) fun A hA => ?_
  cbv
  repeat' (first | with_reducible exact True.intro | with_reducible exact dr_ok hA (by kernel_rfl) | with_reducible refine And.intro ?_ ?_ | (intro hc; cbv))
  rotate_right
  · rename_i h1
    have h0 : br = false := by assumption
    have hok : fOk L false = true := by subst hA h0; simpa [std_add, std_sub, std_mul, std_quo, std_rem, std_band, std_bor, std_bxor, std_shl, std_shr, std_eq, std_ne, std_lt, std_le, std_conv, std_not, std_beq, std_bne, std_ite, std_want, std_and2, std_sadd, std_seq, std_sne, std_slt, std_sle, std_sgt, std_sge, std_slen, std_sget, std_scut, std_ofNat, std_toNat, std_nsub, std_nadd, std_lenOf, std_nz, std_nneg, std_inb, std_upto, std_slt63, std_grow, std_imp, std_impN, std_tr, std_tb, std_ti, std_ts, std_tn, std_tp, std_nmin, std_makes, std_room, std_zeros, std_nilq, std_notq, std_eqi, std_eqn, std_eqb, std_eqs, std_eqv, std_cat, std_lst, std_rset, std_rcopy, std_shift, std_eqr, std_strOf, std_bytesOf, std_isB, std_zOf, zOf_int, std_isI, isI_int, strOf_lit, lstOf_lit inj_eB, lstOf_lit inj_eZ, lstOf_lit inj_eBs, lstOf_lit inj_eS] using h1
    subst h0
    clear h1
    refine ⟨⟨{p : Nat × List (List UInt8) × List UInt8 // p.1 ≤ B.length ∧ fOk p.2.2 false = true ∧ fParse (L ++ B) = (p.2.1 ++ (fParse (p.2.2 ++ B.drop p.1)).1, (fParse (p.2.2 ++ B.drop p.1)).2) ∧ p.2.1.length ≤ p.1 ∧ p.2.2.length ≤ L.length + p.1}, fun b p => [(7, .own 12), (8, .own b), (9, .int .i64 (p.1.1 : Nat))], fun b p => [(12, .row 5 1 (A.tn fun _ => p.1.2.2.length) (rowF eB 0 A fun _ => p.1.2.2)), (b, .row 22 1 (A.tn fun _ => p.1.2.1.length) (rowF eBs [] A fun _ => p.1.2.1))], fun p => B.length - p.1.1, true⟩, ⟨⟨(0, [], L), by simp [hok]⟩, ?_⟩, ?_⟩
    · cbv
      subst hA
      simp [-List.getD_eq_getElem?_getD, std_add, std_sub, std_mul, std_quo, std_rem, std_band, std_bor, std_bxor, std_shl, std_shr, std_eq, std_ne, std_lt, std_le, std_conv, std_not, std_beq, std_bne, std_ite, std_want, std_and2, std_sadd, std_seq, std_sne, std_slt, std_sle, std_sgt, std_sge, std_slen, std_sget, std_scut, std_ofNat, std_toNat, std_nsub, std_nadd, std_lenOf, std_nz, std_nneg, std_inb, std_upto, std_slt63, std_grow, std_imp, std_impN, std_tr, std_tb, std_ti, std_ts, std_tn, std_tp, std_nmin, std_makes, std_room, std_zeros, std_nilq, std_notq, std_eqi, std_eqn, std_eqb, std_eqs, std_eqv, std_cat, std_lst, std_rset, std_rcopy, std_shift, std_eqr, std_strOf, std_bytesOf, std_isB, std_zOf, zOf_int, std_isI, isI_int, strOf_lit, lstOf_lit inj_eB, lstOf_lit inj_eZ, lstOf_lit inj_eBs, lstOf_lit inj_eS, isRow_lit, isB_lit, isRow_nil, lstOf_nil inj_eB, lstOf_nil inj_eZ, lstOf_nil inj_eBs, lstOf_nil inj_eS]
      exact eqr_of (Reps.nil.cat (.lit L)) (by omega) rfl
    · rintro ⟨⟨i, T, R⟩, hi, hR, hP, hn, hm⟩
      simp only at hi hR hP hn hm
      have hF := fLen_lt (R ++ [B.getD i 0])
      have hw : IntKind.i64.wrap (2 + (fLen (R ++ [B.getD i 0]) : Int)) = 2 + (fLen (R ++ [B.getD i 0]) : Int) := w64 (by omega)
      have hl : (R ++ [B.getD i 0]).length = R.length + 1 := by simp
      cbv
      repeat' (first | with_reducible exact True.intro | with_reducible exact dr_ok hA (by kernel_rfl) | with_reducible refine And.intro ?_ ?_ | (intro hc; cbv))
      all_goals first
        | (fail_if_success (refine Exists.intro ?_ ?_)
           subst hA
           simp [-List.getD_eq_getElem?_getD, std_add, std_sub, std_mul, std_quo, std_rem, std_band, std_bor, std_bxor, std_shl, std_shr, std_eq, std_ne, std_lt, std_le, std_conv, std_not, std_beq, std_bne, std_ite, std_want, std_and2, std_sadd, std_seq, std_sne, std_slt, std_sle, std_sgt, std_sge, std_slen, std_sget, std_scut, std_ofNat, std_toNat, std_nsub, std_nadd, std_lenOf, std_nz, std_nneg, std_inb, std_upto, std_slt63, std_grow, std_imp, std_impN, std_tr, std_tb, std_ti, std_ts, std_tn, std_tp, std_nmin, std_makes, std_room, std_zeros, std_nilq, std_notq, std_eqi, std_eqn, std_eqb, std_eqs, std_eqv, std_cat, std_lst, std_rset, std_rcopy, std_shift, std_eqr, std_strOf, std_bytesOf, std_isB, std_zOf, zOf_int, std_isI, isI_int, strOf_lit, lstOf_lit inj_eB, lstOf_lit inj_eZ, lstOf_lit inj_eBs, lstOf_lit inj_eS, isRow_lit, isB_lit, isRow_nil, lstOf_nil inj_eB, lstOf_nil inj_eZ, lstOf_nil inj_eBs, lstOf_nil inj_eS] at *
           first
             | omega
             | (rw [cat_get R (B.getD i 0) (by omega) rfl]; exact isI_int _ _)
             | (have hq : i = B.length := by omega
                have hg : fFeed L false B = ⟨R, false, T, 0⟩ := by (rw [fFeed_go hok, hP, hq, List.drop_length, List.append_nil, fParse_fix hR]; simp)
                rw [hg]; first | done | rfl | exact (Reps.lit _).eqr)
             | (rw [cat_get R (B.getD i 0) (k := 0) (by omega) rfl, cat_get R (B.getD i 0) (k := 1) (by omega) rfl] at hc
                simp only [zOf_int, may_sum] at hc
                have hg : fFeed L false B = ⟨[], true, T, 12⟩ := by (rw [fFeed_go hok, hP, fdrop_cons (by assumption), fStep_bad (by simp; omega) hc]; simp)
                rw [hg]; first | done | rfl | exact (Reps.lit _).eqr)
             | trace_state)
        | skip
      all_goals (have hlt : i < B.length := by (clear hw hl hF; (subst hA; simp [-List.getD_eq_getElem?_getD, std_add, std_sub, std_mul, std_quo, std_rem, std_band, std_bor, std_bxor, std_shl, std_shr, std_eq, std_ne, std_lt, std_le, std_conv, std_not, std_beq, std_bne, std_ite, std_want, std_and2, std_sadd, std_seq, std_sne, std_slt, std_sle, std_sgt, std_sge, std_slen, std_sget, std_scut, std_ofNat, std_toNat, std_nsub, std_nadd, std_lenOf, std_nz, std_nneg, std_inb, std_upto, std_slt63, std_grow, std_imp, std_impN, std_tr, std_tb, std_ti, std_ts, std_tn, std_tp, std_nmin, std_makes, std_room, std_zeros, std_nilq, std_notq, std_eqi, std_eqn, std_eqb, std_eqs, std_eqv, std_cat, std_lst, std_rset, std_rcopy, std_shift, std_eqr, std_strOf, std_bytesOf, std_isB, std_zOf, zOf_int, std_isI, isI_int] at *); omega))
      all_goals (obtain ⟨S, hS⟩ : ∃ S, S = R ++ [B.getD i 0] := ⟨_, rfl⟩)
      all_goals (rw [← hS] at hF hw hl)
      all_goals (have hcat : eqrS (R.length + 1) 1 (catS R.length (rowF eB 0 std fun _ => R) (lstS [[SV.int IntKind.u8 ((B.getD i 0).toNat : Int)]])) (rowF eB 0 std fun _ => S) := snoc_row rfl (cell_eB rfl) hS.symm rfl)
      all_goals (have hap : ∀ T0, R ++ B.getD i 0 :: T0 = S ++ T0 := fun T0 => by rw [hS]; simp)
      all_goals (have hdr := fdrop_cons hlt)
      all_goals (rw [hdr] at hP)
      all_goals (obtain ⟨i', hi'⟩ : ∃ i', i' = i + 1 := ⟨_, rfl⟩)
      · have h2 : (R ++ [B.getD i 0]).length < 2 := by rw [← hS, hl]; clear hw hl hF hP; subst hA; simp [std_add, std_sub, std_mul, std_quo, std_rem, std_band, std_bor, std_bxor, std_shl, std_shr, std_eq, std_ne, std_lt, std_le, std_conv, std_not, std_beq, std_bne, std_ite, std_want, std_and2, std_sadd, std_seq, std_sne, std_slt, std_sle, std_sgt, std_sge, std_slen, std_sget, std_scut, std_ofNat, std_toNat, std_nsub, std_nadd, std_lenOf, std_nz, std_nneg, std_inb, std_upto, std_slt63, std_grow, std_imp, std_impN, std_tr, std_tb, std_ti, std_ts, std_tn, std_tp, std_nmin, std_makes, std_room, std_zeros, std_nilq, std_notq, std_eqi, std_eqn, std_eqb, std_eqs, std_eqv, std_cat, std_lst, std_rset, std_rcopy, std_shift, std_eqr, std_strOf, std_bytesOf, std_isB, std_zOf, zOf_int, std_isI, isI_int] at hc; omega
        refine ⟨⟨(i', T, S), by omega, by rw [hS]; exact fStep_short h2, by rw [hP, hap, hi'], show T.length ≤ i' by omega, by simp only [hl]; omega⟩, ?_, show B.length - i' < B.length - i by omega⟩
        cbv
        subst hA
        simp [-List.getD_eq_getElem?_getD, std_add, std_sub, std_mul, std_quo, std_rem, std_band, std_bor, std_bxor, std_shl, std_shr, std_eq, std_ne, std_lt, std_le, std_conv, std_not, std_beq, std_bne, std_ite, std_want, std_and2, std_sadd, std_seq, std_sne, std_slt, std_sle, std_sgt, std_sge, std_slen, std_sget, std_scut, std_ofNat, std_toNat, std_nsub, std_nadd, std_lenOf, std_nz, std_nneg, std_inb, std_upto, std_slt63, std_grow, std_imp, std_impN, std_tr, std_tb, std_ti, std_ts, std_tn, std_tp, std_nmin, std_makes, std_room, std_zeros, std_nilq, std_notq, std_eqi, std_eqn, std_eqb, std_eqs, std_eqv, std_cat, std_lst, std_rset, std_rcopy, std_shift, std_eqr, std_strOf, std_bytesOf, std_isB, std_zOf, zOf_int, std_isI, isI_int, strOf_lit, lstOf_lit inj_eB, lstOf_lit inj_eZ, lstOf_lit inj_eBs, lstOf_lit inj_eS, isRow_lit, isB_lit, isRow_nil, lstOf_nil inj_eB, lstOf_nil inj_eZ, lstOf_nil inj_eBs, lstOf_nil inj_eS]
        exact ⟨(w64 (by omega)).trans (by omega), hl.symm, by rw [hl]; exact hcat⟩
      all_goals (rename_i hx1 hx2; have hx3 := hc; clear hc)
      all_goals (have h2 : ¬S.length < 2 := by (clear hw hF hP hx2 hx3; subst hA; simp [std_add, std_sub, std_mul, std_quo, std_rem, std_band, std_bor, std_bxor, std_shl, std_shr, std_eq, std_ne, std_lt, std_le, std_conv, std_not, std_beq, std_bne, std_ite, std_want, std_and2, std_sadd, std_seq, std_sne, std_slt, std_sle, std_sgt, std_sge, std_slen, std_sget, std_scut, std_ofNat, std_toNat, std_nsub, std_nadd, std_lenOf, std_nz, std_nneg, std_inb, std_upto, std_slt63, std_grow, std_imp, std_impN, std_tr, std_tb, std_ti, std_ts, std_tn, std_tp, std_nmin, std_makes, std_room, std_zeros, std_nilq, std_notq, std_eqi, std_eqn, std_eqb, std_eqs, std_eqv, std_cat, std_lst, std_rset, std_rcopy, std_shift, std_eqr, std_strOf, std_bytesOf, std_isB, std_zOf, zOf_int, std_isI, isI_int] at hx1; omega))
      all_goals (have h1 : fMay (fLen S) = true := by (clear hw hF hP hx3; subst hA; simp [-List.getD_eq_getElem?_getD, std_add, std_sub, std_mul, std_quo, std_rem, std_band, std_bor, std_bxor, std_shl, std_shr, std_eq, std_ne, std_lt, std_le, std_conv, std_not, std_beq, std_bne, std_ite, std_want, std_and2, std_sadd, std_seq, std_sne, std_slt, std_sle, std_sgt, std_sge, std_slen, std_sget, std_scut, std_ofNat, std_toNat, std_nsub, std_nadd, std_lenOf, std_nz, std_nneg, std_inb, std_upto, std_slt63, std_grow, std_imp, std_impN, std_tr, std_tb, std_ti, std_ts, std_tn, std_tp, std_nmin, std_makes, std_room, std_zeros, std_nilq, std_notq, std_eqi, std_eqn, std_eqb, std_eqs, std_eqv, std_cat, std_lst, std_rset, std_rcopy, std_shift, std_eqr, std_strOf, std_bytesOf, std_isB, std_zOf, zOf_int, std_isI, isI_int] at hx2; rw [cat_get R (B.getD i 0) (k := 0) (by omega) rfl, cat_get R (B.getD i 0) (k := 1) (by omega) rfl] at hx2; simp only [zOf_int, may_sum, ← hS] at hx2; exact hx2))
      · have h3 : S.length = 2 + fLen S := by
          clear hP hx2
          subst hA
          simp [-List.getD_eq_getElem?_getD, std_add, std_sub, std_mul, std_quo, std_rem, std_band, std_bor, std_bxor, std_shl, std_shr, std_eq, std_ne, std_lt, std_le, std_conv, std_not, std_beq, std_bne, std_ite, std_want, std_and2, std_sadd, std_seq, std_sne, std_slt, std_sle, std_sgt, std_sge, std_slen, std_sget, std_scut, std_ofNat, std_toNat, std_nsub, std_nadd, std_lenOf, std_nz, std_nneg, std_inb, std_upto, std_slt63, std_grow, std_imp, std_impN, std_tr, std_tb, std_ti, std_ts, std_tn, std_tp, std_nmin, std_makes, std_room, std_zeros, std_nilq, std_notq, std_eqi, std_eqn, std_eqb, std_eqs, std_eqv, std_cat, std_lst, std_rset, std_rcopy, std_shift, std_eqr, std_strOf, std_bytesOf, std_isB, std_zOf, zOf_int, std_isI, isI_int] at hx3
          rw [cat_get R (B.getD i 0) (k := 0) (by omega) rfl, cat_get R (B.getD i 0) (k := 1) (by omega) rfl] at hx3
          simp only [zOf_int, ← hS] at hx3
          rw [show IntKind.i64.wrap (IntKind.i64.wrap (256 * IntKind.i64.wrap ((S.getD 0 0).toNat : Int)) + IntKind.i64.wrap ((S.getD 1 0).toNat : Int)) = (fLen S : Int) from flen_sum _ _, hw] at hx3
          have e9 : (R.length : Int) + 1 = 2 + (fLen S : Int) := hx3
          omega
        obtain ⟨T', hT'⟩ : ∃ T', T' = T ++ [S.drop 2] := ⟨_, rfl⟩
        refine ⟨⟨(i', T', []), by omega, by simp [fOk], by rw [hP, hap, fParse_full h2 h1 h3, hT', hi']; simp, by rw [hT']; simp; omega, by simp⟩, ?_, show B.length - i' < B.length - i by omega⟩
        cbv
        subst hA
        simp [-List.getD_eq_getElem?_getD, std_add, std_sub, std_mul, std_quo, std_rem, std_band, std_bor, std_bxor, std_shl, std_shr, std_eq, std_ne, std_lt, std_le, std_conv, std_not, std_beq, std_bne, std_ite, std_want, std_and2, std_sadd, std_seq, std_sne, std_slt, std_sle, std_sgt, std_sge, std_slen, std_sget, std_scut, std_ofNat, std_toNat, std_nsub, std_nadd, std_lenOf, std_nz, std_nneg, std_inb, std_upto, std_slt63, std_grow, std_imp, std_impN, std_tr, std_tb, std_ti, std_ts, std_tn, std_tp, std_nmin, std_makes, std_room, std_zeros, std_nilq, std_notq, std_eqi, std_eqn, std_eqb, std_eqs, std_eqv, std_cat, std_lst, std_rset, std_rcopy, std_shift, std_eqr, std_strOf, std_bytesOf, std_isB, std_zOf, zOf_int, std_isI, isI_int, strOf_lit, lstOf_lit inj_eB, lstOf_lit inj_eZ, lstOf_lit inj_eBs, lstOf_lit inj_eS, isRow_lit, isB_lit, isRow_nil, lstOf_nil inj_eB, lstOf_nil inj_eZ, lstOf_nil inj_eBs, lstOf_nil inj_eS]
        have hr := Reps.shift (enc := eB) (d := 0) (k := 1) (m := R.length - 1) ⟨hl, hcat⟩ 2 (by omega)
        rw [List.take_of_length_le (by rw [List.length_drop]; omega)] at hr
        exact ⟨(w64 (by omega)).trans (by omega), by rw [hT']; simp, snoc_row rfl (cell_eBs hr) hT'.symm (by rw [hT']; simp)⟩
      · have h3 : ¬S.length = 2 + fLen S := by
          clear hP hx2
          subst hA
          simp [-List.getD_eq_getElem?_getD, std_add, std_sub, std_mul, std_quo, std_rem, std_band, std_bor, std_bxor, std_shl, std_shr, std_eq, std_ne, std_lt, std_le, std_conv, std_not, std_beq, std_bne, std_ite, std_want, std_and2, std_sadd, std_seq, std_sne, std_slt, std_sle, std_sgt, std_sge, std_slen, std_sget, std_scut, std_ofNat, std_toNat, std_nsub, std_nadd, std_lenOf, std_nz, std_nneg, std_inb, std_upto, std_slt63, std_grow, std_imp, std_impN, std_tr, std_tb, std_ti, std_ts, std_tn, std_tp, std_nmin, std_makes, std_room, std_zeros, std_nilq, std_notq, std_eqi, std_eqn, std_eqb, std_eqs, std_eqv, std_cat, std_lst, std_rset, std_rcopy, std_shift, std_eqr, std_strOf, std_bytesOf, std_isB, std_zOf, zOf_int, std_isI, isI_int] at hx3
          rw [cat_get R (B.getD i 0) (k := 0) (by omega) rfl, cat_get R (B.getD i 0) (k := 1) (by omega) rfl] at hx3
          simp only [zOf_int, ← hS] at hx3
          rw [show IntKind.i64.wrap (IntKind.i64.wrap (256 * IntKind.i64.wrap ((S.getD 0 0).toNat : Int)) + IntKind.i64.wrap ((S.getD 1 0).toNat : Int)) = (fLen S : Int) from flen_sum _ _, hw] at hx3
          have e9 : ¬(R.length : Int) + 1 = 2 + (fLen S : Int) := hx3
          omega
        refine ⟨⟨(i', T, S), by omega, by rw [hS] at h1 h2 h3 ⊢; exact fStep_part hR h2 h1 h3, by rw [hP, hap, hi'], show T.length ≤ i' by omega, by simp only [hl]; omega⟩, ?_, show B.length - i' < B.length - i by omega⟩
        cbv
        subst hA
        simp [-List.getD_eq_getElem?_getD, std_add, std_sub, std_mul, std_quo, std_rem, std_band, std_bor, std_bxor, std_shl, std_shr, std_eq, std_ne, std_lt, std_le, std_conv, std_not, std_beq, std_bne, std_ite, std_want, std_and2, std_sadd, std_seq, std_sne, std_slt, std_sle, std_sgt, std_sge, std_slen, std_sget, std_scut, std_ofNat, std_toNat, std_nsub, std_nadd, std_lenOf, std_nz, std_nneg, std_inb, std_upto, std_slt63, std_grow, std_imp, std_impN, std_tr, std_tb, std_ti, std_ts, std_tn, std_tp, std_nmin, std_makes, std_room, std_zeros, std_nilq, std_notq, std_eqi, std_eqn, std_eqb, std_eqs, std_eqv, std_cat, std_lst, std_rset, std_rcopy, std_shift, std_eqr, std_strOf, std_bytesOf, std_isB, std_zOf, zOf_int, std_isI, isI_int, strOf_lit, lstOf_lit inj_eB, lstOf_lit inj_eZ, lstOf_lit inj_eBs, lstOf_lit inj_eS, isRow_lit, isB_lit, isRow_nil, lstOf_nil inj_eB, lstOf_nil inj_eZ, lstOf_nil inj_eBs, lstOf_nil inj_eS]
        exact ⟨(w64 (by omega)).trans (by omega), hl.symm, by rw [hl]; exact hcat⟩
  all_goals (subst hA; simp [-List.getD_eq_getElem?_getD, std_add, std_sub, std_mul, std_quo, std_rem, std_band, std_bor, std_bxor, std_shl, std_shr, std_eq, std_ne, std_lt, std_le, std_conv, std_not, std_beq, std_bne, std_ite, std_want, std_and2, std_sadd, std_seq, std_sne, std_slt, std_sle, std_sgt, std_sge, std_slen, std_sget, std_scut, std_ofNat, std_toNat, std_nsub, std_nadd, std_lenOf, std_nz, std_nneg, std_inb, std_upto, std_slt63, std_grow, std_imp, std_impN, std_tr, std_tb, std_ti, std_ts, std_tn, std_tp, std_nmin, std_makes, std_room, std_zeros, std_nilq, std_notq, std_eqi, std_eqn, std_eqb, std_eqs, std_eqv, std_cat, std_lst, std_rset, std_rcopy, std_shift, std_eqr, std_strOf, std_bytesOf, std_isB, std_zOf, zOf_int, std_isI, isI_int, strOf_lit, lstOf_lit inj_eB, lstOf_lit inj_eZ, lstOf_lit inj_eBs, lstOf_lit inj_eS, isRow_lit, isB_lit, isRow_nil, lstOf_nil inj_eB, lstOf_nil inj_eZ, lstOf_nil inj_eBs, lstOf_nil inj_eS, two_lst] at *)
  all_goals first
    | omega
    | (rw [fFeed_bad hc]; first | done | rfl | exact (Reps.lit _).eqr)
    | (have hb : br = true := by assumption
       subst hb
       rw [fFeed_br hc]; first | done | rfl | (rw [fOk_br hc]; first | done | rfl | exact (Reps.lit _).eqr))
    | trace_state
end Go.Vd
