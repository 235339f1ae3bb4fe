/- Tables: the reference's one list. -/
import Derived.Test.YtjgfkbmplgiinaaGreatDoorVdSC
import Derived.Test.YtjgfkbmplgiinaaGreatDoorVdVQ
import Derived.Test.YtjgfkbmplgiinaaGreatDoorVdSeat
set_option linter.unusedVariables false
set_option linter.unusedSimpArgs false
set_option maxRecDepth 100000
set_option maxHeartbeats 8000000
namespace Go.Vd
open Go.Proofs
attribute [local irreducible] vc
theorem good_rList (m : Int) (T : Tbl) (hQ : tbQ T) (hcn : cnt T ≤ 1000000) : GoodP Tryz.prog gl0 12 [.agg [.int .i64 m, rowS eEs [] 1 std fun _ => T]] (rowS eE E0 8 std fun _ => lstT T) := by
  refine fn_sound' (T := seatT) (G := gt6) (X := noX) seatT_ok gt6_ok noX_ok noI_ok mixed Tryz.func12 (.none) (fun A => [.agg [.int .i64 m, rowS eEs [] 1 A fun _ => T]]) (fun A => rowS eE E0 8 A fun _ => lstT T) fun A hA => ?_
  cbv
  repeat' (first | with_reducible exact True.intro | with_reducible exact dr_ok hA (by kernel_rfl) | with_reducible refine And.intro ?_ ?_ | (intro hc; cbv))
  refine ⟨⟨{p : Nat × List Ent // p.1 ≤ T.length ∧ p.2 = (T.take p.1).flatten.foldl insP []}, fun b p => [(3, .own b), (4, .int .i64 (p.1.1 : Nat))], fun b p => [(b, .row 30 8 (A.tn fun _ => p.1.2.length) (rowF eE E0 A fun _ => p.1.2))], fun p => T.length - p.1.1, true⟩, ⟨⟨(0, []), Nat.zero_le _, rfl⟩, ?_⟩, ?_⟩
  · cbv
    subst hA
    simp [-List.getD_eq_getElem?_getD, std_add, std_sub, std_mul, std_quo, std_rem, std_band, std_bor, std_bxor, std_shl, std_shr, std_eq, std_ne, std_lt, std_le, std_conv, std_not, std_beq, std_bne, std_ite, std_want, std_and2, std_sadd, std_seq, std_sne, std_slt, std_sle, std_sgt, std_sge, std_slen, std_sget, std_scut, std_ofNat, std_toNat, std_nsub, std_nadd, std_lenOf, std_nz, std_nneg, std_inb, std_upto, std_slt63, std_grow, std_imp, std_impN, std_tr, std_tb, std_ti, std_ts, std_tn, std_tp, std_nmin, std_nset, std_fset, std_makes, std_room, std_zeros, std_nilq, std_notq, std_eqi, std_eqn, std_eqb, std_eqs, std_eqv, std_cat, std_lst, std_rset, std_rcopy, std_shift, std_eqr, std_strOf, std_bytesOf, std_isB, std_zOf, zOf_int, std_isI, isI_int, std_getL, std_nmul, std_sOf, sOf_str, std_isS, isS_str, std_fadd, std_fsub, std_fav, std_fsv, std_feq, std_fne, std_flt, std_fle, std_fgt, std_fge, std_fOf, std_fTo, std_fTv]
  · rintro ⟨⟨i, M⟩, hx⟩
    have hi : i ≤ T.length := hx.1
    have hM : M = (T.take i).flatten.foldl insP [] := hx.2
    have hT := hQ.1
    have hTi := hQ.2.1 i
    have hMl : M.length = cnt (T.take i) := by rw [hM, foldP_len, flat_len]; simp
    have hct := cnt_take T i
    obtain ⟨L, hL⟩ : ∃ L, L = T.getD i [] := ⟨_, rfl⟩
    have hgL : T.getD i [] = L := hL.symm
    rw [hgL] at hTi
    rcases Nat.lt_or_ge i T.length with hlt | hge
    · obtain ⟨i', hi'⟩ : ∃ i', i' = i + 1 := ⟨_, rfl⟩
      have hsn := flat_snoc hlt
      rw [hgL] at hsn
      have hc2 := cnt_take T i'
      have hc3 := cnt_snoc T hlt
      rw [hgL] at hc3
      rw [← hi'] at hsn hc3
      cbv
      repeat' (first | with_reducible exact True.intro | with_reducible exact dr_ok hA (by kernel_rfl) | with_reducible refine And.intro ?_ ?_ | (intro hc; cbv))
      all_goals first
        | (fail_if_success (refine Exists.intro ?_ ?_)
           exfalso
           subst hA
           simp only [std_add, std_sub, std_mul, std_quo, std_rem, std_band, std_bor, std_bxor, std_shl, std_shr, std_eq, std_ne, std_lt, std_le, std_conv, std_not, std_beq, std_bne, std_ite, std_want, std_and2, std_sadd, std_seq, std_sne, std_slt, std_sle, std_sgt, std_sge, std_slen, std_sget, std_scut, std_ofNat, std_toNat, std_nsub, std_nadd, std_lenOf, std_nz, std_nneg, std_inb, std_upto, std_slt63, std_grow, std_imp, std_impN, std_tr, std_tb, std_ti, std_ts, std_tn, std_tp, std_nmin, std_nset, std_fset, std_makes, std_room, std_zeros, std_nilq, std_notq, std_eqi, std_eqn, std_eqb, std_eqs, std_eqv, std_cat, std_lst, std_rset, std_rcopy, std_shift, std_eqr, std_strOf, std_bytesOf, std_isB, std_zOf, zOf_int, std_isI, isI_int, std_getL, std_nmul, std_sOf, sOf_str, std_isS, isS_str, std_fadd, std_fsub, std_fav, std_fsv, std_feq, std_fne, std_flt, std_fle, std_fgt, std_fge, std_fOf, std_fTo, std_fTv, Int.ofNat_eq_natCast, Int.toNat_natCast, hgL, isRow_V, lstOf_V, isRow_T, lstOf_T] at *
           have := of_decide_eq_false (by assumption : decide ((i : Int) < (T.length : Int)) = false); omega)
        | skip
      refine ⟨⟨{q : Nat × List Ent // q.1 ≤ L.length ∧ q.2 = (L.take q.1).foldl insP M}, fun b q => [(3, .own 4), (5, .int .i64 (q.1.1 : Nat))], fun b q => [(4, .row 30 8 (A.tn fun _ => q.1.2.length) (rowF eE E0 A fun _ => q.1.2))], fun q => L.length - q.1.1, true⟩, ⟨⟨(0, M), Nat.zero_le _, rfl⟩, ?_⟩, ?_⟩
      · cbv
        subst hA
        simp [-List.getD_eq_getElem?_getD, std_add, std_sub, std_mul, std_quo, std_rem, std_band, std_bor, std_bxor, std_shl, std_shr, std_eq, std_ne, std_lt, std_le, std_conv, std_not, std_beq, std_bne, std_ite, std_want, std_and2, std_sadd, std_seq, std_sne, std_slt, std_sle, std_sgt, std_sge, std_slen, std_sget, std_scut, std_ofNat, std_toNat, std_nsub, std_nadd, std_lenOf, std_nz, std_nneg, std_inb, std_upto, std_slt63, std_grow, std_imp, std_impN, std_tr, std_tb, std_ti, std_ts, std_tn, std_tp, std_nmin, std_nset, std_fset, std_makes, std_room, std_zeros, std_nilq, std_notq, std_eqi, std_eqn, std_eqb, std_eqs, std_eqv, std_cat, std_lst, std_rset, std_rcopy, std_shift, std_eqr, std_strOf, std_bytesOf, std_isB, std_zOf, zOf_int, std_isI, isI_int, std_getL, std_nmul, std_sOf, sOf_str, std_isS, isS_str, std_fadd, std_fsub, std_fav, std_fsv, std_feq, std_fne, std_flt, std_fle, std_fgt, std_fge, std_fOf, std_fTo, std_fTv]
      · rintro ⟨⟨k, N⟩, hy⟩
        have hk : k ≤ L.length := hy.1
        have hN : N = (L.take k).foldl insP M := hy.2
        have hNl : N.length = M.length + k := by rw [hN, foldP_len, List.length_take]; omega
        obtain ⟨x, hxe⟩ : ∃ x, x = L.getD k E0 := ⟨_, rfl⟩
        have hgx : L.getD k { s := 0, r := [], st := 0, pan := [], am := 0, code := [], tr := 0, ca := 0 } = x := hxe.symm
        rcases Nat.lt_or_ge k L.length with hltk | hgek
        · obtain ⟨k', hk'⟩ : ∃ k', k' = k + 1 := ⟨_, rfl⟩
          obtain ⟨N', hN'⟩ : ∃ N', N' = insP N x := ⟨_, rfl⟩
          have hNN : N' = (L.take k').foldl insP M := by
            rw [hk', ← take_snoc (d := E0) hltk, List.foldl_append, ← hN, ← hxe, hN']
            rfl
          have hpl := pos_le N x.s x.r
          cbv
          repeat' (first | with_reducible exact True.intro | with_reducible exact dr_ok hA (by kernel_rfl) | with_reducible refine And.intro ?_ ?_ | (intro hc; cbv))
          all_goals first
            | (fail_if_success (refine Exists.intro ?_ ?_)
               subst hA
               simp only [std_add, std_sub, std_mul, std_quo, std_rem, std_band, std_bor, std_bxor, std_shl, std_shr, std_eq, std_ne, std_lt, std_le, std_conv, std_not, std_beq, std_bne, std_ite, std_want, std_and2, std_sadd, std_seq, std_sne, std_slt, std_sle, std_sgt, std_sge, std_slen, std_sget, std_scut, std_ofNat, std_toNat, std_nsub, std_nadd, std_lenOf, std_nz, std_nneg, std_inb, std_upto, std_slt63, std_grow, std_imp, std_impN, std_tr, std_tb, std_ti, std_ts, std_tn, std_tp, std_nmin, std_nset, std_fset, std_makes, std_room, std_zeros, std_nilq, std_notq, std_eqi, std_eqn, std_eqb, std_eqs, std_eqv, std_cat, std_lst, std_rset, std_rcopy, std_shift, std_eqr, std_strOf, std_bytesOf, std_isB, std_zOf, zOf_int, std_isI, isI_int, std_getL, std_nmul, std_sOf, sOf_str, std_isS, isS_str, std_fadd, std_fsub, std_fav, std_fsv, std_feq, std_fne, std_flt, std_fle, std_fgt, std_fge, std_fOf, std_fTo, std_fTv, Int.ofNat_eq_natCast, Int.toNat_natCast, hgL, isRow_V, lstOf_V, isRow_T, lstOf_T] at *
               constructor <;> omega)
            | (exfalso
               subst hA
               simp only [std_add, std_sub, std_mul, std_quo, std_rem, std_band, std_bor, std_bxor, std_shl, std_shr, std_eq, std_ne, std_lt, std_le, std_conv, std_not, std_beq, std_bne, std_ite, std_want, std_and2, std_sadd, std_seq, std_sne, std_slt, std_sle, std_sgt, std_sge, std_slen, std_sget, std_scut, std_ofNat, std_toNat, std_nsub, std_nadd, std_lenOf, std_nz, std_nneg, std_inb, std_upto, std_slt63, std_grow, std_imp, std_impN, std_tr, std_tb, std_ti, std_ts, std_tn, std_tp, std_nmin, std_nset, std_fset, std_makes, std_room, std_zeros, std_nilq, std_notq, std_eqi, std_eqn, std_eqb, std_eqs, std_eqv, std_cat, std_lst, std_rset, std_rcopy, std_shift, std_eqr, std_strOf, std_bytesOf, std_isB, std_zOf, zOf_int, std_isI, isI_int, std_getL, std_nmul, std_sOf, sOf_str, std_isS, isS_str, std_fadd, std_fsub, std_fav, std_fsv, std_feq, std_fne, std_flt, std_fle, std_fgt, std_fge, std_fOf, std_fTo, std_fTv, Int.ofNat_eq_natCast, Int.toNat_natCast, hgL, isRow_V, lstOf_V, isRow_T, lstOf_T] at *
               have := of_decide_eq_false (by assumption : decide ((i : Int) < (T.length : Int)) = false); omega)
            | (exfalso
               subst hA
               simp only [std_add, std_sub, std_mul, std_quo, std_rem, std_band, std_bor, std_bxor, std_shl, std_shr, std_eq, std_ne, std_lt, std_le, std_conv, std_not, std_beq, std_bne, std_ite, std_want, std_and2, std_sadd, std_seq, std_sne, std_slt, std_sle, std_sgt, std_sge, std_slen, std_sget, std_scut, std_ofNat, std_toNat, std_nsub, std_nadd, std_lenOf, std_nz, std_nneg, std_inb, std_upto, std_slt63, std_grow, std_imp, std_impN, std_tr, std_tb, std_ti, std_ts, std_tn, std_tp, std_nmin, std_nset, std_fset, std_makes, std_room, std_zeros, std_nilq, std_notq, std_eqi, std_eqn, std_eqb, std_eqs, std_eqv, std_cat, std_lst, std_rset, std_rcopy, std_shift, std_eqr, std_strOf, std_bytesOf, std_isB, std_zOf, zOf_int, std_isI, isI_int, std_getL, std_nmul, std_sOf, sOf_str, std_isS, isS_str, std_fadd, std_fsub, std_fav, std_fsv, std_feq, std_fne, std_flt, std_fle, std_fgt, std_fge, std_fOf, std_fTo, std_fTv, Int.ofNat_eq_natCast, Int.toNat_natCast, hgL, isRow_V, lstOf_V, isRow_T, lstOf_T] at *
               have := of_decide_eq_false (by assumption : decide ((k : Int) < (L.length : Int)) = false); omega)
            | skip
          refine ⟨⟨{j : Nat // j ≤ pos N x.s x.r}, fun b j => [(6, .own b), (7, .int .i64 (j.1 : Nat))], fun b j => [(b, .row 30 8 (A.tn fun _ => (N.take j.1).length) (rowF eE E0 A fun _ => N.take j.1))], fun j => N.length - j.1, true⟩, ⟨⟨0, Nat.zero_le _⟩, ?_⟩, ?_⟩
          · cbv
            subst hA
            simp [-List.getD_eq_getElem?_getD, std_add, std_sub, std_mul, std_quo, std_rem, std_band, std_bor, std_bxor, std_shl, std_shr, std_eq, std_ne, std_lt, std_le, std_conv, std_not, std_beq, std_bne, std_ite, std_want, std_and2, std_sadd, std_seq, std_sne, std_slt, std_sle, std_sgt, std_sge, std_slen, std_sget, std_scut, std_ofNat, std_toNat, std_nsub, std_nadd, std_lenOf, std_nz, std_nneg, std_inb, std_upto, std_slt63, std_grow, std_imp, std_impN, std_tr, std_tb, std_ti, std_ts, std_tn, std_tp, std_nmin, std_nset, std_fset, std_makes, std_room, std_zeros, std_nilq, std_notq, std_eqi, std_eqn, std_eqb, std_eqs, std_eqv, std_cat, std_lst, std_rset, std_rcopy, std_shift, std_eqr, std_strOf, std_bytesOf, std_isB, std_zOf, zOf_int, std_isI, isI_int, std_getL, std_nmul, std_sOf, sOf_str, std_isS, isS_str, std_fadd, std_fsub, std_fav, std_fsv, std_feq, std_fne, std_flt, std_fle, std_fgt, std_fge, std_fOf, std_fTo, std_fTv]
          · rintro ⟨j, hj⟩
            obtain ⟨P, hP⟩ : ∃ P, P = N.take j := ⟨_, rfl⟩
            obtain ⟨y, hye⟩ : ∃ y, y = N.getD j E0 := ⟨_, rfl⟩
            have hgy : N.getD j { s := 0, r := [], st := 0, pan := [], am := 0, code := [], tr := 0, ca := 0 } = y := hye.symm
            have hup : j < N.length → ordK y.s y.r x.s x.r < 0 → j + 1 ≤ pos N x.s x.r := fun h1 h2 => by
              rcases Nat.lt_or_ge j (pos N x.s x.r) with h | h
              · exact h
              · have e : pos N x.s x.r = j := by omega
                have h3 := pos_ge (L := N) (s := x.s) (r := x.r) (by omega)
                rw [e, ← hye] at h3
                unfold ltK at h3
                exact absurd h2 (of_decide_eq_false h3)
            have heq : (j < N.length → ¬ordK y.s y.r x.s x.r < 0) → j = pos N x.s x.r := fun h1 => by
              rcases Nat.lt_or_ge j (pos N x.s x.r) with h | h
              · have h3 := pos_lt (L := N) (s := x.s) (r := x.r) h
                rw [← hye] at h3
                unfold ltK at h3
                exact absurd (of_decide_eq_true h3) (h1 (by omega))
              · omega
            have hPl : P.length = j := by rw [hP, List.length_take]; omega
            obtain ⟨j', hj'⟩ : ∃ j', j' = j + 1 := ⟨_, rfl⟩
            cbv
            repeat' (first | with_reducible exact True.intro | with_reducible exact dr_ok hA (by kernel_rfl) | with_reducible refine And.intro ?_ ?_ | (intro hc; cbv))
            all_goals first
              | (fail_if_success (refine Exists.intro ?_ ?_)
                 subst hA
                 simp only [std_add, std_sub, std_mul, std_quo, std_rem, std_band, std_bor, std_bxor, std_shl, std_shr, std_eq, std_ne, std_lt, std_le, std_conv, std_not, std_beq, std_bne, std_ite, std_want, std_and2, std_sadd, std_seq, std_sne, std_slt, std_sle, std_sgt, std_sge, std_slen, std_sget, std_scut, std_ofNat, std_toNat, std_nsub, std_nadd, std_lenOf, std_nz, std_nneg, std_inb, std_upto, std_slt63, std_grow, std_imp, std_impN, std_tr, std_tb, std_ti, std_ts, std_tn, std_tp, std_nmin, std_nset, std_fset, std_makes, std_room, std_zeros, std_nilq, std_notq, std_eqi, std_eqn, std_eqb, std_eqs, std_eqv, std_cat, std_lst, std_rset, std_rcopy, std_shift, std_eqr, std_strOf, std_bytesOf, std_isB, std_zOf, zOf_int, std_isI, isI_int, std_getL, std_nmul, std_sOf, sOf_str, std_isS, isS_str, std_fadd, std_fsub, std_fav, std_fsv, std_feq, std_fne, std_flt, std_fle, std_fgt, std_fge, std_fOf, std_fTo, std_fTv, Int.ofNat_eq_natCast, Int.toNat_natCast, hgL, hgx, hgy, ← hP, isRow_V, lstOf_V, isRow_T, lstOf_T] at *
                 first
                   | done
                   | exact fun h => h
                   | exact fun h => ⟨h, h⟩
                   | exact fun h => by rw [h]; rfl
                   | (intro h; have hj2 : (j : Int) < (N.length : Int) := by simpa using h
                      exact ⟨⟨h, h⟩, Int.natCast_nonneg _, hj2⟩)
                   | (intro h; exact ⟨⟨h, h⟩, Int.natCast_nonneg _, Int.ofNat_lt.2 hlt⟩)
                   | (intro h; exact ⟨⟨h, h⟩, Int.natCast_nonneg _, Int.ofNat_lt.2 hltk⟩)
                   | exact ⟨Int.natCast_nonneg _, Int.ofNat_lt.2 hlt⟩
                   | exact ⟨Int.natCast_nonneg _, Int.ofNat_lt.2 hltk⟩
                   | (simp at hc; constructor <;> omega)
                   | (constructor <;> omega)
                   | omega
                   | trace_state)
              | (have hc0 : j < N.length ∧ ordK y.s y.r x.s x.r < 0 := by
                   clear hup heq
                   subst hA
                   simp only [std_add, std_sub, std_mul, std_quo, std_rem, std_band, std_bor, std_bxor, std_shl, std_shr, std_eq, std_ne, std_lt, std_le, std_conv, std_not, std_beq, std_bne, std_ite, std_want, std_and2, std_sadd, std_seq, std_sne, std_slt, std_sle, std_sgt, std_sge, std_slen, std_sget, std_scut, std_ofNat, std_toNat, std_nsub, std_nadd, std_lenOf, std_nz, std_nneg, std_inb, std_upto, std_slt63, std_grow, std_imp, std_impN, std_tr, std_tb, std_ti, std_ts, std_tn, std_tp, std_nmin, std_nset, std_fset, std_makes, std_room, std_zeros, std_nilq, std_notq, std_eqi, std_eqn, std_eqb, std_eqs, std_eqv, std_cat, std_lst, std_rset, std_rcopy, std_shift, std_eqr, std_strOf, std_bytesOf, std_isB, std_zOf, zOf_int, std_isI, isI_int, std_getL, std_nmul, std_sOf, sOf_str, std_isS, isS_str, std_fadd, std_fsub, std_fav, std_fsv, std_feq, std_fne, std_flt, std_fle, std_fgt, std_fge, std_fOf, std_fTo, std_fTv, Int.ofNat_eq_natCast, Int.toNat_natCast, hgL, hgx, hgy, ← hP, isRow_V, lstOf_V, isRow_T, lstOf_T] at *
                   simp at hc
                   exact ⟨by omega, hc.2⟩
                 have hj2 : j' ≤ pos N x.s x.r := by rw [hj']; exact hup hc0.1 hc0.2
                 obtain ⟨P', hP'⟩ : ∃ P', P' = N.take j' := ⟨_, rfl⟩
                 have hPP : P ++ [y] = P' := by rw [hP, hP', hye, hj', take_snoc hc0.1]
                 refine ⟨⟨j', hj2⟩, ?_, show N.length - j' < N.length - j by omega⟩
                 cbv
                 subst hA
                 simp [-List.getD_eq_getElem?_getD, std_add, std_sub, std_mul, std_quo, std_rem, std_band, std_bor, std_bxor, std_shl, std_shr, std_eq, std_ne, std_lt, std_le, std_conv, std_not, std_beq, std_bne, std_ite, std_want, std_and2, std_sadd, std_seq, std_sne, std_slt, std_sle, std_sgt, std_sge, std_slen, std_sget, std_scut, std_ofNat, std_toNat, std_nsub, std_nadd, std_lenOf, std_nz, std_nneg, std_inb, std_upto, std_slt63, std_grow, std_imp, std_impN, std_tr, std_tb, std_ti, std_ts, std_tn, std_tp, std_nmin, std_nset, std_fset, std_makes, std_room, std_zeros, std_nilq, std_notq, std_eqi, std_eqn, std_eqb, std_eqs, std_eqv, std_cat, std_lst, std_rset, std_rcopy, std_shift, std_eqr, std_strOf, std_bytesOf, std_isB, std_zOf, zOf_int, std_isI, isI_int, std_getL, std_nmul, std_sOf, sOf_str, std_isS, isS_str, std_fadd, std_fsub, std_fav, std_fsv, std_feq, std_fne, std_flt, std_fle, std_fgt, std_fge, std_fOf, std_fTo, std_fTv, hgy, ← hP, ← hP']
                 exact ⟨w_succ' hj' (by omega), by rw [← hPP]; simp, eqr_of ((Reps.lit P).cat (Reps.one (cell_eE y))) (by rw [← hPP]; simp) hPP⟩)
              | (have hc0 : j = pos N x.s x.r := by
                   refine heq fun h1 h2 => ?_
                   clear hup heq
                   subst hA
                   simp only [std_add, std_sub, std_mul, std_quo, std_rem, std_band, std_bor, std_bxor, std_shl, std_shr, std_eq, std_ne, std_lt, std_le, std_conv, std_not, std_beq, std_bne, std_ite, std_want, std_and2, std_sadd, std_seq, std_sne, std_slt, std_sle, std_sgt, std_sge, std_slen, std_sget, std_scut, std_ofNat, std_toNat, std_nsub, std_nadd, std_lenOf, std_nz, std_nneg, std_inb, std_upto, std_slt63, std_grow, std_imp, std_impN, std_tr, std_tb, std_ti, std_ts, std_tn, std_tp, std_nmin, std_nset, std_fset, std_makes, std_room, std_zeros, std_nilq, std_notq, std_eqi, std_eqn, std_eqb, std_eqs, std_eqv, std_cat, std_lst, std_rset, std_rcopy, std_shift, std_eqr, std_strOf, std_bytesOf, std_isB, std_zOf, zOf_int, std_isI, isI_int, std_getL, std_nmul, std_sOf, sOf_str, std_isS, isS_str, std_fadd, std_fsub, std_fav, std_fsv, std_feq, std_fne, std_flt, std_fle, std_fgt, std_fge, std_fOf, std_fTo, std_fTv, Int.ofNat_eq_natCast, Int.toNat_natCast, hgL, hgx, hgy, ← hP, isRow_V, lstOf_V, isRow_T, lstOf_T] at *
                   simp at hc
                   have := hc (by omega)
                   omega
                 refine ⟨⟨(k', N'), by omega, hNN⟩, ?_, show L.length - k' < L.length - k by omega⟩
                 cbv
                 subst hA
                 simp [-List.getD_eq_getElem?_getD, std_add, std_sub, std_mul, std_quo, std_rem, std_band, std_bor, std_bxor, std_shl, std_shr, std_eq, std_ne, std_lt, std_le, std_conv, std_not, std_beq, std_bne, std_ite, std_want, std_and2, std_sadd, std_seq, std_sne, std_slt, std_sle, std_sgt, std_sge, std_slen, std_sget, std_scut, std_ofNat, std_toNat, std_nsub, std_nadd, std_lenOf, std_nz, std_nneg, std_inb, std_upto, std_slt63, std_grow, std_imp, std_impN, std_tr, std_tb, std_ti, std_ts, std_tn, std_tp, std_nmin, std_nset, std_fset, std_makes, std_room, std_zeros, std_nilq, std_notq, std_eqi, std_eqn, std_eqb, std_eqs, std_eqv, std_cat, std_lst, std_rset, std_rcopy, std_shift, std_eqr, std_strOf, std_bytesOf, std_isB, std_zOf, zOf_int, std_isI, isI_int, std_getL, std_nmul, std_sOf, sOf_str, std_isS, isS_str, std_fadd, std_fsub, std_fav, std_fsv, std_feq, std_fne, std_flt, std_fle, std_fgt, std_fge, std_fOf, std_fTo, std_fTv, hgL, hgx, ← hP]
                 have hfin : P ++ [x] ++ (N.drop j).take (N.length - j) = N' := by
                   rw [List.take_of_length_le (by rw [List.length_drop]; exact Nat.le_refl _), hN', hP, List.append_assoc, hc0]
                   rfl
                 have hlen : N'.length = P.length + 1 + (N.length - j) := by rw [hN', insP_len]; omega
                 exact ⟨w_succ' hk' (by omega), hlen.symm, eqr_of (((Reps.lit P).cat (Reps.one (cell_eE x))).cat ((Reps.lit N).shift (m := N.length - j) j (by omega))) hlen hfin⟩)
              | trace_state
        · have hke : k = L.length := by omega
          rw [hke, List.take_length] at hN
          have hNM : N = (T.take i').flatten.foldl insP [] := by rw [hsn, List.foldl_append, ← hM, hN]
          cbv
          repeat' (first | with_reducible exact True.intro | with_reducible exact dr_ok hA (by kernel_rfl) | with_reducible refine And.intro ?_ ?_ | (intro hc; cbv))
          all_goals first
            | (fail_if_success (refine Exists.intro ?_ ?_)
               subst hA
               simp only [std_add, std_sub, std_mul, std_quo, std_rem, std_band, std_bor, std_bxor, std_shl, std_shr, std_eq, std_ne, std_lt, std_le, std_conv, std_not, std_beq, std_bne, std_ite, std_want, std_and2, std_sadd, std_seq, std_sne, std_slt, std_sle, std_sgt, std_sge, std_slen, std_sget, std_scut, std_ofNat, std_toNat, std_nsub, std_nadd, std_lenOf, std_nz, std_nneg, std_inb, std_upto, std_slt63, std_grow, std_imp, std_impN, std_tr, std_tb, std_ti, std_ts, std_tn, std_tp, std_nmin, std_nset, std_fset, std_makes, std_room, std_zeros, std_nilq, std_notq, std_eqi, std_eqn, std_eqb, std_eqs, std_eqv, std_cat, std_lst, std_rset, std_rcopy, std_shift, std_eqr, std_strOf, std_bytesOf, std_isB, std_zOf, zOf_int, std_isI, isI_int, std_getL, std_nmul, std_sOf, sOf_str, std_isS, isS_str, std_fadd, std_fsub, std_fav, std_fsv, std_feq, std_fne, std_flt, std_fle, std_fgt, std_fge, std_fOf, std_fTo, std_fTv, Int.ofNat_eq_natCast, Int.toNat_natCast, hgL, isRow_V, lstOf_V, isRow_T, lstOf_T] at *
               constructor <;> omega)
            | (exfalso
               subst hA
               simp only [std_add, std_sub, std_mul, std_quo, std_rem, std_band, std_bor, std_bxor, std_shl, std_shr, std_eq, std_ne, std_lt, std_le, std_conv, std_not, std_beq, std_bne, std_ite, std_want, std_and2, std_sadd, std_seq, std_sne, std_slt, std_sle, std_sgt, std_sge, std_slen, std_sget, std_scut, std_ofNat, std_toNat, std_nsub, std_nadd, std_lenOf, std_nz, std_nneg, std_inb, std_upto, std_slt63, std_grow, std_imp, std_impN, std_tr, std_tb, std_ti, std_ts, std_tn, std_tp, std_nmin, std_nset, std_fset, std_makes, std_room, std_zeros, std_nilq, std_notq, std_eqi, std_eqn, std_eqb, std_eqs, std_eqv, std_cat, std_lst, std_rset, std_rcopy, std_shift, std_eqr, std_strOf, std_bytesOf, std_isB, std_zOf, zOf_int, std_isI, isI_int, std_getL, std_nmul, std_sOf, sOf_str, std_isS, isS_str, std_fadd, std_fsub, std_fav, std_fsv, std_feq, std_fne, std_flt, std_fle, std_fgt, std_fge, std_fOf, std_fTo, std_fTv, Int.ofNat_eq_natCast, Int.toNat_natCast, hgL, isRow_V, lstOf_V, isRow_T, lstOf_T] at *
               have := of_decide_eq_true (by assumption : decide ((k : Int) < (L.length : Int)) = true); omega)
            | (refine ⟨⟨(i', N), by omega, hNM⟩, ?_, show T.length - i' < T.length - i by omega⟩
               cbv
               subst hA
               simp [-List.getD_eq_getElem?_getD, std_add, std_sub, std_mul, std_quo, std_rem, std_band, std_bor, std_bxor, std_shl, std_shr, std_eq, std_ne, std_lt, std_le, std_conv, std_not, std_beq, std_bne, std_ite, std_want, std_and2, std_sadd, std_seq, std_sne, std_slt, std_sle, std_sgt, std_sge, std_slen, std_sget, std_scut, std_ofNat, std_toNat, std_nsub, std_nadd, std_lenOf, std_nz, std_nneg, std_inb, std_upto, std_slt63, std_grow, std_imp, std_impN, std_tr, std_tb, std_ti, std_ts, std_tn, std_tp, std_nmin, std_nset, std_fset, std_makes, std_room, std_zeros, std_nilq, std_notq, std_eqi, std_eqn, std_eqb, std_eqs, std_eqv, std_cat, std_lst, std_rset, std_rcopy, std_shift, std_eqr, std_strOf, std_bytesOf, std_isB, std_zOf, zOf_int, std_isI, isI_int, std_getL, std_nmul, std_sOf, sOf_str, std_isS, isS_str, std_fadd, std_fsub, std_fav, std_fsv, std_feq, std_fne, std_flt, std_fle, std_fgt, std_fge, std_fOf, std_fTo, std_fTv]
               exact w_succ' hi' (by omega))
            | trace_state
    · have hie : i = T.length := by omega
      rw [hie, List.take_length] at hM
      have hM2 : M = lstT T := hM
      cbv
      repeat' (first | with_reducible exact True.intro | with_reducible exact dr_ok hA (by kernel_rfl) | with_reducible refine And.intro ?_ ?_ | (intro hc; cbv))
      all_goals first
        | (exfalso
           subst hA
           simp only [std_add, std_sub, std_mul, std_quo, std_rem, std_band, std_bor, std_bxor, std_shl, std_shr, std_eq, std_ne, std_lt, std_le, std_conv, std_not, std_beq, std_bne, std_ite, std_want, std_and2, std_sadd, std_seq, std_sne, std_slt, std_sle, std_sgt, std_sge, std_slen, std_sget, std_scut, std_ofNat, std_toNat, std_nsub, std_nadd, std_lenOf, std_nz, std_nneg, std_inb, std_upto, std_slt63, std_grow, std_imp, std_impN, std_tr, std_tb, std_ti, std_ts, std_tn, std_tp, std_nmin, std_nset, std_fset, std_makes, std_room, std_zeros, std_nilq, std_notq, std_eqi, std_eqn, std_eqb, std_eqs, std_eqv, std_cat, std_lst, std_rset, std_rcopy, std_shift, std_eqr, std_strOf, std_bytesOf, std_isB, std_zOf, zOf_int, std_isI, isI_int, std_getL, std_nmul, std_sOf, sOf_str, std_isS, isS_str, std_fadd, std_fsub, std_fav, std_fsv, std_feq, std_fne, std_flt, std_fle, std_fgt, std_fge, std_fOf, std_fTo, std_fTv, Int.ofNat_eq_natCast, Int.toNat_natCast, hgL, isRow_V, lstOf_V, isRow_T, lstOf_T] at *
           have := of_decide_eq_true (by assumption : decide ((i : Int) < (T.length : Int)) = true); omega)
        | (subst hA
           simp only [std_add, std_sub, std_mul, std_quo, std_rem, std_band, std_bor, std_bxor, std_shl, std_shr, std_eq, std_ne, std_lt, std_le, std_conv, std_not, std_beq, std_bne, std_ite, std_want, std_and2, std_sadd, std_seq, std_sne, std_slt, std_sle, std_sgt, std_sge, std_slen, std_sget, std_scut, std_ofNat, std_toNat, std_nsub, std_nadd, std_lenOf, std_nz, std_nneg, std_inb, std_upto, std_slt63, std_grow, std_imp, std_impN, std_tr, std_tb, std_ti, std_ts, std_tn, std_tp, std_nmin, std_nset, std_fset, std_makes, std_room, std_zeros, std_nilq, std_notq, std_eqi, std_eqn, std_eqb, std_eqs, std_eqv, std_cat, std_lst, std_rset, std_rcopy, std_shift, std_eqr, std_strOf, std_bytesOf, std_isB, std_zOf, zOf_int, std_isI, isI_int, std_getL, std_nmul, std_sOf, sOf_str, std_isS, isS_str, std_fadd, std_fsub, std_fav, std_fsv, std_feq, std_fne, std_flt, std_fle, std_fgt, std_fge, std_fOf, std_fTo, std_fTv]
           rw [hM2]
           first
             | done
             | exact (Reps.lit _).eqr)
        | trace_state
end Go.Vd

set_option linter.unusedVariables false
set_option linter.unusedSimpArgs false
set_option maxRecDepth 100000
set_option maxHeartbeats 4000000
namespace Go.Vd
open Go.Proofs
theorem wV64 {n : Int} (h : 0 ≤ n ∧ n < 18446744073709551616) : IntKind.u64.wrap n = n := by rw [IntKind.wrap_u64]; omega
def pDig (v : Nat) (n : Int) : List UInt8 := if 1 ≤ n ∧ n ≤ 19 then (if v / 10 ^ n.toNat = 0 then decs n.toNat v else []) else []
def pErr (v : Nat) (n : Int) : Int := if 1 ≤ n ∧ n ≤ 19 then (if v / 10 ^ n.toNat = 0 then 0 else 10) else 1
theorem dZ (u : Nat) : IntKind.u8.wrap (IntKind.u64.wrap (48 + (u : Int).tmod 10)) = ((UInt8.ofNat (48 + u % 10)).toNat : Int) := by
  rw [Int.tmod_eq_emod_of_nonneg (by omega), IntKind.wrap_u64, IntKind.wrap_u8, UInt8.toNat_ofNat']
  omega
theorem qZ (u : Nat) : Reps eB 0 1 1 (lstS [[SV.int .u8 (IntKind.u8.wrap (IntKind.u64.wrap (48 + (u : Int).tmod 10)))]]) [UInt8.ofNat (48 + u % 10)] := Reps.one (cell_eB (dZ u))
theorem pDig_no {v : Nat} {n : Int} (h : ¬(1 ≤ n ∧ n ≤ 19)) : pDig v n = [] ∧ pErr v n = 1 := ⟨if_neg h, if_neg h⟩
theorem pDig_ov {v : Nat} {n : Int} (h : 1 ≤ n ∧ n ≤ 19) (h0 : ¬v / 10 ^ n.toNat = 0) : pDig v n = [] ∧ pErr v n = 10 := by
  unfold pDig pErr
  rw [if_pos h, if_neg h0, if_pos h, if_neg h0]
  exact ⟨rfl, rfl⟩
theorem pDig_ok {v : Nat} {n : Int} (h : 1 ≤ n ∧ n ≤ 19) (h0 : v / 10 ^ n.toNat = 0) : pDig v n = decs n.toNat v ∧ pErr v n = 0 := by
  unfold pDig pErr
  rw [if_pos h, if_pos h0, if_pos h, if_pos h0]
  exact ⟨rfl, rfl⟩
attribute [local irreducible] vc
theorem good_rPut (v : Nat) (hv : v < 18446744073709551616) (n : Int) : GoodP Tryz.prog gl0 71 [.int .u64 (v : Nat), .int .i64 n] (.tup [.str (std.ts fun _ => pDig v n), .int .i64 (std.ti fun _ => pErr v n)]) := by
  refine fn_sound' (T := seatT) (G := noC) (X := noX) seatT_ok noC_ok noX_ok noI_ok mixed Tryz.func71 (.one) (fun A => [.int .u64 (v : Nat), .int .i64 n]) (fun A => .tup [.str (A.ts fun _ => pDig v n), .int .i64 (A.ti fun _ => pErr v n)]) fun A hA => ?_
  cbv
  repeat' (first | with_reducible exact True.intro | with_reducible exact dr_ok hA (by kernel_rfl) | with_reducible refine And.intro ?_ ?_ | (intro hc; cbv))
  rotate_right
  · have hn : 1 ≤ n ∧ n ≤ 19 := by subst hA; simp [std_add, std_sub, std_mul, std_quo, std_rem, std_band, std_bor, std_bxor, std_shl, std_shr, std_eq, std_ne, std_lt, std_le, std_conv, std_not, std_beq, std_bne, std_ite, std_want, std_and2, std_sadd, std_seq, std_sne, std_slt, std_sle, std_sgt, std_sge, std_slen, std_sget, std_scut, std_ofNat, std_toNat, std_nsub, std_nadd, std_lenOf, std_nz, std_nneg, std_inb, std_upto, std_slt63, std_grow, std_imp, std_impN, std_tr, std_tb, std_ti, std_ts, std_tn, std_tp, std_nmin, std_nset, std_fset, std_makes, std_room, std_zeros, std_nilq, std_notq, std_eqi, std_eqn, std_eqb, std_eqs, std_eqv, std_cat, std_lst, std_rset, std_rcopy, std_shift, std_eqr, std_strOf, std_bytesOf, std_isB, std_zOf, zOf_int, std_isI, isI_int, std_getL, std_nmul, std_sOf, sOf_str, std_isS, isS_str, std_fadd, std_fsub, std_fav, std_fsv, std_feq, std_fne, std_flt, std_fle, std_fgt, std_fge, std_fOf, std_fTo, std_fTv] at *; omega
    refine ⟨⟨{p : Nat × Nat × List UInt8 // p.1 ≤ n.toNat ∧ p.2.1 = v / 10 ^ p.1 ∧ p.2.2 = decs p.1 v}, fun b p => [(0, .int .u64 (p.1.2.1 : Nat)), (6, .str p.1.2.2), (7, .int .i64 (p.1.1 : Nat))], fun b p => [], fun p => n.toNat - p.1.1, true⟩, ⟨⟨(0, v, []), by omega, by simp, rfl⟩, ?_⟩, ?_⟩
    · cbv
      subst hA
      simp [-List.getD_eq_getElem?_getD, std_add, std_sub, std_mul, std_quo, std_rem, std_band, std_bor, std_bxor, std_shl, std_shr, std_eq, std_ne, std_lt, std_le, std_conv, std_not, std_beq, std_bne, std_ite, std_want, std_and2, std_sadd, std_seq, std_sne, std_slt, std_sle, std_sgt, std_sge, std_slen, std_sget, std_scut, std_ofNat, std_toNat, std_nsub, std_nadd, std_lenOf, std_nz, std_nneg, std_inb, std_upto, std_slt63, std_grow, std_imp, std_impN, std_tr, std_tb, std_ti, std_ts, std_tn, std_tp, std_nmin, std_nset, std_fset, std_makes, std_room, std_zeros, std_nilq, std_notq, std_eqi, std_eqn, std_eqb, std_eqs, std_eqv, std_cat, std_lst, std_rset, std_rcopy, std_shift, std_eqr, std_strOf, std_bytesOf, std_isB, std_zOf, zOf_int, std_isI, isI_int, std_getL, std_nmul, std_sOf, sOf_str, std_isS, isS_str, std_fadd, std_fsub, std_fav, std_fsv, std_feq, std_fne, std_flt, std_fle, std_fgt, std_fge, std_fOf, std_fTo, std_fTv]
    · rintro ⟨⟨i, u, D⟩, hi, hu, hD⟩
      simp only at hi hu hD
      have hul : u < 18446744073709551616 := by rw [hu]; exact Nat.lt_of_le_of_lt (Nat.div_le_self _ _) hv
      have hDl : D.length = i := by rw [hD, decs_len]
      cbv
      repeat' (first | with_reducible exact True.intro | with_reducible exact dr_ok hA (by kernel_rfl) | with_reducible refine And.intro ?_ ?_ | (intro hc; cbv))
      all_goals first
        | (fail_if_success (refine Exists.intro ?_ ?_)
           subst hA
           simp [-List.getD_eq_getElem?_getD, std_add, std_sub, std_mul, std_quo, std_rem, std_band, std_bor, std_bxor, std_shl, std_shr, std_eq, std_ne, std_lt, std_le, std_conv, std_not, std_beq, std_bne, std_ite, std_want, std_and2, std_sadd, std_seq, std_sne, std_slt, std_sle, std_sgt, std_sge, std_slen, std_sget, std_scut, std_ofNat, std_toNat, std_nsub, std_nadd, std_lenOf, std_nz, std_nneg, std_inb, std_upto, std_slt63, std_grow, std_imp, std_impN, std_tr, std_tb, std_ti, std_ts, std_tn, std_tp, std_nmin, std_nset, std_fset, std_makes, std_room, std_zeros, std_nilq, std_notq, std_eqi, std_eqn, std_eqb, std_eqs, std_eqv, std_cat, std_lst, std_rset, std_rcopy, std_shift, std_eqr, std_strOf, std_bytesOf, std_isB, std_zOf, zOf_int, std_isI, isI_int, std_getL, std_nmul, std_sOf, sOf_str, std_isS, isS_str, std_fadd, std_fsub, std_fav, std_fsv, std_feq, std_fne, std_flt, std_fle, std_fgt, std_fge, std_fOf, std_fTo, std_fTv] at *
           done)
        | (fail_if_success (refine Exists.intro ?_ ?_)
           subst hA
           simp only [std_add, std_sub, std_mul, std_quo, std_rem, std_band, std_bor, std_bxor, std_shl, std_shr, std_eq, std_ne, std_lt, std_le, std_conv, std_not, std_beq, std_bne, std_ite, std_want, std_and2, std_sadd, std_seq, std_sne, std_slt, std_sle, std_sgt, std_sge, std_slen, std_sget, std_scut, std_ofNat, std_toNat, std_nsub, std_nadd, std_lenOf, std_nz, std_nneg, std_inb, std_upto, std_slt63, std_grow, std_imp, std_impN, std_tr, std_tb, std_ti, std_ts, std_tn, std_tp, std_nmin, std_nset, std_fset, std_makes, std_room, std_zeros, std_nilq, std_notq, std_eqi, std_eqn, std_eqb, std_eqs, std_eqv, std_cat, std_lst, std_rset, std_rcopy, std_shift, std_eqr, std_strOf, std_bytesOf, std_isB, std_zOf, zOf_int, std_isI, isI_int, std_getL, std_nmul, std_sOf, sOf_str, std_isS, isS_str, std_fadd, std_fsub, std_fav, std_fsv, std_feq, std_fne, std_flt, std_fle, std_fgt, std_fge, std_fOf, std_fTo, std_fTv, Int.ofNat_eq_natCast] at *
           first
             | decide
             | exact isB_row (qZ u)
             | (rw [strOf_row (qZ u)]; simp; omega))
        | (fail_if_success (refine Exists.intro ?_ ?_)
           have hin : i = n.toNat := by (clear hu hD; subst hA; simp [std_add, std_sub, std_mul, std_quo, std_rem, std_band, std_bor, std_bxor, std_shl, std_shr, std_eq, std_ne, std_lt, std_le, std_conv, std_not, std_beq, std_bne, std_ite, std_want, std_and2, std_sadd, std_seq, std_sne, std_slt, std_sle, std_sgt, std_sge, std_slen, std_sget, std_scut, std_ofNat, std_toNat, std_nsub, std_nadd, std_lenOf, std_nz, std_nneg, std_inb, std_upto, std_slt63, std_grow, std_imp, std_impN, std_tr, std_tb, std_ti, std_ts, std_tn, std_tp, std_nmin, std_nset, std_fset, std_makes, std_room, std_zeros, std_nilq, std_notq, std_eqi, std_eqn, std_eqb, std_eqs, std_eqv, std_cat, std_lst, std_rset, std_rcopy, std_shift, std_eqr, std_strOf, std_bytesOf, std_isB, std_zOf, zOf_int, std_isI, isI_int, std_getL, std_nmul, std_sOf, sOf_str, std_isS, isS_str, std_fadd, std_fsub, std_fav, std_fsv, std_feq, std_fne, std_flt, std_fle, std_fgt, std_fge, std_fOf, std_fTo, std_fTv] at *; omega)
           rw [hin] at hu hD
           subst hA
           simp [-List.getD_eq_getElem?_getD, std_add, std_sub, std_mul, std_quo, std_rem, std_band, std_bor, std_bxor, std_shl, std_shr, std_eq, std_ne, std_lt, std_le, std_conv, std_not, std_beq, std_bne, std_ite, std_want, std_and2, std_sadd, std_seq, std_sne, std_slt, std_sle, std_sgt, std_sge, std_slen, std_sget, std_scut, std_ofNat, std_toNat, std_nsub, std_nadd, std_lenOf, std_nz, std_nneg, std_inb, std_upto, std_slt63, std_grow, std_imp, std_impN, std_tr, std_tb, std_ti, std_ts, std_tn, std_tp, std_nmin, std_nset, std_fset, std_makes, std_room, std_zeros, std_nilq, std_notq, std_eqi, std_eqn, std_eqb, std_eqs, std_eqv, std_cat, std_lst, std_rset, std_rcopy, std_shift, std_eqr, std_strOf, std_bytesOf, std_isB, std_zOf, zOf_int, std_isI, isI_int, std_getL, std_nmul, std_sOf, sOf_str, std_isS, isS_str, std_fadd, std_fsub, std_fav, std_fsv, std_feq, std_fne, std_flt, std_fle, std_fgt, std_fge, std_fOf, std_fTo, std_fTv] at *
           first
             | (rw [(pDig_ov hn (by rw [← hu]; assumption)).1]; done)
             | (rw [(pDig_ov hn (by rw [← hu]; assumption)).2]; done)
             | (rw [(pDig_ok hn (by rw [← hu]; assumption)).1]; exact hD)
             | (rw [(pDig_ok hn (by rw [← hu]; assumption)).2]; done)
             | trace_state)
        | (have hlt : i < n.toNat := by clear hu hD; subst hA; simp [std_add, std_sub, std_mul, std_quo, std_rem, std_band, std_bor, std_bxor, std_shl, std_shr, std_eq, std_ne, std_lt, std_le, std_conv, std_not, std_beq, std_bne, std_ite, std_want, std_and2, std_sadd, std_seq, std_sne, std_slt, std_sle, std_sgt, std_sge, std_slen, std_sget, std_scut, std_ofNat, std_toNat, std_nsub, std_nadd, std_lenOf, std_nz, std_nneg, std_inb, std_upto, std_slt63, std_grow, std_imp, std_impN, std_tr, std_tb, std_ti, std_ts, std_tn, std_tp, std_nmin, std_nset, std_fset, std_makes, std_room, std_zeros, std_nilq, std_notq, std_eqi, std_eqn, std_eqb, std_eqs, std_eqv, std_cat, std_lst, std_rset, std_rcopy, std_shift, std_eqr, std_strOf, std_bytesOf, std_isB, std_zOf, zOf_int, std_isI, isI_int, std_getL, std_nmul, std_sOf, sOf_str, std_isS, isS_str, std_fadd, std_fsub, std_fav, std_fsv, std_feq, std_fne, std_flt, std_fle, std_fgt, std_fge, std_fOf, std_fTo, std_fTv] at *; omega
           obtain ⟨i', hi'⟩ : ∃ i', i' = i + 1 := ⟨_, rfl⟩
           obtain ⟨u', hu'⟩ : ∃ u', u' = u / 10 := ⟨_, rfl⟩
           obtain ⟨D', hD'⟩ : ∃ D', D' = decs i' v := ⟨_, rfl⟩
           refine ⟨⟨(i', u', D'), by omega, by rw [hu', hu, hi', Nat.div_div_eq_div_mul, Nat.pow_succ], hD'⟩, ?_, show n.toNat - i' < n.toNat - i by omega⟩
           cbv
           subst hA
           simp only [std_add, std_sub, std_mul, std_quo, std_rem, std_band, std_bor, std_bxor, std_shl, std_shr, std_eq, std_ne, std_lt, std_le, std_conv, std_not, std_beq, std_bne, std_ite, std_want, std_and2, std_sadd, std_seq, std_sne, std_slt, std_sle, std_sgt, std_sge, std_slen, std_sget, std_scut, std_ofNat, std_toNat, std_nsub, std_nadd, std_lenOf, std_nz, std_nneg, std_inb, std_upto, std_slt63, std_grow, std_imp, std_impN, std_tr, std_tb, std_ti, std_ts, std_tn, std_tp, std_nmin, std_nset, std_fset, std_makes, std_room, std_zeros, std_nilq, std_notq, std_eqi, std_eqn, std_eqb, std_eqs, std_eqv, std_cat, std_lst, std_rset, std_rcopy, std_shift, std_eqr, std_strOf, std_bytesOf, std_isB, std_zOf, zOf_int, std_isI, isI_int, std_getL, std_nmul, std_sOf, sOf_str, std_isS, isS_str, std_fadd, std_fsub, std_fav, std_fsv, std_feq, std_fne, std_flt, std_fle, std_fgt, std_fge, std_fOf, std_fTo, std_fTv, Int.ofNat_eq_natCast]
           rw [strOf_row (qZ u)]
           have e1 : IntKind.u64.wrap ((u : Int).tdiv 10) = (u' : Int) := by
             rw [Int.tdiv_eq_ediv_of_nonneg (by omega), wV64 (by omega), hu']; omega
           have e2 : [UInt8.ofNat (48 + u % 10)] ++ D = D' := by rw [hD', hi', decs_cons, hD, hu]; rfl
           exact ⟨⟨e1, trivial, trivial, trivial, e2, (w64 (by omega)).trans (by omega), trivial, trivial, trivial, trivial, trivial⟩, trivial⟩)
        | (subst hA
           simp only [std_add, std_sub, std_mul, std_quo, std_rem, std_band, std_bor, std_bxor, std_shl, std_shr, std_eq, std_ne, std_lt, std_le, std_conv, std_not, std_beq, std_bne, std_ite, std_want, std_and2, std_sadd, std_seq, std_sne, std_slt, std_sle, std_sgt, std_sge, std_slen, std_sget, std_scut, std_ofNat, std_toNat, std_nsub, std_nadd, std_lenOf, std_nz, std_nneg, std_inb, std_upto, std_slt63, std_grow, std_imp, std_impN, std_tr, std_tb, std_ti, std_ts, std_tn, std_tp, std_nmin, std_nset, std_fset, std_makes, std_room, std_zeros, std_nilq, std_notq, std_eqi, std_eqn, std_eqb, std_eqs, std_eqv, std_cat, std_lst, std_rset, std_rcopy, std_shift, std_eqr, std_strOf, std_bytesOf, std_isB, std_zOf, zOf_int, std_isI, isI_int, std_getL, std_nmul, std_sOf, sOf_str, std_isS, isS_str, std_fadd, std_fsub, std_fav, std_fsv, std_feq, std_fne, std_flt, std_fle, std_fgt, std_fge, std_fOf, std_fTo, std_fTv, Int.ofNat_eq_natCast]
           rw [strOf_row (qZ u)]
           simp only [List.length_singleton]
           omega)
  all_goals (subst hA; simp [std_add, std_sub, std_mul, std_quo, std_rem, std_band, std_bor, std_bxor, std_shl, std_shr, std_eq, std_ne, std_lt, std_le, std_conv, std_not, std_beq, std_bne, std_ite, std_want, std_and2, std_sadd, std_seq, std_sne, std_slt, std_sle, std_sgt, std_sge, std_slen, std_sget, std_scut, std_ofNat, std_toNat, std_nsub, std_nadd, std_lenOf, std_nz, std_nneg, std_inb, std_upto, std_slt63, std_grow, std_imp, std_impN, std_tr, std_tb, std_ti, std_ts, std_tn, std_tp, std_nmin, std_nset, std_fset, std_makes, std_room, std_zeros, std_nilq, std_notq, std_eqi, std_eqn, std_eqb, std_eqs, std_eqv, std_cat, std_lst, std_rset, std_rcopy, std_shift, std_eqr, std_strOf, std_bytesOf, std_isB, std_zOf, zOf_int, std_isI, isI_int, std_getL, std_nmul, std_sOf, sOf_str, std_isS, isS_str, std_fadd, std_fsub, std_fav, std_fsv, std_feq, std_fne, std_flt, std_fle, std_fgt, std_fge, std_fOf, std_fTo, std_fTv] at *)
  all_goals first
    | exact (pDig_no (by omega)).1
    | exact (pDig_no (by omega)).2.symm
theorem good_rPutI {v n : Int} (hv : 0 ≤ v ∧ v < 18446744073709551616) : GoodP Tryz.prog gl0 71 [.int .u64 v, .int .i64 n] (.tup [.str (std.ts fun _ => pDig v.toNat n), .int .i64 (std.ti fun _ => pErr v.toNat n)]) := by
  have h := good_rPut v.toNat (by omega) n
  have e : ((v.toNat : Nat) : Int) = v := by omega
  rw [e] at h
  exact h
noncomputable def c_rPut : Ct := fun A args => match args with
  | [.int .u64 v, .int .i64 n] => some (some (A.tp fun _ => 0 ≤ v ∧ v < 18446744073709551616), .tup [.str (A.ts fun _ => pDig v.toNat n), .int .i64 (A.ti fun _ => pErr v.toNat n)])
  | _ => none
noncomputable def gy6 : Ar → Pu := addC 71 c_rPut (gt4)
theorem gy6_ok : PuOk Tryz.prog gl0 (gy6 std) := by
  refine addC_ok (gt4_ok) ⟨_, Tryz.func71, rfl, by decide⟩ ?_
  · intro args p r h hp
    unfold c_rPut at h
    split at h <;> cases h
    exact good_rPutI hp
theorem good_rMust (v n : Int) (hv : 0 ≤ v ∧ v < 18446744073709551616) : GoodP Tryz.prog gl0 49 [.int .u64 v, .int .i64 n] (.str (std.ts fun _ => pDig v.toNat n)) := by
  refine fn_sound' (T := seatT) (G := gy6) (X := noX) seatT_ok gy6_ok noX_ok noI_ok mixed Tryz.func49 (.one) (fun A => [.int .u64 v, .int .i64 n]) (fun A => .str (A.ts fun _ => pDig v.toNat n)) fun A hA => ?_
  cbv
  repeat' (first | with_reducible exact True.intro | with_reducible exact dr_ok hA (by kernel_rfl) | with_reducible refine And.intro ?_ ?_ | (intro hc; cbv))
  all_goals (subst hA; simp [std_add, std_sub, std_mul, std_quo, std_rem, std_band, std_bor, std_bxor, std_shl, std_shr, std_eq, std_ne, std_lt, std_le, std_conv, std_not, std_beq, std_bne, std_ite, std_want, std_and2, std_sadd, std_seq, std_sne, std_slt, std_sle, std_sgt, std_sge, std_slen, std_sget, std_scut, std_ofNat, std_toNat, std_nsub, std_nadd, std_lenOf, std_nz, std_nneg, std_inb, std_upto, std_slt63, std_grow, std_imp, std_impN, std_tr, std_tb, std_ti, std_ts, std_tn, std_tp, std_nmin, std_nset, std_fset, std_makes, std_room, std_zeros, std_nilq, std_notq, std_eqi, std_eqn, std_eqb, std_eqs, std_eqv, std_cat, std_lst, std_rset, std_rcopy, std_shift, std_eqr, std_strOf, std_bytesOf, std_isB, std_zOf, zOf_int, std_isI, isI_int, std_getL, std_nmul, std_sOf, sOf_str, std_isS, isS_str, std_fadd, std_fsub, std_fav, std_fsv, std_feq, std_fne, std_flt, std_fle, std_fgt, std_fge, std_fOf, std_fTo, std_fTv] at *)
  exact hv
noncomputable def c_rMust : Ct := fun A args => match args with
  | [.int .u64 v, .int .i64 n] => some (some (A.tp fun _ => 0 ≤ v ∧ v < 18446744073709551616), .str (A.ts fun _ => pDig v.toNat n))
  | _ => none
noncomputable def gy7 : Ar → Pu := addC 49 c_rMust (gy6)
theorem gy7_ok : PuOk Tryz.prog gl0 (gy7 std) := by
  refine addC_ok (gy6_ok) ⟨_, Tryz.func49, rfl, by decide⟩ ?_
  · intro args p r h hp
    unfold c_rMust at h
    split at h <;> cases h
    exact good_rMust _ _ hp
theorem pDig6 {s : Int} (h : s ≤ 999999) : pDig s.toNat 6 = decs 6 s.toNat := (pDig_ok (n := 6) (by omega) (by rw [show (6 : Int).toNat = 6 from rfl]; omega)).1
theorem fnv64 (L : List UInt8) (b : UInt8) : (IntKind.u64.wrap (bits .xor .u64 (fnv L : Int) (IntKind.u64.wrap (b.toNat : Int)) * 16777619)).tmod 4294967296 = (fnv1 (fnv L) b : Int) := by
  have hb := b.toNat_lt
  have hx := xor_lt b (fnv_lt L)
  rw [wV64 (n := (b.toNat : Int)) (by omega), xor64 b (fnv_lt L), wV64 (by omega), Int.tmod_eq_emod_of_nonneg (by omega), fnv1]
  omega
theorem good_rkShard (s m : Int) (r : List UInt8) (hs : 0 ≤ s ∧ s < 4294967296) (hr : r.length ≤ 1000000) : GoodP Tryz.prog gl0 26 [sKey std s r, .int .i64 m] (.int .i64 (std.ti fun _ => shardI s r m)) := by
  refine fn_sound' (T := seatT) (G := gy7) (X := noX) seatT_ok gy7_ok noX_ok noI_ok mixed Tryz.func26 (.one) (fun A => [sKey A s r, .int .i64 m]) (fun A => .int .i64 (A.ti fun _ => shardI s r m)) fun A hA => ?_
  cbv
  repeat' (first | with_reducible exact True.intro | with_reducible exact dr_ok hA (by kernel_rfl) | with_reducible refine And.intro ?_ ?_ | (intro hc; cbv))
  rotate_right
  · have hk : keyOk s r = true ∧ 1 ≤ m ∧ m ≤ 16 := by subst hA; simp [std_add, std_sub, std_mul, std_quo, std_rem, std_band, std_bor, std_bxor, std_shl, std_shr, std_eq, std_ne, std_lt, std_le, std_conv, std_not, std_beq, std_bne, std_ite, std_want, std_and2, std_sadd, std_seq, std_sne, std_slt, std_sle, std_sgt, std_sge, std_slen, std_sget, std_scut, std_ofNat, std_toNat, std_nsub, std_nadd, std_lenOf, std_nz, std_nneg, std_inb, std_upto, std_slt63, std_grow, std_imp, std_impN, std_tr, std_tb, std_ti, std_ts, std_tn, std_tp, std_nmin, std_nset, std_fset, std_makes, std_room, std_zeros, std_nilq, std_notq, std_eqi, std_eqn, std_eqb, std_eqs, std_eqv, std_cat, std_lst, std_rset, std_rcopy, std_shift, std_eqr, std_strOf, std_bytesOf, std_isB, std_zOf, zOf_int, std_isI, isI_int, std_getL, std_nmul, std_sOf, sOf_str, std_isS, isS_str, std_fadd, std_fsub, std_fav, std_fsv, std_feq, std_fne, std_flt, std_fle, std_fgt, std_fge, std_fOf, std_fTo, std_fTv] at hc; exact ⟨hc.1.1, hc.1.2, hc.2⟩
    have hs9 := keyOk_le hk.1
    obtain ⟨S, hS⟩ : ∃ S, S = pDig s.toNat 6 ++ r := ⟨_, rfl⟩
    have hSl : S.length = 18 := by rw [hS, pDig6 hs9.1, List.length_append, decs_len, hs9.2]
    refine ⟨⟨{p : Nat × Nat // p.1 ≤ S.length ∧ p.2 = fnv (S.take p.1)}, fun b p => [(5, .str S), (6, .int .u64 (p.1.2 : Nat)), (7, .int .i64 (p.1.1 : Nat))], fun b p => [], fun p => S.length - p.1.1, true⟩, ⟨⟨(0, 2166136261), by omega, rfl⟩, ?_⟩, ?_⟩
    · cbv
      subst hA
      simp [std_add, std_sub, std_mul, std_quo, std_rem, std_band, std_bor, std_bxor, std_shl, std_shr, std_eq, std_ne, std_lt, std_le, std_conv, std_not, std_beq, std_bne, std_ite, std_want, std_and2, std_sadd, std_seq, std_sne, std_slt, std_sle, std_sgt, std_sge, std_slen, std_sget, std_scut, std_ofNat, std_toNat, std_nsub, std_nadd, std_lenOf, std_nz, std_nneg, std_inb, std_upto, std_slt63, std_grow, std_imp, std_impN, std_tr, std_tb, std_ti, std_ts, std_tn, std_tp, std_nmin, std_nset, std_fset, std_makes, std_room, std_zeros, std_nilq, std_notq, std_eqi, std_eqn, std_eqb, std_eqs, std_eqv, std_cat, std_lst, std_rset, std_rcopy, std_shift, std_eqr, std_strOf, std_bytesOf, std_isB, std_zOf, zOf_int, std_isI, isI_int, std_getL, std_nmul, std_sOf, sOf_str, std_isS, isS_str, std_fadd, std_fsub, std_fav, std_fsv, std_feq, std_fne, std_flt, std_fle, std_fgt, std_fge, std_fOf, std_fTo, std_fTv, hS]
      rw [wV64 (by omega)]
    · rintro ⟨⟨i, h⟩, hi, hh⟩
      simp only at hi hh
      cbv
      repeat' (first | with_reducible exact True.intro | with_reducible exact dr_ok hA (by kernel_rfl) | with_reducible refine And.intro ?_ ?_ | (intro hc; cbv))
      all_goals first
        | (fail_if_success (refine Exists.intro ?_ ?_)
           subst hA
           simp [-List.getD_eq_getElem?_getD, std_add, std_sub, std_mul, std_quo, std_rem, std_band, std_bor, std_bxor, std_shl, std_shr, std_eq, std_ne, std_lt, std_le, std_conv, std_not, std_beq, std_bne, std_ite, std_want, std_and2, std_sadd, std_seq, std_sne, std_slt, std_sle, std_sgt, std_sge, std_slen, std_sget, std_scut, std_ofNat, std_toNat, std_nsub, std_nadd, std_lenOf, std_nz, std_nneg, std_inb, std_upto, std_slt63, std_grow, std_imp, std_impN, std_tr, std_tb, std_ti, std_ts, std_tn, std_tp, std_nmin, std_nset, std_fset, std_makes, std_room, std_zeros, std_nilq, std_notq, std_eqi, std_eqn, std_eqb, std_eqs, std_eqv, std_cat, std_lst, std_rset, std_rcopy, std_shift, std_eqr, std_strOf, std_bytesOf, std_isB, std_zOf, zOf_int, std_isI, isI_int, std_getL, std_nmul, std_sOf, sOf_str, std_isS, isS_str, std_fadd, std_fsub, std_fav, std_fsv, std_feq, std_fne, std_flt, std_fle, std_fgt, std_fge, std_fOf, std_fTo, std_fTv] at *
           done)
        | (fail_if_success (refine Exists.intro ?_ ?_)
           clear hh
           subst hA
           simp [-List.getD_eq_getElem?_getD, std_add, std_sub, std_mul, std_quo, std_rem, std_band, std_bor, std_bxor, std_shl, std_shr, std_eq, std_ne, std_lt, std_le, std_conv, std_not, std_beq, std_bne, std_ite, std_want, std_and2, std_sadd, std_seq, std_sne, std_slt, std_sle, std_sgt, std_sge, std_slen, std_sget, std_scut, std_ofNat, std_toNat, std_nsub, std_nadd, std_lenOf, std_nz, std_nneg, std_inb, std_upto, std_slt63, std_grow, std_imp, std_impN, std_tr, std_tb, std_ti, std_ts, std_tn, std_tp, std_nmin, std_nset, std_fset, std_makes, std_room, std_zeros, std_nilq, std_notq, std_eqi, std_eqn, std_eqb, std_eqs, std_eqv, std_cat, std_lst, std_rset, std_rcopy, std_shift, std_eqr, std_strOf, std_bytesOf, std_isB, std_zOf, zOf_int, std_isI, isI_int, std_getL, std_nmul, std_sOf, sOf_str, std_isS, isS_str, std_fadd, std_fsub, std_fav, std_fsv, std_feq, std_fne, std_flt, std_fle, std_fgt, std_fge, std_fOf, std_fTo, std_fTv] at *
           first
             | omega
             | (rw [wV64 (by omega)]; omega))
        | (fail_if_success (refine Exists.intro ?_ ?_)
           have hie : i = S.length := by (clear hh; subst hA; simp [std_add, std_sub, std_mul, std_quo, std_rem, std_band, std_bor, std_bxor, std_shl, std_shr, std_eq, std_ne, std_lt, std_le, std_conv, std_not, std_beq, std_bne, std_ite, std_want, std_and2, std_sadd, std_seq, std_sne, std_slt, std_sle, std_sgt, std_sge, std_slen, std_sget, std_scut, std_ofNat, std_toNat, std_nsub, std_nadd, std_lenOf, std_nz, std_nneg, std_inb, std_upto, std_slt63, std_grow, std_imp, std_impN, std_tr, std_tb, std_ti, std_ts, std_tn, std_tp, std_nmin, std_nset, std_fset, std_makes, std_room, std_zeros, std_nilq, std_notq, std_eqi, std_eqn, std_eqb, std_eqs, std_eqv, std_cat, std_lst, std_rset, std_rcopy, std_shift, std_eqr, std_strOf, std_bytesOf, std_isB, std_zOf, zOf_int, std_isI, isI_int, std_getL, std_nmul, std_sOf, sOf_str, std_isS, isS_str, std_fadd, std_fsub, std_fav, std_fsv, std_feq, std_fne, std_flt, std_fle, std_fgt, std_fge, std_fOf, std_fTo, std_fTv] at *; omega)
           rw [hie, List.take_length, hS, pDig6 hs9.1] at hh
           have hb := fnv_lt (decs 6 s.toNat ++ r)
           have hq := modM hb hk.2
           subst hA
           simp only [std_add, std_sub, std_mul, std_quo, std_rem, std_band, std_bor, std_bxor, std_shl, std_shr, std_eq, std_ne, std_lt, std_le, std_conv, std_not, std_beq, std_bne, std_ite, std_want, std_and2, std_sadd, std_seq, std_sne, std_slt, std_sle, std_sgt, std_sge, std_slen, std_sget, std_scut, std_ofNat, std_toNat, std_nsub, std_nadd, std_lenOf, std_nz, std_nneg, std_inb, std_upto, std_slt63, std_grow, std_imp, std_impN, std_tr, std_tb, std_ti, std_ts, std_tn, std_tp, std_nmin, std_nset, std_fset, std_makes, std_room, std_zeros, std_nilq, std_notq, std_eqi, std_eqn, std_eqb, std_eqs, std_eqv, std_cat, std_lst, std_rset, std_rcopy, std_shift, std_eqr, std_strOf, std_bytesOf, std_isB, std_zOf, zOf_int, std_isI, isI_int, std_getL, std_nmul, std_sOf, sOf_str, std_isS, isS_str, std_fadd, std_fsub, std_fav, std_fsv, std_feq, std_fne, std_flt, std_fle, std_fgt, std_fge, std_fOf, std_fTo, std_fTv, Int.ofNat_eq_natCast]
           rw [wV64 (by omega), Int.tmod_eq_emod_of_nonneg (by omega), shardI, if_pos hk, hq.1, hh, w64 (by omega)])
        | skip
      · have hlt : i < S.length := by clear hh; subst hA; simp [std_add, std_sub, std_mul, std_quo, std_rem, std_band, std_bor, std_bxor, std_shl, std_shr, std_eq, std_ne, std_lt, std_le, std_conv, std_not, std_beq, std_bne, std_ite, std_want, std_and2, std_sadd, std_seq, std_sne, std_slt, std_sle, std_sgt, std_sge, std_slen, std_sget, std_scut, std_ofNat, std_toNat, std_nsub, std_nadd, std_lenOf, std_nz, std_nneg, std_inb, std_upto, std_slt63, std_grow, std_imp, std_impN, std_tr, std_tb, std_ti, std_ts, std_tn, std_tp, std_nmin, std_nset, std_fset, std_makes, std_room, std_zeros, std_nilq, std_notq, std_eqi, std_eqn, std_eqb, std_eqs, std_eqv, std_cat, std_lst, std_rset, std_rcopy, std_shift, std_eqr, std_strOf, std_bytesOf, std_isB, std_zOf, zOf_int, std_isI, isI_int, std_getL, std_nmul, std_sOf, sOf_str, std_isS, isS_str, std_fadd, std_fsub, std_fav, std_fsv, std_feq, std_fne, std_flt, std_fle, std_fgt, std_fge, std_fOf, std_fTo, std_fTv] at *; omega
        obtain ⟨i', hi'⟩ : ∃ i', i' = i + 1 := ⟨_, rfl⟩
        obtain ⟨h', hh'⟩ : ∃ h', h' = fnv1 (fnv (S.take i)) (S.getD i 0) := ⟨_, rfl⟩
        refine ⟨⟨(i', h'), by omega, by rw [hi', fnv_take hlt]; exact hh'⟩, ?_, show S.length - i' < S.length - i by omega⟩
        cbv
        subst hA
        simp [-List.getD_eq_getElem?_getD, std_add, std_sub, std_mul, std_quo, std_rem, std_band, std_bor, std_bxor, std_shl, std_shr, std_eq, std_ne, std_lt, std_le, std_conv, std_not, std_beq, std_bne, std_ite, std_want, std_and2, std_sadd, std_seq, std_sne, std_slt, std_sle, std_sgt, std_sge, std_slen, std_sget, std_scut, std_ofNat, std_toNat, std_nsub, std_nadd, std_lenOf, std_nz, std_nneg, std_inb, std_upto, std_slt63, std_grow, std_imp, std_impN, std_tr, std_tb, std_ti, std_ts, std_tn, std_tp, std_nmin, std_nset, std_fset, std_makes, std_room, std_zeros, std_nilq, std_notq, std_eqi, std_eqn, std_eqb, std_eqs, std_eqv, std_cat, std_lst, std_rset, std_rcopy, std_shift, std_eqr, std_strOf, std_bytesOf, std_isB, std_zOf, zOf_int, std_isI, isI_int, std_getL, std_nmul, std_sOf, sOf_str, std_isS, isS_str, std_fadd, std_fsub, std_fav, std_fsv, std_feq, std_fne, std_flt, std_fle, std_fgt, std_fge, std_fOf, std_fTo, std_fTv, gD]
        exact ⟨by rw [hh, hh']; exact fnv64 _ _, (w64 (by omega)).trans (by omega)⟩
  all_goals (subst hA; simp [std_add, std_sub, std_mul, std_quo, std_rem, std_band, std_bor, std_bxor, std_shl, std_shr, std_eq, std_ne, std_lt, std_le, std_conv, std_not, std_beq, std_bne, std_ite, std_want, std_and2, std_sadd, std_seq, std_sne, std_slt, std_sle, std_sgt, std_sge, std_slen, std_sget, std_scut, std_ofNat, std_toNat, std_nsub, std_nadd, std_lenOf, std_nz, std_nneg, std_inb, std_upto, std_slt63, std_grow, std_imp, std_impN, std_tr, std_tb, std_ti, std_ts, std_tn, std_tp, std_nmin, std_nset, std_fset, std_makes, std_room, std_zeros, std_nilq, std_notq, std_eqi, std_eqn, std_eqb, std_eqs, std_eqv, std_cat, std_lst, std_rset, std_rcopy, std_shift, std_eqr, std_strOf, std_bytesOf, std_isB, std_zOf, zOf_int, std_isI, isI_int, std_getL, std_nmul, std_sOf, sOf_str, std_isS, isS_str, std_fadd, std_fsub, std_fav, std_fsv, std_feq, std_fne, std_flt, std_fle, std_fgt, std_fge, std_fOf, std_fTo, std_fTv] at *)
  all_goals first
    | exact hr
    | (rw [shardI, if_neg (fun h => by rcases hc with (hc | hc) | hc; (rw [h.1] at hc; cases hc); omega; omega)]; done)
    | (rw [wV64 (by omega)]; omega)
    | (have := keyOk_le hc.1.1
       rw [wV64 (by omega), pDig6 this.1, decs_len]; omega)
    | trace_state
noncomputable def c_rkShard : Ct := fun A args => match args with
  | [.agg [.int .u32 s, .str r], .int .i64 m] => some (some (A.tp fun _ => (0 ≤ s ∧ s < 4294967296) ∧ r.length ≤ 1000000), .int .i64 (A.ti fun _ => shardI s r m))
  | _ => none
noncomputable def gvx : Ar → Pu := addC 26 c_rkShard (noC)
theorem gvx_ok : PuOk Tryz.prog gl0 (gvx std) := by
  refine addC_ok (noC_ok) ⟨_, Tryz.func26, rfl, by decide⟩ ?_
  · intro args p r h hp
    unfold c_rkShard at h
    split at h <;> cases h
    exact good_rkShard _ _ _ hp.1 hp.2
end Go.Vd

set_option linter.unusedVariables false
set_option linter.unusedSimpArgs false
set_option maxRecDepth 100000
set_option maxHeartbeats 8000000
namespace Go.Vd
open Go.Proofs
def bOk (n : Int) (L : List Ent) : Prop := ∀ i, i < L.length → enQ (L.getD i E0) ∧ 0 ≤ shardI (L.getD i E0).s (L.getD i E0).r n ∧ shardI (L.getD i E0).s (L.getD i E0).r n < n
attribute [local irreducible] vc
theorem good_rBuild (m n : Int) (L : List Ent) (hL : L.length ≤ 1000000) (hn : 0 ≤ n ∧ n ≤ 1000000) (hB : bOk n L) : GoodP Tryz.prog gl0 10 [.int .i64 m, .int .i64 n, rowS eE E0 8 std fun _ => L] (.agg [.int .i64 m, rowS eEs [] 1 std fun _ => bldT n.toNat L]) := by
  refine fn_sound' (T := (seatT.krx 40 30 8)) (G := gvx) (X := noX) (tys_krx 40 30 8 seatT_ok) gvx_ok noX_ok noI_ok mixed Tryz.func10 (.none) (fun A => [.int .i64 m, .int .i64 n, rowS eE E0 8 A fun _ => L]) (fun A => .agg [.int .i64 m, rowS eEs [] 1 A fun _ => bldT n.toNat L]) fun A hA => ?_
  cbv
  repeat' (first | with_reducible exact True.intro | with_reducible exact dr_ok hA (by kernel_rfl) | with_reducible refine And.intro ?_ ?_ | (intro hc; cbv))
  · subst hA; simp only [std_add, std_sub, std_mul, std_quo, std_rem, std_band, std_bor, std_bxor, std_shl, std_shr, std_eq, std_ne, std_lt, std_le, std_conv, std_not, std_beq, std_bne, std_ite, std_want, std_and2, std_sadd, std_seq, std_sne, std_slt, std_sle, std_sgt, std_sge, std_slen, std_sget, std_scut, std_ofNat, std_toNat, std_nsub, std_nadd, std_lenOf, std_nz, std_nneg, std_inb, std_upto, std_slt63, std_grow, std_imp, std_impN, std_tr, std_tb, std_ti, std_ts, std_tn, std_tp, std_nmin, std_nset, std_fset, std_makes, std_room, std_zeros, std_nilq, std_notq, std_eqi, std_eqn, std_eqb, std_eqs, std_eqv, std_cat, std_lst, std_rset, std_rcopy, std_shift, std_eqr, std_strOf, std_bytesOf, std_isB, std_zOf, zOf_int, std_isI, isI_int, std_getL, std_nmul, std_sOf, sOf_str, std_isS, isS_str, std_fadd, std_fsub, std_fav, std_fsv, std_feq, std_fne, std_flt, std_fle, std_fgt, std_fge, std_fOf, std_fTo, std_fTv] at *; omega
  refine ⟨⟨{p : Nat × (Nat → List Ent) // p.1 ≤ L.length ∧ ∀ k, p.2 k = (L.take p.1).filter (inSh n.toNat k)}, fun b p => [(8, .int .i64 (p.1.1 : Nat))], fun b p => [(3, .krow 40 ⟨30, 8, A.toNat n, fun k => A.tn fun _ => (p.1.2 k).length, fun k => rowF eE E0 A fun _ => p.1.2 k, none, b, none⟩), (5, .box 24 [.int .i64 m, .own 3])], fun p => L.length - p.1.1, true⟩, ⟨⟨(0, fun _ => []), Nat.zero_le _, fun k => rfl⟩, ?_⟩, ?_⟩
  · cbv
    subst hA
    simp [-List.getD_eq_getElem?_getD, std_add, std_sub, std_mul, std_quo, std_rem, std_band, std_bor, std_bxor, std_shl, std_shr, std_eq, std_ne, std_lt, std_le, std_conv, std_not, std_beq, std_bne, std_ite, std_want, std_and2, std_sadd, std_seq, std_sne, std_slt, std_sle, std_sgt, std_sge, std_slen, std_sget, std_scut, std_ofNat, std_toNat, std_nsub, std_nadd, std_lenOf, std_nz, std_nneg, std_inb, std_upto, std_slt63, std_grow, std_imp, std_impN, std_tr, std_tb, std_ti, std_ts, std_tn, std_tp, std_nmin, std_nset, std_fset, std_makes, std_room, std_zeros, std_nilq, std_notq, std_eqi, std_eqn, std_eqb, std_eqs, std_eqv, std_cat, std_lst, std_rset, std_rcopy, std_shift, std_eqr, std_strOf, std_bytesOf, std_isB, std_zOf, zOf_int, std_isI, isI_int, std_getL, std_nmul, std_sOf, sOf_str, std_isS, isS_str, std_fadd, std_fsub, std_fav, std_fsv, std_feq, std_fne, std_flt, std_fle, std_fgt, std_fge, std_fOf, std_fTo, std_fTv, eqrS]
    intro k hk
    exact Ceq.slc _ _ _ _ fun x y hx => absurd hx (by simp)
  · rintro ⟨⟨i, B⟩, hx⟩
    have hi : i ≤ L.length := hx.1
    have hBB : ∀ k, B k = (L.take i).filter (inSh n.toNat k) := hx.2
    have hBl : ∀ k, (B k).length ≤ i := fun k => by
      rw [hBB]
      exact Nat.le_trans (List.length_filter_le _ _) (by rw [List.length_take]; omega)
    obtain ⟨E, hE⟩ : ∃ E, E = L.getD i E0 := ⟨_, rfl⟩
    have hgE : L.getD i { s := 0, r := [], st := 0, pan := [], am := 0, code := [], tr := 0, ca := 0 } = E := hE.symm
    obtain ⟨z, hz⟩ : ∃ z, z = shardI E.s E.r n := ⟨_, rfl⟩
    have hBi := hB i
    rw [← hE, ← hz] at hBi
    cbv
    repeat' (first | with_reducible exact True.intro | with_reducible exact dr_ok hA (by kernel_rfl) | with_reducible refine And.intro ?_ ?_ | (intro hc; cbv))
    all_goals first
      | (have hlt : i < L.length := by subst hA; simp only [std_add, std_sub, std_mul, std_quo, std_rem, std_band, std_bor, std_bxor, std_shl, std_shr, std_eq, std_ne, std_lt, std_le, std_conv, std_not, std_beq, std_bne, std_ite, std_want, std_and2, std_sadd, std_seq, std_sne, std_slt, std_sle, std_sgt, std_sge, std_slen, std_sget, std_scut, std_ofNat, std_toNat, std_nsub, std_nadd, std_lenOf, std_nz, std_nneg, std_inb, std_upto, std_slt63, std_grow, std_imp, std_impN, std_tr, std_tb, std_ti, std_ts, std_tn, std_tp, std_nmin, std_nset, std_fset, std_makes, std_room, std_zeros, std_nilq, std_notq, std_eqi, std_eqn, std_eqb, std_eqs, std_eqv, std_cat, std_lst, std_rset, std_rcopy, std_shift, std_eqr, std_strOf, std_bytesOf, std_isB, std_zOf, zOf_int, std_isI, isI_int, std_getL, std_nmul, std_sOf, sOf_str, std_isS, isS_str, std_fadd, std_fsub, std_fav, std_fsv, std_feq, std_fne, std_flt, std_fle, std_fgt, std_fge, std_fOf, std_fTo, std_fTv, Int.ofNat_eq_natCast] at hc; have := of_decide_eq_true hc; omega
         obtain ⟨hQ, hz0, hzn⟩ := hBi hlt)
      | skip
    all_goals first
      | (fail_if_success (refine Exists.intro ?_ ?_)
         subst hA
         simp only [std_add, std_sub, std_mul, std_quo, std_rem, std_band, std_bor, std_bxor, std_shl, std_shr, std_eq, std_ne, std_lt, std_le, std_conv, std_not, std_beq, std_bne, std_ite, std_want, std_and2, std_sadd, std_seq, std_sne, std_slt, std_sle, std_sgt, std_sge, std_slen, std_sget, std_scut, std_ofNat, std_toNat, std_nsub, std_nadd, std_lenOf, std_nz, std_nneg, std_inb, std_upto, std_slt63, std_grow, std_imp, std_impN, std_tr, std_tb, std_ti, std_ts, std_tn, std_tp, std_nmin, std_nset, std_fset, std_makes, std_room, std_zeros, std_nilq, std_notq, std_eqi, std_eqn, std_eqb, std_eqs, std_eqv, std_cat, std_lst, std_rset, std_rcopy, std_shift, std_eqr, std_strOf, std_bytesOf, std_isB, std_zOf, zOf_int, std_isI, isI_int, std_getL, std_nmul, std_sOf, sOf_str, std_isS, isS_str, std_fadd, std_fsub, std_fav, std_fsv, std_feq, std_fne, std_flt, std_fle, std_fgt, std_fge, std_fOf, std_fTo, std_fTv, Int.ofNat_eq_natCast, Int.toNat_natCast, hgE, ← hz] at *
         first
           | done
           | exact ⟨by omega, by omega⟩
           | exact ⟨Int.natCast_nonneg _, of_decide_eq_true (by assumption)⟩
           | exact ⟨hQ.1, hQ.2.1⟩
           | exact hQ.1
           | (have := hBl z.toNat; exact ⟨by omega, by omega⟩)
           | (rw [bldT_len]; done)
           | (have hie : i = L.length := by have := of_decide_eq_false (by assumption : decide ((i : Int) < (L.length : Int)) = false); omega
              rw [hie, List.take_length] at hBB
              refine fun k j hk hj => ?_
              obtain rfl : j = 0 := by omega
              rw [bldT_len] at hk
              simp only [rowF, bldT_get L hk, eEs, getAt, rowS, std_add, std_sub, std_mul, std_quo, std_rem, std_band, std_bor, std_bxor, std_shl, std_shr, std_eq, std_ne, std_lt, std_le, std_conv, std_not, std_beq, std_bne, std_ite, std_want, std_and2, std_sadd, std_seq, std_sne, std_slt, std_sle, std_sgt, std_sge, std_slen, std_sget, std_scut, std_ofNat, std_toNat, std_nsub, std_nadd, std_lenOf, std_nz, std_nneg, std_inb, std_upto, std_slt63, std_grow, std_imp, std_impN, std_tr, std_tb, std_ti, std_ts, std_tn, std_tp, std_nmin, std_nset, std_fset, std_makes, std_room, std_zeros, std_nilq, std_notq, std_eqi, std_eqn, std_eqb, std_eqs, std_eqv, std_cat, std_lst, std_rset, std_rcopy, std_shift, std_eqr, std_strOf, std_bytesOf, std_isB, std_zOf, zOf_int, std_isI, isI_int, std_getL, std_nmul, std_sOf, sOf_str, std_isS, isS_str, std_fadd, std_fsub, std_fav, std_fsv, std_feq, std_fne, std_flt, std_fle, std_fgt, std_fge, std_fOf, std_fTo, std_fTv, ← hBB]
              exact Ceq.refl _)
           | trace_state)
      | skip
    obtain ⟨q, hq⟩ : ∃ q, q = z.toNat := ⟨_, rfl⟩
    obtain ⟨i', hi'⟩ : ∃ i', i' = i + 1 := ⟨_, rfl⟩
    obtain ⟨B', hB'⟩ : ∃ B' : Nat → List Ent, B' = fun k => if k = q then B k ++ [E] else B k := ⟨_, rfl⟩
    have hqz : ∀ k : Nat, inSh n.toNat k E = decide (k = q) := fun k => by
      unfold inSh
      rw [show ((n.toNat : Nat) : Int) = n by omega, ← hz]
      congr 1
      rw [eq_iff_iff]
      omega
    have hB2 : ∀ k, B' k = (L.take i').filter (inSh n.toNat k) := fun k => by
      rw [hi', ← take_snoc (d := E0) hlt, List.filter_append, ← hBB, ← hE, hB']
      simp only [List.filter_cons, List.filter_nil, hqz, decide_eq_true_eq]
      split <;> simp
    refine ⟨⟨(i', B'), by show i' ≤ L.length; omega, hB2⟩, ?_, show L.length - i' < L.length - i by omega⟩
    cbv
    subst hA
    simp [-List.getD_eq_getElem?_getD, std_add, std_sub, std_mul, std_quo, std_rem, std_band, std_bor, std_bxor, std_shl, std_shr, std_eq, std_ne, std_lt, std_le, std_conv, std_not, std_beq, std_bne, std_ite, std_want, std_and2, std_sadd, std_seq, std_sne, std_slt, std_sle, std_sgt, std_sge, std_slen, std_sget, std_scut, std_ofNat, std_toNat, std_nsub, std_nadd, std_lenOf, std_nz, std_nneg, std_inb, std_upto, std_slt63, std_grow, std_imp, std_impN, std_tr, std_tb, std_ti, std_ts, std_tn, std_tp, std_nmin, std_nset, std_fset, std_makes, std_room, std_zeros, std_nilq, std_notq, std_eqi, std_eqn, std_eqb, std_eqs, std_eqv, std_cat, std_lst, std_rset, std_rcopy, std_shift, std_eqr, std_strOf, std_bytesOf, std_isB, std_zOf, zOf_int, std_isI, isI_int, std_getL, std_nmul, std_sOf, sOf_str, std_isS, isS_str, std_fadd, std_fsub, std_fav, std_fsv, std_feq, std_fne, std_flt, std_fle, std_fgt, std_fge, std_fOf, std_fTo, std_fTv, hgE, ← hz, ← hq]
    refine ⟨(w64 (by omega)).trans (by omega), fun k j hk hj => ?_⟩
    rw [hB']
    by_cases hkq : k = q
    · subst hkq
      simp only [if_true, List.length_append, List.length_singleton]
      exact Ceq.slc _ _ _ _ (eqr_of (L := B k ++ [E]) (Reps.catE (Reps.lit (enc := eE) (d := E0) (k := 8) (B k)) (Reps.one (fun j hj => .refl _)) rfl) (by simp) rfl)
    · simp only [if_neg hkq]
      exact Ceq.refl _
end Go.Vd

set_option linter.unusedVariables false
namespace Go.Vd
def svn1 : SV → SV → Prop
  | .slc n k f, t => (∃ g, t = .slc n k g ∧ ∀ i j, i < n → j < k → Ceq (f i j) (g i j)) ∨ (n = 0 ∧ ∃ k' g, t = .slc 0 k' g)
  | .nils, t => ∃ k g, t = .slc 0 k g
  | s, t => s = t
theorem svn1_rel {w : World} {ρ : Nat → Value} {rw N : Nat → Prop} {v : Value} {s t : SV} (h : Rel w ρ rw N v s) (e : svn1 s t) : Rel w ρ rw N v t := by
  cases s with
  | slc n k f =>
    rcases e with e | ⟨rfl, k', g, rfl⟩
    · exact sv1_rel h e
    · cases h with
      | slc a _ c _ _ g2 hn hc ha hr => exact .slc a 0 c k' g (fun _ _ => undef) hn (fun i j hi => absurd hi (by omega)) (fun h => absurd h (by omega)) (fun i j hi => absurd hi (by omega))
  | nils =>
    obtain ⟨k, g, rfl⟩ := e
    cases h with
    | nils => exact .slc none 0 0 k g (fun _ _ => undef) (Nat.le_refl _) (fun i j hi => absurd hi (by omega)) (fun h => absurd h (by omega)) (fun i j hi => absurd hi (by omega))
  | _ => cases e; exact h
def svn2 : SV → SV → Prop
  | .agg l, t => ∃ m, t = .agg m ∧ All2 svn1 l m
  | s, t => svn1 s t
theorem svn2_rel {w : World} {ρ : Nat → Value} {rw N : Nat → Prop} {v : Value} {s t : SV} (h : Rel w ρ rw N v s) (e : svn2 s t) : Rel w ρ rw N v t := by
  cases s with
  | agg l =>
    obtain ⟨m, rfl, he⟩ := e
    generalize hs : SV.agg l = s at h
    cases h with
    | agg cs l' hl h1 hh =>
      cases hs
      have hlen := he.length
      refine .agg _ _ (by omega) h1 fun i v t hv ht => ?_
      have hi : i < l.length := by have := (List.getElem?_eq_some_iff.1 ht).1; omega
      exact svn1_rel (hh i v _ hv (List.getElem?_eq_getElem hi)) (he.get i _ t (List.getElem?_eq_getElem hi) ht)
    | _ => cases hs
  | _ => exact svn1_rel h e
theorem good_svn {P : Program} {gl : Nat → SV} {f : FuncId} {args args' : List SV} {r : SV} (h : GoodP P gl f args' r) (he : All2 svn2 args args') : GoodP P gl f args r := by
  intro w ρ rw N vs hfr hrw hg hargs
  refine h w ρ rw N vs hfr hrw hg ?_
  have key : ∀ {vs : List Value} {l m : List SV}, All2 (Rel w ρ rw N) vs l → All2 svn2 l m → All2 (Rel w ρ rw N) vs m := by
    intro vs
    induction vs with
    | nil => intro l m h1 h2; cases l with
      | nil => cases m with
        | nil => trivial
        | cons => exact h2.elim
      | cons => exact h1.elim
    | cons v vs ih => intro l m h1 h2; cases l with
      | nil => exact h1.elim
      | cons s l => cases m with
        | nil => exact h2.elim
        | cons t m => exact ⟨svn2_rel h1.1 h2.1, ih h1.2 h2.2⟩
  exact key hargs he
end Go.Vd

set_option linter.unusedVariables false
set_option linter.unusedSimpArgs false
set_option maxRecDepth 100000
set_option maxHeartbeats 8000000
namespace Go.Vd
open Go.Proofs
noncomputable def c_rList : Ct := fun A args => match args with
  | [.agg [.int .i64 m, .slc n 1 f]] => some (some (A.tp fun _ => isRow eEs [] 1 n f ∧ tbQ (lstOf eEs [] 1 n f) ∧ cnt (lstOf eEs [] 1 n f) ≤ 1000000), rowS eE E0 8 A fun _ => lstT (lstOf eEs [] 1 n f))
  | _ => none
noncomputable def c_tSameT : Ct := fun A args => match args with
  | [.agg [.int .i64 m, .slc n 1 f], .agg [.int .i64 m', .slc n' 1 f']] => some (some (A.tp fun _ => (isRow eEs [] 1 n f ∧ isRow eEs [] 1 n' f') ∧ tbQ (lstOf eEs [] 1 n f)), .bool (A.tb fun _ => decide (m = m' ∧ lstOf eEs [] 1 n f = lstOf eEs [] 1 n' f')))
  | _ => none
noncomputable def c_tShortT : Ct := fun A args => match args with
  | [.agg [.int .i64 m, .slc n 1 f]] => some (some (A.tp fun _ => isRow eEs [] 1 n f ∧ n ≤ 9223372036854775807 ∧ ∀ i, ((lstOf eEs [] 1 n f).getD i []).length ≤ 9223372036854775807), .bool (A.tb fun _ => tSh (lstOf eEs [] 1 n f)))
  | _ => none
noncomputable def gu1 : Ar → Pu := addC 12 c_rList (addC 9 c_tSameT (addC 5 c_tShortT (gt6)))
theorem gu1_ok : PuOk Tryz.prog gl0 (gu1 std) := by
  refine addC_ok (addC_ok (addC_ok (gt6_ok) ⟨_, Tryz.func5, rfl, by decide⟩ ?_) ⟨_, Tryz.func9, rfl, by decide⟩ ?_) ⟨_, Tryz.func12, rfl, by decide⟩ ?_
  · intro args p r h hp
    unfold c_tShortT at h
    split at h <;> cases h
    exact good_sv (good_tShort _ _ (by rw [lstOf_length hp.1]; exact hp.2.1) hp.2.2) ⟨⟨_, rfl, rfl, hp.1.sv, trivial⟩, trivial⟩
  · intro args p r h hp
    unfold c_tSameT at h
    split at h <;> cases h
    exact good_sv (good_tSame _ _ _ _ hp.2) ⟨⟨_, rfl, rfl, hp.1.1.sv, trivial⟩, ⟨_, rfl, rfl, hp.1.2.sv, trivial⟩, trivial⟩
  · intro args p r h hp
    unfold c_rList at h
    split at h <;> cases h
    exact good_sv (good_rList _ _ hp.2.1 hp.2.2) ⟨⟨_, rfl, rfl, hp.1.sv, trivial⟩, trivial⟩
noncomputable def c_rBuild : Ct := fun A args => match args with
  | [.int .i64 m, .int .i64 n, .slc k 8 f] => some (some (A.tp fun _ => isRow eE E0 8 k f ∧ k ≤ 1000000 ∧ (0 ≤ n ∧ n ≤ 1000000) ∧ bOk n (lstOf eE E0 8 k f)), .agg [.int .i64 m, rowS eEs [] 1 A fun _ => bldT n.toNat (lstOf eE E0 8 k f)])
  | [.int .i64 m, .int .i64 n, .slc k 1 f] => some (some (A.tp fun _ => k = 0 ∧ (0 ≤ n ∧ n ≤ 1000000)), .agg [.int .i64 m, rowS eEs [] 1 A fun _ => bldT n.toNat []])
  | _ => none
noncomputable def gu2 : Ar → Pu := addC 10 c_rBuild gu1
theorem gu2_ok : PuOk Tryz.prog gl0 (gu2 std) := by
  refine addC_ok gu1_ok ⟨_, Tryz.func10, rfl, by decide⟩ ?_
  intro args p r h hp
  unfold c_rBuild at h
  split at h <;> cases h
  · exact good_sv (good_rBuild _ _ _ (by rw [lstOf_length hp.1]; exact hp.2.1) hp.2.2.1 hp.2.2.2) ⟨rfl, rfl, hp.1.sv, trivial⟩
  · exact good_svn (good_rBuild _ _ [] (by simp) hp.2 (fun i hi => absurd hi (by simp))) ⟨rfl, rfl, .inr ⟨hp.1, _, _, rfl⟩, trivial⟩
theorem lstT_Q {T : Tbl} (h : tbQ T) (x : Ent) (hx : x ∈ lstT T) : enQ x := by
  rw [lstT_mem, List.mem_flatten] at hx
  obtain ⟨L, hL, hx⟩ := hx
  exact ((tbQ_iff.1 h).2 L hL).2 x hx
theorem enT_of {L : List Ent} (h : ∀ x ∈ L, enQ x) (i : Nat) : enT (L.getD i E0) := by
  rcases Nat.lt_or_ge i L.length with q | q
  · exact (h _ (getD_mem q)).2
  · rw [List.getD_eq_getElem?_getD, List.getElem?_eq_none q]
    exact ⟨by decide, by decide, by decide⟩
theorem bOk_of {L : List Ent} {n : Nat} (hn : 1 ≤ n ∧ n ≤ 16) (h : ∀ x ∈ L, enQ x ∧ eR x = true) : bOk (n : Int) L := fun i hi => by
  have h2 := h _ (getD_mem hi)
  exact ⟨h2.1, eR_sh h2.2 hn⟩
theorem sz_n {m : Int} {n : Nat} (h : szR m (n : Int) = true) : 1 ≤ n ∧ n ≤ 16 := by simp [szR] at h; omega
theorem sz_t (m n : Int) : (bif bif bif decide (m < 0) then true else decide (128 < m) then true else decide (n < 1) then true else decide (16 < n)) = !szR m n := by
  rw [Bool.eq_iff_iff]
  simp [szR]
  omega
attribute [local irreducible] vc
theorem good_rtRight (m : Int) (T : Tbl) (hQ : tbQ T) (hcn : cnt T ≤ 1000000) : GoodP Tryz.prog gl0 11 [.agg [.int .i64 m, rowS eEs [] 1 std fun _ => T]] (.bool (std.tb fun _ => tbR m T)) := by
  refine fn_sound' (T := seatT) (G := gu2) (X := noX) seatT_ok gu2_ok noX_ok noI_ok mixed Tryz.func11 (.one) (fun A => [.agg [.int .i64 m, rowS eEs [] 1 A fun _ => T]]) (fun A => .bool (A.tb fun _ => tbR m T)) fun A hA => ?_
  have hle := lstT_len T
  have hEq := rtR_eq m T
  have hlQ := lstT_Q hQ
  have hlT := enT_of hlQ
  cbv
  repeat' (first | with_reducible exact True.intro | with_reducible exact dr_ok hA (by kernel_rfl) | with_reducible refine And.intro ?_ ?_ | (intro hc; cbv))
  all_goals (subst hA; simp only [std_add, std_sub, std_mul, std_quo, std_rem, std_band, std_bor, std_bxor, std_shl, std_shr, std_eq, std_ne, std_lt, std_le, std_conv, std_not, std_beq, std_bne, std_ite, std_want, std_and2, std_sadd, std_seq, std_sne, std_slt, std_sle, std_sgt, std_sge, std_slen, std_sget, std_scut, std_ofNat, std_toNat, std_nsub, std_nadd, std_lenOf, std_nz, std_nneg, std_inb, std_upto, std_slt63, std_grow, std_imp, std_impN, std_tr, std_tb, std_ti, std_ts, std_tn, std_tp, std_nmin, std_nset, std_fset, std_makes, std_room, std_zeros, std_nilq, std_notq, std_eqi, std_eqn, std_eqb, std_eqs, std_eqv, std_cat, std_lst, std_rset, std_rcopy, std_shift, std_eqr, std_strOf, std_bytesOf, std_isB, std_zOf, zOf_int, std_isI, isI_int, std_getL, std_nmul, std_sOf, sOf_str, std_isS, isS_str, std_fadd, std_fsub, std_fav, std_fsv, std_feq, std_fne, std_flt, std_fle, std_fgt, std_fge, std_fOf, std_fTo, std_fTv, isRow_T, lstOf_T, isRow_V, lstOf_V, sz_t] at *)
  all_goals first
    | done
    | exact fun h => h
    | exact fun h => ⟨h, h⟩
    | exact fun h => by rw [h]; rfl
    | (unfold tbR; rw [nb_f hc]; rfl)
    | exact ⟨trivial, hQ, hcn⟩
    | exact fun h => ⟨h, trivial, by omega, hlT⟩
    | exact fun h => ⟨⟨h, h⟩, ⟨trivial, trivial⟩, hQ⟩
    | (intro h
       have hn := sz_n (nb_t hc)
       have hs : shR (lstT T) = true := by
         revert h
         cases shR (lstT T)
         · cases decide (((lstT T).length : Int) ≤ m) <;> simp
         · simp
       exact ⟨⟨h, h, h⟩, trivial, by omega, ⟨by omega, by omega⟩, bOk_of hn fun x hx => ⟨hlQ x hx, (shR_iff.1 hs).2.1 x hx⟩⟩)
    | (rw [← hEq]
       unfold rtR
       rw [nb_t hc, Int.toNat_natCast]
       cases decide (((lstT T).length : Int) ≤ m)
       · rfl
       · cases shR (lstT T)
         · rfl
         · simp)
    | trace_state
noncomputable def c_rtRight : Ct := fun A args => match args with
  | [.agg [.int .i64 m, .slc n 1 f]] => some (some (A.tp fun _ => isRow eEs [] 1 n f ∧ tbQ (lstOf eEs [] 1 n f) ∧ cnt (lstOf eEs [] 1 n f) ≤ 1000000), .bool (A.tb fun _ => tbR m (lstOf eEs [] 1 n f)))
  | _ => none
noncomputable def gu3 : Ar → Pu := addC 11 c_rtRight (gu2)
theorem gu3_ok : PuOk Tryz.prog gl0 (gu3 std) := by
  refine addC_ok (gu2_ok) ⟨_, Tryz.func11, rfl, by decide⟩ ?_
  · intro args p r h hp
    unfold c_rtRight at h
    split at h <;> cases h
    exact good_sv (good_rtRight _ _ hp.2.1 hp.2.2) ⟨⟨_, rfl, rfl, hp.1.sv, trivial⟩, trivial⟩
theorem bOk_ins {m : Int} {T : Tbl} {L : List Ent} {e : Ent} (h : tbR m T = true) (hQ : tbQ T) (he : enQ e) (hr : eR e = true) (hL : ∀ x ∈ L, x ∈ T.flatten ∨ x = e) : bOk (T.length : Int) L :=
  bOk_of (len_n h) fun x hx => by
    rcases hL x hx with hx | rfl
    · exact ⟨lstT_Q hQ x (lstT_mem.2 hx), (mem_shl h hx).2.2⟩
    · exact ⟨he, hr⟩
theorem ok2 {a b : Bool} (h : (bif !a then true else !b) = false) : a = true ∧ b = true := by cases a <;> cases b <;> simp at h ⊢
theorem okE_no {m : Int} {T : Tbl} {e : Ent} (h : (bif !tbR m T then true else !eR e) = true) : okE m T e = false := by
  unfold okE
  revert h
  cases tbR m T <;> cases eR e <;> simp
theorem okE_n1 {m : Int} {T : Tbl} {e : Ent} (h : tbR m T = false) : okE m T e = false := by unfold okE; rw [h]; rfl
theorem tsw_ok {m : Int} {T : Tbl} {z : Int} {e : Ent} (h : tbR m T = true) (hc : tSwC m T z e = 0) : eR e = true := by
  cases hr : eR e
  · rw [(tSw_1 (z := z) (by unfold okE; rw [hr]; cases tbR m T <;> rfl)).2] at hc; cases hc
  · rfl
theorem good_rtIns (m : Int) (T : Tbl) (s st am tr ca : Int) (r pan code : List UInt8) (hQ : tbQ T) (hcn : cnt T ≤ 1000000) (hE : enQ ⟨s, r, st, pan, am, code, tr, ca⟩) : GoodP Tryz.prog gl0 18 [.agg [.int .i64 m, rowS eEs [] 1 std fun _ => T], .agg [.int .u32 s, .str r, .int .i64 st, .str pan, .int .u64 am, .str code, .int .i64 tr, .int .i64 ca]] (.tup [.agg [.int .i64 m, rowS eEs [] 1 std fun _ => tInsT m T ⟨s, r, st, pan, am, code, tr, ca⟩], .int .i64 (std.ti fun _ => tInsC m T ⟨s, r, st, pan, am, code, tr, ca⟩)]) := by
  refine fn_sound' (T := seatT) (G := gu3) (X := noX) seatT_ok gu3_ok noX_ok noI_ok mixed Tryz.func18 (.none) (fun A => [.agg [.int .i64 m, rowS eEs [] 1 A fun _ => T], .agg [.int .u32 s, .str r, .int .i64 st, .str pan, .int .u64 am, .str code, .int .i64 tr, .int .i64 ca]]) (fun A => .tup [.agg [.int .i64 m, rowS eEs [] 1 A fun _ => tInsT m T ⟨s, r, st, pan, am, code, tr, ca⟩], .int .i64 (A.ti fun _ => tInsC m T ⟨s, r, st, pan, am, code, tr, ca⟩)]) fun A hA => ?_
  obtain ⟨E, hEq⟩ : ∃ E : Ent, E = ⟨s, r, st, pan, am, code, tr, ca⟩ := ⟨_, rfl⟩
  rw [← hEq]
  have hle := lstT_len T
  have hlT := enT_of (lstT_Q hQ)
  have eS : E.s = s := by rw [hEq]
  have eR' : E.r = r := by rw [hEq]
  have eE' : eR ⟨s, r, st, pan, am, code, tr, ca⟩ = eR E := by rw [hEq]
  have iE : insL (lstT T) ⟨s, r, st, pan, am, code, tr, ca⟩ = insL (lstT T) E := by rw [hEq]
  have hQE : enQ E := by rw [hEq]; exact hE
  cbv
  repeat' (first | with_reducible exact True.intro | with_reducible exact dr_ok hA (by kernel_rfl) | with_reducible refine And.intro ?_ ?_ | (intro hc; cbv))
  all_goals (subst hA; simp only [std_add, std_sub, std_mul, std_quo, std_rem, std_band, std_bor, std_bxor, std_shl, std_shr, std_eq, std_ne, std_lt, std_le, std_conv, std_not, std_beq, std_bne, std_ite, std_want, std_and2, std_sadd, std_seq, std_sne, std_slt, std_sle, std_sgt, std_sge, std_slen, std_sget, std_scut, std_ofNat, std_toNat, std_nsub, std_nadd, std_lenOf, std_nz, std_nneg, std_inb, std_upto, std_slt63, std_grow, std_imp, std_impN, std_tr, std_tb, std_ti, std_ts, std_tn, std_tp, std_nmin, std_nset, std_fset, std_makes, std_room, std_zeros, std_nilq, std_notq, std_eqi, std_eqn, std_eqb, std_eqs, std_eqv, std_cat, std_lst, std_rset, std_rcopy, std_shift, std_eqr, std_strOf, std_bytesOf, std_isB, std_zOf, zOf_int, std_isI, isI_int, std_getL, std_nmul, std_sOf, sOf_str, std_isS, isS_str, std_fadd, std_fsub, std_fav, std_fsv, std_feq, std_fne, std_flt, std_fle, std_fgt, std_fge, std_fOf, std_fTo, std_fTv, isRow_T, lstOf_T, isRow_V, lstOf_V, plc_has, eE', iE] at *)
  all_goals first
    | done
    | exact ⟨trivial, hQ, hcn⟩
    | exact ⟨trivial, by omega⟩
    | exact ⟨⟨trivial, by omega, hlT⟩, hE.2⟩
    | exact fun h => ⟨h, hE.2⟩
    | exact fun h => h
    | exact fun h => ⟨h, h⟩
    | exact fun h => by rw [h]; rfl
    | (have h1 := tIns_1 (okE_no hc)
       first
         | (rw [h1.1]; done)
         | (rw [h1.1]; exact (Reps.lit _).eqr)
         | (rw [h1.2]; done))
    | (obtain ⟨v1, v2⟩ := ok2 (by assumption : (bif !tbR m T then true else !eR E) = false)
       have ho := okE_of v1 v2
       have hb := has_lst v1 s r
       first
         | (have h2 : has (lstT T) s r = true := by assumption
            have h1 := tIns_6 ho (by rw [eS, eR', ← hb]; exact h2)
            first
         | (rw [h1.1]; done)
         | (rw [h1.1]; exact (Reps.lit _).eqr)
         | (rw [h1.2]; done))
         | (have h2 : has (lstT T) s r = false := by assumption
            have h1 := tIns_7 ho (by rw [eS, eR', ← hb]; exact h2) (by rw [← hle]; exact of_decide_eq_true hc)
            first
         | (rw [h1.1]; done)
         | (rw [h1.1]; exact (Reps.lit _).eqr)
         | (rw [h1.2]; done))
         | (have h2 : has (lstT T) s r = false := by assumption
            obtain ⟨a1, a2, a3⟩ := ref_ins v1 v2 (by rw [eS, eR', ← hb]; exact h2) (by rw [← hle]; exact of_decide_eq_false hc)
            have hl := insL_len' (lstT T) E
            have hn := len_n v1
            first
              | exact ⟨trivial, by omega, ⟨by omega, by omega⟩, bOk_ins v1 hQ hQE v2 a3⟩
              | (rw [Int.toNat_natCast, a1]; done)
              | (rw [Int.toNat_natCast, a1]; exact (Reps.lit _).eqr)
              | exact a2.symm
              | trace_state)
         | trace_state)
    | trace_state
noncomputable def c_rtIns : Ct := fun A args => match args with
  | [.agg [.int .i64 m, .slc n 1 f], .agg [.int .u32 s, .str r, .int .i64 st, .str pan, .int .u64 am, .str code, .int .i64 tr, .int .i64 ca]] => some (some (A.tp fun _ => (isRow eEs [] 1 n f ∧ tbQ (lstOf eEs [] 1 n f) ∧ cnt (lstOf eEs [] 1 n f) ≤ 1000000) ∧ enQ ⟨s, r, st, pan, am, code, tr, ca⟩), .tup [.agg [.int .i64 m, rowS eEs [] 1 A fun _ => tInsT m (lstOf eEs [] 1 n f) ⟨s, r, st, pan, am, code, tr, ca⟩], .int .i64 (A.ti fun _ => tInsC m (lstOf eEs [] 1 n f) ⟨s, r, st, pan, am, code, tr, ca⟩)])
  | _ => none
theorem tsw_no' {m : Int} {T : Tbl} {z : Int} {e : Ent} (h : tbR m T = true) (hc : ¬tSwC m T z e = 0) : tSwT m T z e = T := (tsw_no h hc).1
theorem good_rtSw (m z : Int) (T : Tbl) (s st am tr ca : Int) (r pan code : List UInt8) (hQ : tbQ T) (hcn : cnt T ≤ 1000000) (hE : enQ ⟨s, r, st, pan, am, code, tr, ca⟩) : GoodP Tryz.prog gl0 20 [.agg [.int .i64 m, rowS eEs [] 1 std fun _ => T], .int .i64 z, .agg [.int .u32 s, .str r, .int .i64 st, .str pan, .int .u64 am, .str code, .int .i64 tr, .int .i64 ca]] (.tup [.agg [.int .i64 m, rowS eEs [] 1 std fun _ => tSwT m T z ⟨s, r, st, pan, am, code, tr, ca⟩], .int .i64 (std.ti fun _ => tSwC m T z ⟨s, r, st, pan, am, code, tr, ca⟩)]) := by
  refine fn_sound' (T := seatT) (G := gu3) (X := noX) seatT_ok gu3_ok noX_ok noI_ok mixed Tryz.func20 (.none) (fun A => [.agg [.int .i64 m, rowS eEs [] 1 A fun _ => T], .int .i64 z, .agg [.int .u32 s, .str r, .int .i64 st, .str pan, .int .u64 am, .str code, .int .i64 tr, .int .i64 ca]]) (fun A => .tup [.agg [.int .i64 m, rowS eEs [] 1 A fun _ => tSwT m T z ⟨s, r, st, pan, am, code, tr, ca⟩], .int .i64 (A.ti fun _ => tSwC m T z ⟨s, r, st, pan, am, code, tr, ca⟩)]) fun A hA => ?_
  obtain ⟨E, hEq⟩ : ∃ E : Ent, E = ⟨s, r, st, pan, am, code, tr, ca⟩ := ⟨_, rfl⟩
  rw [← hEq]
  have hle := lstT_len T
  have hlT := enT_of (lstT_Q hQ)
  have i1 : swL (lstT T) z ⟨s, r, st, pan, am, code, tr, ca⟩ = swL (lstT T) z E := by rw [hEq]
  have i2 : swC (lstT T) z ⟨s, r, st, pan, am, code, tr, ca⟩ = swC (lstT T) z E := by rw [hEq]
  have hQE : enQ E := by rw [hEq]; exact hE
  cbv
  repeat' (first | with_reducible exact True.intro | with_reducible exact dr_ok hA (by kernel_rfl) | with_reducible refine And.intro ?_ ?_ | (intro hc; cbv))
  all_goals (subst hA; simp only [std_add, std_sub, std_mul, std_quo, std_rem, std_band, std_bor, std_bxor, std_shl, std_shr, std_eq, std_ne, std_lt, std_le, std_conv, std_not, std_beq, std_bne, std_ite, std_want, std_and2, std_sadd, std_seq, std_sne, std_slt, std_sle, std_sgt, std_sge, std_slen, std_sget, std_scut, std_ofNat, std_toNat, std_nsub, std_nadd, std_lenOf, std_nz, std_nneg, std_inb, std_upto, std_slt63, std_grow, std_imp, std_impN, std_tr, std_tb, std_ti, std_ts, std_tn, std_tp, std_nmin, std_nset, std_fset, std_makes, std_room, std_zeros, std_nilq, std_notq, std_eqi, std_eqn, std_eqb, std_eqs, std_eqv, std_cat, std_lst, std_rset, std_rcopy, std_shift, std_eqr, std_strOf, std_bytesOf, std_isB, std_zOf, zOf_int, std_isI, isI_int, std_getL, std_nmul, std_sOf, sOf_str, std_isS, isS_str, std_fadd, std_fsub, std_fav, std_fsv, std_feq, std_fne, std_flt, std_fle, std_fgt, std_fge, std_fOf, std_fTo, std_fTv, isRow_T, lstOf_T, isRow_V, lstOf_V, i1, i2] at *)
  all_goals first
    | done
    | exact ⟨trivial, hQ, hcn⟩
    | exact ⟨⟨trivial, by omega, hlT⟩, hE.2⟩
    | (have h1 := tSw_1 (z := z) (okE_n1 (e := E) (nb_f hc))
       first
         | (rw [h1.1]; done)
         | (rw [h1.1]; exact (Reps.lit _).eqr)
         | (rw [h1.2]; done))
    | (have v1 := nb_t (by assumption : (!tbR m T) = false)
       have h0 := ref_sw0 (z := z) (e := E) v1
       first
         | (have hc0 : ¬tSwC m T z E = 0 := by
              rw [← h0]
              exact bne_iff_ne.1 (by assumption)
            have h1 := tsw_no' v1 hc0
            first
              | done
              | exact h0
              | (rw [h1]; done)
              | (rw [h1]; exact (Reps.lit _).eqr))
         | (have hc0 : tSwC m T z E = 0 := by
              rw [← h0]
              exact bne_eq_false_iff_eq.1 (by assumption)
            obtain ⟨a1, a3⟩ := ref_sw v1 hc0
            have hl := swL_len' (lstT T) z E
            have hn := len_n v1
            have hr := (tsw_ok v1 hc0)
            first
              | exact ⟨trivial, by omega, ⟨by omega, by omega⟩, bOk_ins v1 hQ hQE hr a3⟩
              | (rw [Int.toNat_natCast, a1]; done)
              | (rw [Int.toNat_natCast, a1]; exact (Reps.lit _).eqr)
              | exact hc0.symm
              | trace_state)
         | trace_state)
    | trace_state
noncomputable def c_rtSw : Ct := fun A args => match args with
  | [.agg [.int .i64 m, .slc n 1 f], .int .i64 z, .agg [.int .u32 s, .str r, .int .i64 st, .str pan, .int .u64 am, .str code, .int .i64 tr, .int .i64 ca]] => some (some (A.tp fun _ => (isRow eEs [] 1 n f ∧ tbQ (lstOf eEs [] 1 n f) ∧ cnt (lstOf eEs [] 1 n f) ≤ 1000000) ∧ enQ ⟨s, r, st, pan, am, code, tr, ca⟩), .tup [.agg [.int .i64 m, rowS eEs [] 1 A fun _ => tSwT m (lstOf eEs [] 1 n f) z ⟨s, r, st, pan, am, code, tr, ca⟩], .int .i64 (A.ti fun _ => tSwC m (lstOf eEs [] 1 n f) z ⟨s, r, st, pan, am, code, tr, ca⟩)])
  | _ => none
theorem good_rtRt (m : Int) (T : Tbl) (s : Int) (r : List UInt8) (hQ : tbQ T) (hcn : cnt T ≤ 1000000) : GoodP Tryz.prog gl0 22 [.agg [.int .i64 m, rowS eEs [] 1 std fun _ => T], .agg [.int .u32 s, .str r]] (.tup [.agg [.int .i64 m, rowS eEs [] 1 std fun _ => tRtT m T s r], .int .i64 (std.ti fun _ => tRtC m T s r)]) := by
  refine fn_sound' (T := seatT) (G := gu3) (X := noX) seatT_ok gu3_ok noX_ok noI_ok mixed Tryz.func22 (.none) (fun A => [.agg [.int .i64 m, rowS eEs [] 1 A fun _ => T], .agg [.int .u32 s, .str r]]) (fun A => .tup [.agg [.int .i64 m, rowS eEs [] 1 A fun _ => tRtT m T s r], .int .i64 (A.ti fun _ => tRtC m T s r)]) fun A hA => ?_
  have hle := lstT_len T
  have hlT := enT_of (lstT_Q hQ)
  have hpf : lkB T s r = true → tbR m T = true → ∃ i : Nat, i < (lstT T).length ∧ plc (lstT T) s r = (i : Int) ∧ (lstT T).getD i { s := 0, r := [], st := 0, pan := [], am := 0, code := [], tr := 0, ca := 0 } = lkE T s r := fun h1 h2 => by
    obtain ⟨i, hi, hp, hf⟩ := plc_fnd (by rw [has_lst h2]; exact h1 : has (lstT T) s r = true)
    exact ⟨i, hi, hp, by rw [← fnd_lst h2 h1, hf]; rfl⟩
  cbv
  repeat' (first | with_reducible exact True.intro | with_reducible exact dr_ok hA (by kernel_rfl) | with_reducible refine And.intro ?_ ?_ | (intro hc; cbv))
  all_goals (subst hA; simp only [std_add, std_sub, std_mul, std_quo, std_rem, std_band, std_bor, std_bxor, std_shl, std_shr, std_eq, std_ne, std_lt, std_le, std_conv, std_not, std_beq, std_bne, std_ite, std_want, std_and2, std_sadd, std_seq, std_sne, std_slt, std_sle, std_sgt, std_sge, std_slen, std_sget, std_scut, std_ofNat, std_toNat, std_nsub, std_nadd, std_lenOf, std_nz, std_nneg, std_inb, std_upto, std_slt63, std_grow, std_imp, std_impN, std_tr, std_tb, std_ti, std_ts, std_tn, std_tp, std_nmin, std_nset, std_fset, std_makes, std_room, std_zeros, std_nilq, std_notq, std_eqi, std_eqn, std_eqb, std_eqs, std_eqv, std_cat, std_lst, std_rset, std_rcopy, std_shift, std_eqr, std_strOf, std_bytesOf, std_isB, std_zOf, zOf_int, std_isI, isI_int, std_getL, std_nmul, std_sOf, sOf_str, std_isS, isS_str, std_fadd, std_fsub, std_fav, std_fsv, std_feq, std_fne, std_flt, std_fle, std_fgt, std_fge, std_fOf, std_fTo, std_fTv, isRow_T, lstOf_T, isRow_V, lstOf_V, plc_lt] at *)
  all_goals first
    | done
    | exact ⟨trivial, hQ, hcn⟩
    | exact ⟨trivial, by omega⟩
    | exact ⟨trivial, by omega, hlT⟩
    | (have h1 := tRt_1 (s := s) (r := r) (nb_f hc)
       first
         | (rw [h1.1]; done)
         | (rw [h1.1]; exact (Reps.lit _).eqr)
         | (rw [h1.2]; done))
    | (have v1 := nb_t (by assumption : (!tbR m T) = false)
       have hb := has_lst v1 s r
       first
         | (have h2 : lkB T s r = false := by
              rw [← hb]
              exact nb_f (by assumption)
            have h1 := tRt_5 v1 h2
            first
         | (rw [h1.1]; done)
         | (rw [h1.1]; exact (Reps.lit _).eqr)
         | (rw [h1.2]; done))
         | (have h2 : lkB T s r = true := by
              rw [← hb]
              exact nb_t (by assumption)
            obtain ⟨i, hi, hp, hg⟩ := hpf h2 v1
            clear hpf
            simp only [hp, Int.toNat_natCast, hg] at *
            have hw : (bif (lkE T s r).st == 1 then true else (lkE T s r).st == 4) = stW (lkE T s r).st := rfl
            simp only [hw] at *
            first
              | exact ⟨Int.natCast_nonneg _, Int.ofNat_lt.2 hi⟩
              | exact fun h => ⟨⟨h, h⟩, Int.natCast_nonneg _, Int.ofNat_lt.2 hi⟩
              | exact fun h => ⟨h, Int.natCast_nonneg _, Int.ofNat_lt.2 hi⟩
              | exact fun h => h
              | exact fun h => ⟨h, h⟩
              | exact fun h => by rw [h]; rfl
              | (have h1 := tRt_8 v1 h2 hc
                 first
         | (rw [h1.1]; done)
         | (rw [h1.1]; exact (Reps.lit _).eqr)
         | (rw [h1.2]; done))
              | (obtain ⟨a1, a2, a3⟩ := ref_rm v1 h2 hc
                 have hl := rmL_len' (lstT T) s r
                 have hn := len_n v1
                 first
                   | exact ⟨trivial, by omega, ⟨by omega, by omega⟩, bOk_of hn fun x hx => ⟨lstT_Q hQ x (lstT_mem.2 (a3 x hx)), (mem_shl v1 (a3 x hx)).2.2⟩⟩
                   | (rw [a1]; done)
                   | (rw [a1]; exact (Reps.lit _).eqr)
                   | exact a2.symm
                   | trace_state)
              | trace_state)
         | trace_state)
    | trace_state
noncomputable def c_rtRt : Ct := fun A args => match args with
  | [.agg [.int .i64 m, .slc n 1 f], .agg [.int .u32 s, .str r]] => some (some (A.tp fun _ => isRow eEs [] 1 n f ∧ tbQ (lstOf eEs [] 1 n f) ∧ cnt (lstOf eEs [] 1 n f) ≤ 1000000), .tup [.agg [.int .i64 m, rowS eEs [] 1 A fun _ => tRtT m (lstOf eEs [] 1 n f) s r], .int .i64 (A.ti fun _ => tRtC m (lstOf eEs [] 1 n f) s r)])
  | _ => none
noncomputable def gu4 : Ar → Pu := addC 18 c_rtIns (addC 20 c_rtSw (addC 22 c_rtRt (gu3)))
theorem gu4_ok : PuOk Tryz.prog gl0 (gu4 std) := by
  refine addC_ok (addC_ok (addC_ok (gu3_ok) ⟨_, Tryz.func22, rfl, by decide⟩ ?_) ⟨_, Tryz.func20, rfl, by decide⟩ ?_) ⟨_, Tryz.func18, rfl, by decide⟩ ?_
  · intro args p r h hp
    unfold c_rtRt at h
    split at h <;> cases h
    exact good_sv (good_rtRt _ _ _ _ hp.2.1 hp.2.2) ⟨⟨_, rfl, rfl, hp.1.sv, trivial⟩, ⟨_, rfl, rfl, rfl, trivial⟩, trivial⟩
  · intro args p r h hp
    unfold c_rtSw at h
    split at h <;> cases h
    exact good_sv (good_rtSw _ _ _ _ _ _ _ _ _ _ _ hp.1.2.1 hp.1.2.2 hp.2) ⟨⟨_, rfl, rfl, hp.1.1.sv, trivial⟩, rfl, ⟨_, rfl, rfl, rfl, rfl, rfl, rfl, rfl, rfl, rfl, trivial⟩, trivial⟩
  · intro args p r h hp
    unfold c_rtIns at h
    split at h <;> cases h
    exact good_sv (good_rtIns _ _ _ _ _ _ _ _ _ _ hp.1.2.1 hp.1.2.2 hp.2) ⟨⟨_, rfl, rfl, hp.1.1.sv, trivial⟩, ⟨_, rfl, rfl, rfl, rfl, rfl, rfl, rfl, rfl, rfl, trivial⟩, trivial⟩
end Go.Vd

set_option linter.unusedVariables false
set_option linter.unusedSimpArgs false
set_option maxRecDepth 100000
set_option maxHeartbeats 8000000
namespace Go.Vd
open Go.Proofs
theorem tv1 : newM 1 4 = 1 := by decide
theorem tv2 : newT 1 4 = [[], [], [], []] := by decide
theorem tv3 : newC 1 4 = 0 := by decide
theorem tv4 : tInsT 1 [[], [], [], []] ⟨2, [82, 82, 78, 48, 48, 48, 48, 48, 48, 48, 48, 49], 1, [49, 56], 5, [], 0, 0⟩ = [[], [], [⟨2, [82, 82, 78, 48, 48, 48, 48, 48, 48, 48, 48, 49], 1, [49, 56], 5, [], 0, 0⟩], []] := by decide +kernel
theorem tv5 : tInsC 1 [[], [], [], []] ⟨2, [82, 82, 78, 48, 48, 48, 48, 48, 48, 48, 48, 49], 1, [49, 56], 5, [], 0, 0⟩ = 0 := by decide +kernel
theorem tv6 : tInsC 1 [[], [], [⟨2, [82, 82, 78, 48, 48, 48, 48, 48, 48, 48, 48, 49], 1, [49, 56], 5, [], 0, 0⟩], []] ⟨1, [82, 82, 78, 48, 48, 48, 48, 48, 48, 48, 48, 49], 1, [49, 56], 5, [], 0, 0⟩ = 7 := by decide +kernel
theorem tv7 : tRtC 1 [[], [], [⟨2, [82, 82, 78, 48, 48, 48, 48, 48, 48, 48, 48, 49], 1, [49, 56], 5, [], 0, 0⟩], []] 2 [82, 82, 78, 48, 48, 48, 48, 48, 48, 48, 48, 49] = 8 := by decide +kernel
theorem tv8 : tSwT 1 [[], [], [⟨2, [82, 82, 78, 48, 48, 48, 48, 48, 48, 48, 48, 49], 1, [49, 56], 5, [], 0, 0⟩], []] 1 ⟨2, [82, 82, 78, 48, 48, 48, 48, 48, 48, 48, 48, 49], 2, [49, 56], 5, [48, 48], 0, 0⟩ = [[], [], [⟨2, [82, 82, 78, 48, 48, 48, 48, 48, 48, 48, 48, 49], 2, [49, 56], 5, [48, 48], 0, 0⟩], []] := by decide +kernel
theorem tv9 : tSwC 1 [[], [], [⟨2, [82, 82, 78, 48, 48, 48, 48, 48, 48, 48, 48, 49], 1, [49, 56], 5, [], 0, 0⟩], []] 1 ⟨2, [82, 82, 78, 48, 48, 48, 48, 48, 48, 48, 48, 49], 2, [49, 56], 5, [48, 48], 0, 0⟩ = 0 := by decide +kernel
theorem tva : tFnd 1 [[], [], [⟨2, [82, 82, 78, 48, 48, 48, 48, 48, 48, 48, 48, 49], 2, [49, 56], 5, [48, 48], 0, 0⟩], []] 2 [82, 82, 78, 48, 48, 48, 48, 48, 48, 48, 48, 49] = ⟨2, [82, 82, 78, 48, 48, 48, 48, 48, 48, 48, 48, 49], 2, [49, 56], 5, [48, 48], 0, 0⟩ := by decide +kernel
theorem tvb : tHas 1 [[], [], [⟨2, [82, 82, 78, 48, 48, 48, 48, 48, 48, 48, 48, 49], 2, [49, 56], 5, [48, 48], 0, 0⟩], []] 2 [82, 82, 78, 48, 48, 48, 48, 48, 48, 48, 48, 49] = true := by decide +kernel
theorem tvc : tRtC 1 [[], [], [⟨2, [82, 82, 78, 48, 48, 48, 48, 48, 48, 48, 48, 49], 2, [49, 56], 5, [48, 48], 0, 0⟩], []] 2 [82, 82, 78, 48, 48, 48, 48, 48, 48, 48, 48, 49] = 0 := by decide +kernel
theorem tvd : tRtT 1 [[], [], [⟨2, [82, 82, 78, 48, 48, 48, 48, 48, 48, 48, 48, 49], 2, [49, 56], 5, [48, 48], 0, 0⟩], []] 2 [82, 82, 78, 48, 48, 48, 48, 48, 48, 48, 48, 49] = [[], [], [], []] := by decide +kernel
theorem tve : tbR 1 [[], [], [⟨2, [82, 82, 78, 48, 48, 48, 48, 48, 48, 48, 48, 49], 2, [49, 56], 5, [48, 48], 0, 0⟩], []] = true := by decide +kernel
theorem tvf : tbR 1 [[], [], [], []] = true := by decide +kernel
theorem tvg : (allT 1 [[], [], [⟨2, [82, 82, 78, 48, 48, 48, 48, 48, 48, 48, 48, 49], 2, [49, 56], 5, [48, 48], 0, 0⟩], []]).length = 1 := by rw [all_y tve, (srtE_sorts _).1]; rfl
theorem tvh : (allT 1 [[], [], [], []]).length = 0 := by rw [all_y tvf, (srtE_sorts _).1]; rfl
theorem enQ_0 : enQ E0 := ⟨by decide, by decide, by decide, by decide⟩
theorem tbQ_0 : tbQ [[], [], [], []] := ⟨by decide, fun i => by rcases i with _ | _ | _ | _ | i <;> simp, fun i j => by rcases i with _ | _ | _ | _ | i <;> exact enQ_0⟩
theorem tbQ_1 {x : Ent} (hx : enQ x) : tbQ [[], [], [x], []] := ⟨by simp, fun i => by rcases i with _ | _ | _ | _ | i <;> simp, fun i j => by
  rcases i with _ | _ | _ | _ | i
  · exact enQ_0
  · exact enQ_0
  · cases j with
    | zero => exact hx
    | succ j => exact enQ_0
  · exact enQ_0
  · exact enQ_0⟩
theorem enQ_c (s st am tr ca : Int) (r pan code : List UInt8) (h : (0 ≤ s ∧ s < 4294967296) ∧ r.length ≤ 1000000 ∧ pan.length ≤ 100000 ∧ code.length ≤ 1000000) : enQ ⟨s, r, st, pan, am, code, tr, ca⟩ := h
attribute [local irreducible] vc
theorem good_tAwake  : GoodP Tryz.prog gl0 4 [] (.bool true) := by
  refine fn_sound' (T := seatT) (G := gv9) (X := noX) seatT_ok gv9_ok noX_ok noI_ok mixed Tryz.func4 (.one) (fun A => []) (fun A => .bool true) fun A hA => ?_
  cbv
  repeat' (first | with_reducible exact True.intro | with_reducible exact dr_ok hA (by kernel_rfl) | with_reducible refine And.intro ?_ ?_ | (intro hc; cbv))
  all_goals (subst hA; simp only [std_add, std_sub, std_mul, std_quo, std_rem, std_band, std_bor, std_bxor, std_shl, std_shr, std_eq, std_ne, std_lt, std_le, std_conv, std_not, std_beq, std_bne, std_ite, std_want, std_and2, std_sadd, std_seq, std_sne, std_slt, std_sle, std_sgt, std_sge, std_slen, std_sget, std_scut, std_ofNat, std_toNat, std_nsub, std_nadd, std_lenOf, std_nz, std_nneg, std_inb, std_upto, std_slt63, std_grow, std_imp, std_impN, std_tr, std_tb, std_ti, std_ts, std_tn, std_tp, std_nmin, std_nset, std_fset, std_makes, std_room, std_zeros, std_nilq, std_notq, std_eqi, std_eqn, std_eqb, std_eqs, std_eqv, std_cat, std_lst, std_rset, std_rcopy, std_shift, std_eqr, std_strOf, std_bytesOf, std_isB, std_zOf, zOf_int, std_isI, isI_int, std_getL, std_nmul, std_sOf, sOf_str, std_isS, isS_str, std_fadd, std_fsub, std_fav, std_fsv, std_feq, std_fne, std_flt, std_fle, std_fgt, std_fge, std_fOf, std_fTo, std_fTv, isRow_T, lstOf_T, isRow_V, lstOf_V, tv1, tv2, tv3, tv4, tv5, tv6, tv7, tv8, tv9, tva, tvb, tvc, tvd, tve, tvg, tvh] at *)
  all_goals first
    | done
    | decide
    | exact ⟨⟨trivial, tbQ_0⟩, enQ_c _ _ _ _ _ _ _ _ (by decide)⟩
    | exact ⟨⟨trivial, tbQ_1 (enQ_c _ _ _ _ _ _ _ _ (by decide))⟩, enQ_c _ _ _ _ _ _ _ _ (by decide)⟩
    | exact ⟨⟨trivial, tbQ_1 (enQ_c _ _ _ _ _ _ _ _ (by decide))⟩, by decide⟩
    | exact ⟨trivial, tbQ_1 (enQ_c _ _ _ _ _ _ _ _ (by decide))⟩
    | exact ⟨trivial, tbQ_0⟩
    | exact fun _ => ⟨by decide, trivial, tbQ_1 (enQ_c _ _ _ _ _ _ _ _ (by decide))⟩
    | exact fun _ => ⟨by decide, trivial, tbQ_0⟩
    | trace_state
end Go.Vd

set_option linter.unusedVariables false
set_option linter.unusedSimpArgs false
set_option maxRecDepth 100000
set_option maxHeartbeats 8000000
namespace Go.Vd
open Go.Proofs
theorem enQ_of {e : Ent} (h : shE e = true) (hs : 0 ≤ e.s ∧ e.s < 4294967296) : enQ e := by
  simp only [shE, decide_eq_true_eq] at h
  exact ⟨hs, by omega, by omega, by omega⟩
theorem tbQ_sh {T : Tbl} (h : tSh T = true) (hS : ∀ i j, 0 ≤ ((T.getD i []).getD j E0).s ∧ ((T.getD i []).getD j E0).s < 4294967296) : tbQ T := by
  unfold tSh at h
  simp only [Bool.and_eq_true, decide_eq_true_eq, List.all_eq_true] at h
  have hm : ∀ i, i < T.length → shL (T.getD i []) = true := fun i hi => by
    rw [List.getD_eq_getElem?_getD, List.getElem?_eq_getElem hi]
    exact h.2.1 _ (List.getElem_mem hi)
  have h0 : ∀ i, ¬i < T.length → T.getD i [] = [] := fun i hi => by rw [List.getD_eq_getElem?_getD, List.getElem?_eq_none (by omega)]; rfl
  refine ⟨by omega, fun i => ?_, fun i j => ?_⟩
  · by_cases hi : i < T.length
    · have := (shL_iff.1 (hm i hi)).1; omega
    · rw [h0 i hi]; simp
  · by_cases hi : i < T.length
    · by_cases hj : j < (T.getD i []).length
      · exact enQ_of ((shL_iff.1 (hm i hi)).2 _ (getD_mem hj)) (hS i j)
      · rw [List.getD_eq_getElem?_getD, List.getElem?_eq_none (by omega)]; exact enQ_0
    · rw [h0 i hi]; exact enQ_0
end Go.Vd

set_option linter.unusedVariables false
set_option linter.unusedSimpArgs false
set_option maxRecDepth 100000
set_option maxHeartbeats 8000000
namespace Go.Vd
open Go.Proofs
theorem flat_rep (n : Nat) : (List.replicate n ([] : List Ent)).flatten = [] := by
  rw [List.flatten_eq_nil_iff]
  intro l hl
  exact (List.mem_replicate.1 hl).2
theorem tbR_new {m n : Int} (h : szR m n = true) : tbR m (newT m n) = true ∧ (newT m n).flatten = [] ∧ tbQ (newT m n) := by
  have h0 := (new_y h).2.1
  have h1 : 0 ≤ m ∧ m ≤ 128 ∧ 1 ≤ n ∧ n ≤ 16 := by simp [szR] at h; omega
  have hl : (List.replicate n.toNat ([] : List Ent)).length = n.toNat := List.length_replicate
  have hg : ∀ i, (List.replicate n.toNat ([] : List Ent)).getD i [] = [] := fun i => by
    rw [List.getD_eq_getElem?_getD, List.getElem?_replicate]
    split <;> rfl
  have hcn : cnt (List.replicate n.toNat ([] : List Ent)) = 0 := by rw [← flat_len, flat_rep]; rfl
  rw [h0]
  refine ⟨?_, flat_rep _, by rw [hl]; omega, fun i => by rw [hg]; simp, fun i j => by rw [hg, List.getD_nil]; exact enQ_0⟩
  unfold tbR
  rw [hl, hcn, show ((n.toNat : Nat) : Int) = n by omega, h, Bool.true_and, Bool.and_eq_true, List.all_eq_true]
  refine ⟨fun i _ => ?_, decide_eq_true (by omega)⟩
  unfold shOk
  rw [hg]
  rfl
end Go.Vd

