/- Messages: the law MessageGets. -/
import Derived.Test.YtakcggldilbilaaDoorVdM5
set_option linter.unusedVariables false
set_option linter.unusedSimpArgs false
set_option maxRecDepth 100000
set_option maxHeartbeats 8000000
namespace Go.Vd
open Go.Proofs
def hasF (L : List It) (n : Int) (i : Nat) : Bool := (L.take i).any fun x => x.1 == n
theorem hasF_0 (L : List It) (n : Int) : hasF L n 0 = false := by simp [hasF]
theorem hasF_succ {L : List It} {n : Int} {i : Nat} (h : i < L.length) : hasF L n (i + 1) = (hasF L n i || decide ((L.getD i (0, [])).1 = n)) := by
  unfold hasF
  rw [← take_snoc (d := (0, [])) h, List.any_append]
  simp only [List.any_cons, List.any_nil, Bool.or_false]
  congr 1
theorem hasF_all (L : List It) (n : Int) : hasF L n L.length = mH L n := by unfold hasF; rw [List.take_length, mH_mem]
theorem mG_own {T : List UInt8} {L : List It} (h : mR T L = true) {i : Nat} (hi : i < L.length) : mG L (L.getD i (0, [])).1 = (L.getD i (0, [])).2 ∧ mH L (L.getD i (0, [])).1 = true :=
  mG_at hi (fun j hj => ups_ne (mR_iff.1 h).2.2.2 hj hi) rfl
theorem mG_nil {L : List It} {n : Int} (h : mH L n = false) : mG L n = [] := by
  unfold mH at h
  unfold mG
  cases e : L.find? (fun x => x.1 == n)
  · rfl
  · rw [e] at h; cases h
theorem beq_dec (x n : Int) : (x == n) = decide (x = n) := by rw [Bool.eq_iff_iff]; simp
theorem good_MessageGets (T : List UInt8) (L : List It) (n : Int) : GoodP Tryd.prog gl0 6 [.agg [.str T, rowS eI (0, []) 2 std fun _ => L], .int .i64 n] (.bool true) := by
  refine fn_sound' (T := seatT) (G := gM6) (X := noX) seatT_ok gM6_ok noX_ok noI_ok mixed Tryd.func6 (.one) (fun A => [.agg [.str T, rowS eI (0, []) 2 A fun _ => L], .int .i64 n]) (fun A => .bool true) fun A hA => ?_
  cbv
  repeat' (first | with_reducible exact True.intro | with_reducible exact dr_ok hA (by kernel_rfl) | with_reducible refine And.intro ?_ ?_ | (intro hc; cbv))
  all_goals first
    | (fail_if_success (refine Exists.intro ?_ ?_)
       subst hA
       simp [-List.getD_eq_getElem?_getD, std_add, std_sub, std_mul, std_quo, std_rem, std_band, std_bor, std_bxor, std_shl, std_shr, std_eq, std_ne, std_lt, std_le, std_conv, std_not, std_beq, std_bne, std_ite, std_want, std_and2, std_sadd, std_seq, std_sne, std_slt, std_sle, std_sgt, std_sge, std_slen, std_sget, std_scut, std_ofNat, std_toNat, std_nsub, std_nadd, std_lenOf, std_nz, std_nneg, std_inb, std_upto, std_slt63, std_grow, std_imp, std_impN, std_tr, std_tb, std_ti, std_ts, std_tn, std_tp, std_nmin, std_makes, std_room, std_zeros, std_nilq, std_notq, std_eqi, std_eqn, std_eqb, std_eqs, std_eqv, std_cat, std_lst, std_rset, std_rcopy, std_shift, std_eqr, std_strOf, std_bytesOf, std_isB, std_zOf, zOf_int, std_isI, isI_int, std_getL, std_nmul, std_sOf, sOf_str, std_isS, isS_str, lstOf_lit inj_eI, isRow_lit] at *
       first
         | done
         | (intro h; exact ⟨h, Nat.le_trans (mSh_iff.1 h).2.1 (by decide), fun i => Nat.le_trans (mSh_getD h i) (by decide)⟩)
         | trace_state)
    | skip
  have h0 : mSh T L = true ∧ mR T L = true := by
    subst hA
    simpa [-List.getD_eq_getElem?_getD, std_add, std_sub, std_mul, std_quo, std_rem, std_band, std_bor, std_bxor, std_shl, std_shr, std_eq, std_ne, std_lt, std_le, std_conv, std_not, std_beq, std_bne, std_ite, std_want, std_and2, std_sadd, std_seq, std_sne, std_slt, std_sle, std_sgt, std_sge, std_slen, std_sget, std_scut, std_ofNat, std_toNat, std_nsub, std_nadd, std_lenOf, std_nz, std_nneg, std_inb, std_upto, std_slt63, std_grow, std_imp, std_impN, std_tr, std_tb, std_ti, std_ts, std_tn, std_tp, std_nmin, std_makes, std_room, std_zeros, std_nilq, std_notq, std_eqi, std_eqn, std_eqb, std_eqs, std_eqv, std_cat, std_lst, std_rset, std_rcopy, std_shift, std_eqr, std_strOf, std_bytesOf, std_isB, std_zOf, zOf_int, std_isI, isI_int, std_getL, std_nmul, std_sOf, sOf_str, std_isS, isS_str, lstOf_lit inj_eI] using hc
  have hsh := mSh_iff.1 h0.1
  have hown := fun {i : Nat} (hi : i < L.length) => mG_own h0.2 hi
  clear hc
  refine ⟨⟨{p : Nat × Bool // p.1 ≤ L.length ∧ p.2 = hasF L n p.1}, fun b p => [(6, .int .i64 (p.1.1 : Nat)), (5, .bool (A.tb fun _ => p.1.2))], fun b p => [], fun p => L.length - p.1.1, true⟩, ⟨⟨(0, false), by omega, (hasF_0 L n).symm⟩, ?_⟩, ?_⟩
  · cbv
    subst hA
    simp [-List.getD_eq_getElem?_getD, std_add, std_sub, std_mul, std_quo, std_rem, std_band, std_bor, std_bxor, std_shl, std_shr, std_eq, std_ne, std_lt, std_le, std_conv, std_not, std_beq, std_bne, std_ite, std_want, std_and2, std_sadd, std_seq, std_sne, std_slt, std_sle, std_sgt, std_sge, std_slen, std_sget, std_scut, std_ofNat, std_toNat, std_nsub, std_nadd, std_lenOf, std_nz, std_nneg, std_inb, std_upto, std_slt63, std_grow, std_imp, std_impN, std_tr, std_tb, std_ti, std_ts, std_tn, std_tp, std_nmin, std_makes, std_room, std_zeros, std_nilq, std_notq, std_eqi, std_eqn, std_eqb, std_eqs, std_eqv, std_cat, std_lst, std_rset, std_rcopy, std_shift, std_eqr, std_strOf, std_bytesOf, std_isB, std_zOf, zOf_int, std_isI, isI_int, std_getL, std_nmul, std_sOf, sOf_str, std_isS, isS_str]
  · rintro ⟨⟨i, b⟩, hi, hb⟩
    simp only at hi hb
    cbv
    repeat' (first | with_reducible exact True.intro | with_reducible exact dr_ok hA (by kernel_rfl) | with_reducible refine And.intro ?_ ?_ | (intro hc; cbv))
    all_goals first
      | (fail_if_success (refine Exists.intro ?_ ?_)
         subst hA
         simp [-List.getD_eq_getElem?_getD, std_add, std_sub, std_mul, std_quo, std_rem, std_band, std_bor, std_bxor, std_shl, std_shr, std_eq, std_ne, std_lt, std_le, std_conv, std_not, std_beq, std_bne, std_ite, std_want, std_and2, std_sadd, std_seq, std_sne, std_slt, std_sle, std_sgt, std_sge, std_slen, std_sget, std_scut, std_ofNat, std_toNat, std_nsub, std_nadd, std_lenOf, std_nz, std_nneg, std_inb, std_upto, std_slt63, std_grow, std_imp, std_impN, std_tr, std_tb, std_ti, std_ts, std_tn, std_tp, std_nmin, std_makes, std_room, std_zeros, std_nilq, std_notq, std_eqi, std_eqn, std_eqb, std_eqs, std_eqv, std_cat, std_lst, std_rset, std_rcopy, std_shift, std_eqr, std_strOf, std_bytesOf, std_isB, std_zOf, zOf_int, std_isI, isI_int, std_getL, std_nmul, std_sOf, sOf_str, std_isS, isS_str, lstOf_lit inj_eI, isRow_lit] at *
         first
           | done
           | omega
           | exact fun h => ⟨h, by assumption⟩
           | (have ho := hown (by assumption : i < L.length)
              rcases hc with hc | hc
              · rw [ho.2] at hc; cases hc
              · exact hc ho.1)
           | (have hie : i = L.length := by omega
              rw [hie, hasF_all] at hb
              exact fun h => ⟨h, fun h2 => ⟨h, h2⟩⟩)
           | (have hie : i = L.length := by omega
              rw [hie, hasF_all] at hb
              refine ⟨hb.symm, ?_⟩
              cases e : b
              · exact .inr (mG_nil (by rw [← hb, e]))
              · exact .inl rfl)
           | trace_state)
      | (have hlt : i < L.length := by (clear hb; subst hA; simp [-List.getD_eq_getElem?_getD, std_add, std_sub, std_mul, std_quo, std_rem, std_band, std_bor, std_bxor, std_shl, std_shr, std_eq, std_ne, std_lt, std_le, std_conv, std_not, std_beq, std_bne, std_ite, std_want, std_and2, std_sadd, std_seq, std_sne, std_slt, std_sle, std_sgt, std_sge, std_slen, std_sget, std_scut, std_ofNat, std_toNat, std_nsub, std_nadd, std_lenOf, std_nz, std_nneg, std_inb, std_upto, std_slt63, std_grow, std_imp, std_impN, std_tr, std_tb, std_ti, std_ts, std_tn, std_tp, std_nmin, std_makes, std_room, std_zeros, std_nilq, std_notq, std_eqi, std_eqn, std_eqb, std_eqs, std_eqv, std_cat, std_lst, std_rset, std_rcopy, std_shift, std_eqr, std_strOf, std_bytesOf, std_isB, std_zOf, zOf_int, std_isI, isI_int, std_getL, std_nmul, std_sOf, sOf_str, std_isS, isS_str] at *; omega)
         obtain ⟨i', hi'⟩ : ∃ i', i' = i + 1 := ⟨_, rfl⟩
         obtain ⟨b', hb'⟩ : ∃ b', b' = hasF L n i' := ⟨_, rfl⟩
         refine ⟨⟨(i', b'), by omega, hb'⟩, ?_, show L.length - i' < L.length - i by omega⟩
         rw [hi', hasF_succ hlt, ← hb] at hb'
         cbv
         subst hA
         simp [-List.getD_eq_getElem?_getD, std_add, std_sub, std_mul, std_quo, std_rem, std_band, std_bor, std_bxor, std_shl, std_shr, std_eq, std_ne, std_lt, std_le, std_conv, std_not, std_beq, std_bne, std_ite, std_want, std_and2, std_sadd, std_seq, std_sne, std_slt, std_sle, std_sgt, std_sge, std_slen, std_sget, std_scut, std_ofNat, std_toNat, std_nsub, std_nadd, std_lenOf, std_nz, std_nneg, std_inb, std_upto, std_slt63, std_grow, std_imp, std_impN, std_tr, std_tb, std_ti, std_ts, std_tn, std_tp, std_nmin, std_makes, std_room, std_zeros, std_nilq, std_notq, std_eqi, std_eqn, std_eqb, std_eqs, std_eqv, std_cat, std_lst, std_rset, std_rcopy, std_shift, std_eqr, std_strOf, std_bytesOf, std_isB, std_zOf, zOf_int, std_isI, isI_int, std_getL, std_nmul, std_sOf, sOf_str, std_isS, isS_str, hb']
         first
           | exact ⟨by rw [beq_dec], (w64 (by have := hsh.2.1; omega)).trans (by omega)⟩
           | trace_state)
      | trace_state
end Go.Vd
