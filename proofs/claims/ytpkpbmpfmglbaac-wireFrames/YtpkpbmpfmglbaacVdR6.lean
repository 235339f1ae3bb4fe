/- WireFrames. -/
import Derived.Test.YtpkpbmpfmglbaacVdR5
set_option linter.unusedVariables false
set_option linter.unusedSimpArgs false
set_option maxRecDepth 100000
set_option maxHeartbeats 4000000
namespace Go.Vd
open Go.Proofs
/-- What the law looks at, when a frame went in. -/
theorem frames_in {L : List (List UInt8)} {b : List UInt8} (h : wPutE L.length = 0) : L.length < 200 ∧ wPutL L b = L ++ [b] := by
  have h1 : L.length < 200 := by
    unfold wPutE at h
    split at h
    · cases h
    · split at h
      · cases h
      · omega
  exact ⟨h1, if_pos h1⟩
theorem frames_no {L : List (List UInt8)} {b : List UInt8} (h : ¬wPutE L.length = 0) : 200 ≤ L.length ∧ wPutL L b = L := by
  have h1 : 200 ≤ L.length := by
    unfold wPutE at h
    split at h
    · omega
    · split at h
      · omega
      · exact absurd rfl h
  exact ⟨h1, if_neg (by omega)⟩
theorem frames_at {L : List (List UInt8)} {b : List UInt8} {k : Nat} (h : L.length < 200) (hk : k < L.length + 1) : wErr (wPutL L b).length (k : Int) = 0 ∧ wPassB (wPutL L b) (k : Int) = (wPutL L b).getD k [] ∧ wPassL (wPutL L b) (k : Int) = (wPutL L b).eraseIdx k ∧ wTwL (wPutL L b) (k : Int) = wPutL (wPutL L b) ((wPutL L b).getD k []) ∧ wTwE (wPutL L b).length (k : Int) = wPutE (L.length + 1) := by
  have hX : wPutL L b = L ++ [b] := if_pos h
  have hl : (wPutL L b).length = L.length + 1 := by rw [hX]; simp
  have e : wErr (wPutL L b).length (k : Int) = 0 := wErr_0 (by omega) (by omega)
  have ha : wAt (wPutL L b).length (k : Int) = k := by
    unfold wAt
    rw [hl, Int.tmod_eq_of_lt (by omega) (by omega)]
    omega
  refine ⟨e, ?_, ?_, ?_, ?_⟩
  · unfold wPassB; rw [if_pos e, ha]
  · unfold wPassL; rw [if_pos e, ha]
  · unfold wTwL; rw [if_pos e, ha]
  · unfold wTwE; rw [if_pos e, hl]
theorem frames_last {L : List (List UInt8)} {b : List UInt8} (h : L.length < 200) : wErr (wPutL L b).length (L.length : Int) = 0 ∧ wPassB (wPutL L b) (L.length : Int) = b ∧ wPassL (wPutL L b) (L.length : Int) = L ∧
    ((wTwE (wPutL L b).length (L.length : Int) == 0) = decide ((L.length : Int) + 1 < 200)) ∧ (wTwE (wPutL L b).length (L.length : Int) = 0 → ((wTwL (wPutL L b) (L.length : Int)).length : Int) = (L.length : Int) + 2 ∧ (wTwL (wPutL L b) (L.length : Int)).getD (L.length + 1) [] = b) := by
  have hX : wPutL L b = L ++ [b] := if_pos h
  obtain ⟨h1, h2, h3, h4, h5⟩ := frames_at (b := b) h (Nat.lt_succ_self L.length)
  refine ⟨h1, ?_, ?_, ?_, ?_⟩
  · rw [h2, hX, List.getD_eq_getElem?_getD]; simp
  · rw [h3, hX, List.eraseIdx_append_of_length_le (Nat.le_refl _)]; simp
  · rw [h5, Bool.eq_iff_iff]
    simp only [beq_iff_eq, decide_eq_true_eq]
    unfold wPutE
    split
    · omega
    · split <;> omega
  · intro h0
    rw [h5] at h0
    have h6 : L.length + 1 < 200 := by
      unfold wPutE at h0
      split at h0
      · cases h0
      · split at h0
        · cases h0
        · omega
    have h7 : wTwL (wPutL L b) (L.length : Int) = L ++ [b] ++ [b] := by
      rw [h4, hX]
      have : (L ++ [b]).getD L.length [] = b := by rw [List.getD_eq_getElem?_getD]; simp
      rw [this]
      exact if_pos (by simp; omega)
    rw [h7]
    constructor
    · simp only [List.length_append, List.length_singleton]; omega
    · rw [List.getD_eq_getElem?_getD, List.getElem?_append_right (by simp)]; simp
theorem erase_get {X : List (List UInt8)} {i k : Nat} (h : i + 1 < X.length) : (X.eraseIdx k).getD i [] = X.getD (if k ≤ i then i + 1 else i) [] := by
  rw [List.getD_eq_getElem?_getD, List.getD_eq_getElem?_getD, List.getElem?_eraseIdx]
  split
  · rw [if_neg (by omega)]
  · rw [if_pos (by omega)]
theorem framesF {L : List (List UInt8)} {b : List UInt8} {z : Int} (hz : 0 ≤ z ∧ z < 256) (hp : wPutE L.length = 0) : ∃ k : Nat, k < L.length + 1 ∧ L.length < 200 ∧ (IntKind.i64.wrap z).tmod (IntKind.i64.wrap ((L.length : Int) + 1)) = k ∧ IntKind.i64.wrap ((L.length : Int) + 1) = (L.length : Int) + 1 ∧ IntKind.i64.wrap ((L.length : Int) + 2) = (L.length : Int) + 2 ∧ (wPutL L b).length = L.length + 1 := by
  obtain ⟨hl, hX⟩ := frames_in (b := b) hp
  have w1 : IntKind.i64.wrap ((L.length : Int) + 1) = (L.length : Int) + 1 := w64 (by omega)
  have w2 : IntKind.i64.wrap ((L.length : Int) + 2) = (L.length : Int) + 2 := w64 (by omega)
  have w3 : IntKind.i64.wrap z = z := w64 (by omega)
  have t1 := Int.tmod_nonneg ((L.length : Int) + 1) hz.1
  have t2 := Int.tmod_lt_of_pos z (show (0 : Int) < (L.length : Int) + 1 by omega)
  refine ⟨(z.tmod ((L.length : Int) + 1)).toNat, by omega, hl, by rw [w1, w3]; omega, w1, w2, by rw [hX]; simp⟩
theorem good_WireFrames (z : Int) (hz : 0 ≤ z ∧ z < 256) (L : List (List UInt8)) (b : List UInt8) : GoodP Try.prog gl0 6 [sW std fun _ => L, rowS eB 0 1 std fun _ => b, .int .u8 z] (.bool true) := by
  refine fn_sound' (T := seatT) (G := gw5) (X := noX) seatT_ok gw5_ok noX_ok noI_ok mixed Try.func6 (.one) (fun A => [sW A fun _ => L, rowS eB 0 1 A fun _ => b, .int .u8 z]) (fun A => .bool true) fun A hA => ?_
  cbv
  repeat' (first | with_reducible exact True.intro | with_reducible exact dr_ok hA (by kernel_rfl) | with_reducible refine And.intro ?_ ?_ | (intro hc; cbv))
  all_goals try (subst hA; simp [-List.getD_eq_getElem?_getD, std_add, std_sub, std_mul, std_quo, std_rem, std_band, std_bor, std_bxor, std_shl, std_shr, std_eq, std_ne, std_lt, std_le, std_conv, std_not, std_beq, std_bne, std_ite, std_want, std_and2, std_sadd, std_seq, std_sne, std_slt, std_sle, std_sgt, std_sge, std_slen, std_sget, std_scut, std_ofNat, std_toNat, std_nsub, std_nadd, std_lenOf, std_nz, std_nneg, std_inb, std_upto, std_slt63, std_grow, std_imp, std_impN, std_tr, std_tb, std_ti, std_ts, std_tn, std_tp, std_nmin, std_makes, std_room, std_zeros, std_nilq, std_notq, std_eqi, std_eqn, std_eqb, std_eqs, std_eqv, std_cat, std_lst, std_rset, std_rcopy, std_shift, std_eqr, std_strOf, std_bytesOf, std_isB, strOf_lit, lstOf_lit inj_eB, lstOf_lit inj_eZ, lstOf_lit inj_eBs, lstOf_lit inj_eS, isRow_lit, isB_lit, isRow_nil, lstOf_nil inj_eB, lstOf_nil inj_eZ, lstOf_nil inj_eBs, lstOf_nil inj_eS] at *; done)
  all_goals first
    | (subst hA; simp [-List.getD_eq_getElem?_getD, std_add, std_sub, std_mul, std_quo, std_rem, std_band, std_bor, std_bxor, std_shl, std_shr, std_eq, std_ne, std_lt, std_le, std_conv, std_not, std_beq, std_bne, std_ite, std_want, std_and2, std_sadd, std_seq, std_sne, std_slt, std_sle, std_sgt, std_sge, std_slen, std_sget, std_scut, std_ofNat, std_toNat, std_nsub, std_nadd, std_lenOf, std_nz, std_nneg, std_inb, std_upto, std_slt63, std_grow, std_imp, std_impN, std_tr, std_tb, std_ti, std_ts, std_tn, std_tp, std_nmin, std_makes, std_room, std_zeros, std_nilq, std_notq, std_eqi, std_eqn, std_eqb, std_eqs, std_eqv, std_cat, std_lst, std_rset, std_rcopy, std_shift, std_eqr, std_strOf, std_bytesOf, std_isB, strOf_lit, lstOf_lit inj_eB, lstOf_lit inj_eZ, lstOf_lit inj_eBs, lstOf_lit inj_eS, isRow_lit, isB_lit, isRow_nil, lstOf_nil inj_eB, lstOf_nil inj_eZ, lstOf_nil inj_eBs, lstOf_nil inj_eS] at *
       have hlk : looks L = true ∧ (b.length : Int) ≤ 3000 := by assumption
       have b1 := wlooks hlk.1
       have b2 : b.length ≤ 1000000 := by omega
       first
         | exact ⟨by omega, b1.2, b2⟩
         | exact wPutL_b b1 b2
         | exact (wPutL_b b1 b2).1
         | exact ⟨(frames_no hc).2, by have := (frames_no (b := b) hc).1; omega⟩
         | (obtain ⟨k, hk, hl, hkz, w1, w2, hXl⟩ := framesF (b := b) hz (by assumption)
            obtain ⟨l1, l2, l3, l4, l5⟩ := frames_last (b := b) hl
            obtain ⟨a1, a2, a3, a4, a5⟩ := frames_at (b := b) hl hk
            first
              | (rw [w1]; omega)
              | (intro h1 h2; exact ⟨⟨h1, h2⟩, by rw [l3]; omega⟩)
              | (intro h1 h2 h3 h4 h5 h6; exact ⟨⟨⟨⟨⟨⟨h1, h2⟩, h3⟩, h4⟩, h5⟩, h6⟩, by rw [w1]; omega, by rw [w1, (l5 h5).1]; omega⟩)
              | (intro h1 h2 h3 h4 h5; exact ⟨⟨⟨⟨⟨h1, h2⟩, h3⟩, h4⟩, h5⟩, fun h6 => ⟨⟨⟨⟨⟨h1, h2⟩, h3⟩, h4⟩, h5⟩, h6⟩⟩)
              | (intro h1 h2 h3 h4; exact ⟨⟨⟨⟨h1, h2⟩, h3⟩, h4⟩, fun h5 => ⟨⟨⟨⟨h1, h2⟩, h3⟩, h4⟩, h5⟩⟩)
              | (rcases hc with (((h | h) | h) | h) | ⟨h5, h | h⟩
                 exact h l1
                 exact h l2
                 exact h l3
                 exact h (by rw [w1]; exact l4)
                 exact h (by rw [w2]; exact (l5 h5).1)
                 exact h (by rw [w1]; exact (l5 h5).2))
              | (rw [hkz]; exact fun h => ⟨h, by omega, by rw [hXl]; omega⟩)
              | (rw [hkz] at hc
                 rcases hc with (h | h) | h
                 exact h a1
                 exact h a2
                 exact h (by rw [a3, List.length_eraseIdx_of_lt (by omega)]; omega))))
    | skip
  have hlk : looks L = true ∧ (b.length : Int) ≤ 3000 := by subst hA; rename_i g0 g1 g2 g3; simp [std_add, std_sub, std_mul, std_quo, std_rem, std_band, std_bor, std_bxor, std_shl, std_shr, std_eq, std_ne, std_lt, std_le, std_conv, std_not, std_beq, std_bne, std_ite, std_want, std_and2, std_sadd, std_seq, std_sne, std_slt, std_sle, std_sgt, std_sge, std_slen, std_sget, std_scut, std_ofNat, std_toNat, std_nsub, std_nadd, std_lenOf, std_nz, std_nneg, std_inb, std_upto, std_slt63, std_grow, std_imp, std_impN, std_tr, std_tb, std_ti, std_ts, std_tn, std_tp, std_nmin, std_makes, std_room, std_zeros, std_nilq, std_notq, std_eqi, std_eqn, std_eqb, std_eqs, std_eqv, std_cat, std_lst, std_rset, std_rcopy, std_shift, std_eqr, std_strOf, std_bytesOf, std_isB, strOf_lit, lstOf_lit inj_eB, lstOf_lit inj_eZ, lstOf_lit inj_eBs, lstOf_lit inj_eS] at g1; exact g1
  have hp : wPutE L.length = 0 := by subst hA; rename_i g0 g1 g2 g3; simp [std_add, std_sub, std_mul, std_quo, std_rem, std_band, std_bor, std_bxor, std_shl, std_shr, std_eq, std_ne, std_lt, std_le, std_conv, std_not, std_beq, std_bne, std_ite, std_want, std_and2, std_sadd, std_seq, std_sne, std_slt, std_sle, std_sgt, std_sge, std_slen, std_sget, std_scut, std_ofNat, std_toNat, std_nsub, std_nadd, std_lenOf, std_nz, std_nneg, std_inb, std_upto, std_slt63, std_grow, std_imp, std_impN, std_tr, std_tb, std_ti, std_ts, std_tn, std_tp, std_nmin, std_makes, std_room, std_zeros, std_nilq, std_notq, std_eqi, std_eqn, std_eqb, std_eqs, std_eqv, std_cat, std_lst, std_rset, std_rcopy, std_shift, std_eqr, std_strOf, std_bytesOf, std_isB, strOf_lit, lstOf_lit inj_eB, lstOf_lit inj_eZ, lstOf_lit inj_eBs, lstOf_lit inj_eS] at g2; exact g2
  have b1 := wlooks hlk.1
  have b2 : b.length ≤ 1000000 := by omega
  obtain ⟨k, hk, hl, hkz, w1, w2, hXl⟩ := framesF (b := b) hz hp
  obtain ⟨a1, a2, a3, a4, a5⟩ := frames_at (b := b) hl hk
  clear hc
  refine ⟨⟨{i : Nat // i ≤ L.length}, fun b i => [(15, .int .i64 (k : Nat)), (19, .int .i64 (i.1 : Nat))], fun b i => [], fun i => L.length - i.1, true⟩, ⟨⟨0, by omega⟩, ?_⟩, ?_⟩
  · cbv
    subst hA
    simp [-List.getD_eq_getElem?_getD, std_add, std_sub, std_mul, std_quo, std_rem, std_band, std_bor, std_bxor, std_shl, std_shr, std_eq, std_ne, std_lt, std_le, std_conv, std_not, std_beq, std_bne, std_ite, std_want, std_and2, std_sadd, std_seq, std_sne, std_slt, std_sle, std_sgt, std_sge, std_slen, std_sget, std_scut, std_ofNat, std_toNat, std_nsub, std_nadd, std_lenOf, std_nz, std_nneg, std_inb, std_upto, std_slt63, std_grow, std_imp, std_impN, std_tr, std_tb, std_ti, std_ts, std_tn, std_tp, std_nmin, std_makes, std_room, std_zeros, std_nilq, std_notq, std_eqi, std_eqn, std_eqb, std_eqs, std_eqv, std_cat, std_lst, std_rset, std_rcopy, std_shift, std_eqr, std_strOf, std_bytesOf, std_isB, strOf_lit, lstOf_lit inj_eB, lstOf_lit inj_eZ, lstOf_lit inj_eBs, lstOf_lit inj_eS, isRow_lit, isB_lit, isRow_nil, lstOf_nil inj_eB, lstOf_nil inj_eZ, lstOf_nil inj_eBs, lstOf_nil inj_eS, hkz]
  · rintro ⟨i, hi⟩
    cbv
    repeat' (first | with_reducible exact True.intro | with_reducible exact dr_ok hA (by kernel_rfl) | with_reducible refine And.intro ?_ ?_ | (intro hc; cbv))
    all_goals first
      | (subst hA; simp [-List.getD_eq_getElem?_getD, std_add, std_sub, std_mul, std_quo, std_rem, std_band, std_bor, std_bxor, std_shl, std_shr, std_eq, std_ne, std_lt, std_le, std_conv, std_not, std_beq, std_bne, std_ite, std_want, std_and2, std_sadd, std_seq, std_sne, std_slt, std_sle, std_sgt, std_sge, std_slen, std_sget, std_scut, std_ofNat, std_toNat, std_nsub, std_nadd, std_lenOf, std_nz, std_nneg, std_inb, std_upto, std_slt63, std_grow, std_imp, std_impN, std_tr, std_tb, std_ti, std_ts, std_tn, std_tp, std_nmin, std_makes, std_room, std_zeros, std_nilq, std_notq, std_eqi, std_eqn, std_eqb, std_eqs, std_eqv, std_cat, std_lst, std_rset, std_rcopy, std_shift, std_eqr, std_strOf, std_bytesOf, std_isB, strOf_lit, lstOf_lit inj_eB, lstOf_lit inj_eZ, lstOf_lit inj_eBs, lstOf_lit inj_eS, isRow_lit, isB_lit, isRow_nil, lstOf_nil inj_eB, lstOf_nil inj_eZ, lstOf_nil inj_eBs, lstOf_nil inj_eS] at *; done)
      | (have hlt : i < L.length := by (rename_i h1 h2; subst hA; simp [std_add, std_sub, std_mul, std_quo, std_rem, std_band, std_bor, std_bxor, std_shl, std_shr, std_eq, std_ne, std_lt, std_le, std_conv, std_not, std_beq, std_bne, std_ite, std_want, std_and2, std_sadd, std_seq, std_sne, std_slt, std_sle, std_sgt, std_sge, std_slen, std_sget, std_scut, std_ofNat, std_toNat, std_nsub, std_nadd, std_lenOf, std_nz, std_nneg, std_inb, std_upto, std_slt63, std_grow, std_imp, std_impN, std_tr, std_tb, std_ti, std_ts, std_tn, std_tp, std_nmin, std_makes, std_room, std_zeros, std_nilq, std_notq, std_eqi, std_eqn, std_eqb, std_eqs, std_eqv, std_cat, std_lst, std_rset, std_rcopy, std_shift, std_eqr, std_strOf, std_bytesOf, std_isB] at h1; omega)
         refine ⟨⟨i + 1, by omega⟩, ?_, show L.length - (i + 1) < L.length - i by omega⟩
         cbv
         subst hA
         simp [-List.getD_eq_getElem?_getD, std_add, std_sub, std_mul, std_quo, std_rem, std_band, std_bor, std_bxor, std_shl, std_shr, std_eq, std_ne, std_lt, std_le, std_conv, std_not, std_beq, std_bne, std_ite, std_want, std_and2, std_sadd, std_seq, std_sne, std_slt, std_sle, std_sgt, std_sge, std_slen, std_sget, std_scut, std_ofNat, std_toNat, std_nsub, std_nadd, std_lenOf, std_nz, std_nneg, std_inb, std_upto, std_slt63, std_grow, std_imp, std_impN, std_tr, std_tb, std_ti, std_ts, std_tn, std_tp, std_nmin, std_makes, std_room, std_zeros, std_nilq, std_notq, std_eqi, std_eqn, std_eqb, std_eqs, std_eqv, std_cat, std_lst, std_rset, std_rcopy, std_shift, std_eqr, std_strOf, std_bytesOf, std_isB, strOf_lit, lstOf_lit inj_eB, lstOf_lit inj_eZ, lstOf_lit inj_eBs, lstOf_lit inj_eS, isRow_lit, isB_lit, isRow_nil, lstOf_nil inj_eB, lstOf_nil inj_eZ, lstOf_nil inj_eBs, lstOf_nil inj_eS, hkz]
         exact w64 (by omega))
      | (subst hA; simp [-List.getD_eq_getElem?_getD, std_add, std_sub, std_mul, std_quo, std_rem, std_band, std_bor, std_bxor, std_shl, std_shr, std_eq, std_ne, std_lt, std_le, std_conv, std_not, std_beq, std_bne, std_ite, std_want, std_and2, std_sadd, std_seq, std_sne, std_slt, std_sle, std_sgt, std_sge, std_slen, std_sget, std_scut, std_ofNat, std_toNat, std_nsub, std_nadd, std_lenOf, std_nz, std_nneg, std_inb, std_upto, std_slt63, std_grow, std_imp, std_impN, std_tr, std_tb, std_ti, std_ts, std_tn, std_tp, std_nmin, std_makes, std_room, std_zeros, std_nilq, std_notq, std_eqi, std_eqn, std_eqb, std_eqs, std_eqv, std_cat, std_lst, std_rset, std_rcopy, std_shift, std_eqr, std_strOf, std_bytesOf, std_isB, strOf_lit, lstOf_lit inj_eB, lstOf_lit inj_eZ, lstOf_lit inj_eBs, lstOf_lit inj_eS, isRow_lit, isB_lit, isRow_nil, lstOf_nil inj_eB, lstOf_nil inj_eZ, lstOf_nil inj_eBs, lstOf_nil inj_eS, hkz, a1, a2, a3] at *
         have el : ((wPutL L b).eraseIdx k).length = L.length := by rw [List.length_eraseIdx_of_lt (by omega)]; omega
         have w3 : IntKind.i64.wrap ((i : Int) + 1) = (i : Int) + 1 := w64 (by omega)
         first
           | omega
           | (rw [w3]; omega)
           | (rw [w3] at hc; exact hc (by rw [erase_get (by omega), if_pos (by omega)]; rfl))
           | exact hc (by rw [erase_get (by omega), if_neg (by omega)]))
      | trace_state
end Go.Vd
