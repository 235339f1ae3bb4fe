/- The frame's laws: FrameParts. -/
import Derived.Test.YtdipfibiajkedaaWeF6
set_option linter.unusedVariables false
set_option linter.unusedSimpArgs false
set_option maxRecDepth 100000
set_option maxHeartbeats 4000000
namespace Go.Vd
open Go.Proofs
def pAll (l : List (List UInt8)) (i : Nat) : List UInt8 := ((l.take i).map fPutL).flatten
def pGood (l : List (List UInt8)) (i : Nat) : Prop := ∀ b ∈ l.take i, 1 ≤ b.length ∧ b.length ≤ 300
theorem pAll_snoc {l : List (List UInt8)} {i : Nat} (h : i < l.length) : pAll l (i + 1) = pAll l i ++ fPutL (l.getD i []) := by
  unfold pAll
  rw [← take_snoc (d := []) h]; simp
theorem pGood_snoc {l : List (List UInt8)} {i : Nat} (h : i < l.length) (hg : pGood l i) (h1 : 1 ≤ (l.getD i []).length ∧ (l.getD i []).length ≤ 300) : pGood l (i + 1) := by
  unfold pGood
  rw [← take_snoc (d := []) h]
  intro b hb
  rcases List.mem_append.1 hb with hb | hb
  · exact hg b hb
  · rw [List.mem_singleton.1 hb]; exact h1
theorem pGood_len {l : List (List UInt8)} (h : pGood l l.length) : ∀ b ∈ l, 1 ≤ b.length ∧ b.length ≤ 2048 := by
  unfold pGood at h
  rw [List.take_length] at h
  exact fun b hb => ⟨(h b hb).1, Nat.le_trans (h b hb).2 (by omega)⟩
theorem pFeed {l : List (List UInt8)} (h : pGood l l.length) : fFeed [] false (pAll l l.length) = ⟨[], false, l, 0⟩ := by
  have h1 := fParse_puts (pGood_len h)
  unfold pAll
  rw [fFeed_go (by decide), List.take_length, List.nil_append, h1]
  rfl
theorem pCut {l : List (List UInt8)} (h : pGood l l.length) (k : Nat) : (fFeed [] false ((pAll l l.length).take k)).br = false ∧ (fFeed [] false ((pAll l l.length).take k)).e = 0 ∧ fOk (fFeed [] false ((pAll l l.length).take k)).rest false = true ∧
    (fFeed (fFeed [] false ((pAll l l.length).take k)).rest false ((pAll l l.length).drop k)).rest = [] ∧ (fFeed (fFeed [] false ((pAll l l.length).take k)).rest false ((pAll l l.length).drop k)).e = 0 ∧
    (fFeed [] false ((pAll l l.length).take k)).told ++ (fFeed (fFeed [] false ((pAll l l.length).take k)).rest false ((pAll l l.length).drop k)).told = l := by
  have h0 : fOk [] false = true := by decide
  have h1 := fFeed_two (A := (pAll l l.length).take k) (B := (pAll l l.length).drop k) h0
  rw [List.take_append_drop, pFeed h] at h1
  have h2 := fFeed_right (B := (pAll l l.length).take k) h0
  have h3 := fFeed_e (B := (pAll l l.length).take k) h0
  cases hb : (fFeed [] false ((pAll l l.length).take k)).br
  · rw [hb] at h1 h2 h3
    simp only [FFed.mk.injEq] at h1
    exact ⟨rfl, by simpa using h3, h2, h1.1.symm, h1.2.2.2.symm, h1.2.2.1.symm⟩
  · rw [hb] at h1 h2
    rw [fFeed_br h2] at h1
    simp at h1
theorem pK {z : Int} (hz : 0 ≤ z ∧ z < 65536) {n : Nat} (hn : n ≤ 20000) : ∃ k : Nat, k ≤ n ∧ (IntKind.i64.wrap z).tmod (IntKind.i64.wrap ((n : Int) + 1)) = k := by
  rw [w64 (n := z) (by omega), w64 (n := (n : Int) + 1) (by omega), Int.tmod_eq_emod_of_nonneg hz.1]
  have h1 := Int.emod_nonneg z (b := (n : Int) + 1) (by omega)
  have h2 := Int.emod_lt_of_pos z (b := (n : Int) + 1) (by omega)
  exact ⟨(z % ((n : Int) + 1)).toNat, by omega, by omega⟩
theorem lcut (G : List UInt8) {k : Nat} (h : k ≤ G.length) : lstOf eB 0 1 k (rowF eB 0 std fun _ => G) = G.take k := lstOf_eq inj_eB (Reps.cut G k h)
theorem rcut (G : List UInt8) {k : Nat} (h : k ≤ G.length) : isRow eB 0 1 k (rowF eB 0 std fun _ => G) := ⟨_, Reps.cut G k h⟩
theorem ldrp (G : List UInt8) {k : Nat} (h : k ≤ G.length) : lstOf eB 0 1 (G.length - k) (fun i => rowF eB 0 std (fun _ => G) (k + i)) = G.drop k := lstOf_eq inj_eB (Reps.shift' (Reps.lit G) k h)
theorem rdrp (G : List UInt8) {k : Nat} (h : k ≤ G.length) : isRow eB 0 1 (G.length - k) (fun i => rowF eB 0 std (fun _ => G) (k + i)) := ⟨_, Reps.shift' (Reps.lit G) k h⟩
theorem qapp (l m : List (List UInt8)) (f : Nat → Nat → SV) : Reps eBs [] 1 (l.length + m.length) (catS l.length (catS 0 f (rowF eBs [] std fun _ => l)) (rowF eBs [] std fun _ => m)) (l ++ m) := by
  have h := (Reps.nil (enc := eBs) (d := []) (k := 1) (f := f)).cat (Reps.lit l)
  rw [Nat.zero_add, List.nil_append] at h
  exact h.cat (Reps.lit m)
theorem lapp (l m : List (List UInt8)) (f : Nat → Nat → SV) : lstOf eBs [] 1 (l.length + m.length) (catS l.length (catS 0 f (rowF eBs [] std fun _ => l)) (rowF eBs [] std fun _ => m)) = l ++ m := lstOf_eq inj_eBs (qapp l m f)
theorem rapp (l m : List (List UInt8)) (f : Nat → Nat → SV) : isRow eBs [] 1 (l.length + m.length) (catS l.length (catS 0 f (rowF eBs [] std fun _ => l)) (rowF eBs [] std fun _ => m)) := ⟨_, qapp l m f⟩
theorem good_FrameParts (l : List (List UInt8)) (z : Int) (hz : 0 ≤ z ∧ z < 65536) : GoodP Try.prog gl0 4 [rowS eBs [] 1 std fun _ => l, .int .u16 z] (.bool true) := by
  refine fn_sound' (T := seatT) (G := gf5) (X := noX) seatT_ok gf5_ok noX_ok noI_ok mixed Try.func4 (.one) (fun A => [rowS eBs [] 1 A fun _ => l, .int .u16 z]) (fun A => .bool true) fun A hA => ?_
  cbv
  repeat' (first | with_reducible exact True.intro | with_reducible exact dr_ok hA (by kernel_rfl) | with_reducible refine And.intro ?_ ?_ | (intro hc; cbv))
  rotate_right
  · have h10 : l.length ≤ 10 := by (subst hA; simp [std_add, std_sub, std_mul, std_quo, std_rem, std_band, std_bor, std_bxor, std_shl, std_shr, std_eq, std_ne, std_lt, std_le, std_conv, std_not, std_beq, std_bne, std_ite, std_want, std_and2, std_sadd, std_seq, std_sne, std_slt, std_sle, std_sgt, std_sge, std_slen, std_sget, std_scut, std_ofNat, std_toNat, std_nsub, std_nadd, std_lenOf, std_nz, std_nneg, std_inb, std_upto, std_slt63, std_grow, std_imp, std_impN, std_tr, std_tb, std_ti, std_ts, std_tn, std_tp, std_nmin, std_makes, std_room, std_zeros, std_nilq, std_notq, std_eqi, std_eqn, std_eqb, std_eqs, std_eqv, std_cat, std_lst, std_rset, std_rcopy, std_shift, std_eqr, std_strOf, std_bytesOf, std_isB, std_zOf, zOf_int, std_isI, isI_int] at hc; omega)
    refine ⟨⟨{p : Nat × List UInt8 // p.1 ≤ l.length ∧ pGood l p.1 ∧ p.2 = pAll l p.1 ∧ p.2.length ≤ 302 * p.1}, fun b p => [(5, .own b), (6, .int .i64 (p.1.1 : Nat))], fun b p => [(b, .row 5 1 (A.tn fun _ => p.1.2.length) (rowF eB 0 A fun _ => p.1.2))], fun p => l.length - p.1.1, true⟩, ⟨⟨(0, []), by omega, by simp [pGood], by simp [pAll], by simp⟩, ?_⟩, ?_⟩
    · cbv
      subst hA
      simp [-List.getD_eq_getElem?_getD, std_add, std_sub, std_mul, std_quo, std_rem, std_band, std_bor, std_bxor, std_shl, std_shr, std_eq, std_ne, std_lt, std_le, std_conv, std_not, std_beq, std_bne, std_ite, std_want, std_and2, std_sadd, std_seq, std_sne, std_slt, std_sle, std_sgt, std_sge, std_slen, std_sget, std_scut, std_ofNat, std_toNat, std_nsub, std_nadd, std_lenOf, std_nz, std_nneg, std_inb, std_upto, std_slt63, std_grow, std_imp, std_impN, std_tr, std_tb, std_ti, std_ts, std_tn, std_tp, std_nmin, std_makes, std_room, std_zeros, std_nilq, std_notq, std_eqi, std_eqn, std_eqb, std_eqs, std_eqv, std_cat, std_lst, std_rset, std_rcopy, std_shift, std_eqr, std_strOf, std_bytesOf, std_isB, std_zOf, zOf_int, std_isI, isI_int, strOf_lit, lstOf_lit inj_eB, lstOf_lit inj_eZ, lstOf_lit inj_eBs, lstOf_lit inj_eS, isRow_lit, isB_lit, isRow_nil, lstOf_nil inj_eB, lstOf_nil inj_eZ, lstOf_nil inj_eBs, lstOf_nil inj_eS]
    · rintro ⟨⟨i, G⟩, hi, hg, hG, hb⟩
      simp only at hi hg hG hb
      cbv
      repeat' (first | with_reducible exact True.intro | with_reducible exact dr_ok hA (by kernel_rfl) | with_reducible refine And.intro ?_ ?_ | (intro hc; cbv))
      all_goals first
        | (fail_if_success (refine Exists.intro ?_ ?_)
           subst hA
           simp [-List.getD_eq_getElem?_getD, std_add, std_sub, std_mul, std_quo, std_rem, std_band, std_bor, std_bxor, std_shl, std_shr, std_eq, std_ne, std_lt, std_le, std_conv, std_not, std_beq, std_bne, std_ite, std_want, std_and2, std_sadd, std_seq, std_sne, std_slt, std_sle, std_sgt, std_sge, std_slen, std_sget, std_scut, std_ofNat, std_toNat, std_nsub, std_nadd, std_lenOf, std_nz, std_nneg, std_inb, std_upto, std_slt63, std_grow, std_imp, std_impN, std_tr, std_tb, std_ti, std_ts, std_tn, std_tp, std_nmin, std_makes, std_room, std_zeros, std_nilq, std_notq, std_eqi, std_eqn, std_eqb, std_eqs, std_eqv, std_cat, std_lst, std_rset, std_rcopy, std_shift, std_eqr, std_strOf, std_bytesOf, std_isB, std_zOf, zOf_int, std_isI, isI_int, strOf_lit, lstOf_lit inj_eB, lstOf_lit inj_eZ, lstOf_lit inj_eBs, lstOf_lit inj_eS, isRow_lit, isB_lit, isRow_nil, lstOf_nil inj_eB, lstOf_nil inj_eZ, lstOf_nil inj_eBs, lstOf_nil inj_eS] at *
           done)
        | (fail_if_success (refine Exists.intro ?_ ?_)
           subst hA
           simp [-List.getD_eq_getElem?_getD, std_add, std_sub, std_mul, std_quo, std_rem, std_band, std_bor, std_bxor, std_shl, std_shr, std_eq, std_ne, std_lt, std_le, std_conv, std_not, std_beq, std_bne, std_ite, std_want, std_and2, std_sadd, std_seq, std_sne, std_slt, std_sle, std_sgt, std_sge, std_slen, std_sget, std_scut, std_ofNat, std_toNat, std_nsub, std_nadd, std_lenOf, std_nz, std_nneg, std_inb, std_upto, std_slt63, std_grow, std_imp, std_impN, std_tr, std_tb, std_ti, std_ts, std_tn, std_tp, std_nmin, std_makes, std_room, std_zeros, std_nilq, std_notq, std_eqi, std_eqn, std_eqb, std_eqs, std_eqv, std_cat, std_lst, std_rset, std_rcopy, std_shift, std_eqr, std_strOf, std_bytesOf, std_isB, std_zOf, zOf_int, std_isI, isI_int, strOf_lit, lstOf_lit inj_eB, lstOf_lit inj_eZ, lstOf_lit inj_eBs, lstOf_lit inj_eS, isRow_lit, isB_lit, isRow_nil, lstOf_nil inj_eB, lstOf_nil inj_eZ, lstOf_nil inj_eBs, lstOf_nil inj_eS] at *
           first
             | omega
             | (intro h; exact ⟨h, by assumption⟩)
             | (have hx : ¬l.getD i [] = [] ∧ ((l.getD i []).length : Int) ≤ 300 := by assumption
                have hq := pe2 (B := l.getD i []) hx.1 (by omega)
                first | (simp [hq.1] at *; done) | (rw [hq.2, fPutL_len]; omega)))
        | (fail_if_success (refine Exists.intro ?_ ?_)
           have hil : i = l.length := by (subst hA; simp [-List.getD_eq_getElem?_getD, std_add, std_sub, std_mul, std_quo, std_rem, std_band, std_bor, std_bxor, std_shl, std_shr, std_eq, std_ne, std_lt, std_le, std_conv, std_not, std_beq, std_bne, std_ite, std_want, std_and2, std_sadd, std_seq, std_sne, std_slt, std_sle, std_sgt, std_sge, std_slen, std_sget, std_scut, std_ofNat, std_toNat, std_nsub, std_nadd, std_lenOf, std_nz, std_nneg, std_inb, std_upto, std_slt63, std_grow, std_imp, std_impN, std_tr, std_tb, std_ti, std_ts, std_tn, std_tp, std_nmin, std_makes, std_room, std_zeros, std_nilq, std_notq, std_eqi, std_eqn, std_eqb, std_eqs, std_eqv, std_cat, std_lst, std_rset, std_rcopy, std_shift, std_eqr, std_strOf, std_bytesOf, std_isB, std_zOf, zOf_int, std_isI, isI_int] at *; omega)
           subst hil
           have hF := pFeed hg
           rw [← hG] at hF
           subst hA
           simp [-List.getD_eq_getElem?_getD, std_add, std_sub, std_mul, std_quo, std_rem, std_band, std_bor, std_bxor, std_shl, std_shr, std_eq, std_ne, std_lt, std_le, std_conv, std_not, std_beq, std_bne, std_ite, std_want, std_and2, std_sadd, std_seq, std_sne, std_slt, std_sle, std_sgt, std_sge, std_slen, std_sget, std_scut, std_ofNat, std_toNat, std_nsub, std_nadd, std_lenOf, std_nz, std_nneg, std_inb, std_upto, std_slt63, std_grow, std_imp, std_impN, std_tr, std_tb, std_ti, std_ts, std_tn, std_tp, std_nmin, std_makes, std_room, std_zeros, std_nilq, std_notq, std_eqi, std_eqn, std_eqb, std_eqs, std_eqv, std_cat, std_lst, std_rset, std_rcopy, std_shift, std_eqr, std_strOf, std_bytesOf, std_isB, std_zOf, zOf_int, std_isI, isI_int, strOf_lit, lstOf_lit inj_eB, lstOf_lit inj_eZ, lstOf_lit inj_eBs, lstOf_lit inj_eS, isRow_lit, isB_lit, isRow_nil, lstOf_nil inj_eB, lstOf_nil inj_eZ, lstOf_nil inj_eBs, lstOf_nil inj_eS, hF] at *
           done)
        | (fail_if_success (refine Exists.intro ?_ ?_)
           have hil : i = l.length := by (subst hA; simp [-List.getD_eq_getElem?_getD, std_add, std_sub, std_mul, std_quo, std_rem, std_band, std_bor, std_bxor, std_shl, std_shr, std_eq, std_ne, std_lt, std_le, std_conv, std_not, std_beq, std_bne, std_ite, std_want, std_and2, std_sadd, std_seq, std_sne, std_slt, std_sle, std_sgt, std_sge, std_slen, std_sget, std_scut, std_ofNat, std_toNat, std_nsub, std_nadd, std_lenOf, std_nz, std_nneg, std_inb, std_upto, std_slt63, std_grow, std_imp, std_impN, std_tr, std_tb, std_ti, std_ts, std_tn, std_tp, std_nmin, std_makes, std_room, std_zeros, std_nilq, std_notq, std_eqi, std_eqn, std_eqb, std_eqs, std_eqv, std_cat, std_lst, std_rset, std_rcopy, std_shift, std_eqr, std_strOf, std_bytesOf, std_isB, std_zOf, zOf_int, std_isI, isI_int] at *; omega)
           subst hil
           obtain ⟨k, hk, hkz⟩ := pK hz (n := G.length) (by omega)
           have hF := pFeed hg
           rw [← hG] at hF
           subst hA
           simp [-List.getD_eq_getElem?_getD, std_add, std_sub, std_mul, std_quo, std_rem, std_band, std_bor, std_bxor, std_shl, std_shr, std_eq, std_ne, std_lt, std_le, std_conv, std_not, std_beq, std_bne, std_ite, std_want, std_and2, std_sadd, std_seq, std_sne, std_slt, std_sle, std_sgt, std_sge, std_slen, std_sget, std_scut, std_ofNat, std_toNat, std_nsub, std_nadd, std_lenOf, std_nz, std_nneg, std_inb, std_upto, std_slt63, std_grow, std_imp, std_impN, std_tr, std_tb, std_ti, std_ts, std_tn, std_tp, std_nmin, std_makes, std_room, std_zeros, std_nilq, std_notq, std_eqi, std_eqn, std_eqb, std_eqs, std_eqv, std_cat, std_lst, std_rset, std_rcopy, std_shift, std_eqr, std_strOf, std_bytesOf, std_isB, std_zOf, zOf_int, std_isI, isI_int, strOf_lit, lstOf_lit inj_eB, lstOf_lit inj_eZ, lstOf_lit inj_eBs, lstOf_lit inj_eS, isRow_lit, isB_lit, isRow_nil, lstOf_nil inj_eB, lstOf_nil inj_eZ, lstOf_nil inj_eBs, lstOf_nil inj_eS, hF] at *
           have hC := pCut hg k
           rw [← hG] at hC
           simp only [hkz, Int.toNat_natCast, lcut G hk, rcut G hk, ldrp G hk, rdrp G hk] at *
           have hr1 := fFeed_rest (L := []) (B := G.take k) (br := false)
           have hr2 := fFeed_told (L := []) (B := G.take k) (br := false)
           have hr3 := fFeed_told (L := (fFeed [] false (G.take k)).rest) (B := G.drop k) (br := false)
           rw [List.length_take] at hr1 hr2
           rw [List.length_drop] at hr3
           rw [List.length_nil] at hr1 hr2
           generalize hs : fFeed [] false (G.take k) = s at *
           obtain ⟨c1, c2, c3, c4, c5, c6⟩ := hC
           obtain ⟨sr, sb, sn, se⟩ := s
           dsimp only at *
           subst c1 c2
           generalize ht : fFeed sr false (G.drop k) = t at *
           first
             | omega
             | (simp [c2, c3, c4, c5, c6, lapp, rapp] at *; done)
             | (simp [c2, c3, c4, c5, c6, lapp, rapp] at *; omega)
             | (constructor <;> omega)
             | (rw [w64 (by omega)]; omega)
             | exact fun _ _ _ _ => ⟨⟨⟨⟨rfl, c5⟩, c3⟩, c4⟩, rapp _ _ _, by omega⟩
             | exact ⟨⟨⟨⟨rfl, c5⟩, c3⟩, c4⟩, (lapp _ _ _).trans c6⟩
             | exact ⟨⟨⟨rfl, c5⟩, c3⟩, c4⟩
             | (exfalso; (have hx : (0 : Int) = 0 → t.e = 0 → fOk sr false = true → ¬t.rest = [] := by assumption); exact hx rfl c5 c3 c4)
             | trace_state)
        | skip
      · subst hA
        simp [-List.getD_eq_getElem?_getD, std_add, std_sub, std_mul, std_quo, std_rem, std_band, std_bor, std_bxor, std_shl, std_shr, std_eq, std_ne, std_lt, std_le, std_conv, std_not, std_beq, std_bne, std_ite, std_want, std_and2, std_sadd, std_seq, std_sne, std_slt, std_sle, std_sgt, std_sge, std_slen, std_sget, std_scut, std_ofNat, std_toNat, std_nsub, std_nadd, std_lenOf, std_nz, std_nneg, std_inb, std_upto, std_slt63, std_grow, std_imp, std_impN, std_tr, std_tb, std_ti, std_ts, std_tn, std_tp, std_nmin, std_makes, std_room, std_zeros, std_nilq, std_notq, std_eqi, std_eqn, std_eqb, std_eqs, std_eqv, std_cat, std_lst, std_rset, std_rcopy, std_shift, std_eqr, std_strOf, std_bytesOf, std_isB, std_zOf, zOf_int, std_isI, isI_int, strOf_lit, lstOf_lit inj_eB, lstOf_lit inj_eZ, lstOf_lit inj_eBs, lstOf_lit inj_eS, isRow_lit, isB_lit, isRow_nil, lstOf_nil inj_eB, lstOf_nil inj_eZ, lstOf_nil inj_eBs, lstOf_nil inj_eS] at *
        have hx : ¬l.getD i [] = [] ∧ ((l.getD i []).length : Int) ≤ 300 := by assumption
        exact hc (pe2 hx.1 (by omega)).1
      · have hlt : i < l.length := by clear hb hG hg; subst hA; simp [std_add, std_sub, std_mul, std_quo, std_rem, std_band, std_bor, std_bxor, std_shl, std_shr, std_eq, std_ne, std_lt, std_le, std_conv, std_not, std_beq, std_bne, std_ite, std_want, std_and2, std_sadd, std_seq, std_sne, std_slt, std_sle, std_sgt, std_sge, std_slen, std_sget, std_scut, std_ofNat, std_toNat, std_nsub, std_nadd, std_lenOf, std_nz, std_nneg, std_inb, std_upto, std_slt63, std_grow, std_imp, std_impN, std_tr, std_tb, std_ti, std_ts, std_tn, std_tp, std_nmin, std_makes, std_room, std_zeros, std_nilq, std_notq, std_eqi, std_eqn, std_eqb, std_eqs, std_eqv, std_cat, std_lst, std_rset, std_rcopy, std_shift, std_eqr, std_strOf, std_bytesOf, std_isB, std_zOf, zOf_int, std_isI, isI_int] at *; omega
        have hx : ¬l.getD i [] = [] ∧ (l.getD i []).length ≤ 300 := by
          clear hb hG hg
          subst hA
          rename_i hq1 hq2
          simp [-List.getD_eq_getElem?_getD, std_add, std_sub, std_mul, std_quo, std_rem, std_band, std_bor, std_bxor, std_shl, std_shr, std_eq, std_ne, std_lt, std_le, std_conv, std_not, std_beq, std_bne, std_ite, std_want, std_and2, std_sadd, std_seq, std_sne, std_slt, std_sle, std_sgt, std_sge, std_slen, std_sget, std_scut, std_ofNat, std_toNat, std_nsub, std_nadd, std_lenOf, std_nz, std_nneg, std_inb, std_upto, std_slt63, std_grow, std_imp, std_impN, std_tr, std_tb, std_ti, std_ts, std_tn, std_tp, std_nmin, std_makes, std_room, std_zeros, std_nilq, std_notq, std_eqi, std_eqn, std_eqb, std_eqs, std_eqv, std_cat, std_lst, std_rset, std_rcopy, std_shift, std_eqr, std_strOf, std_bytesOf, std_isB, std_zOf, zOf_int, std_isI, isI_int, strOf_lit, lstOf_lit inj_eB, lstOf_lit inj_eZ, lstOf_lit inj_eBs, lstOf_lit inj_eS] at hq2
          exact ⟨hq2.1, by omega⟩
        have hq := pe2 hx.1 (by omega)
        have h1 : 1 ≤ (l.getD i []).length := by
          rcases Nat.eq_zero_or_pos (l.getD i []).length with h | h
          · exact absurd (List.length_eq_zero_iff.1 h) hx.1
          · exact h
        obtain ⟨G', hG'⟩ : ∃ G', G' = G ++ fPutL (l.getD i []) := ⟨_, rfl⟩
        obtain ⟨i', hi'⟩ : ∃ i', i' = i + 1 := ⟨_, rfl⟩
        have hl' : G'.length = G.length + (fPutL (l.getD i [])).length := by rw [hG', List.length_append]
        have hl2 := fPutL_len (l.getD i [])
        refine ⟨⟨(i', G'), by omega, by rw [hi']; exact pGood_snoc hlt hg ⟨h1, hx.2⟩, by rw [hi', pAll_snoc hlt, ← hG, hG'], show G'.length ≤ 302 * i' by omega⟩, ?_, show l.length - i' < l.length - i by omega⟩
        cbv
        subst hA
        simp [-List.getD_eq_getElem?_getD, std_add, std_sub, std_mul, std_quo, std_rem, std_band, std_bor, std_bxor, std_shl, std_shr, std_eq, std_ne, std_lt, std_le, std_conv, std_not, std_beq, std_bne, std_ite, std_want, std_and2, std_sadd, std_seq, std_sne, std_slt, std_sle, std_sgt, std_sge, std_slen, std_sget, std_scut, std_ofNat, std_toNat, std_nsub, std_nadd, std_lenOf, std_nz, std_nneg, std_inb, std_upto, std_slt63, std_grow, std_imp, std_impN, std_tr, std_tb, std_ti, std_ts, std_tn, std_tp, std_nmin, std_makes, std_room, std_zeros, std_nilq, std_notq, std_eqi, std_eqn, std_eqb, std_eqs, std_eqv, std_cat, std_lst, std_rset, std_rcopy, std_shift, std_eqr, std_strOf, std_bytesOf, std_isB, std_zOf, zOf_int, std_isI, isI_int, strOf_lit, lstOf_lit inj_eB, lstOf_lit inj_eZ, lstOf_lit inj_eBs, lstOf_lit inj_eS, isRow_lit, isB_lit, isRow_nil, lstOf_nil inj_eB, lstOf_nil inj_eZ, lstOf_nil inj_eBs, lstOf_nil inj_eS, hq.2]
        exact ⟨(w64 (by omega)).trans (by omega), hl'.symm, eqr_of (M := G') (((Reps.lit G).cat (Reps.lit _)).congr hl' hG'.symm) rfl rfl⟩
  all_goals (subst hA; simp [-List.getD_eq_getElem?_getD, std_add, std_sub, std_mul, std_quo, std_rem, std_band, std_bor, std_bxor, std_shl, std_shr, std_eq, std_ne, std_lt, std_le, std_conv, std_not, std_beq, std_bne, std_ite, std_want, std_and2, std_sadd, std_seq, std_sne, std_slt, std_sle, std_sgt, std_sge, std_slen, std_sget, std_scut, std_ofNat, std_toNat, std_nsub, std_nadd, std_lenOf, std_nz, std_nneg, std_inb, std_upto, std_slt63, std_grow, std_imp, std_impN, std_tr, std_tb, std_ti, std_ts, std_tn, std_tp, std_nmin, std_makes, std_room, std_zeros, std_nilq, std_notq, std_eqi, std_eqn, std_eqb, std_eqs, std_eqv, std_cat, std_lst, std_rset, std_rcopy, std_shift, std_eqr, std_strOf, std_bytesOf, std_isB, std_zOf, zOf_int, std_isI, isI_int, strOf_lit, lstOf_lit inj_eB, lstOf_lit inj_eZ, lstOf_lit inj_eBs, lstOf_lit inj_eS, isRow_lit, isB_lit, isRow_nil, lstOf_nil inj_eB, lstOf_nil inj_eZ, lstOf_nil inj_eBs, lstOf_nil inj_eS] at *)
end Go.Vd
