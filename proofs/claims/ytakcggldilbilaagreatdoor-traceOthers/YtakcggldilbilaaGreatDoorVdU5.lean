/- Traces: the deals of a key. -/
import Derived.Test.YtakcggldilbilaaGreatDoorVdU1
set_option linter.unusedVariables false
set_option linter.unusedSimpArgs false
set_option maxRecDepth 100000
set_option maxHeartbeats 8000000
namespace Go.Vd
open Go.Proofs
def opDT2 (A : Ar) (B : Unit → List UInt8) : SV := .tup [.agg [.int .i64 (A.ti fun _ => (opD (B ())).k), .str (A.ts fun _ => (opD (B ())).pan), .int .u64 (A.ti fun _ => (opD (B ())).am), .int .u32 (A.ti fun _ => (opD (B ())).s), .str (A.ts fun _ => (opD (B ())).r), .str (A.ts fun _ => (opD (B ())).code)], .int .i64 (A.ti fun _ => opE (B ()))]
noncomputable def c_kOfu : Ct := fun A args => match args with
  | [.agg [.int .i64 a, .str p, .int .u64 c, .int .u32 s, .str r, .str e]] => some (none, .agg [.int .u32 s, .str r])
  | _ => none
noncomputable def c_tOpenu : Ct := fun A args => match args with
  | [.slc n 1 f] => some (some (A.tp fun _ => isRow eB 0 1 n f ∧ n ≤ 10000), opDT2 A (fun _ => lstOf eB 0 1 n f))
  | _ => none
noncomputable def gU1 : Ar → Pu := addC 39 c_kOfu (addC 29 c_tOpenu (gT1))
theorem gU1_ok : PuOk Tryz.prog gl0 (gU1 std) := by
  refine addC_ok (addC_ok (gT1_ok) ⟨_, Tryz.func29, rfl, by decide⟩ ?_) ⟨_, Tryz.func39, rfl, by decide⟩ ?_
  · intro args p r h hp
    unfold c_tOpenu at h
    split at h <;> cases h
    exact good_sv (good_tOpen _ (by rw [lstOf_length hp.1]; exact hp.2)) ⟨hp.1.sv, trivial⟩
  · intro args p r h hp
    unfold c_kOfu at h
    split at h <;> cases h
    exact good_kOf _ _ _ _ _ _
noncomputable def iU : Nat → Option Func := addI 126 Tryz.f126 (addI 128 Tryz.f128 (addI 127 Tryz.f127 noI))
theorem iU_ok : InOk Tryz.prog iU := addI_ok (addI_ok (addI_ok noI_ok Tryz.func127 (by kernel_rfl)) Tryz.func128 (by kernel_rfl)) Tryz.func126 (by kernel_rfl)
def fOp (B : List UInt8) : Bool := decide (opE B = 0)
def trD (Ls : List (List UInt8)) : List Dl := (Ls.filter fOp).map opD
def kEq (s : Int) (r : List UInt8) (d : Dl) : Bool := decide (d.s = s) && decide (d.r = r)
def trL (s : Int) (r : List UInt8) (Ls : List (List UInt8)) : List Dl := (trD Ls).filter (kEq s r)
theorem trD_yes {Ls : List (List UInt8)} {i : Nat} (hi : i < Ls.length) (h : opE (Ls.getD i []) = 0) : trD (Ls.take (i + 1)) = trD (Ls.take i) ++ [opD (Ls.getD i [])] := by
  unfold trD
  rw [← take_snoc (d := []) hi, List.filter_append, List.map_append, List.filter_cons, if_pos (show fOp (Ls.getD i []) = true by simp [fOp, h, -List.getD_eq_getElem?_getD])]
  rfl
theorem trD_no {Ls : List (List UInt8)} {i : Nat} (hi : i < Ls.length) (h : ¬opE (Ls.getD i []) = 0) : trD (Ls.take (i + 1)) = trD (Ls.take i) := by
  unfold trD
  rw [← take_snoc (d := []) hi, List.filter_append, List.map_append, List.filter_cons, if_neg (show ¬fOp (Ls.getD i []) = true by simp [fOp, h, -List.getD_eq_getElem?_getD])]
  simp
theorem trD_len (Ls : List (List UInt8)) : (trD Ls).length ≤ Ls.length := by unfold trD; rw [List.length_map]; exact List.length_filter_le _ _
theorem set_take {R : List Dl} {a : Nat} (x : Dl) (h : a < R.length) : (R.set a x).take (a + 1) = R.take a ++ [x] := by
  rw [List.set_eq_take_append_cons_drop, if_pos h, List.take_append, List.take_of_length_le (by rw [List.length_take]; omega)]
  have : a + 1 - (R.take a).length = 1 := by rw [List.length_take]; omega
  rw [this]
  rfl
theorem set_far {R : List Dl} {a t : Nat} (x : Dl) (h : a < t) : (R.set a x).getD t D0 = R.getD t D0 := by
  rw [List.getD_eq_getElem?_getD, List.getD_eq_getElem?_getD, List.getElem?_set_ne (by omega)]
def dlOk (s : Int) (r : List UInt8) (M R : List Dl) (a c : Nat) : Prop := a < c ∧ c ≤ M.length ∧ R.length = M.length ∧ R.take a = (M.take c).filter (kEq s r) ∧ ∀ t, c ≤ t → R.getD t D0 = M.getD t D0
theorem filter_all {s : Int} {r : List UInt8} {M : List Dl} {j : Nat} (h : ∀ t, t < j → kEq s r (M.getD t D0) = true) (hj : j ≤ M.length) : (M.take j).filter (kEq s r) = M.take j := by
  apply List.filter_eq_self.2
  intro d hd
  obtain ⟨t, ht, e⟩ := List.getElem_of_mem hd
  rw [List.length_take] at ht
  have := h t (by omega)
  rw [List.getD_eq_getElem?_getD, List.getElem?_eq_getElem (by omega)] at this
  rw [← e, List.getElem_take]
  exact this
theorem dlOk_0 {s : Int} {r : List UInt8} {M : List Dl} {j : Nat} (h : ∀ t, t < j → kEq s r (M.getD t D0) = true) (hj : j < M.length) (hn : kEq s r (M.getD j D0) = false) : dlOk s r M M j (j + 1) := by
  refine ⟨by omega, by omega, rfl, ?_, fun t _ => rfl⟩
  rw [← take_snoc (d := D0) hj, List.filter_append, filter_all h (by omega), List.filter_cons, if_neg (by rw [hn]; simp)]
  simp
theorem dlOk_no {s : Int} {r : List UInt8} {M R : List Dl} {a c : Nat} (h : dlOk s r M R a c) (hc : c < M.length) (hn : kEq s r (M.getD c D0) = false) : dlOk s r M R a (c + 1) := by
  obtain ⟨h1, h2, h3, h4, h5⟩ := h
  refine ⟨by omega, by omega, h3, ?_, fun t ht => h5 t (by omega)⟩
  rw [← take_snoc (d := D0) hc, List.filter_append, ← h4, List.filter_cons, if_neg (by rw [hn]; simp)]
  simp
theorem dlOk_yes {s : Int} {r : List UInt8} {M R : List Dl} {a c : Nat} (h : dlOk s r M R a c) (hc : c < M.length) (hn : kEq s r (M.getD c D0) = true) : dlOk s r M (R.set a (M.getD c D0)) (a + 1) (c + 1) := by
  obtain ⟨h1, h2, h3, h4, h5⟩ := h
  refine ⟨by omega, by omega, by rw [List.length_set]; exact h3, ?_, fun t ht => by rw [set_far _ (by omega)]; exact h5 t (by omega)⟩
  rw [set_take _ (by omega), ← take_snoc (d := D0) hc, List.filter_append, ← h4, List.filter_cons, if_pos hn]
  rfl
theorem dl_out (R : List Dl) {a n m : Nat} {z : Nat → Nat → SV} (hn : n = R.length) (ha : a ≤ n) (hm : m = n - a) (hz : ∀ i j, j < 6 → Ceq (z i j) (getAt (eD std fun _ => D0) j)) : eqrS a 6 (shiftS (rcopyS (rowF eD D0 std fun _ => R) a m z) 0) (rowF eD D0 std fun _ => R.take a) := by
  subst hn hm
  have hZ : Reps eD D0 6 (R.length - a) z (List.replicate (R.length - a) D0) := ⟨by simp, fun i j hi hj => by
    have e : (List.replicate (R.length - a) D0).getD i D0 = D0 := by rw [List.getD_eq_getElem?_getD, List.getElem?_replicate]; split <;> rfl
    show Ceq (z i j) (getAt (eD std fun _ => (List.replicate (R.length - a) D0).getD i D0) j)
    rw [e]; exact hz i j hj⟩
  have h := ((Reps.lit (enc := eD) (d := D0) (k := 6) R).rcopy hZ a (by omega)).shift (m := a) 0 (by omega)
  refine eqr_of h rfl ?_
  rw [List.drop_zero, List.append_assoc, List.take_append, List.take_of_length_le (by rw [List.length_take]; omega), List.length_take]
  have : a - min a R.length = 0 := by omega
  rw [this, List.take_zero, List.append_nil]
theorem good_trDeals (Ls : List (List UInt8)) (s : Int) (r : List UInt8) (hL : Ls.length ≤ 1000000) (hb : ∀ i, (Ls.getD i []).length ≤ 10000) : GoodP Tryz.prog gl0 75 [rowS eBs [] 1 std fun _ => Ls, .agg [.int .u32 s, .str r]] (rowS eD D0 6 std fun _ => trL s r Ls) := by
  refine fn_sound' (T := seatT) (G := gU1) (X := noX) seatT_ok gU1_ok noX_ok iU_ok mixed Tryz.func75 (.none) (fun A => [rowS eBs [] 1 A fun _ => Ls, .agg [.int .u32 s, .str r]]) (fun A => rowS eD D0 6 A fun _ => trL s r Ls) fun A hA => ?_
  cbv
  repeat' (first | with_reducible exact True.intro | with_reducible exact dr_ok hA (by kernel_rfl) | with_reducible refine And.intro ?_ ?_ | (intro hc; cbv))
  refine ⟨⟨{p : Nat × List Dl // p.1 ≤ Ls.length ∧ p.2 = trD (Ls.take p.1)}, fun b p => [(5, .own b), (12, .int .i64 (p.1.1 : Nat))], fun b p => [(b, .row 29 6 (A.tn fun _ => p.1.2.length) (rowF eD D0 A fun _ => p.1.2))], fun p => Ls.length - p.1.1, true⟩, ⟨⟨(0, []), by omega, rfl⟩, ?_⟩, ?_⟩
  · cbv
    subst hA
    simp [-List.getD_eq_getElem?_getD, std_add, std_sub, std_mul, std_quo, std_rem, std_band, std_bor, std_bxor, std_shl, std_shr, std_eq, std_ne, std_lt, std_le, std_conv, std_not, std_beq, std_bne, std_ite, std_want, std_and2, std_sadd, std_seq, std_sne, std_slt, std_sle, std_sgt, std_sge, std_slen, std_sget, std_scut, std_ofNat, std_toNat, std_nsub, std_nadd, std_lenOf, std_nz, std_nneg, std_inb, std_upto, std_slt63, std_grow, std_imp, std_impN, std_tr, std_tb, std_ti, std_ts, std_tn, std_tp, std_nmin, std_makes, std_room, std_zeros, std_nilq, std_notq, std_eqi, std_eqn, std_eqb, std_eqs, std_eqv, std_cat, std_lst, std_rset, std_rcopy, std_shift, std_eqr, std_strOf, std_bytesOf, std_isB, std_zOf, zOf_int, std_isI, isI_int, std_getL, std_nmul, std_sOf, sOf_str, std_isS, isS_str, std_fadd, std_fsub, std_fav, std_fsv, std_feq, std_fne, std_flt, std_fle, std_fgt, std_fge, std_fOf, std_fTo, std_fTv, strOf_lit, lstOf_lit inj_eB, lstOf_lit inj_eZ, lstOf_lit inj_eBs, lstOf_lit inj_eS, isRow_lit, isB_lit, isRow_nil, lstOf_nil inj_eB, lstOf_nil inj_eZ, lstOf_nil inj_eBs, lstOf_nil inj_eS]
  · rintro ⟨⟨i, M⟩, hx⟩
    have hi := hx.1
    have hM := hx.2
    simp only at hi hM
    have hMl : M.length ≤ i := by rw [hM]; exact Nat.le_trans (trD_len _) (by rw [List.length_take]; omega)
    rcases Nat.lt_or_ge i Ls.length with hlt | hge
    · have hyes := trD_yes (Ls := Ls) hlt
      have hno := trD_no (Ls := Ls) hlt
      rw [← hM] at hyes hno
      have hbi := hb i
      cbv
      repeat' (first | with_reducible exact True.intro | with_reducible exact dr_ok hA (by kernel_rfl) | with_reducible refine And.intro ?_ ?_ | (intro hc; cbv))
      all_goals first
        | (fail_if_success (refine Exists.intro ?_ ?_)
           subst hA
           try dsimp only
           simp [-List.getD_eq_getElem?_getD, std_add, std_sub, std_mul, std_quo, std_rem, std_band, std_bor, std_bxor, std_shl, std_shr, std_eq, std_ne, std_lt, std_le, std_conv, std_not, std_beq, std_bne, std_ite, std_want, std_and2, std_sadd, std_seq, std_sne, std_slt, std_sle, std_sgt, std_sge, std_slen, std_sget, std_scut, std_ofNat, std_toNat, std_nsub, std_nadd, std_lenOf, std_nz, std_nneg, std_inb, std_upto, std_slt63, std_grow, std_imp, std_impN, std_tr, std_tb, std_ti, std_ts, std_tn, std_tp, std_nmin, std_makes, std_room, std_zeros, std_nilq, std_notq, std_eqi, std_eqn, std_eqb, std_eqs, std_eqv, std_cat, std_lst, std_rset, std_rcopy, std_shift, std_eqr, std_strOf, std_bytesOf, std_isB, std_zOf, zOf_int, std_isI, isI_int, std_getL, std_nmul, std_sOf, sOf_str, std_isS, isS_str, std_fadd, std_fsub, std_fav, std_fsv, std_feq, std_fne, std_flt, std_fle, std_fgt, std_fge, std_fOf, std_fTo, std_fTv, strOf_lit, lstOf_lit inj_eB, lstOf_lit inj_eZ, lstOf_lit inj_eBs, lstOf_lit inj_eS, isRow_lit, isB_lit, isRow_nil, lstOf_nil inj_eB, lstOf_nil inj_eZ, lstOf_nil inj_eBs, lstOf_nil inj_eS]
           first
             | done
             | omega
             | ((with_reducible refine And.intro ?_ ?_) <;> omega)
             | (exfalso; simp [-List.getD_eq_getElem?_getD, std_add, std_sub, std_mul, std_quo, std_rem, std_band, std_bor, std_bxor, std_shl, std_shr, std_eq, std_ne, std_lt, std_le, std_conv, std_not, std_beq, std_bne, std_ite, std_want, std_and2, std_sadd, std_seq, std_sne, std_slt, std_sle, std_sgt, std_sge, std_slen, std_sget, std_scut, std_ofNat, std_toNat, std_nsub, std_nadd, std_lenOf, std_nz, std_nneg, std_inb, std_upto, std_slt63, std_grow, std_imp, std_impN, std_tr, std_tb, std_ti, std_ts, std_tn, std_tp, std_nmin, std_makes, std_room, std_zeros, std_nilq, std_notq, std_eqi, std_eqn, std_eqb, std_eqs, std_eqv, std_cat, std_lst, std_rset, std_rcopy, std_shift, std_eqr, std_strOf, std_bytesOf, std_isB, std_zOf, zOf_int, std_isI, isI_int, std_getL, std_nmul, std_sOf, sOf_str, std_isS, isS_str, std_fadd, std_fsub, std_fav, std_fsv, std_feq, std_fne, std_flt, std_fle, std_fgt, std_fge, std_fOf, std_fTo, std_fTv, strOf_lit, lstOf_lit inj_eB, lstOf_lit inj_eZ, lstOf_lit inj_eBs, lstOf_lit inj_eS, isRow_lit, isB_lit, isRow_nil, lstOf_nil inj_eB, lstOf_nil inj_eZ, lstOf_nil inj_eBs, lstOf_nil inj_eS] at hc; omega)
             | trace_state)
        | (obtain ⟨i', hi'⟩ : ∃ i', i' = i + 1 := ⟨_, rfl⟩
           obtain ⟨M', hM'⟩ : ∃ M', M' = trD (Ls.take i') := ⟨_, rfl⟩
           have c1 : i' ≤ Ls.length := by omega
           refine ⟨⟨(i', M'), c1, hM'⟩, ?_, show Ls.length - i' < Ls.length - i by omega⟩
           rw [hi'] at hM'
           cbv
           subst hA
           simp [-List.getD_eq_getElem?_getD, std_add, std_sub, std_mul, std_quo, std_rem, std_band, std_bor, std_bxor, std_shl, std_shr, std_eq, std_ne, std_lt, std_le, std_conv, std_not, std_beq, std_bne, std_ite, std_want, std_and2, std_sadd, std_seq, std_sne, std_slt, std_sle, std_sgt, std_sge, std_slen, std_sget, std_scut, std_ofNat, std_toNat, std_nsub, std_nadd, std_lenOf, std_nz, std_nneg, std_inb, std_upto, std_slt63, std_grow, std_imp, std_impN, std_tr, std_tb, std_ti, std_ts, std_tn, std_tp, std_nmin, std_makes, std_room, std_zeros, std_nilq, std_notq, std_eqi, std_eqn, std_eqb, std_eqs, std_eqv, std_cat, std_lst, std_rset, std_rcopy, std_shift, std_eqr, std_strOf, std_bytesOf, std_isB, std_zOf, zOf_int, std_isI, isI_int, std_getL, std_nmul, std_sOf, sOf_str, std_isS, isS_str, std_fadd, std_fsub, std_fav, std_fsv, std_feq, std_fne, std_flt, std_fle, std_fgt, std_fge, std_fOf, std_fTo, std_fTv, strOf_lit, lstOf_lit inj_eB, lstOf_lit inj_eZ, lstOf_lit inj_eBs, lstOf_lit inj_eS, isRow_lit, isB_lit, isRow_nil, lstOf_nil inj_eB, lstOf_nil inj_eZ, lstOf_nil inj_eBs, lstOf_nil inj_eS] at hc ⊢
           first
             | (rw [hyes hc] at hM'
                refine ⟨?_, ?_, ?_⟩
                all_goals first | exact w_succ hi' (by omega) | (rw [hM']; simp; done) | exact snoc_row rfl (cell_eD _) hM'.symm (by rw [hM']; simp))
             | (rw [hno hc] at hM'
                refine ⟨?_, ?_, ?_⟩
                all_goals first | exact w_succ hi' (by omega) | (rw [hM']; done) | (rw [hM']; exact (Reps.lit _).eqr))
             | trace_state)
        | (exfalso; subst hA; simp [-List.getD_eq_getElem?_getD, std_add, std_sub, std_mul, std_quo, std_rem, std_band, std_bor, std_bxor, std_shl, std_shr, std_eq, std_ne, std_lt, std_le, std_conv, std_not, std_beq, std_bne, std_ite, std_want, std_and2, std_sadd, std_seq, std_sne, std_slt, std_sle, std_sgt, std_sge, std_slen, std_sget, std_scut, std_ofNat, std_toNat, std_nsub, std_nadd, std_lenOf, std_nz, std_nneg, std_inb, std_upto, std_slt63, std_grow, std_imp, std_impN, std_tr, std_tb, std_ti, std_ts, std_tn, std_tp, std_nmin, std_makes, std_room, std_zeros, std_nilq, std_notq, std_eqi, std_eqn, std_eqb, std_eqs, std_eqv, std_cat, std_lst, std_rset, std_rcopy, std_shift, std_eqr, std_strOf, std_bytesOf, std_isB, std_zOf, zOf_int, std_isI, isI_int, std_getL, std_nmul, std_sOf, sOf_str, std_isS, isS_str, std_fadd, std_fsub, std_fav, std_fsv, std_feq, std_fne, std_flt, std_fle, std_fgt, std_fge, std_fOf, std_fTo, std_fTv, strOf_lit, lstOf_lit inj_eB, lstOf_lit inj_eZ, lstOf_lit inj_eBs, lstOf_lit inj_eS, isRow_lit, isB_lit, isRow_nil, lstOf_nil inj_eB, lstOf_nil inj_eZ, lstOf_nil inj_eBs, lstOf_nil inj_eS] at hc; omega)
        | trace_state
    · have hie : i = Ls.length := by omega
      have hne : M = trD Ls := by rw [hM, hie, List.take_length]
      cbv
      repeat' (first | with_reducible exact True.intro | with_reducible exact dr_ok hA (by kernel_rfl) | with_reducible refine And.intro ?_ ?_ | (intro hc; cbv))
      all_goals first
        | (exfalso; subst hA; simp [-List.getD_eq_getElem?_getD, std_add, std_sub, std_mul, std_quo, std_rem, std_band, std_bor, std_bxor, std_shl, std_shr, std_eq, std_ne, std_lt, std_le, std_conv, std_not, std_beq, std_bne, std_ite, std_want, std_and2, std_sadd, std_seq, std_sne, std_slt, std_sle, std_sgt, std_sge, std_slen, std_sget, std_scut, std_ofNat, std_toNat, std_nsub, std_nadd, std_lenOf, std_nz, std_nneg, std_inb, std_upto, std_slt63, std_grow, std_imp, std_impN, std_tr, std_tb, std_ti, std_ts, std_tn, std_tp, std_nmin, std_makes, std_room, std_zeros, std_nilq, std_notq, std_eqi, std_eqn, std_eqb, std_eqs, std_eqv, std_cat, std_lst, std_rset, std_rcopy, std_shift, std_eqr, std_strOf, std_bytesOf, std_isB, std_zOf, zOf_int, std_isI, isI_int, std_getL, std_nmul, std_sOf, sOf_str, std_isS, isS_str, std_fadd, std_fsub, std_fav, std_fsv, std_feq, std_fne, std_flt, std_fle, std_fgt, std_fge, std_fOf, std_fTo, std_fTv, strOf_lit, lstOf_lit inj_eB, lstOf_lit inj_eZ, lstOf_lit inj_eBs, lstOf_lit inj_eS, isRow_lit, isB_lit, isRow_nil, lstOf_nil inj_eB, lstOf_nil inj_eZ, lstOf_nil inj_eBs, lstOf_nil inj_eS] at hc; omega)
        | (exfalso; subst hA; rename_i q; simp [-List.getD_eq_getElem?_getD, std_add, std_sub, std_mul, std_quo, std_rem, std_band, std_bor, std_bxor, std_shl, std_shr, std_eq, std_ne, std_lt, std_le, std_conv, std_not, std_beq, std_bne, std_ite, std_want, std_and2, std_sadd, std_seq, std_sne, std_slt, std_sle, std_sgt, std_sge, std_slen, std_sget, std_scut, std_ofNat, std_toNat, std_nsub, std_nadd, std_lenOf, std_nz, std_nneg, std_inb, std_upto, std_slt63, std_grow, std_imp, std_impN, std_tr, std_tb, std_ti, std_ts, std_tn, std_tp, std_nmin, std_makes, std_room, std_zeros, std_nilq, std_notq, std_eqi, std_eqn, std_eqb, std_eqs, std_eqv, std_cat, std_lst, std_rset, std_rcopy, std_shift, std_eqr, std_strOf, std_bytesOf, std_isB, std_zOf, zOf_int, std_isI, isI_int, std_getL, std_nmul, std_sOf, sOf_str, std_isS, isS_str, std_fadd, std_fsub, std_fav, std_fsv, std_feq, std_fne, std_flt, std_fle, std_fgt, std_fge, std_fOf, std_fTo, std_fTv, strOf_lit, lstOf_lit inj_eB, lstOf_lit inj_eZ, lstOf_lit inj_eBs, lstOf_lit inj_eS, isRow_lit, isB_lit, isRow_nil, lstOf_nil inj_eB, lstOf_nil inj_eZ, lstOf_nil inj_eBs, lstOf_nil inj_eS] at q; omega)
        | skip
      try clear hc
      have hMn : M.length ≤ 1000000 := by omega
      refine ⟨⟨{j : Nat // j ≤ M.length ∧ ∀ t, t < j → kEq s r (M.getD t D0) = true}, fun b j => [(8, .int .i64 (j.1 : Nat))], fun b j => [], fun j => M.length - j.1, true⟩, ⟨⟨0, by omega, by simp⟩, ?_⟩, ?_⟩
      · cbv
        subst hA
        simp [-List.getD_eq_getElem?_getD, std_add, std_sub, std_mul, std_quo, std_rem, std_band, std_bor, std_bxor, std_shl, std_shr, std_eq, std_ne, std_lt, std_le, std_conv, std_not, std_beq, std_bne, std_ite, std_want, std_and2, std_sadd, std_seq, std_sne, std_slt, std_sle, std_sgt, std_sge, std_slen, std_sget, std_scut, std_ofNat, std_toNat, std_nsub, std_nadd, std_lenOf, std_nz, std_nneg, std_inb, std_upto, std_slt63, std_grow, std_imp, std_impN, std_tr, std_tb, std_ti, std_ts, std_tn, std_tp, std_nmin, std_makes, std_room, std_zeros, std_nilq, std_notq, std_eqi, std_eqn, std_eqb, std_eqs, std_eqv, std_cat, std_lst, std_rset, std_rcopy, std_shift, std_eqr, std_strOf, std_bytesOf, std_isB, std_zOf, zOf_int, std_isI, isI_int, std_getL, std_nmul, std_sOf, sOf_str, std_isS, isS_str, std_fadd, std_fsub, std_fav, std_fsv, std_feq, std_fne, std_flt, std_fle, std_fgt, std_fge, std_fOf, std_fTo, std_fTv, strOf_lit, lstOf_lit inj_eB, lstOf_lit inj_eZ, lstOf_lit inj_eBs, lstOf_lit inj_eS, isRow_lit, isB_lit, isRow_nil, lstOf_nil inj_eB, lstOf_nil inj_eZ, lstOf_nil inj_eBs, lstOf_nil inj_eS]
      · rintro ⟨j, hy⟩
        have hj := hy.1
        have h0 := hy.2
        rcases Nat.lt_or_ge j M.length with hjl | hjg
        · obtain ⟨d, hd⟩ : ∃ d, d = M.getD j D0 := ⟨_, rfl⟩
          have hg : M.getD j { k := 0, pan := [], am := 0, s := 0, r := [], code := [] } = d := hd.symm
          have hkt : kEq s r d = true → ∀ t, t < j + 1 → kEq s r (M.getD t D0) = true := fun hk t ht => by
            rcases Nat.lt_or_ge t j with h | h
            · exact h0 t h
            · obtain rfl : t = j := by omega
              rw [← hd]; exact hk
          have hk0 : kEq s r d = false → dlOk s r M M j (j + 1) := fun hk => dlOk_0 h0 hjl (by rw [← hd]; exact hk)
          cbv
          repeat' (first | with_reducible exact True.intro | with_reducible exact dr_ok hA (by kernel_rfl) | with_reducible refine And.intro ?_ ?_ | (intro hc; cbv))
          all_goals first
            | (fail_if_success (refine Exists.intro ?_ ?_)
               subst hA
               try dsimp only
               simp [-List.getD_eq_getElem?_getD, std_add, std_sub, std_mul, std_quo, std_rem, std_band, std_bor, std_bxor, std_shl, std_shr, std_eq, std_ne, std_lt, std_le, std_conv, std_not, std_beq, std_bne, std_ite, std_want, std_and2, std_sadd, std_seq, std_sne, std_slt, std_sle, std_sgt, std_sge, std_slen, std_sget, std_scut, std_ofNat, std_toNat, std_nsub, std_nadd, std_lenOf, std_nz, std_nneg, std_inb, std_upto, std_slt63, std_grow, std_imp, std_impN, std_tr, std_tb, std_ti, std_ts, std_tn, std_tp, std_nmin, std_makes, std_room, std_zeros, std_nilq, std_notq, std_eqi, std_eqn, std_eqb, std_eqs, std_eqv, std_cat, std_lst, std_rset, std_rcopy, std_shift, std_eqr, std_strOf, std_bytesOf, std_isB, std_zOf, zOf_int, std_isI, isI_int, std_getL, std_nmul, std_sOf, sOf_str, std_isS, isS_str, std_fadd, std_fsub, std_fav, std_fsv, std_feq, std_fne, std_flt, std_fle, std_fgt, std_fge, std_fOf, std_fTo, std_fTv, strOf_lit, lstOf_lit inj_eB, lstOf_lit inj_eZ, lstOf_lit inj_eBs, lstOf_lit inj_eS, isRow_lit, isB_lit, isRow_nil, lstOf_nil inj_eB, lstOf_nil inj_eZ, lstOf_nil inj_eBs, lstOf_nil inj_eS, hg]
               first
                 | done
                 | omega
                 | (exfalso; simp [-List.getD_eq_getElem?_getD, std_add, std_sub, std_mul, std_quo, std_rem, std_band, std_bor, std_bxor, std_shl, std_shr, std_eq, std_ne, std_lt, std_le, std_conv, std_not, std_beq, std_bne, std_ite, std_want, std_and2, std_sadd, std_seq, std_sne, std_slt, std_sle, std_sgt, std_sge, std_slen, std_sget, std_scut, std_ofNat, std_toNat, std_nsub, std_nadd, std_lenOf, std_nz, std_nneg, std_inb, std_upto, std_slt63, std_grow, std_imp, std_impN, std_tr, std_tb, std_ti, std_ts, std_tn, std_tp, std_nmin, std_makes, std_room, std_zeros, std_nilq, std_notq, std_eqi, std_eqn, std_eqb, std_eqs, std_eqv, std_cat, std_lst, std_rset, std_rcopy, std_shift, std_eqr, std_strOf, std_bytesOf, std_isB, std_zOf, zOf_int, std_isI, isI_int, std_getL, std_nmul, std_sOf, sOf_str, std_isS, isS_str, std_fadd, std_fsub, std_fav, std_fsv, std_feq, std_fne, std_flt, std_fle, std_fgt, std_fge, std_fOf, std_fTo, std_fTv, strOf_lit, lstOf_lit inj_eB, lstOf_lit inj_eZ, lstOf_lit inj_eBs, lstOf_lit inj_eS, isRow_lit, isB_lit, isRow_nil, lstOf_nil inj_eB, lstOf_nil inj_eZ, lstOf_nil inj_eBs, lstOf_nil inj_eS] at hc; done)
                 | (exfalso; simp [-List.getD_eq_getElem?_getD, std_add, std_sub, std_mul, std_quo, std_rem, std_band, std_bor, std_bxor, std_shl, std_shr, std_eq, std_ne, std_lt, std_le, std_conv, std_not, std_beq, std_bne, std_ite, std_want, std_and2, std_sadd, std_seq, std_sne, std_slt, std_sle, std_sgt, std_sge, std_slen, std_sget, std_scut, std_ofNat, std_toNat, std_nsub, std_nadd, std_lenOf, std_nz, std_nneg, std_inb, std_upto, std_slt63, std_grow, std_imp, std_impN, std_tr, std_tb, std_ti, std_ts, std_tn, std_tp, std_nmin, std_makes, std_room, std_zeros, std_nilq, std_notq, std_eqi, std_eqn, std_eqb, std_eqs, std_eqv, std_cat, std_lst, std_rset, std_rcopy, std_shift, std_eqr, std_strOf, std_bytesOf, std_isB, std_zOf, zOf_int, std_isI, isI_int, std_getL, std_nmul, std_sOf, sOf_str, std_isS, isS_str, std_fadd, std_fsub, std_fav, std_fsv, std_feq, std_fne, std_flt, std_fle, std_fgt, std_fge, std_fOf, std_fTo, std_fTv, strOf_lit, lstOf_lit inj_eB, lstOf_lit inj_eZ, lstOf_lit inj_eBs, lstOf_lit inj_eS, isRow_lit, isB_lit, isRow_nil, lstOf_nil inj_eB, lstOf_nil inj_eZ, lstOf_nil inj_eBs, lstOf_nil inj_eS] at hc; omega)
                 | (exfalso; rename_i q; simp [-List.getD_eq_getElem?_getD, std_add, std_sub, std_mul, std_quo, std_rem, std_band, std_bor, std_bxor, std_shl, std_shr, std_eq, std_ne, std_lt, std_le, std_conv, std_not, std_beq, std_bne, std_ite, std_want, std_and2, std_sadd, std_seq, std_sne, std_slt, std_sle, std_sgt, std_sge, std_slen, std_sget, std_scut, std_ofNat, std_toNat, std_nsub, std_nadd, std_lenOf, std_nz, std_nneg, std_inb, std_upto, std_slt63, std_grow, std_imp, std_impN, std_tr, std_tb, std_ti, std_ts, std_tn, std_tp, std_nmin, std_makes, std_room, std_zeros, std_nilq, std_notq, std_eqi, std_eqn, std_eqb, std_eqs, std_eqv, std_cat, std_lst, std_rset, std_rcopy, std_shift, std_eqr, std_strOf, std_bytesOf, std_isB, std_zOf, zOf_int, std_isI, isI_int, std_getL, std_nmul, std_sOf, sOf_str, std_isS, isS_str, std_fadd, std_fsub, std_fav, std_fsv, std_feq, std_fne, std_flt, std_fle, std_fgt, std_fge, std_fOf, std_fTo, std_fTv, strOf_lit, lstOf_lit inj_eB, lstOf_lit inj_eZ, lstOf_lit inj_eBs, lstOf_lit inj_eS, isRow_lit, isB_lit, isRow_nil, lstOf_nil inj_eB, lstOf_nil inj_eZ, lstOf_nil inj_eBs, lstOf_nil inj_eS] at q; omega)
                 | trace_state)
            | (obtain ⟨j', hj'⟩ : ∃ j', j' = j + 1 := ⟨_, rfl⟩
               have c1 : j' ≤ M.length := by omega
               have hk : kEq s r d = true := by
                 subst hA
                 simp [-List.getD_eq_getElem?_getD, std_add, std_sub, std_mul, std_quo, std_rem, std_band, std_bor, std_bxor, std_shl, std_shr, std_eq, std_ne, std_lt, std_le, std_conv, std_not, std_beq, std_bne, std_ite, std_want, std_and2, std_sadd, std_seq, std_sne, std_slt, std_sle, std_sgt, std_sge, std_slen, std_sget, std_scut, std_ofNat, std_toNat, std_nsub, std_nadd, std_lenOf, std_nz, std_nneg, std_inb, std_upto, std_slt63, std_grow, std_imp, std_impN, std_tr, std_tb, std_ti, std_ts, std_tn, std_tp, std_nmin, std_makes, std_room, std_zeros, std_nilq, std_notq, std_eqi, std_eqn, std_eqb, std_eqs, std_eqv, std_cat, std_lst, std_rset, std_rcopy, std_shift, std_eqr, std_strOf, std_bytesOf, std_isB, std_zOf, zOf_int, std_isI, isI_int, std_getL, std_nmul, std_sOf, sOf_str, std_isS, isS_str, std_fadd, std_fsub, std_fav, std_fsv, std_feq, std_fne, std_flt, std_fle, std_fgt, std_fge, std_fOf, std_fTo, std_fTv, strOf_lit, lstOf_lit inj_eB, lstOf_lit inj_eZ, lstOf_lit inj_eBs, lstOf_lit inj_eS, isRow_lit, isB_lit, isRow_nil, lstOf_nil inj_eB, lstOf_nil inj_eZ, lstOf_nil inj_eBs, lstOf_nil inj_eS, hg] at hc
                 simp [kEq, hc]
               refine ⟨⟨j', c1, by rw [hj']; exact hkt hk⟩, ?_, show M.length - j' < M.length - j by omega⟩
               cbv
               subst hA
               simp [-List.getD_eq_getElem?_getD, std_add, std_sub, std_mul, std_quo, std_rem, std_band, std_bor, std_bxor, std_shl, std_shr, std_eq, std_ne, std_lt, std_le, std_conv, std_not, std_beq, std_bne, std_ite, std_want, std_and2, std_sadd, std_seq, std_sne, std_slt, std_sle, std_sgt, std_sge, std_slen, std_sget, std_scut, std_ofNat, std_toNat, std_nsub, std_nadd, std_lenOf, std_nz, std_nneg, std_inb, std_upto, std_slt63, std_grow, std_imp, std_impN, std_tr, std_tb, std_ti, std_ts, std_tn, std_tp, std_nmin, std_makes, std_room, std_zeros, std_nilq, std_notq, std_eqi, std_eqn, std_eqb, std_eqs, std_eqv, std_cat, std_lst, std_rset, std_rcopy, std_shift, std_eqr, std_strOf, std_bytesOf, std_isB, std_zOf, zOf_int, std_isI, isI_int, std_getL, std_nmul, std_sOf, sOf_str, std_isS, isS_str, std_fadd, std_fsub, std_fav, std_fsv, std_feq, std_fne, std_flt, std_fle, std_fgt, std_fge, std_fOf, std_fTo, std_fTv, strOf_lit, lstOf_lit inj_eB, lstOf_lit inj_eZ, lstOf_lit inj_eBs, lstOf_lit inj_eS, isRow_lit, isB_lit, isRow_nil, lstOf_nil inj_eB, lstOf_nil inj_eZ, lstOf_nil inj_eBs, lstOf_nil inj_eS, hg]
               exact w_succ hj' (by omega))
            | skip
          all_goals first
            | (exfalso; subst hA; simp [-List.getD_eq_getElem?_getD, std_add, std_sub, std_mul, std_quo, std_rem, std_band, std_bor, std_bxor, std_shl, std_shr, std_eq, std_ne, std_lt, std_le, std_conv, std_not, std_beq, std_bne, std_ite, std_want, std_and2, std_sadd, std_seq, std_sne, std_slt, std_sle, std_sgt, std_sge, std_slen, std_sget, std_scut, std_ofNat, std_toNat, std_nsub, std_nadd, std_lenOf, std_nz, std_nneg, std_inb, std_upto, std_slt63, std_grow, std_imp, std_impN, std_tr, std_tb, std_ti, std_ts, std_tn, std_tp, std_nmin, std_makes, std_room, std_zeros, std_nilq, std_notq, std_eqi, std_eqn, std_eqb, std_eqs, std_eqv, std_cat, std_lst, std_rset, std_rcopy, std_shift, std_eqr, std_strOf, std_bytesOf, std_isB, std_zOf, zOf_int, std_isI, isI_int, std_getL, std_nmul, std_sOf, sOf_str, std_isS, isS_str, std_fadd, std_fsub, std_fav, std_fsv, std_feq, std_fne, std_flt, std_fle, std_fgt, std_fge, std_fOf, std_fTo, std_fTv, strOf_lit, lstOf_lit inj_eB, lstOf_lit inj_eZ, lstOf_lit inj_eBs, lstOf_lit inj_eS, isRow_lit, isB_lit, isRow_nil, lstOf_nil inj_eB, lstOf_nil inj_eZ, lstOf_nil inj_eBs, lstOf_nil inj_eS] at hc; done)
            | (exfalso; subst hA; rename_i q; simp [-List.getD_eq_getElem?_getD, std_add, std_sub, std_mul, std_quo, std_rem, std_band, std_bor, std_bxor, std_shl, std_shr, std_eq, std_ne, std_lt, std_le, std_conv, std_not, std_beq, std_bne, std_ite, std_want, std_and2, std_sadd, std_seq, std_sne, std_slt, std_sle, std_sgt, std_sge, std_slen, std_sget, std_scut, std_ofNat, std_toNat, std_nsub, std_nadd, std_lenOf, std_nz, std_nneg, std_inb, std_upto, std_slt63, std_grow, std_imp, std_impN, std_tr, std_tb, std_ti, std_ts, std_tn, std_tp, std_nmin, std_makes, std_room, std_zeros, std_nilq, std_notq, std_eqi, std_eqn, std_eqb, std_eqs, std_eqv, std_cat, std_lst, std_rset, std_rcopy, std_shift, std_eqr, std_strOf, std_bytesOf, std_isB, std_zOf, zOf_int, std_isI, isI_int, std_getL, std_nmul, std_sOf, sOf_str, std_isS, isS_str, std_fadd, std_fsub, std_fav, std_fsv, std_feq, std_fne, std_flt, std_fle, std_fgt, std_fge, std_fOf, std_fTo, std_fTv, strOf_lit, lstOf_lit inj_eB, lstOf_lit inj_eZ, lstOf_lit inj_eBs, lstOf_lit inj_eS, isRow_lit, isB_lit, isRow_nil, lstOf_nil inj_eB, lstOf_nil inj_eZ, lstOf_nil inj_eBs, lstOf_nil inj_eS] at q; omega)
            | skip
          rename_i q1 q2
          have hk : kEq s r d = false := by
            clear q1 hc
            subst hA
            simp [-List.getD_eq_getElem?_getD, std_add, std_sub, std_mul, std_quo, std_rem, std_band, std_bor, std_bxor, std_shl, std_shr, std_eq, std_ne, std_lt, std_le, std_conv, std_not, std_beq, std_bne, std_ite, std_want, std_and2, std_sadd, std_seq, std_sne, std_slt, std_sle, std_sgt, std_sge, std_slen, std_sget, std_scut, std_ofNat, std_toNat, std_nsub, std_nadd, std_lenOf, std_nz, std_nneg, std_inb, std_upto, std_slt63, std_grow, std_imp, std_impN, std_tr, std_tb, std_ti, std_ts, std_tn, std_tp, std_nmin, std_makes, std_room, std_zeros, std_nilq, std_notq, std_eqi, std_eqn, std_eqb, std_eqs, std_eqv, std_cat, std_lst, std_rset, std_rcopy, std_shift, std_eqr, std_strOf, std_bytesOf, std_isB, std_zOf, zOf_int, std_isI, isI_int, std_getL, std_nmul, std_sOf, sOf_str, std_isS, isS_str, std_fadd, std_fsub, std_fav, std_fsv, std_feq, std_fne, std_flt, std_fle, std_fgt, std_fge, std_fOf, std_fTo, std_fTv, strOf_lit, lstOf_lit inj_eB, lstOf_lit inj_eZ, lstOf_lit inj_eBs, lstOf_lit inj_eS, isRow_lit, isB_lit, isRow_nil, lstOf_nil inj_eB, lstOf_nil inj_eZ, lstOf_nil inj_eBs, lstOf_nil inj_eS, hg] at q2
            unfold kEq
            rcases q2 with h | h <;> simp [h]
          clear q1 q2 hc
          obtain ⟨j', hj'⟩ : ∃ j', j' = j + 1 := ⟨_, rfl⟩
          have hD := hk0 hk
          rw [← hj'] at hD
          refine ⟨⟨{p : (Nat × Nat) × List Dl // dlOk s r M p.2 p.1.1 p.1.2}, fun b p => [(0, .own 6), (5, .int .i64 (p.1.1.1 : Nat)), (6, .int .i64 (p.1.1.2 : Nat))], fun b p => [(6, .row 29 6 (A.tn fun _ => p.1.2.length) (rowF eD D0 A fun _ => p.1.2))], fun p => M.length - p.1.1.2, true⟩, ⟨⟨((j, j'), M), hD⟩, ?_⟩, ?_⟩
          · cbv
            subst hA
            simp [-List.getD_eq_getElem?_getD, std_add, std_sub, std_mul, std_quo, std_rem, std_band, std_bor, std_bxor, std_shl, std_shr, std_eq, std_ne, std_lt, std_le, std_conv, std_not, std_beq, std_bne, std_ite, std_want, std_and2, std_sadd, std_seq, std_sne, std_slt, std_sle, std_sgt, std_sge, std_slen, std_sget, std_scut, std_ofNat, std_toNat, std_nsub, std_nadd, std_lenOf, std_nz, std_nneg, std_inb, std_upto, std_slt63, std_grow, std_imp, std_impN, std_tr, std_tb, std_ti, std_ts, std_tn, std_tp, std_nmin, std_makes, std_room, std_zeros, std_nilq, std_notq, std_eqi, std_eqn, std_eqb, std_eqs, std_eqv, std_cat, std_lst, std_rset, std_rcopy, std_shift, std_eqr, std_strOf, std_bytesOf, std_isB, std_zOf, zOf_int, std_isI, isI_int, std_getL, std_nmul, std_sOf, sOf_str, std_isS, isS_str, std_fadd, std_fsub, std_fav, std_fsv, std_feq, std_fne, std_flt, std_fle, std_fgt, std_fge, std_fOf, std_fTo, std_fTv, strOf_lit, lstOf_lit inj_eB, lstOf_lit inj_eZ, lstOf_lit inj_eBs, lstOf_lit inj_eS, isRow_lit, isB_lit, isRow_nil, lstOf_nil inj_eB, lstOf_nil inj_eZ, lstOf_nil inj_eBs, lstOf_nil inj_eS]
            first
              | exact w_succ hj' (by omega)
              | trace_state
          · rintro ⟨⟨⟨a, c⟩, R⟩, hz⟩
            have z1 : a < c := hz.1
            have z2 : c ≤ M.length := hz.2.1
            have z3 : R.length = M.length := hz.2.2.1
            have z4 : R.take a = (M.take c).filter (kEq s r) := hz.2.2.2.1
            have z5 : ∀ t, c ≤ t → R.getD t D0 = M.getD t D0 := hz.2.2.2.2
            have hz' : dlOk s r M R a c := hz
            rcases Nat.lt_or_ge c M.length with hcl | hcg
            · obtain ⟨e, he⟩ : ∃ e, e = M.getD c D0 := ⟨_, rfl⟩
              have hgR : R.getD c { k := 0, pan := [], am := 0, s := 0, r := [], code := [] } = e := (z5 c (Nat.le_refl _)).trans he.symm
              have hy1 := dlOk_yes hz' hcl
              have hn1 := dlOk_no hz' hcl
              rw [← he] at hy1 hn1
              obtain ⟨c', hc'⟩ : ∃ c', c' = c + 1 := ⟨_, rfl⟩
              obtain ⟨a', ha'⟩ : ∃ a', a' = a + 1 := ⟨_, rfl⟩
              rw [← hc'] at hy1 hn1
              rw [← ha'] at hy1
              cbv
              repeat' (first | with_reducible exact True.intro | with_reducible exact dr_ok hA (by kernel_rfl) | with_reducible refine And.intro ?_ ?_ | (intro hc; cbv))
              all_goals first
                | (fail_if_success (refine Exists.intro ?_ ?_)
                   subst hA
                   try dsimp only
                   simp [-List.getD_eq_getElem?_getD, std_add, std_sub, std_mul, std_quo, std_rem, std_band, std_bor, std_bxor, std_shl, std_shr, std_eq, std_ne, std_lt, std_le, std_conv, std_not, std_beq, std_bne, std_ite, std_want, std_and2, std_sadd, std_seq, std_sne, std_slt, std_sle, std_sgt, std_sge, std_slen, std_sget, std_scut, std_ofNat, std_toNat, std_nsub, std_nadd, std_lenOf, std_nz, std_nneg, std_inb, std_upto, std_slt63, std_grow, std_imp, std_impN, std_tr, std_tb, std_ti, std_ts, std_tn, std_tp, std_nmin, std_makes, std_room, std_zeros, std_nilq, std_notq, std_eqi, std_eqn, std_eqb, std_eqs, std_eqv, std_cat, std_lst, std_rset, std_rcopy, std_shift, std_eqr, std_strOf, std_bytesOf, std_isB, std_zOf, zOf_int, std_isI, isI_int, std_getL, std_nmul, std_sOf, sOf_str, std_isS, isS_str, std_fadd, std_fsub, std_fav, std_fsv, std_feq, std_fne, std_flt, std_fle, std_fgt, std_fge, std_fOf, std_fTo, std_fTv, strOf_lit, lstOf_lit inj_eB, lstOf_lit inj_eZ, lstOf_lit inj_eBs, lstOf_lit inj_eS, isRow_lit, isB_lit, isRow_nil, lstOf_nil inj_eB, lstOf_nil inj_eZ, lstOf_nil inj_eBs, lstOf_nil inj_eS, hgR]
                   first
                     | done
                     | omega
                     | ((with_reducible refine And.intro ?_ ?_) <;> omega)
                     | (exfalso; simp [-List.getD_eq_getElem?_getD, std_add, std_sub, std_mul, std_quo, std_rem, std_band, std_bor, std_bxor, std_shl, std_shr, std_eq, std_ne, std_lt, std_le, std_conv, std_not, std_beq, std_bne, std_ite, std_want, std_and2, std_sadd, std_seq, std_sne, std_slt, std_sle, std_sgt, std_sge, std_slen, std_sget, std_scut, std_ofNat, std_toNat, std_nsub, std_nadd, std_lenOf, std_nz, std_nneg, std_inb, std_upto, std_slt63, std_grow, std_imp, std_impN, std_tr, std_tb, std_ti, std_ts, std_tn, std_tp, std_nmin, std_makes, std_room, std_zeros, std_nilq, std_notq, std_eqi, std_eqn, std_eqb, std_eqs, std_eqv, std_cat, std_lst, std_rset, std_rcopy, std_shift, std_eqr, std_strOf, std_bytesOf, std_isB, std_zOf, zOf_int, std_isI, isI_int, std_getL, std_nmul, std_sOf, sOf_str, std_isS, isS_str, std_fadd, std_fsub, std_fav, std_fsv, std_feq, std_fne, std_flt, std_fle, std_fgt, std_fge, std_fOf, std_fTo, std_fTv, strOf_lit, lstOf_lit inj_eB, lstOf_lit inj_eZ, lstOf_lit inj_eBs, lstOf_lit inj_eS, isRow_lit, isB_lit, isRow_nil, lstOf_nil inj_eB, lstOf_nil inj_eZ, lstOf_nil inj_eBs, lstOf_nil inj_eS] at hc; omega)
                     | (exfalso; rename_i q; simp [-List.getD_eq_getElem?_getD, std_add, std_sub, std_mul, std_quo, std_rem, std_band, std_bor, std_bxor, std_shl, std_shr, std_eq, std_ne, std_lt, std_le, std_conv, std_not, std_beq, std_bne, std_ite, std_want, std_and2, std_sadd, std_seq, std_sne, std_slt, std_sle, std_sgt, std_sge, std_slen, std_sget, std_scut, std_ofNat, std_toNat, std_nsub, std_nadd, std_lenOf, std_nz, std_nneg, std_inb, std_upto, std_slt63, std_grow, std_imp, std_impN, std_tr, std_tb, std_ti, std_ts, std_tn, std_tp, std_nmin, std_makes, std_room, std_zeros, std_nilq, std_notq, std_eqi, std_eqn, std_eqb, std_eqs, std_eqv, std_cat, std_lst, std_rset, std_rcopy, std_shift, std_eqr, std_strOf, std_bytesOf, std_isB, std_zOf, zOf_int, std_isI, isI_int, std_getL, std_nmul, std_sOf, sOf_str, std_isS, isS_str, std_fadd, std_fsub, std_fav, std_fsv, std_feq, std_fne, std_flt, std_fle, std_fgt, std_fge, std_fOf, std_fTo, std_fTv, strOf_lit, lstOf_lit inj_eB, lstOf_lit inj_eZ, lstOf_lit inj_eBs, lstOf_lit inj_eS, isRow_lit, isB_lit, isRow_nil, lstOf_nil inj_eB, lstOf_nil inj_eZ, lstOf_nil inj_eBs, lstOf_nil inj_eS] at q; omega)
                     | trace_state)
                | (have hke : kEq s r e = true := by
                     subst hA
                     simp [-List.getD_eq_getElem?_getD, std_add, std_sub, std_mul, std_quo, std_rem, std_band, std_bor, std_bxor, std_shl, std_shr, std_eq, std_ne, std_lt, std_le, std_conv, std_not, std_beq, std_bne, std_ite, std_want, std_and2, std_sadd, std_seq, std_sne, std_slt, std_sle, std_sgt, std_sge, std_slen, std_sget, std_scut, std_ofNat, std_toNat, std_nsub, std_nadd, std_lenOf, std_nz, std_nneg, std_inb, std_upto, std_slt63, std_grow, std_imp, std_impN, std_tr, std_tb, std_ti, std_ts, std_tn, std_tp, std_nmin, std_makes, std_room, std_zeros, std_nilq, std_notq, std_eqi, std_eqn, std_eqb, std_eqs, std_eqv, std_cat, std_lst, std_rset, std_rcopy, std_shift, std_eqr, std_strOf, std_bytesOf, std_isB, std_zOf, zOf_int, std_isI, isI_int, std_getL, std_nmul, std_sOf, sOf_str, std_isS, isS_str, std_fadd, std_fsub, std_fav, std_fsv, std_feq, std_fne, std_flt, std_fle, std_fgt, std_fge, std_fOf, std_fTo, std_fTv, strOf_lit, lstOf_lit inj_eB, lstOf_lit inj_eZ, lstOf_lit inj_eBs, lstOf_lit inj_eS, isRow_lit, isB_lit, isRow_nil, lstOf_nil inj_eB, lstOf_nil inj_eZ, lstOf_nil inj_eBs, lstOf_nil inj_eS, hgR] at hc
                     simp [kEq, hc]
                   obtain ⟨R', hR'⟩ : ∃ R', R' = R.set a e := ⟨_, rfl⟩
                   have h1 := hy1 hke
                   rw [← hR'] at h1
                   refine ⟨⟨((a', c'), R'), h1⟩, ?_, show M.length - c' < M.length - c by omega⟩
                   cbv
                   subst hA
                   simp [-List.getD_eq_getElem?_getD, std_add, std_sub, std_mul, std_quo, std_rem, std_band, std_bor, std_bxor, std_shl, std_shr, std_eq, std_ne, std_lt, std_le, std_conv, std_not, std_beq, std_bne, std_ite, std_want, std_and2, std_sadd, std_seq, std_sne, std_slt, std_sle, std_sgt, std_sge, std_slen, std_sget, std_scut, std_ofNat, std_toNat, std_nsub, std_nadd, std_lenOf, std_nz, std_nneg, std_inb, std_upto, std_slt63, std_grow, std_imp, std_impN, std_tr, std_tb, std_ti, std_ts, std_tn, std_tp, std_nmin, std_makes, std_room, std_zeros, std_nilq, std_notq, std_eqi, std_eqn, std_eqb, std_eqs, std_eqv, std_cat, std_lst, std_rset, std_rcopy, std_shift, std_eqr, std_strOf, std_bytesOf, std_isB, std_zOf, zOf_int, std_isI, isI_int, std_getL, std_nmul, std_sOf, sOf_str, std_isS, isS_str, std_fadd, std_fsub, std_fav, std_fsv, std_feq, std_fne, std_flt, std_fle, std_fgt, std_fge, std_fOf, std_fTo, std_fTv, strOf_lit, lstOf_lit inj_eB, lstOf_lit inj_eZ, lstOf_lit inj_eBs, lstOf_lit inj_eS, isRow_lit, isB_lit, isRow_nil, lstOf_nil inj_eB, lstOf_nil inj_eZ, lstOf_nil inj_eBs, lstOf_nil inj_eS, hgR]
                   exact ⟨⟨w_succ ha' (by omega), w_succ hc' (by omega)⟩, by rw [hR']; simp, eqr_of ((Reps.lit R).rset' (i := a) (by omega) e rfl (cell_eD e)) (by rw [hR']; simp) hR'.symm⟩)
                | (have hke : kEq s r e = false := by
                     subst hA
                     simp [-List.getD_eq_getElem?_getD, std_add, std_sub, std_mul, std_quo, std_rem, std_band, std_bor, std_bxor, std_shl, std_shr, std_eq, std_ne, std_lt, std_le, std_conv, std_not, std_beq, std_bne, std_ite, std_want, std_and2, std_sadd, std_seq, std_sne, std_slt, std_sle, std_sgt, std_sge, std_slen, std_sget, std_scut, std_ofNat, std_toNat, std_nsub, std_nadd, std_lenOf, std_nz, std_nneg, std_inb, std_upto, std_slt63, std_grow, std_imp, std_impN, std_tr, std_tb, std_ti, std_ts, std_tn, std_tp, std_nmin, std_makes, std_room, std_zeros, std_nilq, std_notq, std_eqi, std_eqn, std_eqb, std_eqs, std_eqv, std_cat, std_lst, std_rset, std_rcopy, std_shift, std_eqr, std_strOf, std_bytesOf, std_isB, std_zOf, zOf_int, std_isI, isI_int, std_getL, std_nmul, std_sOf, sOf_str, std_isS, isS_str, std_fadd, std_fsub, std_fav, std_fsv, std_feq, std_fne, std_flt, std_fle, std_fgt, std_fge, std_fOf, std_fTo, std_fTv, strOf_lit, lstOf_lit inj_eB, lstOf_lit inj_eZ, lstOf_lit inj_eBs, lstOf_lit inj_eS, isRow_lit, isB_lit, isRow_nil, lstOf_nil inj_eB, lstOf_nil inj_eZ, lstOf_nil inj_eBs, lstOf_nil inj_eS, hgR] at hc
                     unfold kEq
                     by_cases h1 : e.s = s
                     · have h2 : ¬e.r = r := by first | exact hc h1 | (rcases hc with h | h; exact absurd h1 h; exact h)
                       simp [h1, h2]
                     · simp [h1]
                   refine ⟨⟨((a, c'), R), hn1 hke⟩, ?_, show M.length - c' < M.length - c by omega⟩
                   cbv
                   subst hA
                   simp [-List.getD_eq_getElem?_getD, std_add, std_sub, std_mul, std_quo, std_rem, std_band, std_bor, std_bxor, std_shl, std_shr, std_eq, std_ne, std_lt, std_le, std_conv, std_not, std_beq, std_bne, std_ite, std_want, std_and2, std_sadd, std_seq, std_sne, std_slt, std_sle, std_sgt, std_sge, std_slen, std_sget, std_scut, std_ofNat, std_toNat, std_nsub, std_nadd, std_lenOf, std_nz, std_nneg, std_inb, std_upto, std_slt63, std_grow, std_imp, std_impN, std_tr, std_tb, std_ti, std_ts, std_tn, std_tp, std_nmin, std_makes, std_room, std_zeros, std_nilq, std_notq, std_eqi, std_eqn, std_eqb, std_eqs, std_eqv, std_cat, std_lst, std_rset, std_rcopy, std_shift, std_eqr, std_strOf, std_bytesOf, std_isB, std_zOf, zOf_int, std_isI, isI_int, std_getL, std_nmul, std_sOf, sOf_str, std_isS, isS_str, std_fadd, std_fsub, std_fav, std_fsv, std_feq, std_fne, std_flt, std_fle, std_fgt, std_fge, std_fOf, std_fTo, std_fTv, strOf_lit, lstOf_lit inj_eB, lstOf_lit inj_eZ, lstOf_lit inj_eBs, lstOf_lit inj_eS, isRow_lit, isB_lit, isRow_nil, lstOf_nil inj_eB, lstOf_nil inj_eZ, lstOf_nil inj_eBs, lstOf_nil inj_eS, hgR]
                   exact w_succ hc' (by omega))
                | trace_state
            · have hce : c = M.length := by omega
              have hout : trL s r Ls = R.take a := by
                unfold trL
                rw [← hne, z4, hce, List.take_length]
              cbv
              repeat' (first | with_reducible exact True.intro | with_reducible exact dr_ok hA (by kernel_rfl) | with_reducible refine And.intro ?_ ?_ | (intro hc; cbv))
              all_goals first
                | (fail_if_success (refine Exists.intro ?_ ?_)
                   subst hA
                   try dsimp only
                   have hmin : min a R.length = a := by omega
                   simp [-List.getD_eq_getElem?_getD, std_add, std_sub, std_mul, std_quo, std_rem, std_band, std_bor, std_bxor, std_shl, std_shr, std_eq, std_ne, std_lt, std_le, std_conv, std_not, std_beq, std_bne, std_ite, std_want, std_and2, std_sadd, std_seq, std_sne, std_slt, std_sle, std_sgt, std_sge, std_slen, std_sget, std_scut, std_ofNat, std_toNat, std_nsub, std_nadd, std_lenOf, std_nz, std_nneg, std_inb, std_upto, std_slt63, std_grow, std_imp, std_impN, std_tr, std_tb, std_ti, std_ts, std_tn, std_tp, std_nmin, std_makes, std_room, std_zeros, std_nilq, std_notq, std_eqi, std_eqn, std_eqb, std_eqs, std_eqv, std_cat, std_lst, std_rset, std_rcopy, std_shift, std_eqr, std_strOf, std_bytesOf, std_isB, std_zOf, zOf_int, std_isI, isI_int, std_getL, std_nmul, std_sOf, sOf_str, std_isS, isS_str, std_fadd, std_fsub, std_fav, std_fsv, std_feq, std_fne, std_flt, std_fle, std_fgt, std_fge, std_fOf, std_fTo, std_fTv, strOf_lit, lstOf_lit inj_eB, lstOf_lit inj_eZ, lstOf_lit inj_eBs, lstOf_lit inj_eS, isRow_lit, isB_lit, isRow_nil, lstOf_nil inj_eB, lstOf_nil inj_eZ, lstOf_nil inj_eBs, lstOf_nil inj_eS, hout]
                   first
                     | done
                     | (rw [hmin]; exact dl_out R rfl (by omega) rfl (fun i j hj => cell_eD D0 j hj))
                     | omega
                     | ((with_reducible refine And.intro ?_ ?_) <;> omega)
                     | (exfalso; simp [-List.getD_eq_getElem?_getD, std_add, std_sub, std_mul, std_quo, std_rem, std_band, std_bor, std_bxor, std_shl, std_shr, std_eq, std_ne, std_lt, std_le, std_conv, std_not, std_beq, std_bne, std_ite, std_want, std_and2, std_sadd, std_seq, std_sne, std_slt, std_sle, std_sgt, std_sge, std_slen, std_sget, std_scut, std_ofNat, std_toNat, std_nsub, std_nadd, std_lenOf, std_nz, std_nneg, std_inb, std_upto, std_slt63, std_grow, std_imp, std_impN, std_tr, std_tb, std_ti, std_ts, std_tn, std_tp, std_nmin, std_makes, std_room, std_zeros, std_nilq, std_notq, std_eqi, std_eqn, std_eqb, std_eqs, std_eqv, std_cat, std_lst, std_rset, std_rcopy, std_shift, std_eqr, std_strOf, std_bytesOf, std_isB, std_zOf, zOf_int, std_isI, isI_int, std_getL, std_nmul, std_sOf, sOf_str, std_isS, isS_str, std_fadd, std_fsub, std_fav, std_fsv, std_feq, std_fne, std_flt, std_fle, std_fgt, std_fge, std_fOf, std_fTo, std_fTv, strOf_lit, lstOf_lit inj_eB, lstOf_lit inj_eZ, lstOf_lit inj_eBs, lstOf_lit inj_eS, isRow_lit, isB_lit, isRow_nil, lstOf_nil inj_eB, lstOf_nil inj_eZ, lstOf_nil inj_eBs, lstOf_nil inj_eS] at hc; omega)
                     | (exfalso; rename_i q; simp [-List.getD_eq_getElem?_getD, std_add, std_sub, std_mul, std_quo, std_rem, std_band, std_bor, std_bxor, std_shl, std_shr, std_eq, std_ne, std_lt, std_le, std_conv, std_not, std_beq, std_bne, std_ite, std_want, std_and2, std_sadd, std_seq, std_sne, std_slt, std_sle, std_sgt, std_sge, std_slen, std_sget, std_scut, std_ofNat, std_toNat, std_nsub, std_nadd, std_lenOf, std_nz, std_nneg, std_inb, std_upto, std_slt63, std_grow, std_imp, std_impN, std_tr, std_tb, std_ti, std_ts, std_tn, std_tp, std_nmin, std_makes, std_room, std_zeros, std_nilq, std_notq, std_eqi, std_eqn, std_eqb, std_eqs, std_eqv, std_cat, std_lst, std_rset, std_rcopy, std_shift, std_eqr, std_strOf, std_bytesOf, std_isB, std_zOf, zOf_int, std_isI, isI_int, std_getL, std_nmul, std_sOf, sOf_str, std_isS, isS_str, std_fadd, std_fsub, std_fav, std_fsv, std_feq, std_fne, std_flt, std_fle, std_fgt, std_fge, std_fOf, std_fTo, std_fTv, strOf_lit, lstOf_lit inj_eB, lstOf_lit inj_eZ, lstOf_lit inj_eBs, lstOf_lit inj_eS, isRow_lit, isB_lit, isRow_nil, lstOf_nil inj_eB, lstOf_nil inj_eZ, lstOf_nil inj_eBs, lstOf_nil inj_eS] at q; omega)
                     | trace_state)
                | (exfalso; subst hA; simp [-List.getD_eq_getElem?_getD, std_add, std_sub, std_mul, std_quo, std_rem, std_band, std_bor, std_bxor, std_shl, std_shr, std_eq, std_ne, std_lt, std_le, std_conv, std_not, std_beq, std_bne, std_ite, std_want, std_and2, std_sadd, std_seq, std_sne, std_slt, std_sle, std_sgt, std_sge, std_slen, std_sget, std_scut, std_ofNat, std_toNat, std_nsub, std_nadd, std_lenOf, std_nz, std_nneg, std_inb, std_upto, std_slt63, std_grow, std_imp, std_impN, std_tr, std_tb, std_ti, std_ts, std_tn, std_tp, std_nmin, std_makes, std_room, std_zeros, std_nilq, std_notq, std_eqi, std_eqn, std_eqb, std_eqs, std_eqv, std_cat, std_lst, std_rset, std_rcopy, std_shift, std_eqr, std_strOf, std_bytesOf, std_isB, std_zOf, zOf_int, std_isI, isI_int, std_getL, std_nmul, std_sOf, sOf_str, std_isS, isS_str, std_fadd, std_fsub, std_fav, std_fsv, std_feq, std_fne, std_flt, std_fle, std_fgt, std_fge, std_fOf, std_fTo, std_fTv, strOf_lit, lstOf_lit inj_eB, lstOf_lit inj_eZ, lstOf_lit inj_eBs, lstOf_lit inj_eS, isRow_lit, isB_lit, isRow_nil, lstOf_nil inj_eB, lstOf_nil inj_eZ, lstOf_nil inj_eBs, lstOf_nil inj_eS] at hc; omega)
                | (exfalso; subst hA; rename_i q; simp [-List.getD_eq_getElem?_getD, std_add, std_sub, std_mul, std_quo, std_rem, std_band, std_bor, std_bxor, std_shl, std_shr, std_eq, std_ne, std_lt, std_le, std_conv, std_not, std_beq, std_bne, std_ite, std_want, std_and2, std_sadd, std_seq, std_sne, std_slt, std_sle, std_sgt, std_sge, std_slen, std_sget, std_scut, std_ofNat, std_toNat, std_nsub, std_nadd, std_lenOf, std_nz, std_nneg, std_inb, std_upto, std_slt63, std_grow, std_imp, std_impN, std_tr, std_tb, std_ti, std_ts, std_tn, std_tp, std_nmin, std_makes, std_room, std_zeros, std_nilq, std_notq, std_eqi, std_eqn, std_eqb, std_eqs, std_eqv, std_cat, std_lst, std_rset, std_rcopy, std_shift, std_eqr, std_strOf, std_bytesOf, std_isB, std_zOf, zOf_int, std_isI, isI_int, std_getL, std_nmul, std_sOf, sOf_str, std_isS, isS_str, std_fadd, std_fsub, std_fav, std_fsv, std_feq, std_fne, std_flt, std_fle, std_fgt, std_fge, std_fOf, std_fTo, std_fTv, strOf_lit, lstOf_lit inj_eB, lstOf_lit inj_eZ, lstOf_lit inj_eBs, lstOf_lit inj_eS, isRow_lit, isB_lit, isRow_nil, lstOf_nil inj_eB, lstOf_nil inj_eZ, lstOf_nil inj_eBs, lstOf_nil inj_eS] at q; omega)
                | trace_state
        · have hje : j = M.length := by omega
          have hout : trL s r Ls = M := by
            have := filter_all h0 (by omega)
            rw [hje, List.take_length] at this
            unfold trL
            rw [← hne]; exact this
          cbv
          repeat' (first | with_reducible exact True.intro | with_reducible exact dr_ok hA (by kernel_rfl) | with_reducible refine And.intro ?_ ?_ | (intro hc; cbv))
          all_goals first
            | (fail_if_success (refine Exists.intro ?_ ?_)
               subst hA
               try dsimp only
               simp [-List.getD_eq_getElem?_getD, std_add, std_sub, std_mul, std_quo, std_rem, std_band, std_bor, std_bxor, std_shl, std_shr, std_eq, std_ne, std_lt, std_le, std_conv, std_not, std_beq, std_bne, std_ite, std_want, std_and2, std_sadd, std_seq, std_sne, std_slt, std_sle, std_sgt, std_sge, std_slen, std_sget, std_scut, std_ofNat, std_toNat, std_nsub, std_nadd, std_lenOf, std_nz, std_nneg, std_inb, std_upto, std_slt63, std_grow, std_imp, std_impN, std_tr, std_tb, std_ti, std_ts, std_tn, std_tp, std_nmin, std_makes, std_room, std_zeros, std_nilq, std_notq, std_eqi, std_eqn, std_eqb, std_eqs, std_eqv, std_cat, std_lst, std_rset, std_rcopy, std_shift, std_eqr, std_strOf, std_bytesOf, std_isB, std_zOf, zOf_int, std_isI, isI_int, std_getL, std_nmul, std_sOf, sOf_str, std_isS, isS_str, std_fadd, std_fsub, std_fav, std_fsv, std_feq, std_fne, std_flt, std_fle, std_fgt, std_fge, std_fOf, std_fTo, std_fTv, strOf_lit, lstOf_lit inj_eB, lstOf_lit inj_eZ, lstOf_lit inj_eBs, lstOf_lit inj_eS, isRow_lit, isB_lit, isRow_nil, lstOf_nil inj_eB, lstOf_nil inj_eZ, lstOf_nil inj_eBs, lstOf_nil inj_eS, hout]
               first
                 | done
                 | exact (Reps.lit _).eqr
                 | omega
                 | (exfalso; simp [-List.getD_eq_getElem?_getD, std_add, std_sub, std_mul, std_quo, std_rem, std_band, std_bor, std_bxor, std_shl, std_shr, std_eq, std_ne, std_lt, std_le, std_conv, std_not, std_beq, std_bne, std_ite, std_want, std_and2, std_sadd, std_seq, std_sne, std_slt, std_sle, std_sgt, std_sge, std_slen, std_sget, std_scut, std_ofNat, std_toNat, std_nsub, std_nadd, std_lenOf, std_nz, std_nneg, std_inb, std_upto, std_slt63, std_grow, std_imp, std_impN, std_tr, std_tb, std_ti, std_ts, std_tn, std_tp, std_nmin, std_makes, std_room, std_zeros, std_nilq, std_notq, std_eqi, std_eqn, std_eqb, std_eqs, std_eqv, std_cat, std_lst, std_rset, std_rcopy, std_shift, std_eqr, std_strOf, std_bytesOf, std_isB, std_zOf, zOf_int, std_isI, isI_int, std_getL, std_nmul, std_sOf, sOf_str, std_isS, isS_str, std_fadd, std_fsub, std_fav, std_fsv, std_feq, std_fne, std_flt, std_fle, std_fgt, std_fge, std_fOf, std_fTo, std_fTv, strOf_lit, lstOf_lit inj_eB, lstOf_lit inj_eZ, lstOf_lit inj_eBs, lstOf_lit inj_eS, isRow_lit, isB_lit, isRow_nil, lstOf_nil inj_eB, lstOf_nil inj_eZ, lstOf_nil inj_eBs, lstOf_nil inj_eS] at hc; done)
                 | (exfalso; simp [-List.getD_eq_getElem?_getD, std_add, std_sub, std_mul, std_quo, std_rem, std_band, std_bor, std_bxor, std_shl, std_shr, std_eq, std_ne, std_lt, std_le, std_conv, std_not, std_beq, std_bne, std_ite, std_want, std_and2, std_sadd, std_seq, std_sne, std_slt, std_sle, std_sgt, std_sge, std_slen, std_sget, std_scut, std_ofNat, std_toNat, std_nsub, std_nadd, std_lenOf, std_nz, std_nneg, std_inb, std_upto, std_slt63, std_grow, std_imp, std_impN, std_tr, std_tb, std_ti, std_ts, std_tn, std_tp, std_nmin, std_makes, std_room, std_zeros, std_nilq, std_notq, std_eqi, std_eqn, std_eqb, std_eqs, std_eqv, std_cat, std_lst, std_rset, std_rcopy, std_shift, std_eqr, std_strOf, std_bytesOf, std_isB, std_zOf, zOf_int, std_isI, isI_int, std_getL, std_nmul, std_sOf, sOf_str, std_isS, isS_str, std_fadd, std_fsub, std_fav, std_fsv, std_feq, std_fne, std_flt, std_fle, std_fgt, std_fge, std_fOf, std_fTo, std_fTv, strOf_lit, lstOf_lit inj_eB, lstOf_lit inj_eZ, lstOf_lit inj_eBs, lstOf_lit inj_eS, isRow_lit, isB_lit, isRow_nil, lstOf_nil inj_eB, lstOf_nil inj_eZ, lstOf_nil inj_eBs, lstOf_nil inj_eS] at hc; omega)
                 | (exfalso; rename_i q; simp [-List.getD_eq_getElem?_getD, std_add, std_sub, std_mul, std_quo, std_rem, std_band, std_bor, std_bxor, std_shl, std_shr, std_eq, std_ne, std_lt, std_le, std_conv, std_not, std_beq, std_bne, std_ite, std_want, std_and2, std_sadd, std_seq, std_sne, std_slt, std_sle, std_sgt, std_sge, std_slen, std_sget, std_scut, std_ofNat, std_toNat, std_nsub, std_nadd, std_lenOf, std_nz, std_nneg, std_inb, std_upto, std_slt63, std_grow, std_imp, std_impN, std_tr, std_tb, std_ti, std_ts, std_tn, std_tp, std_nmin, std_makes, std_room, std_zeros, std_nilq, std_notq, std_eqi, std_eqn, std_eqb, std_eqs, std_eqv, std_cat, std_lst, std_rset, std_rcopy, std_shift, std_eqr, std_strOf, std_bytesOf, std_isB, std_zOf, zOf_int, std_isI, isI_int, std_getL, std_nmul, std_sOf, sOf_str, std_isS, isS_str, std_fadd, std_fsub, std_fav, std_fsv, std_feq, std_fne, std_flt, std_fle, std_fgt, std_fge, std_fOf, std_fTo, std_fTv, strOf_lit, lstOf_lit inj_eB, lstOf_lit inj_eZ, lstOf_lit inj_eBs, lstOf_lit inj_eS, isRow_lit, isB_lit, isRow_nil, lstOf_nil inj_eB, lstOf_nil inj_eZ, lstOf_nil inj_eBs, lstOf_nil inj_eS] at q; omega)
                 | trace_state)
            | (exfalso; subst hA; simp [-List.getD_eq_getElem?_getD, std_add, std_sub, std_mul, std_quo, std_rem, std_band, std_bor, std_bxor, std_shl, std_shr, std_eq, std_ne, std_lt, std_le, std_conv, std_not, std_beq, std_bne, std_ite, std_want, std_and2, std_sadd, std_seq, std_sne, std_slt, std_sle, std_sgt, std_sge, std_slen, std_sget, std_scut, std_ofNat, std_toNat, std_nsub, std_nadd, std_lenOf, std_nz, std_nneg, std_inb, std_upto, std_slt63, std_grow, std_imp, std_impN, std_tr, std_tb, std_ti, std_ts, std_tn, std_tp, std_nmin, std_makes, std_room, std_zeros, std_nilq, std_notq, std_eqi, std_eqn, std_eqb, std_eqs, std_eqv, std_cat, std_lst, std_rset, std_rcopy, std_shift, std_eqr, std_strOf, std_bytesOf, std_isB, std_zOf, zOf_int, std_isI, isI_int, std_getL, std_nmul, std_sOf, sOf_str, std_isS, isS_str, std_fadd, std_fsub, std_fav, std_fsv, std_feq, std_fne, std_flt, std_fle, std_fgt, std_fge, std_fOf, std_fTo, std_fTv, strOf_lit, lstOf_lit inj_eB, lstOf_lit inj_eZ, lstOf_lit inj_eBs, lstOf_lit inj_eS, isRow_lit, isB_lit, isRow_nil, lstOf_nil inj_eB, lstOf_nil inj_eZ, lstOf_nil inj_eBs, lstOf_nil inj_eS] at hc; done)
            | (exfalso; subst hA; simp [-List.getD_eq_getElem?_getD, std_add, std_sub, std_mul, std_quo, std_rem, std_band, std_bor, std_bxor, std_shl, std_shr, std_eq, std_ne, std_lt, std_le, std_conv, std_not, std_beq, std_bne, std_ite, std_want, std_and2, std_sadd, std_seq, std_sne, std_slt, std_sle, std_sgt, std_sge, std_slen, std_sget, std_scut, std_ofNat, std_toNat, std_nsub, std_nadd, std_lenOf, std_nz, std_nneg, std_inb, std_upto, std_slt63, std_grow, std_imp, std_impN, std_tr, std_tb, std_ti, std_ts, std_tn, std_tp, std_nmin, std_makes, std_room, std_zeros, std_nilq, std_notq, std_eqi, std_eqn, std_eqb, std_eqs, std_eqv, std_cat, std_lst, std_rset, std_rcopy, std_shift, std_eqr, std_strOf, std_bytesOf, std_isB, std_zOf, zOf_int, std_isI, isI_int, std_getL, std_nmul, std_sOf, sOf_str, std_isS, isS_str, std_fadd, std_fsub, std_fav, std_fsv, std_feq, std_fne, std_flt, std_fle, std_fgt, std_fge, std_fOf, std_fTo, std_fTv, strOf_lit, lstOf_lit inj_eB, lstOf_lit inj_eZ, lstOf_lit inj_eBs, lstOf_lit inj_eS, isRow_lit, isB_lit, isRow_nil, lstOf_nil inj_eB, lstOf_nil inj_eZ, lstOf_nil inj_eBs, lstOf_nil inj_eS] at hc; omega)
            | (exfalso; subst hA; rename_i q; simp [-List.getD_eq_getElem?_getD, std_add, std_sub, std_mul, std_quo, std_rem, std_band, std_bor, std_bxor, std_shl, std_shr, std_eq, std_ne, std_lt, std_le, std_conv, std_not, std_beq, std_bne, std_ite, std_want, std_and2, std_sadd, std_seq, std_sne, std_slt, std_sle, std_sgt, std_sge, std_slen, std_sget, std_scut, std_ofNat, std_toNat, std_nsub, std_nadd, std_lenOf, std_nz, std_nneg, std_inb, std_upto, std_slt63, std_grow, std_imp, std_impN, std_tr, std_tb, std_ti, std_ts, std_tn, std_tp, std_nmin, std_makes, std_room, std_zeros, std_nilq, std_notq, std_eqi, std_eqn, std_eqb, std_eqs, std_eqv, std_cat, std_lst, std_rset, std_rcopy, std_shift, std_eqr, std_strOf, std_bytesOf, std_isB, std_zOf, zOf_int, std_isI, isI_int, std_getL, std_nmul, std_sOf, sOf_str, std_isS, isS_str, std_fadd, std_fsub, std_fav, std_fsv, std_feq, std_fne, std_flt, std_fle, std_fgt, std_fge, std_fOf, std_fTo, std_fTv, strOf_lit, lstOf_lit inj_eB, lstOf_lit inj_eZ, lstOf_lit inj_eBs, lstOf_lit inj_eS, isRow_lit, isB_lit, isRow_nil, lstOf_nil inj_eB, lstOf_nil inj_eZ, lstOf_nil inj_eBs, lstOf_nil inj_eS] at q; omega)
            | (exfalso; subst hA; rename_i q q2; simp [-List.getD_eq_getElem?_getD, std_add, std_sub, std_mul, std_quo, std_rem, std_band, std_bor, std_bxor, std_shl, std_shr, std_eq, std_ne, std_lt, std_le, std_conv, std_not, std_beq, std_bne, std_ite, std_want, std_and2, std_sadd, std_seq, std_sne, std_slt, std_sle, std_sgt, std_sge, std_slen, std_sget, std_scut, std_ofNat, std_toNat, std_nsub, std_nadd, std_lenOf, std_nz, std_nneg, std_inb, std_upto, std_slt63, std_grow, std_imp, std_impN, std_tr, std_tb, std_ti, std_ts, std_tn, std_tp, std_nmin, std_makes, std_room, std_zeros, std_nilq, std_notq, std_eqi, std_eqn, std_eqb, std_eqs, std_eqv, std_cat, std_lst, std_rset, std_rcopy, std_shift, std_eqr, std_strOf, std_bytesOf, std_isB, std_zOf, zOf_int, std_isI, isI_int, std_getL, std_nmul, std_sOf, sOf_str, std_isS, isS_str, std_fadd, std_fsub, std_fav, std_fsv, std_feq, std_fne, std_flt, std_fle, std_fgt, std_fge, std_fOf, std_fTo, std_fTv, strOf_lit, lstOf_lit inj_eB, lstOf_lit inj_eZ, lstOf_lit inj_eBs, lstOf_lit inj_eS, isRow_lit, isB_lit, isRow_nil, lstOf_nil inj_eB, lstOf_nil inj_eZ, lstOf_nil inj_eBs, lstOf_nil inj_eS] at q; omega)
            | trace_state
end Go.Vd

set_option linter.unusedVariables false
set_option linter.unusedSimpArgs false
set_option maxRecDepth 100000
set_option maxHeartbeats 8000000
namespace Go.Vd
open Go.Proofs
noncomputable def c_trPick : Ct := fun A args => match args with
  | [.slc n 6 f, .clo 77 []] => some (some (A.tp fun _ => isRow eD D0 6 n f ∧ n ≤ 1000000), rowS eD D0 6 A fun _ => (lstOf eD D0 6 n f).filter fA2)
  | [.slc n 6 f, .clo 79 []] => some (some (A.tp fun _ => isRow eD D0 6 n f ∧ n ≤ 1000000), rowS eD D0 6 A fun _ => (lstOf eD D0 6 n f).filter fM2)
  | _ => none
noncomputable def c_trDeals : Ct := fun A args => match args with
  | [.slc n 1 f, .agg [.int .u32 s, .str r]] => some (some (A.tp fun _ => isRow eBs [] 1 n f ∧ n ≤ 1000000 ∧ ∀ i, ((lstOf eBs [] 1 n f).getD i []).length ≤ 10000), rowS eD D0 6 A fun _ => trL s r (lstOf eBs [] 1 n f))
  | _ => none
noncomputable def c_trCount : Ct := fun A args => match args with
  | [.slc n 6 f, .int .i64 k] => some (some (A.tp fun _ => isRow eD D0 6 n f ∧ n ≤ 1000000), .int .i64 (A.ti fun _ => (cnt (lstOf eD D0 6 n f) k : Int)))
  | _ => none
noncomputable def gU2a : Ar → Pu := addC 75 c_trDeals (addC 78 c_trCount (noC))
theorem gU2a_ok : PuOk Tryz.prog gl0 (gU2a std) := by
  refine addC_ok (addC_ok (noC_ok) ⟨_, Tryz.func78, rfl, by decide⟩ ?_) ⟨_, Tryz.func75, rfl, by decide⟩ ?_
  · intro args p r h hp
    unfold c_trCount at h
    split at h <;> cases h
    exact good_sv (good_trCount _ _ (by rw [lstOf_length hp.1]; exact hp.2)) ⟨hp.1.sv, rfl, trivial⟩
  · intro args p r h hp
    unfold c_trDeals at h
    split at h <;> cases h
    exact good_sv (good_trDeals _ _ _ (by rw [lstOf_length hp.1]; exact hp.2.1) hp.2.2) ⟨hp.1.sv, ⟨_, rfl, rfl, rfl, trivial⟩, trivial⟩
noncomputable def gU2 : Ar → Pu := addC 76 c_trPick gU2a
theorem gU2_ok : PuOk Tryz.prog gl0 (gU2 std) := by
  refine addC_ok gU2a_ok ⟨_, Tryz.func76, rfl, by decide⟩ ?_
  intro args p r h hp
  unfold c_trPick at h
  split at h <;> cases h
  · exact good_sv (good_trPick1 _ (by rw [lstOf_length hp.1]; exact hp.2)) ⟨hp.1.sv, rfl, trivial⟩
  · exact good_sv (good_trPick2 _ (by rw [lstOf_length hp.1]; exact hp.2)) ⟨hp.1.sv, rfl, trivial⟩
theorem trL_len (s : Int) (r : List UInt8) (Ls : List (List UInt8)) : (trL s r Ls).length ≤ Ls.length := Nat.le_trans (List.length_filter_le _ _) (trD_len Ls)
def siA (A : Ar) (s : Int) (r : List UInt8) (Ta Ti : Unit → List (List UInt8)) : SV := .agg [rowS eD D0 6 A fun _ => (trL s r (Ta ())).filter fA2, .int .i64 (A.ti fun _ => (cnt (trL s r (Ti ())) 1 : Int)), .int .i64 (A.ti fun _ => (cnt (trL s r (Ti ())) 5 : Int)), .int .i64 (A.ti fun _ => (cnt (trL s r (Ti ())) 6 : Int)), .int .i64 (A.ti fun _ => (cnt (trL s r (Ta ())) 4 : Int))]
theorem good_trSee (Ta Ti : List (List UInt8)) (s : Int) (r : List UInt8) (ha : Ta.length ≤ 1000000) (hi : Ti.length ≤ 1000000) (hba : ∀ i, (Ta.getD i []).length ≤ 10000) (hbi : ∀ i, (Ti.getD i []).length ≤ 10000) : GoodP Tryz.prog gl0 37 [rowS eBs [] 1 std fun _ => Ta, rowS eBs [] 1 std fun _ => Ti, .agg [.int .u32 s, .str r]] (siA std s r (fun _ => Ta) (fun _ => Ti)) := by
  refine fn_sound' (T := seatT) (G := gU2) (X := noX) seatT_ok gU2_ok noX_ok noI_ok mixed Tryz.func37 (.none) (fun A => [rowS eBs [] 1 A fun _ => Ta, rowS eBs [] 1 A fun _ => Ti, .agg [.int .u32 s, .str r]]) (fun A => siA A s r (fun _ => Ta) (fun _ => Ti)) fun A hA => ?_
  cbv
  repeat' (first | with_reducible exact True.intro | with_reducible exact dr_ok hA (by kernel_rfl) | with_reducible refine And.intro ?_ ?_ | (intro hc; cbv))
  all_goals (have h1 := trL_len s r Ta)
  all_goals (have h2 := trL_len s r Ti)
  all_goals (subst hA; simp [-List.getD_eq_getElem?_getD, sS, strOf_lit, lstOf_lit inj_eB, lstOf_lit inj_eZ, lstOf_lit inj_eBs, lstOf_lit inj_eS, isRow_lit, isB_lit, isRow_nil, lstOf_nil inj_eB, lstOf_nil inj_eZ, lstOf_nil inj_eBs, lstOf_nil inj_eS, lstOf_U, isRow_U])
  all_goals first
    | done
    | exact ⟨ha, hba⟩
    | exact ⟨hi, hbi⟩
    | omega
    | trace_state
/-- All replies that say something are one. -/
def plOk (P : List Dl) : Bool := P.all fun d => decide (d = P.getD 0 D0)
def mayS (L : List Dl) (f a g : Int) (tries : Int) : Bool := (!decide (1 < f) && (!decide (1 < a) && !decide (tries < g))) && ((!decide (f = 0) || (decide (a = 0) && decide (g = 0))) && plOk (L.filter fM2))
noncomputable def iM21 : Nat → Option Func := addI 80 Tryz.f80 (addI 128 Tryz.f128 (addI 81 Tryz.f81 noI))
theorem iM21_ok : InOk Tryz.prog iM21 := addI_ok (addI_ok (addI_ok noI_ok Tryz.func81 (by kernel_rfl)) Tryz.func128 (by kernel_rfl)) Tryz.func80 (by kernel_rfl)
theorem litU {A : Ar} (hA : A = std) (L : List Dl) : lstOf eD D0 6 (A.tn fun _ => L.length) (rowF eD { k := 0, pan := [], am := 0, s := 0, r := [], code := [] } A fun _ => L) = L := by subst hA; exact lstOf_U L
theorem pl_no {P : List Dl} {j : Nat} (hj : j < P.length) (h : ¬P.getD j D0 = P.getD 0 D0) : plOk P = false := by
  unfold plOk
  rw [Bool.eq_false_iff]
  intro e
  have := List.all_eq_true.1 e (P.getD j D0) (by rw [List.getD_eq_getElem?_getD, List.getElem?_eq_getElem hj]; exact List.getElem_mem hj)
  exact h (of_decide_eq_true this)
theorem pl_yes {P : List Dl} (h : ∀ t, t < P.length → P.getD t D0 = P.getD 0 D0) : plOk P = true := by
  unfold plOk
  apply List.all_eq_true.2
  intro d hd
  obtain ⟨t, ht, e⟩ := List.getElem_of_mem hd
  have := h t ht
  rw [List.getD_eq_getElem?_getD, List.getElem?_eq_getElem ht] at this
  exact decide_eq_true (e ▸ this)
theorem Dl_eq {d e : Dl} : d = e ↔ d.k = e.k ∧ d.pan = e.pan ∧ d.am = e.am ∧ d.s = e.s ∧ d.r = e.r ∧ d.code = e.code := by
  cases d; cases e; simp
theorem good_trMay (L : List Dl) (f a g u tries : Int) (hL : L.length ≤ 1000000) : GoodP Tryz.prog gl0 38 [.agg [rowS eD D0 6 std fun _ => L, .int .i64 f, .int .i64 a, .int .i64 g, .int .i64 u], .int .i64 tries] (.bool (std.tb fun _ => mayS L f a g tries)) := by
  refine fn_sound' (T := seatT) (G := gU2) (X := noX) seatT_ok gU2_ok noX_ok iM21_ok mixed Tryz.func38 (.one) (fun A => [.agg [rowS eD D0 6 A fun _ => L, .int .i64 f, .int .i64 a, .int .i64 g, .int .i64 u], .int .i64 tries]) (fun A => .bool (A.tb fun _ => mayS L f a g tries)) fun A hA => ?_
  cbv
  repeat' (first | with_reducible exact True.intro | with_reducible exact dr_ok hA (by kernel_rfl) | with_reducible refine And.intro ?_ ?_ | (intro hc; cbv))
  all_goals first
    | (fail_if_success (refine Exists.intro ?_ ?_)
       subst hA; simp [-List.getD_eq_getElem?_getD, sS, strOf_lit, lstOf_lit inj_eB, lstOf_lit inj_eZ, lstOf_lit inj_eBs, lstOf_lit inj_eS, isRow_lit, isB_lit, isRow_nil, lstOf_nil inj_eB, lstOf_nil inj_eZ, lstOf_nil inj_eBs, lstOf_nil inj_eS, lstOf_U, isRow_U] at *
       first
         | done
         | omega
         | (simp [mayS, hc]; done)
         | (simp [mayS]; omega)
         | trace_state)
    | skip
  have hq : ((f ≤ 1 ∧ a ≤ 1) ∧ g ≤ tries) ∧ (f = 0 → a = 0 ∧ g = 0) := by
    rename_i q1
    subst hA; simp [-List.getD_eq_getElem?_getD, sS, strOf_lit, lstOf_lit inj_eB, lstOf_lit inj_eZ, lstOf_lit inj_eBs, lstOf_lit inj_eS, isRow_lit, isB_lit, isRow_nil, lstOf_nil inj_eB, lstOf_nil inj_eZ, lstOf_nil inj_eBs, lstOf_nil inj_eS, lstOf_U, isRow_U] at q1 hc
    exact ⟨q1, hc⟩
  simp only [litU hA]
  obtain ⟨P, hP⟩ : ∃ P, P = L.filter fM2 := ⟨_, rfl⟩
  have hPl : P.length ≤ 1000000 := by rw [hP]; exact Nat.le_trans (List.length_filter_le _ _) hL
  have hm : mayS L f a g tries = plOk P := by
    rw [hP]
    unfold mayS
    have e1 : decide (1 < f) = false := by simp; omega
    have e2 : decide (1 < a) = false := by simp; omega
    have e3 : decide (tries < g) = false := by simp; omega
    have e4 : (!decide (f = 0) || (decide (a = 0) && decide (g = 0))) = true := by
      by_cases h : f = 0
      · have := hq.2 h; simp [h, this]
      · simp [h]
    rw [e1, e2, e3, e4]
    simp
  rw [← hP, hm]
  clear hc hP
  refine ⟨⟨{j : Nat // j ≤ P.length ∧ ∀ t, t < j → P.getD t D0 = P.getD 0 D0}, fun b j => [(8, .int .i64 (j.1 : Nat))], fun b j => [], fun j => P.length - j.1, true⟩, ⟨⟨0, by omega, by simp⟩, ?_⟩, ?_⟩
  · cbv
    subst hA
    simp [-List.getD_eq_getElem?_getD, sS, strOf_lit, lstOf_lit inj_eB, lstOf_lit inj_eZ, lstOf_lit inj_eBs, lstOf_lit inj_eS, isRow_lit, isB_lit, isRow_nil, lstOf_nil inj_eB, lstOf_nil inj_eZ, lstOf_nil inj_eBs, lstOf_nil inj_eS]
  · rintro ⟨j, hy⟩
    have hj := hy.1
    have h0 := hy.2
    rcases Nat.lt_or_ge j P.length with hjl | hjg
    · obtain ⟨d, hd⟩ : ∃ d, d = P.getD j D0 := ⟨_, rfl⟩
      obtain ⟨d0, hd0⟩ : ∃ d, d = P.getD 0 D0 := ⟨_, rfl⟩
      have hg : P.getD j { k := 0, pan := [], am := 0, s := 0, r := [], code := [] } = d := hd.symm
      have hg0 : P.getD 0 { k := 0, pan := [], am := 0, s := 0, r := [], code := [] } = d0 := hd0.symm
      have hno : ¬d = d0 → plOk P = false := fun h => pl_no hjl (by rw [← hd, ← hd0]; exact h)
      have hyes : d = d0 → ∀ t, t < j + 1 → P.getD t D0 = P.getD 0 D0 := fun h t ht => by
        rcases Nat.lt_or_ge t j with q | q
        · exact h0 t q
        · obtain rfl : t = j := by omega
          rw [← hd, ← hd0]; exact h
      cbv
      repeat' (first | with_reducible exact True.intro | with_reducible exact dr_ok hA (by kernel_rfl) | with_reducible refine And.intro ?_ ?_ | (intro hc; cbv))
      all_goals first
        | (fail_if_success (refine Exists.intro ?_ ?_)
           subst hA
           try dsimp only
           simp [-List.getD_eq_getElem?_getD, sS, strOf_lit, lstOf_lit inj_eB, lstOf_lit inj_eZ, lstOf_lit inj_eBs, lstOf_lit inj_eS, isRow_lit, isB_lit, isRow_nil, lstOf_nil inj_eB, lstOf_nil inj_eZ, lstOf_nil inj_eBs, lstOf_nil inj_eS, hg, hg0]
           first
             | done
             | omega
             | (have hne : ¬d = d0 := by
                  intro e
                  rw [Dl_eq] at e
                  rename_i q
                  first
                    | (simp [-List.getD_eq_getElem?_getD, sS, strOf_lit, lstOf_lit inj_eB, lstOf_lit inj_eZ, lstOf_lit inj_eBs, lstOf_lit inj_eS, isRow_lit, isB_lit, isRow_nil, lstOf_nil inj_eB, lstOf_nil inj_eZ, lstOf_nil inj_eBs, lstOf_nil inj_eS, hg, hg0, e] at hc; done)
                    | (simp [-List.getD_eq_getElem?_getD, sS, strOf_lit, lstOf_lit inj_eB, lstOf_lit inj_eZ, lstOf_lit inj_eBs, lstOf_lit inj_eS, isRow_lit, isB_lit, isRow_nil, lstOf_nil inj_eB, lstOf_nil inj_eZ, lstOf_nil inj_eBs, lstOf_nil inj_eS, hg, hg0, e] at q; done)
                rw [hno hne]
                try simp
                try omega)
             | (exfalso; simp [-List.getD_eq_getElem?_getD, sS, strOf_lit, lstOf_lit inj_eB, lstOf_lit inj_eZ, lstOf_lit inj_eBs, lstOf_lit inj_eS, isRow_lit, isB_lit, isRow_nil, lstOf_nil inj_eB, lstOf_nil inj_eZ, lstOf_nil inj_eBs, lstOf_nil inj_eS] at hc; omega)
             | (exfalso; rename_i q; simp [-List.getD_eq_getElem?_getD, sS, strOf_lit, lstOf_lit inj_eB, lstOf_lit inj_eZ, lstOf_lit inj_eBs, lstOf_lit inj_eS, isRow_lit, isB_lit, isRow_nil, lstOf_nil inj_eB, lstOf_nil inj_eZ, lstOf_nil inj_eBs, lstOf_nil inj_eS] at q; omega)
             | trace_state)
        | (obtain ⟨j', hj'⟩ : ∃ j', j' = j + 1 := ⟨_, rfl⟩
           have c1 : j' ≤ P.length := by omega
           have he : d = d0 := by
             rw [Dl_eq]
             subst hA
             simp [-List.getD_eq_getElem?_getD, sS, strOf_lit, lstOf_lit inj_eB, lstOf_lit inj_eZ, lstOf_lit inj_eBs, lstOf_lit inj_eS, isRow_lit, isB_lit, isRow_nil, lstOf_nil inj_eB, lstOf_nil inj_eZ, lstOf_nil inj_eBs, lstOf_nil inj_eS, hg, hg0] at hc
             simp [hc]
           refine ⟨⟨j', c1, by rw [hj']; exact hyes he⟩, ?_, show P.length - j' < P.length - j by omega⟩
           cbv
           subst hA
           simp [-List.getD_eq_getElem?_getD, sS, strOf_lit, lstOf_lit inj_eB, lstOf_lit inj_eZ, lstOf_lit inj_eBs, lstOf_lit inj_eS, isRow_lit, isB_lit, isRow_nil, lstOf_nil inj_eB, lstOf_nil inj_eZ, lstOf_nil inj_eBs, lstOf_nil inj_eS]
           exact w_succ hj' (by omega))
        | trace_state
    · have hje : j = P.length := by omega
      have hy := pl_yes (P := P) (fun t ht => h0 t (by omega))
      cbv
      repeat' (first | with_reducible exact True.intro | with_reducible exact dr_ok hA (by kernel_rfl) | with_reducible refine And.intro ?_ ?_ | (intro hc; cbv))
      all_goals first
        | (fail_if_success (refine Exists.intro ?_ ?_)
           subst hA
           try dsimp only
           simp [-List.getD_eq_getElem?_getD, sS, strOf_lit, lstOf_lit inj_eB, lstOf_lit inj_eZ, lstOf_lit inj_eBs, lstOf_lit inj_eS, isRow_lit, isB_lit, isRow_nil, lstOf_nil inj_eB, lstOf_nil inj_eZ, lstOf_nil inj_eBs, lstOf_nil inj_eS, hy]
           first
             | done
             | omega
             | (exfalso; simp [-List.getD_eq_getElem?_getD, sS, strOf_lit, lstOf_lit inj_eB, lstOf_lit inj_eZ, lstOf_lit inj_eBs, lstOf_lit inj_eS, isRow_lit, isB_lit, isRow_nil, lstOf_nil inj_eB, lstOf_nil inj_eZ, lstOf_nil inj_eBs, lstOf_nil inj_eS] at hc; omega)
             | (exfalso; rename_i q; simp [-List.getD_eq_getElem?_getD, sS, strOf_lit, lstOf_lit inj_eB, lstOf_lit inj_eZ, lstOf_lit inj_eBs, lstOf_lit inj_eS, isRow_lit, isB_lit, isRow_nil, lstOf_nil inj_eB, lstOf_nil inj_eZ, lstOf_nil inj_eBs, lstOf_nil inj_eS] at q; omega)
             | trace_state)
        | (exfalso; subst hA; simp [-List.getD_eq_getElem?_getD, sS, strOf_lit, lstOf_lit inj_eB, lstOf_lit inj_eZ, lstOf_lit inj_eBs, lstOf_lit inj_eS, isRow_lit, isB_lit, isRow_nil, lstOf_nil inj_eB, lstOf_nil inj_eZ, lstOf_nil inj_eBs, lstOf_nil inj_eS] at hc; omega)
        | (exfalso; subst hA; rename_i q; simp [-List.getD_eq_getElem?_getD, sS, strOf_lit, lstOf_lit inj_eB, lstOf_lit inj_eZ, lstOf_lit inj_eBs, lstOf_lit inj_eS, isRow_lit, isB_lit, isRow_nil, lstOf_nil inj_eB, lstOf_nil inj_eZ, lstOf_nil inj_eBs, lstOf_nil inj_eS] at q; omega)
        | trace_state
end Go.Vd

set_option linter.unusedVariables false
set_option linter.unusedSimpArgs false
set_option maxRecDepth 100000
set_option maxHeartbeats 8000000
namespace Go.Vd
open Go.Proofs
theorem Dl_ext4 {x y : Dl} (h0 : x.k = y.k) (h1 : x.pan = y.pan) (h2 : x.am = y.am) (h3 : x.s = y.s) (h4 : x.r = y.r) (h5 : x.code = y.code) : x = y := by cases x; cases y; simp_all
theorem good_dSame (L M : List Dl) (hL : L.length ≤ 1000000) : GoodP Tryz.prog gl0 82 [rowS eD ⟨0, [], 0, 0, [], []⟩ 6 std fun _ => L, rowS eD ⟨0, [], 0, 0, [], []⟩ 6 std fun _ => M] (.bool (std.tb fun _ => decide (L = M))) := by
  refine fn_sound' (T := seatT) (G := noC) (X := noX) seatT_ok noC_ok noX_ok noI_ok mixed Tryz.func82 (.one) (fun A => [rowS eD ⟨0, [], 0, 0, [], []⟩ 6 A fun _ => L, rowS eD ⟨0, [], 0, 0, [], []⟩ 6 A fun _ => M]) (fun A => .bool (A.tb fun _ => decide (L = M))) fun A hA => ?_
  cbv
  repeat' (first | with_reducible exact True.intro | with_reducible exact dr_ok hA (by kernel_rfl) | with_reducible refine And.intro ?_ ?_ | (intro hc; cbv))
  rotate_right
  all_goals first
    | (fail_if_success (refine Exists.intro ?_ ?_)
       subst hA
       simp [std_add, std_sub, std_mul, std_quo, std_rem, std_band, std_bor, std_bxor, std_shl, std_shr, std_eq, std_ne, std_lt, std_le, std_conv, std_not, std_beq, std_bne, std_ite, std_want, std_and2, std_sadd, std_seq, std_sne, std_slt, std_sle, std_sgt, std_sge, std_slen, std_sget, std_scut, std_ofNat, std_toNat, std_nsub, std_nadd, std_lenOf, std_nz, std_nneg, std_inb, std_upto, std_slt63, std_grow, std_imp, std_impN, std_tr, std_tb, std_ti, std_ts, std_tn, std_tp, std_nmin, std_makes, std_room, std_zeros, std_nilq, std_notq, std_eqi, std_eqn, std_eqb, std_eqs, std_eqv, std_cat, std_lst, std_rset, std_rcopy, std_shift, std_eqr, std_strOf, std_bytesOf, std_isB, std_zOf, zOf_int, std_isI, isI_int, std_getL, std_nmul, std_sOf, sOf_str, std_isS, isS_str, std_fadd, std_fsub, std_fav, std_fsv, std_feq, std_fne, std_flt, std_fle, std_fgt, std_fge, std_fOf, std_fTo, std_fTv] at *
       first | done | (intro e; subst e; exact absurd rfl (by assumption)))
    | skip
  have hl : L.length = M.length := by subst hA; simp [std_add, std_sub, std_mul, std_quo, std_rem, std_band, std_bor, std_bxor, std_shl, std_shr, std_eq, std_ne, std_lt, std_le, std_conv, std_not, std_beq, std_bne, std_ite, std_want, std_and2, std_sadd, std_seq, std_sne, std_slt, std_sle, std_sgt, std_sge, std_slen, std_sget, std_scut, std_ofNat, std_toNat, std_nsub, std_nadd, std_lenOf, std_nz, std_nneg, std_inb, std_upto, std_slt63, std_grow, std_imp, std_impN, std_tr, std_tb, std_ti, std_ts, std_tn, std_tp, std_nmin, std_makes, std_room, std_zeros, std_nilq, std_notq, std_eqi, std_eqn, std_eqb, std_eqs, std_eqv, std_cat, std_lst, std_rset, std_rcopy, std_shift, std_eqr, std_strOf, std_bytesOf, std_isB, std_zOf, zOf_int, std_isI, isI_int, std_getL, std_nmul, std_sOf, sOf_str, std_isS, isS_str, std_fadd, std_fsub, std_fav, std_fsv, std_feq, std_fne, std_flt, std_fle, std_fgt, std_fge, std_fOf, std_fTo, std_fTv] at hc; omega
  refine ⟨⟨{i : Nat // i ≤ L.length ∧ L.take i = M.take i}, fun b i => [(5, .int .i64 (i.1 : Nat))], fun b i => [], fun i => L.length - i.1, true⟩, ⟨⟨0, by omega, rfl⟩, ?_⟩, ?_⟩
  · cbv
    subst hA
    simp [-List.getD_eq_getElem?_getD, std_add, std_sub, std_mul, std_quo, std_rem, std_band, std_bor, std_bxor, std_shl, std_shr, std_eq, std_ne, std_lt, std_le, std_conv, std_not, std_beq, std_bne, std_ite, std_want, std_and2, std_sadd, std_seq, std_sne, std_slt, std_sle, std_sgt, std_sge, std_slen, std_sget, std_scut, std_ofNat, std_toNat, std_nsub, std_nadd, std_lenOf, std_nz, std_nneg, std_inb, std_upto, std_slt63, std_grow, std_imp, std_impN, std_tr, std_tb, std_ti, std_ts, std_tn, std_tp, std_nmin, std_makes, std_room, std_zeros, std_nilq, std_notq, std_eqi, std_eqn, std_eqb, std_eqs, std_eqv, std_cat, std_lst, std_rset, std_rcopy, std_shift, std_eqr, std_strOf, std_bytesOf, std_isB, std_zOf, zOf_int, std_isI, isI_int, std_getL, std_nmul, std_sOf, sOf_str, std_isS, isS_str, std_fadd, std_fsub, std_fav, std_fsv, std_feq, std_fne, std_flt, std_fle, std_fgt, std_fge, std_fOf, std_fTo, std_fTv]
  · rintro ⟨i, hi, hz⟩
    cbv
    repeat' (first | with_reducible exact True.intro | with_reducible exact dr_ok hA (by kernel_rfl) | with_reducible refine And.intro ?_ ?_ | (intro hc; cbv))
    all_goals first
      | (fail_if_success (refine Exists.intro ?_ ?_)
         have hlt : i < L.length := by (clear hz; subst hA; simp [-List.getD_eq_getElem?_getD, std_add, std_sub, std_mul, std_quo, std_rem, std_band, std_bor, std_bxor, std_shl, std_shr, std_eq, std_ne, std_lt, std_le, std_conv, std_not, std_beq, std_bne, std_ite, std_want, std_and2, std_sadd, std_seq, std_sne, std_slt, std_sle, std_sgt, std_sge, std_slen, std_sget, std_scut, std_ofNat, std_toNat, std_nsub, std_nadd, std_lenOf, std_nz, std_nneg, std_inb, std_upto, std_slt63, std_grow, std_imp, std_impN, std_tr, std_tb, std_ti, std_ts, std_tn, std_tp, std_nmin, std_makes, std_room, std_zeros, std_nilq, std_notq, std_eqi, std_eqn, std_eqb, std_eqs, std_eqv, std_cat, std_lst, std_rset, std_rcopy, std_shift, std_eqr, std_strOf, std_bytesOf, std_isB, std_zOf, zOf_int, std_isI, isI_int, std_getL, std_nmul, std_sOf, sOf_str, std_isS, isS_str, std_fadd, std_fsub, std_fav, std_fsv, std_feq, std_fne, std_flt, std_fle, std_fgt, std_fge, std_fOf, std_fTo, std_fTv] at * <;> omega)
         clear hz
         subst hA
         simp [-List.getD_eq_getElem?_getD, std_add, std_sub, std_mul, std_quo, std_rem, std_band, std_bor, std_bxor, std_shl, std_shr, std_eq, std_ne, std_lt, std_le, std_conv, std_not, std_beq, std_bne, std_ite, std_want, std_and2, std_sadd, std_seq, std_sne, std_slt, std_sle, std_sgt, std_sge, std_slen, std_sget, std_scut, std_ofNat, std_toNat, std_nsub, std_nadd, std_lenOf, std_nz, std_nneg, std_inb, std_upto, std_slt63, std_grow, std_imp, std_impN, std_tr, std_tb, std_ti, std_ts, std_tn, std_tp, std_nmin, std_makes, std_room, std_zeros, std_nilq, std_notq, std_eqi, std_eqn, std_eqb, std_eqs, std_eqv, std_cat, std_lst, std_rset, std_rcopy, std_shift, std_eqr, std_strOf, std_bytesOf, std_isB, std_zOf, zOf_int, std_isI, isI_int, std_getL, std_nmul, std_sOf, sOf_str, std_isS, isS_str, std_fadd, std_fsub, std_fav, std_fsv, std_feq, std_fne, std_flt, std_fle, std_fgt, std_fge, std_fOf, std_fTo, std_fTv] at *
         first
           | done
           | omega
           | (intro e; subst e; simp at hc; done))
      | (fail_if_success (refine Exists.intro ?_ ?_)
         have hie : i = L.length := by (clear hz; subst hA; simp [-List.getD_eq_getElem?_getD, std_add, std_sub, std_mul, std_quo, std_rem, std_band, std_bor, std_bxor, std_shl, std_shr, std_eq, std_ne, std_lt, std_le, std_conv, std_not, std_beq, std_bne, std_ite, std_want, std_and2, std_sadd, std_seq, std_sne, std_slt, std_sle, std_sgt, std_sge, std_slen, std_sget, std_scut, std_ofNat, std_toNat, std_nsub, std_nadd, std_lenOf, std_nz, std_nneg, std_inb, std_upto, std_slt63, std_grow, std_imp, std_impN, std_tr, std_tb, std_ti, std_ts, std_tn, std_tp, std_nmin, std_makes, std_room, std_zeros, std_nilq, std_notq, std_eqi, std_eqn, std_eqb, std_eqs, std_eqv, std_cat, std_lst, std_rset, std_rcopy, std_shift, std_eqr, std_strOf, std_bytesOf, std_isB, std_zOf, zOf_int, std_isI, isI_int, std_getL, std_nmul, std_sOf, sOf_str, std_isS, isS_str, std_fadd, std_fsub, std_fav, std_fsv, std_feq, std_fne, std_flt, std_fle, std_fgt, std_fge, std_fOf, std_fTo, std_fTv] at * <;> omega)
         rw [hie, List.take_length, hl, List.take_length] at hz
         subst hA
         simp [std_add, std_sub, std_mul, std_quo, std_rem, std_band, std_bor, std_bxor, std_shl, std_shr, std_eq, std_ne, std_lt, std_le, std_conv, std_not, std_beq, std_bne, std_ite, std_want, std_and2, std_sadd, std_seq, std_sne, std_slt, std_sle, std_sgt, std_sge, std_slen, std_sget, std_scut, std_ofNat, std_toNat, std_nsub, std_nadd, std_lenOf, std_nz, std_nneg, std_inb, std_upto, std_slt63, std_grow, std_imp, std_impN, std_tr, std_tb, std_ti, std_ts, std_tn, std_tp, std_nmin, std_makes, std_room, std_zeros, std_nilq, std_notq, std_eqi, std_eqn, std_eqb, std_eqs, std_eqv, std_cat, std_lst, std_rset, std_rcopy, std_shift, std_eqr, std_strOf, std_bytesOf, std_isB, std_zOf, zOf_int, std_isI, isI_int, std_getL, std_nmul, std_sOf, sOf_str, std_isS, isS_str, std_fadd, std_fsub, std_fav, std_fsv, std_feq, std_fne, std_flt, std_fle, std_fgt, std_fge, std_fOf, std_fTo, std_fTv, hz]; done)
      | (have hlt : i < L.length := by (clear hz; subst hA; simp [-List.getD_eq_getElem?_getD, std_add, std_sub, std_mul, std_quo, std_rem, std_band, std_bor, std_bxor, std_shl, std_shr, std_eq, std_ne, std_lt, std_le, std_conv, std_not, std_beq, std_bne, std_ite, std_want, std_and2, std_sadd, std_seq, std_sne, std_slt, std_sle, std_sgt, std_sge, std_slen, std_sget, std_scut, std_ofNat, std_toNat, std_nsub, std_nadd, std_lenOf, std_nz, std_nneg, std_inb, std_upto, std_slt63, std_grow, std_imp, std_impN, std_tr, std_tb, std_ti, std_ts, std_tn, std_tp, std_nmin, std_makes, std_room, std_zeros, std_nilq, std_notq, std_eqi, std_eqn, std_eqb, std_eqs, std_eqv, std_cat, std_lst, std_rset, std_rcopy, std_shift, std_eqr, std_strOf, std_bytesOf, std_isB, std_zOf, zOf_int, std_isI, isI_int, std_getL, std_nmul, std_sOf, sOf_str, std_isS, isS_str, std_fadd, std_fsub, std_fav, std_fsv, std_feq, std_fne, std_flt, std_fle, std_fgt, std_fge, std_fOf, std_fTo, std_fTv] at * <;> omega)
         have he : L.getD i ⟨0, [], 0, 0, [], []⟩ = M.getD i ⟨0, [], 0, 0, [], []⟩ := by
           clear hz
           subst hA
           simp [-List.getD_eq_getElem?_getD, std_add, std_sub, std_mul, std_quo, std_rem, std_band, std_bor, std_bxor, std_shl, std_shr, std_eq, std_ne, std_lt, std_le, std_conv, std_not, std_beq, std_bne, std_ite, std_want, std_and2, std_sadd, std_seq, std_sne, std_slt, std_sle, std_sgt, std_sge, std_slen, std_sget, std_scut, std_ofNat, std_toNat, std_nsub, std_nadd, std_lenOf, std_nz, std_nneg, std_inb, std_upto, std_slt63, std_grow, std_imp, std_impN, std_tr, std_tb, std_ti, std_ts, std_tn, std_tp, std_nmin, std_makes, std_room, std_zeros, std_nilq, std_notq, std_eqi, std_eqn, std_eqb, std_eqs, std_eqv, std_cat, std_lst, std_rset, std_rcopy, std_shift, std_eqr, std_strOf, std_bytesOf, std_isB, std_zOf, zOf_int, std_isI, isI_int, std_getL, std_nmul, std_sOf, sOf_str, std_isS, isS_str, std_fadd, std_fsub, std_fav, std_fsv, std_feq, std_fne, std_flt, std_fle, std_fgt, std_fge, std_fOf, std_fTo, std_fTv] at *
           exact Dl_ext4 hc.1 hc.2.1 hc.2.2.1 hc.2.2.2.1 hc.2.2.2.2.1 hc.2.2.2.2.2
         obtain ⟨i', hi'⟩ : ∃ i', i' = i + 1 := ⟨_, rfl⟩
         refine ⟨⟨i', by omega, by rw [hi', ← take_snoc (d := ⟨0, [], 0, 0, [], []⟩) hlt, ← take_snoc (d := ⟨0, [], 0, 0, [], []⟩) (show i < M.length by omega), hz, he]⟩, ?_, show L.length - i' < L.length - i by omega⟩
         cbv
         subst hA
         simp [std_add, std_sub, std_mul, std_quo, std_rem, std_band, std_bor, std_bxor, std_shl, std_shr, std_eq, std_ne, std_lt, std_le, std_conv, std_not, std_beq, std_bne, std_ite, std_want, std_and2, std_sadd, std_seq, std_sne, std_slt, std_sle, std_sgt, std_sge, std_slen, std_sget, std_scut, std_ofNat, std_toNat, std_nsub, std_nadd, std_lenOf, std_nz, std_nneg, std_inb, std_upto, std_slt63, std_grow, std_imp, std_impN, std_tr, std_tb, std_ti, std_ts, std_tn, std_tp, std_nmin, std_makes, std_room, std_zeros, std_nilq, std_notq, std_eqi, std_eqn, std_eqb, std_eqs, std_eqv, std_cat, std_lst, std_rset, std_rcopy, std_shift, std_eqr, std_strOf, std_bytesOf, std_isB, std_zOf, zOf_int, std_isI, isI_int, std_getL, std_nmul, std_sOf, sOf_str, std_isS, isS_str, std_fadd, std_fsub, std_fav, std_fsv, std_feq, std_fne, std_flt, std_fle, std_fgt, std_fge, std_fOf, std_fTo, std_fTv]
         exact (w64 (by omega)).trans (by omega))
      | trace_state
noncomputable def c_dSame : Ct := fun A args => match args with
  | [.slc n 6 f, .slc m 6 g] => some (some (A.tp fun _ => (isRow eD D0 6 n f ∧ isRow eD D0 6 m g) ∧ n ≤ 1000000), .bool (A.tb fun _ => decide (lstOf eD D0 6 n f = lstOf eD D0 6 m g)))
  | _ => none
noncomputable def gU4 : Ar → Pu := addC 82 c_dSame (noC)
theorem gU4_ok : PuOk Tryz.prog gl0 (gU4 std) := by
  refine addC_ok (noC_ok) ⟨_, Tryz.func82, rfl, by decide⟩ ?_
  · intro args p r h hp
    unfold c_dSame at h
    split at h <;> cases h
    exact good_sv (good_dSame _ _ (by rw [lstOf_length hp.1.1]; exact hp.2)) ⟨hp.1.1.sv, hp.1.2.sv, trivial⟩
theorem good_siSame (L M : List Dl) (f a g u f' a' g' u' : Int) (hL : L.length ≤ 1000000) : GoodP Tryz.prog gl0 40 [.agg [rowS eD D0 6 std fun _ => L, .int .i64 f, .int .i64 a, .int .i64 g, .int .i64 u], .agg [rowS eD D0 6 std fun _ => M, .int .i64 f', .int .i64 a', .int .i64 g', .int .i64 u']] (.bool (std.tb fun _ => decide (L = M ∧ f = f' ∧ a = a' ∧ g = g' ∧ u = u'))) := by
  refine fn_sound' (T := seatT) (G := gU4) (X := noX) seatT_ok gU4_ok noX_ok noI_ok mixed Tryz.func40 (.one) (fun A => [.agg [rowS eD D0 6 A fun _ => L, .int .i64 f, .int .i64 a, .int .i64 g, .int .i64 u], .agg [rowS eD D0 6 A fun _ => M, .int .i64 f', .int .i64 a', .int .i64 g', .int .i64 u']]) (fun A => .bool (A.tb fun _ => decide (L = M ∧ f = f' ∧ a = a' ∧ g = g' ∧ u = u'))) fun A hA => ?_
  cbv
  repeat' (first | with_reducible exact True.intro | with_reducible exact dr_ok hA (by kernel_rfl) | with_reducible refine And.intro ?_ ?_ | (intro hc; cbv))
  all_goals (subst hA; simp [-List.getD_eq_getElem?_getD, std_add, std_sub, std_mul, std_quo, std_rem, std_band, std_bor, std_bxor, std_shl, std_shr, std_eq, std_ne, std_lt, std_le, std_conv, std_not, std_beq, std_bne, std_ite, std_want, std_and2, std_sadd, std_seq, std_sne, std_slt, std_sle, std_sgt, std_sge, std_slen, std_sget, std_scut, std_ofNat, std_toNat, std_nsub, std_nadd, std_lenOf, std_nz, std_nneg, std_inb, std_upto, std_slt63, std_grow, std_imp, std_impN, std_tr, std_tb, std_ti, std_ts, std_tn, std_tp, std_nmin, std_makes, std_room, std_zeros, std_nilq, std_notq, std_eqi, std_eqn, std_eqb, std_eqs, std_eqv, std_cat, std_lst, std_rset, std_rcopy, std_shift, std_eqr, std_strOf, std_bytesOf, std_isB, std_zOf, zOf_int, std_isI, isI_int, std_getL, std_nmul, std_sOf, sOf_str, std_isS, isS_str, std_fadd, std_fsub, std_fav, std_fsv, std_feq, std_fne, std_flt, std_fle, std_fgt, std_fge, std_fOf, std_fTo, std_fTv, strOf_lit, lstOf_lit inj_eB, lstOf_lit inj_eZ, lstOf_lit inj_eBs, lstOf_lit inj_eS, isRow_lit, isB_lit, isRow_nil, lstOf_nil inj_eB, lstOf_nil inj_eZ, lstOf_nil inj_eBs, lstOf_nil inj_eS, lstOf_U, isRow_U] at *)
  all_goals first
    | done
    | omega
    | (simp only [Bool.beq_eq_decide_eq, Bool.and_assoc, Int.beq_eq_decide, beq_eq_decide]; done)
    | (rw [Bool.eq_iff_iff]; simp [and_assoc]; done)
    | (simp_all; done)
    | trace_state
theorem good_trShort (s : Int) (r : List UInt8) : GoodP Tryz.prog gl0 36 [.agg [.int .u32 s, .str r]] (.bool (std.tb fun _ => decide (r.length ≤ 300))) := by
  refine fn_sound' (T := seatT) (G := noC) (X := noX) seatT_ok noC_ok noX_ok noI_ok mixed Tryz.func36 (.one) (fun A => [.agg [.int .u32 s, .str r]]) (fun A => .bool (A.tb fun _ => decide (r.length ≤ 300))) fun A hA => ?_
  cbv
  repeat' (first | with_reducible exact True.intro | with_reducible exact dr_ok hA (by kernel_rfl) | with_reducible refine And.intro ?_ ?_ | (intro hc; cbv))
  all_goals (subst hA; simp [std_add, std_sub, std_mul, std_quo, std_rem, std_band, std_bor, std_bxor, std_shl, std_shr, std_eq, std_ne, std_lt, std_le, std_conv, std_not, std_beq, std_bne, std_ite, std_want, std_and2, std_sadd, std_seq, std_sne, std_slt, std_sle, std_sgt, std_sge, std_slen, std_sget, std_scut, std_ofNat, std_toNat, std_nsub, std_nadd, std_lenOf, std_nz, std_nneg, std_inb, std_upto, std_slt63, std_grow, std_imp, std_impN, std_tr, std_tb, std_ti, std_ts, std_tn, std_tp, std_nmin, std_makes, std_room, std_zeros, std_nilq, std_notq, std_eqi, std_eqn, std_eqb, std_eqs, std_eqv, std_cat, std_lst, std_rset, std_rcopy, std_shift, std_eqr, std_strOf, std_bytesOf, std_isB, std_zOf, zOf_int, std_isI, isI_int, std_getL, std_nmul, std_sOf, sOf_str, std_isS, isS_str, std_fadd, std_fsub, std_fav, std_fsv, std_feq, std_fne, std_flt, std_fle, std_fgt, std_fge, std_fOf, std_fTo, std_fTv] at *)
  all_goals omega
end Go.Vd

set_option linter.unusedVariables false
set_option linter.unusedSimpArgs false
set_option maxRecDepth 100000
set_option maxHeartbeats 8000000
namespace Go.Vd
open Go.Proofs
noncomputable def c_tLettert : Ct := fun A args => match args with
  | [.agg [.int .i64 k, .str p, .int .u64 a, .int .u32 s, .str r, .str c]] => some (some (A.tp fun _ => (0 ≤ a ∧ a < 18446744073709551616) ∧ (0 ≤ s ∧ s < 4294967296) ∧ p.length ≤ 100000 ∧ r.length ≤ 1000000 ∧ c.length ≤ 1000000), .tup [rowS eB 0 1 A fun _ => ltB k a s p r c, .int .i64 (A.ti fun _ => ltE k a s p r c)])
  | _ => none
noncomputable def c_kOft : Ct := fun A args => match args with
  | [.agg [.int .i64 a, .str p, .int .u64 c, .int .u32 s, .str r, .str e]] => some (none, .agg [.int .u32 s, .str r])
  | _ => none
noncomputable def c_dShortt : Ct := fun A args => match args with
  | [.agg [.int .i64 a, .str p, .int .u64 c, .int .u32 s, .str r, .str e]] => some (none, .bool (A.tb fun _ => decide (p.length ≤ 300 ∧ r.length ≤ 300 ∧ e.length ≤ 300)))
  | _ => none
noncomputable def c_lookst : Ct := fun A args => match args with
  | [.slc n 1 f] => some (some (A.tp fun _ => isRow eBs [] 1 n f), .bool (A.tb fun _ => looks (lstOf eBs [] 1 n f)))
  | _ => none
noncomputable def c_dSamet : Ct := fun A args => match args with
  | [.slc n 6 f, .slc m 6 g] => some (some (A.tp fun _ => (isRow eD D0 6 n f ∧ isRow eD D0 6 m g) ∧ n ≤ 1000000), .bool (A.tb fun _ => decide (lstOf eD D0 6 n f = lstOf eD D0 6 m g)))
  | _ => none
noncomputable def c_trSee : Ct := fun A args => match args with
  | [.slc n 1 f, .slc m 1 g, .agg [.int .u32 s, .str r]] => some (some (A.tp fun _ => (isRow eBs [] 1 n f ∧ isRow eBs [] 1 m g) ∧ n ≤ 1000000 ∧ m ≤ 1000000 ∧ (∀ i, ((lstOf eBs [] 1 n f).getD i []).length ≤ 10000) ∧ ∀ i, ((lstOf eBs [] 1 m g).getD i []).length ≤ 10000), siA A s r (fun _ => lstOf eBs [] 1 n f) (fun _ => lstOf eBs [] 1 m g))
  | _ => none
noncomputable def c_trMay : Ct := fun A args => match args with
  | [.agg [.slc n 6 l, .int .i64 f, .int .i64 a, .int .i64 g, .int .i64 u], .int .i64 tries] => some (some (A.tp fun _ => isRow eD D0 6 n l ∧ n ≤ 1000000), .bool (A.tb fun _ => mayS (lstOf eD D0 6 n l) f a g tries))
  | _ => none
noncomputable def c_siSame : Ct := fun A args => match args with
  | [.agg [.slc n 6 l, .int .i64 f, .int .i64 a, .int .i64 g, .int .i64 u], .agg [.slc m 6 q, .int .i64 f', .int .i64 a', .int .i64 g', .int .i64 u']] => some (some (A.tp fun _ => (isRow eD D0 6 n l ∧ isRow eD D0 6 m q) ∧ n ≤ 1000000), .bool (A.tb fun _ => decide (lstOf eD D0 6 n l = lstOf eD D0 6 m q ∧ f = f' ∧ a = a' ∧ g = g' ∧ u = u')))
  | _ => none
noncomputable def c_trShort : Ct := fun A args => match args with
  | [.agg [.int .u32 s, .str r]] => some (none, .bool (A.tb fun _ => decide (r.length ≤ 300)))
  | _ => none
noncomputable def gU5 : Ar → Pu := addC 26 c_tLettert (addC 39 c_kOft (addC 18 c_dShortt (addC 24 c_lookst (addC 37 c_trSee (addC 38 c_trMay (addC 40 c_siSame (addC 36 c_trShort (noC))))))))
theorem gU5_ok : PuOk Tryz.prog gl0 (gU5 std) := by
  refine addC_ok (addC_ok (addC_ok (addC_ok (addC_ok (addC_ok (addC_ok (addC_ok (noC_ok) ⟨_, Tryz.func36, rfl, by decide⟩ ?_) ⟨_, Tryz.func40, rfl, by decide⟩ ?_) ⟨_, Tryz.func38, rfl, by decide⟩ ?_) ⟨_, Tryz.func37, rfl, by decide⟩ ?_) ⟨_, Tryz.func24, rfl, by decide⟩ ?_) ⟨_, Tryz.func18, rfl, by decide⟩ ?_) ⟨_, Tryz.func39, rfl, by decide⟩ ?_) ⟨_, Tryz.func26, rfl, by decide⟩ ?_
  · intro args p r h hp
    unfold c_trShort at h
    split at h <;> cases h
    exact good_trShort _ _
  · intro args p r h hp
    unfold c_siSame at h
    split at h <;> cases h
    exact good_sv (good_siSame _ _ _ _ _ _ _ _ _ _ (by rw [lstOf_length hp.1.1]; exact hp.2)) ⟨⟨_, rfl, hp.1.1.sv, rfl, rfl, rfl, rfl, trivial⟩, ⟨_, rfl, hp.1.2.sv, rfl, rfl, rfl, rfl, trivial⟩, trivial⟩
  · intro args p r h hp
    unfold c_trMay at h
    split at h <;> cases h
    exact good_sv (good_trMay _ _ _ _ _ _ (by rw [lstOf_length hp.1]; exact hp.2)) ⟨⟨_, rfl, hp.1.sv, rfl, rfl, rfl, rfl, trivial⟩, rfl, trivial⟩
  · intro args p r h hp
    unfold c_trSee at h
    split at h <;> cases h
    exact good_sv (good_trSee _ _ _ _ (by rw [lstOf_length hp.1.1]; exact hp.2.1) (by rw [lstOf_length hp.1.2]; exact hp.2.2.1) hp.2.2.2.1 hp.2.2.2.2) ⟨hp.1.1.sv, hp.1.2.sv, ⟨_, rfl, rfl, rfl, trivial⟩, trivial⟩
  · intro args p r h hp
    unfold c_lookst at h
    split at h <;> cases h
    exact good_sv (good_looks _) ⟨hp.sv, trivial⟩
  · intro args p r h hp
    unfold c_dShortt at h
    split at h <;> cases h
    exact good_dShort _ _ _ _ _ _
  · intro args p r h hp
    unfold c_kOft at h
    split at h <;> cases h
    exact good_kOf _ _ _ _ _ _
  · intro args p r h hp
    unfold c_tLettert at h
    split at h <;> cases h
    exact good_tLetter _ _ _ _ _ _ hp.1 hp.2.1 hp.2.2.1 hp.2.2.2.1 hp.2.2.2.2
def twR : List UInt8 := [82, 82, 78, 48, 48, 48, 48, 48, 48, 48, 48, 49]
theorem twA_R : dR 2 0 1 [] [82, 82, 78, 48, 48, 48, 48, 48, 48, 48, 48, 49] [48, 48] = true := by decide +kernel
theorem twB_R : dR 2 0 1 [] [82, 82, 78, 48, 48, 48, 48, 48, 48, 48, 48, 49] [54, 56] = true := by decide +kernel
theorem twI_R : dR 1 0 1 [49, 56] [82, 82, 78, 48, 48, 48, 48, 48, 48, 48, 48, 49] [] = true := by decide +kernel
def twA : List UInt8 := ltB 2 0 1 [] [82, 82, 78, 48, 48, 48, 48, 48, 48, 48, 48, 49] [48, 48]
def twB : List UInt8 := ltB 2 0 1 [] [82, 82, 78, 48, 48, 48, 48, 48, 48, 48, 48, 49] [54, 56]
def twI : List UInt8 := ltB 1 0 1 [49, 56] [82, 82, 78, 48, 48, 48, 48, 48, 48, 48, 48, 49] []
theorem twA_f : ltB 2 0 1 [] [82, 82, 78, 48, 48, 48, 48, 48, 48, 48, 48, 49] [48, 48] = twA := rfl
theorem twB_f : ltB 2 0 1 [] [82, 82, 78, 48, 48, 48, 48, 48, 48, 48, 48, 49] [54, 56] = twB := rfl
theorem twI_f : ltB 1 0 1 [49, 56] [82, 82, 78, 48, 48, 48, 48, 48, 48, 48, 48, 49] [] = twI := rfl
theorem twA_E : ltE 2 0 1 [] [82, 82, 78, 48, 48, 48, 48, 48, 48, 48, 48, 49] [48, 48] = 0 := if_pos twA_R
theorem twB_E : ltE 2 0 1 [] [82, 82, 78, 48, 48, 48, 48, 48, 48, 48, 48, 49] [54, 56] = 0 := if_pos twB_R
theorem twI_E : ltE 1 0 1 [49, 56] [82, 82, 78, 48, 48, 48, 48, 48, 48, 48, 48, 49] [] = 0 := if_pos twI_R
theorem twA_op : opE twA = 0 ∧ opD twA = ⟨2, [], 0, 1, twR, [48, 48]⟩ := op_back twA_R (by decide) (by decide)
theorem twB_op : opE twB = 0 ∧ opD twB = ⟨2, [], 0, 1, twR, [54, 56]⟩ := op_back twB_R (by decide) (by decide)
theorem twI_op : opE twI = 0 ∧ opD twI = ⟨1, [49, 56], 0, 1, twR, []⟩ := op_back twI_R (by decide) (by decide)
theorem twA_len : twA.length ≤ 10000 := Nat.le_trans (lt_len _ _ _ _ _ _ (by decide) (by decide)) (by decide)
theorem twB_len : twB.length ≤ 10000 := Nat.le_trans (lt_len _ _ _ _ _ _ (by decide) (by decide)) (by decide)
theorem twI_len : twI.length ≤ 10000 := Nat.le_trans (lt_len _ _ _ _ _ _ (by decide) (by decide)) (by decide)
theorem trD_cons {B : List UInt8} {Ls : List (List UInt8)} (h : opE B = 0) : trD (B :: Ls) = opD B :: trD Ls := by
  unfold trD
  rw [List.filter_cons, if_pos (show fOp B = true by simp [fOp, h])]
  rfl
theorem trD_nil : trD [] = [] := rfl
theorem trL_aa : trL 1 twR [twA, twA] = [⟨2, [], 0, 1, twR, [48, 48]⟩, ⟨2, [], 0, 1, twR, [48, 48]⟩] := by
  unfold trL
  rw [trD_cons twA_op.1, trD_cons twA_op.1, trD_nil, twA_op.2]
  decide
theorem trL_ab : trL 1 twR [twA, twB] = [⟨2, [], 0, 1, twR, [48, 48]⟩, ⟨2, [], 0, 1, twR, [54, 56]⟩] := by
  unfold trL
  rw [trD_cons twA_op.1, trD_cons twB_op.1, trD_nil, twA_op.2, twB_op.2]
  decide
theorem trL_a2 : trL 2 twR [twA] = [] := by
  unfold trL
  rw [trD_cons twA_op.1, trD_nil, twA_op.2]
  decide
theorem trL_i : trL 1 twR [twI] = [⟨1, [49, 56], 0, 1, twR, []⟩] := by
  unfold trL
  rw [trD_cons twI_op.1, trD_nil, twI_op.2]
  decide
theorem trL_0 (s : Int) (r : List UInt8) : trL s r [] = [] := rfl
theorem tw_r2 (X Y : List UInt8) : Reps eBs [] 1 2 (lstS [[SV.slc X.length 1 (rowF eB 0 std fun _ => X)], [SV.slc Y.length 1 (rowF eB 0 std fun _ => Y)]]) [X, Y] :=
  Reps.lst (l := [[_], [_]]) (L := [X, Y]) ⟨cell_eBs (Reps.lit X), cell_eBs (Reps.lit Y), trivial⟩
theorem tw_r1 (X : List UInt8) : Reps eBs [] 1 1 (lstS [[SV.slc X.length 1 (rowF eB 0 std fun _ => X)]]) [X] := Reps.one (cell_eBs (Reps.lit X))
theorem tw_f : twR = [82, 82, 78, 48, 48, 48, 48, 48, 48, 48, 48, 49] := rfl
theorem tw_ok {Ls : List (List UInt8)} (h : ∀ b, b ∈ Ls → b.length ≤ 10000) (i : Nat) : (Ls.getD i []).length ≤ 10000 := by
  rcases Nat.lt_or_ge i Ls.length with q | q
  · rw [List.getD_eq_getElem?_getD, List.getElem?_eq_getElem q]; exact h _ (List.getElem_mem q)
  · rw [List.getD_eq_getElem?_getD, List.getElem?_eq_none q]; exact Nat.zero_le _
theorem tw_may1 : mayS ([⟨2, [], 0, 1, twR, [48, 48]⟩, ⟨2, [], 0, 1, twR, [48, 48]⟩].filter fA2) ((cnt [⟨1, [49, 56], 0, 1, twR, []⟩] 1 : Nat) : Int) ((cnt [⟨1, [49, 56], 0, 1, twR, []⟩] 5 : Nat) : Int) ((cnt [⟨1, [49, 56], 0, 1, twR, []⟩] 6 : Nat) : Int) 0 = true := by decide
theorem tw_may2 : mayS ([⟨2, [], 0, 1, twR, [48, 48]⟩, ⟨2, [], 0, 1, twR, [54, 56]⟩].filter fA2) ((cnt [⟨1, [49, 56], 0, 1, twR, []⟩] 1 : Nat) : Int) ((cnt [⟨1, [49, 56], 0, 1, twR, []⟩] 5 : Nat) : Int) ((cnt [⟨1, [49, 56], 0, 1, twR, []⟩] 6 : Nat) : Int) 0 = false := by decide
theorem tw_b1 {X : List UInt8} (h : X.length ≤ 10000) : ∀ b, b ∈ [X] → b.length ≤ 10000 := fun b hb => by rw [List.mem_singleton.1 hb]; exact h
theorem tw_b2 {X Y : List UInt8} (h : X.length ≤ 10000) (g : Y.length ≤ 10000) : ∀ b, b ∈ [X, Y] → b.length ≤ 10000 := fun b hb => by
  rcases List.mem_cons.1 hb with e | e
  · rw [e]; exact h
  · exact tw_b1 g b e
theorem good_trAwake  : GoodP Tryz.prog gl0 35 [] (.bool true) := by
  refine fn_sound' (T := seatT) (G := gU5) (X := noX) seatT_ok gU5_ok noX_ok noI_ok mixed Tryz.func35 (.one) (fun A => []) (fun A => .bool true) fun A hA => ?_
  cbv
  repeat' (first | with_reducible exact True.intro | with_reducible exact dr_ok hA (by kernel_rfl) | with_reducible refine And.intro ?_ ?_ | (intro hc; cbv))
  all_goals (subst hA; simp only [std_add, std_sub, std_mul, std_quo, std_rem, std_band, std_bor, std_bxor, std_shl, std_shr, std_eq, std_ne, std_lt, std_le, std_conv, std_not, std_beq, std_bne, std_ite, std_want, std_and2, std_sadd, std_seq, std_sne, std_slt, std_sle, std_sgt, std_sge, std_slen, std_sget, std_scut, std_ofNat, std_toNat, std_nsub, std_nadd, std_lenOf, std_nz, std_nneg, std_inb, std_upto, std_slt63, std_grow, std_imp, std_impN, std_tr, std_tb, std_ti, std_ts, std_tn, std_tp, std_nmin, std_makes, std_room, std_zeros, std_nilq, std_notq, std_eqi, std_eqn, std_eqb, std_eqs, std_eqv, std_cat, std_lst, std_rset, std_rcopy, std_shift, std_eqr, std_strOf, std_bytesOf, std_isB, std_zOf, zOf_int, std_isI, isI_int, std_getL, std_nmul, std_sOf, sOf_str, std_isS, isS_str, std_fadd, std_fsub, std_fav, std_fsv, std_feq, std_fne, std_flt, std_fle, std_fgt, std_fge, std_fOf, std_fTo, std_fTv, strOf_lit, lstOf_lit inj_eB, lstOf_lit inj_eZ, lstOf_lit inj_eBs, lstOf_lit inj_eS, lstOf_nil inj_eBs, lstOf_eq inj_eBs (tw_r2 _ _), lstOf_eq inj_eBs (tw_r1 _), twA_f, twB_f, twI_f, twA_E, twB_E, twI_E] at *)
  all_goals (try simp only [← tw_f, trL_aa, trL_ab, trL_a2, trL_i, trL_0, lstOf_U, isRow_U, tw_may1, tw_may2] at *)
  all_goals first
    | done
    | decide
    | exact ⟨⟨⟨_, tw_r2 _ _⟩, ⟨_, tw_r1 _⟩⟩, by decide, by decide, tw_ok (tw_b2 twA_len twA_len), tw_ok (tw_b1 twI_len)⟩
    | exact ⟨⟨⟨_, tw_r2 _ _⟩, ⟨_, tw_r1 _⟩⟩, by decide, by decide, tw_ok (tw_b2 twA_len twB_len), tw_ok (tw_b1 twI_len)⟩
    | exact fun h => ⟨⟨h, h⟩, ⟨⟨_, tw_r1 _⟩, isRow_nil⟩, by decide, by decide, tw_ok (tw_b1 twA_len), tw_ok (fun b hb => by simp at hb)⟩
    | (exfalso; revert hc; decide)
    | (exfalso; rename_i q; revert q; decide)
    | trace_state
end Go.Vd

