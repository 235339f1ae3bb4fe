/- Shards: the reference's functions on rows of entries. -/
import Derived.Test.YtjgfkbmplgiinaaGreatDoorVdS9
set_option linter.unusedVariables false
set_option linter.unusedSimpArgs false
set_option maxRecDepth 100000
set_option maxHeartbeats 8000000
namespace Go.Vd
open Go.Proofs
theorem ord_m1 {s t : Int} {r q : List UInt8} : ordK s r t q < 0 ↔ ordK s r t q = -1 := by
  rw [ordK_eq]
  split
  · simp
  · split <;> simp
def enT (e : Ent) : Prop := e.r.length ≤ 1000000 ∧ e.pan.length ≤ 100000 ∧ e.code.length ≤ 1000000
attribute [local irreducible] vc
theorem good_rRightE (L : List Ent) (hL : L.length ≤ 1000000) (hS : ∀ i, enT (L.getD i E0)) : GoodP Tryz.prog gl0 27 [rowS eE E0 8 std fun _ => L] (.bool (std.tb fun _ => shR L)) := by
  refine fn_sound' (T := seatT) (G := gt3) (X := noX) seatT_ok gt3_ok noX_ok noI_ok mixed Tryz.func27 (.one) (fun A => [rowS eE E0 8 A fun _ => L]) (fun A => .bool (A.tb fun _ => shR L)) fun A hA => ?_
  cbv
  repeat' (first | with_reducible exact True.intro | with_reducible exact dr_ok hA (by kernel_rfl) | with_reducible refine And.intro ?_ ?_ | (intro hc; cbv))
  refine ⟨⟨{i : Nat // i ≤ L.length ∧ ∀ j, j < i → eR (L.getD j E0) = true ∧ (0 < j → ordE (L.getD (j - 1) E0) (L.getD j E0) < 0)}, fun b i => [(3, .int .i64 (i.1 : Nat))], fun b i => [], fun i => L.length - i.1, true⟩, ⟨⟨0, by omega, by simp⟩, ?_⟩, ?_⟩
  · cbv
    subst hA
    simp [-List.getD_eq_getElem?_getD, std_add, std_sub, std_mul, std_quo, std_rem, std_band, std_bor, std_bxor, std_shl, std_shr, std_eq, std_ne, std_lt, std_le, std_conv, std_not, std_beq, std_bne, std_ite, std_want, std_and2, std_sadd, std_seq, std_sne, std_slt, std_sle, std_sgt, std_sge, std_slen, std_sget, std_scut, std_ofNat, std_toNat, std_nsub, std_nadd, std_lenOf, std_nz, std_nneg, std_inb, std_upto, std_slt63, std_grow, std_imp, std_impN, std_tr, std_tb, std_ti, std_ts, std_tn, std_tp, std_nmin, std_nset, std_fset, std_makes, std_room, std_zeros, std_nilq, std_notq, std_eqi, std_eqn, std_eqb, std_eqs, std_eqv, std_cat, std_lst, std_rset, std_rcopy, std_shift, std_eqr, std_strOf, std_bytesOf, std_isB, std_zOf, zOf_int, std_isI, isI_int, std_getL, std_nmul, std_sOf, sOf_str, std_isS, isS_str, std_fadd, std_fsub, std_fav, std_fsv, std_feq, std_fne, std_flt, std_fle, std_fgt, std_fge, std_fOf, std_fTo, std_fTv]
  · rintro ⟨i, hx⟩
    have hi := hx.1
    have hz := hx.2
    have hSi := hS i
    obtain ⟨e, he⟩ : ∃ e, e = L.getD i E0 := ⟨_, rfl⟩
    obtain ⟨q, hq⟩ : ∃ q, q = L.getD (i - 1) E0 := ⟨_, rfl⟩
    have hg : L.getD i { s := 0, r := [], st := 0, pan := [], am := 0, code := [], tr := 0, ca := 0 } = e := he.symm
    have hw : IntKind.i64.wrap ((i : Int) - 1) = (i : Int) - 1 := w64 (by omega)
    have hg2 : L.getD ((i : Int) - 1).toNat { s := 0, r := [], st := 0, pan := [], am := 0, code := [], tr := 0, ca := 0 } = q := by
      rw [hq, show ((i : Int) - 1).toNat = i - 1 by omega]; rfl
    have hg3 : L.getD (i - 1) { s := 0, r := [], st := 0, pan := [], am := 0, code := [], tr := 0, ca := 0 } = q := hq.symm
    have hno := shR_no (L := L) (j := i)
    rw [← he] at hSi hno
    rw [← hq] at hno
    have hSi' : (e.r.length ≤ 1000000 ∧ e.pan.length ≤ 100000) ∧ e.code.length ≤ 1000000 := ⟨⟨hSi.1, hSi.2.1⟩, hSi.2.2⟩
    have hm : ordE q e < 0 ↔ ordK q.s q.r e.s e.r = -1 := ord_m1
    rcases Nat.lt_or_ge i L.length with hlt | hge
    · have hno2 := hno hlt
      rw [hm] at hno2
      clear hno
      cbv
      repeat' (first | with_reducible exact True.intro | with_reducible exact dr_ok hA (by kernel_rfl) | with_reducible refine And.intro ?_ ?_ | (intro hc; cbv))
      all_goals first
        | (fail_if_success (refine Exists.intro ?_ ?_)
           clear hz hm
           subst hA
           simp [-List.getD_eq_getElem?_getD, std_add, std_sub, std_mul, std_quo, std_rem, std_band, std_bor, std_bxor, std_shl, std_shr, std_eq, std_ne, std_lt, std_le, std_conv, std_not, std_beq, std_bne, std_ite, std_want, std_and2, std_sadd, std_seq, std_sne, std_slt, std_sle, std_sgt, std_sge, std_slen, std_sget, std_scut, std_ofNat, std_toNat, std_nsub, std_nadd, std_lenOf, std_nz, std_nneg, std_inb, std_upto, std_slt63, std_grow, std_imp, std_impN, std_tr, std_tb, std_ti, std_ts, std_tn, std_tp, std_nmin, std_nset, std_fset, std_makes, std_room, std_zeros, std_nilq, std_notq, std_eqi, std_eqn, std_eqb, std_eqs, std_eqv, std_cat, std_lst, std_rset, std_rcopy, std_shift, std_eqr, std_strOf, std_bytesOf, std_isB, std_zOf, zOf_int, std_isI, isI_int, std_getL, std_nmul, std_sOf, sOf_str, std_isS, isS_str, std_fadd, std_fsub, std_fav, std_fsv, std_feq, std_fne, std_flt, std_fle, std_fgt, std_fge, std_fOf, std_fTo, std_fTv, hg, hg2, hg3, hw] at *
           first
             | done
             | omega
             | exact hSi
             | exact hSi'
             | (intros; omega)
             | (intro h1 h2; exact ⟨⟨h1, h2⟩, (show (1 : Int) ≤ ((i : Nat) : Int) by omega), (show ((i : Nat) : Int) - 1 < ((L.length : Nat) : Int) by omega)⟩)
             | (intro h1 h2; exact ⟨⟨h1, h2⟩, hlt⟩)
             | (intro h1; exact ⟨h1, fun h2 => ⟨h1, h2⟩⟩)
             | exact hno2 (by rcases hc with h | h; exact .inl h; exact .inr h)
             | exact hno2 hc
             | trace_state)
        | (obtain ⟨i', hi'⟩ : ∃ i', i' = i + 1 := ⟨_, rfl⟩
           have hst : eR e = true ∧ (0 < i → ordE q e < 0) := by
             rw [hm]
             clear hm hno2 hz
             subst hA
             simp [-List.getD_eq_getElem?_getD, std_add, std_sub, std_mul, std_quo, std_rem, std_band, std_bor, std_bxor, std_shl, std_shr, std_eq, std_ne, std_lt, std_le, std_conv, std_not, std_beq, std_bne, std_ite, std_want, std_and2, std_sadd, std_seq, std_sne, std_slt, std_sle, std_sgt, std_sge, std_slen, std_sget, std_scut, std_ofNat, std_toNat, std_nsub, std_nadd, std_lenOf, std_nz, std_nneg, std_inb, std_upto, std_slt63, std_grow, std_imp, std_impN, std_tr, std_tb, std_ti, std_ts, std_tn, std_tp, std_nmin, std_nset, std_fset, std_makes, std_room, std_zeros, std_nilq, std_notq, std_eqi, std_eqn, std_eqb, std_eqs, std_eqv, std_cat, std_lst, std_rset, std_rcopy, std_shift, std_eqr, std_strOf, std_bytesOf, std_isB, std_zOf, zOf_int, std_isI, isI_int, std_getL, std_nmul, std_sOf, sOf_str, std_isS, isS_str, std_fadd, std_fsub, std_fav, std_fsv, std_feq, std_fne, std_flt, std_fle, std_fgt, std_fge, std_fOf, std_fTo, std_fTv, hg, hg2, hg3, hw] at hc
             exact ⟨hc.1, hc.2⟩
           refine ⟨⟨i', by omega, fun j hj => ?_⟩, ?_, show L.length - i' < L.length - i by omega⟩
           · rcases Nat.lt_or_ge j i with h | h
             · exact hz j h
             · obtain rfl : j = i := by omega
               rw [← he, ← hq]; exact hst
           · cbv
             subst hA
             simp [-List.getD_eq_getElem?_getD, std_add, std_sub, std_mul, std_quo, std_rem, std_band, std_bor, std_bxor, std_shl, std_shr, std_eq, std_ne, std_lt, std_le, std_conv, std_not, std_beq, std_bne, std_ite, std_want, std_and2, std_sadd, std_seq, std_sne, std_slt, std_sle, std_sgt, std_sge, std_slen, std_sget, std_scut, std_ofNat, std_toNat, std_nsub, std_nadd, std_lenOf, std_nz, std_nneg, std_inb, std_upto, std_slt63, std_grow, std_imp, std_impN, std_tr, std_tb, std_ti, std_ts, std_tn, std_tp, std_nmin, std_nset, std_fset, std_makes, std_room, std_zeros, std_nilq, std_notq, std_eqi, std_eqn, std_eqb, std_eqs, std_eqv, std_cat, std_lst, std_rset, std_rcopy, std_shift, std_eqr, std_strOf, std_bytesOf, std_isB, std_zOf, zOf_int, std_isI, isI_int, std_getL, std_nmul, std_sOf, sOf_str, std_isS, isS_str, std_fadd, std_fsub, std_fav, std_fsv, std_feq, std_fne, std_flt, std_fle, std_fgt, std_fge, std_fOf, std_fTo, std_fTv]
             exact w_succ' hi' (by omega))
        | trace_state
    · have hie : i = L.length := by omega
      have hall : shR L = decide (L.length ≤ 128) := by
        by_cases hl : L.length ≤ 128
        · rw [shR_yes hl fun j hj => hz j (by omega), decide_eq_true hl]
        · rw [shR_big hl, decide_eq_false hl]
      cbv
      repeat' (first | with_reducible exact True.intro | with_reducible exact dr_ok hA (by kernel_rfl) | with_reducible refine And.intro ?_ ?_ | (intro hc; cbv))
      all_goals first
        | (exfalso; clear hz hm hno; subst hA; simp [-List.getD_eq_getElem?_getD, std_add, std_sub, std_mul, std_quo, std_rem, std_band, std_bor, std_bxor, std_shl, std_shr, std_eq, std_ne, std_lt, std_le, std_conv, std_not, std_beq, std_bne, std_ite, std_want, std_and2, std_sadd, std_seq, std_sne, std_slt, std_sle, std_sgt, std_sge, std_slen, std_sget, std_scut, std_ofNat, std_toNat, std_nsub, std_nadd, std_lenOf, std_nz, std_nneg, std_inb, std_upto, std_slt63, std_grow, std_imp, std_impN, std_tr, std_tb, std_ti, std_ts, std_tn, std_tp, std_nmin, std_nset, std_fset, std_makes, std_room, std_zeros, std_nilq, std_notq, std_eqi, std_eqn, std_eqb, std_eqs, std_eqv, std_cat, std_lst, std_rset, std_rcopy, std_shift, std_eqr, std_strOf, std_bytesOf, std_isB, std_zOf, zOf_int, std_isI, isI_int, std_getL, std_nmul, std_sOf, sOf_str, std_isS, isS_str, std_fadd, std_fsub, std_fav, std_fsv, std_feq, std_fne, std_flt, std_fle, std_fgt, std_fge, std_fOf, std_fTo, std_fTv] at hc; omega)
        | (exfalso; clear hz hm hno; subst hA; rename_i q; simp [-List.getD_eq_getElem?_getD, std_add, std_sub, std_mul, std_quo, std_rem, std_band, std_bor, std_bxor, std_shl, std_shr, std_eq, std_ne, std_lt, std_le, std_conv, std_not, std_beq, std_bne, std_ite, std_want, std_and2, std_sadd, std_seq, std_sne, std_slt, std_sle, std_sgt, std_sge, std_slen, std_sget, std_scut, std_ofNat, std_toNat, std_nsub, std_nadd, std_lenOf, std_nz, std_nneg, std_inb, std_upto, std_slt63, std_grow, std_imp, std_impN, std_tr, std_tb, std_ti, std_ts, std_tn, std_tp, std_nmin, std_nset, std_fset, std_makes, std_room, std_zeros, std_nilq, std_notq, std_eqi, std_eqn, std_eqb, std_eqs, std_eqv, std_cat, std_lst, std_rset, std_rcopy, std_shift, std_eqr, std_strOf, std_bytesOf, std_isB, std_zOf, zOf_int, std_isI, isI_int, std_getL, std_nmul, std_sOf, sOf_str, std_isS, isS_str, std_fadd, std_fsub, std_fav, std_fsv, std_feq, std_fne, std_flt, std_fle, std_fgt, std_fge, std_fOf, std_fTo, std_fTv] at q; omega)
        | (clear hz hm hno
           subst hA
           simp [-List.getD_eq_getElem?_getD, std_add, std_sub, std_mul, std_quo, std_rem, std_band, std_bor, std_bxor, std_shl, std_shr, std_eq, std_ne, std_lt, std_le, std_conv, std_not, std_beq, std_bne, std_ite, std_want, std_and2, std_sadd, std_seq, std_sne, std_slt, std_sle, std_sgt, std_sge, std_slen, std_sget, std_scut, std_ofNat, std_toNat, std_nsub, std_nadd, std_lenOf, std_nz, std_nneg, std_inb, std_upto, std_slt63, std_grow, std_imp, std_impN, std_tr, std_tb, std_ti, std_ts, std_tn, std_tp, std_nmin, std_nset, std_fset, std_makes, std_room, std_zeros, std_nilq, std_notq, std_eqi, std_eqn, std_eqb, std_eqs, std_eqv, std_cat, std_lst, std_rset, std_rcopy, std_shift, std_eqr, std_strOf, std_bytesOf, std_isB, std_zOf, zOf_int, std_isI, isI_int, std_getL, std_nmul, std_sOf, sOf_str, std_isS, isS_str, std_fadd, std_fsub, std_fav, std_fsv, std_feq, std_fne, std_flt, std_fle, std_fgt, std_fge, std_fOf, std_fTo, std_fTv, hall] at *
           first
             | done
             | (rw [Bool.eq_iff_iff]; simp; omega)
             | omega
             | trace_state)
        | trace_state
noncomputable def c_rRightE : Ct := fun A args => match args with
  | [.slc n 8 f] => some (some (A.tp fun _ => isRow eE E0 8 n f ∧ n ≤ 1000000 ∧ ∀ i, enT ((lstOf eE E0 8 n f).getD i E0)), .bool (A.tb fun _ => shR (lstOf eE E0 8 n f)))
  | _ => none
/-- The place of a key's first entry. -/
def plc (L : List Ent) (s : Int) (r : List UInt8) : Int := if has L s r = true then (L.findIdx (kE s r) : Int) else -1
theorem plc_yes {L : List Ent} {s : Int} {r : List UInt8} {i : Nat} (hi : i < L.length) (h0 : ∀ j, j < i → kE s r (L.getD j E0) = false) (h : kE s r (L.getD i E0) = true) : plc L s r = (i : Int) := by
  unfold plc
  rw [if_pos (fnd_yes hi h0 h).2]
  congr 1
  rw [List.findIdx_eq hi]
  refine ⟨by rw [getD_get hi]; exact h, fun j hj => ?_⟩
  rw [getD_get (by omega)]
  exact h0 j hj
theorem plc_no {L : List Ent} {s : Int} {r : List UInt8} (h0 : ∀ j, j < L.length → kE s r (L.getD j E0) = false) : plc L s r = -1 := by
  unfold plc
  rw [if_neg (by rw [(fnd_no h0).2]; simp)]
theorem good_rPlace (L : List Ent) (s : Int) (r : List UInt8) (hL : L.length ≤ 1000000) : GoodP Tryz.prog gl0 14 [rowS eE E0 8 std fun _ => L, .agg [.int .u32 s, .str r]] (.int .i64 (std.ti fun _ => plc L s r)) := by
  refine fn_sound' (T := seatT) (G := noC) (X := noX) seatT_ok noC_ok noX_ok noI_ok mixed Tryz.func14 (.one) (fun A => [rowS eE E0 8 A fun _ => L, .agg [.int .u32 s, .str r]]) (fun A => .int .i64 (A.ti fun _ => plc L s r)) fun A hA => ?_
  cbv
  repeat' (first | with_reducible exact True.intro | with_reducible exact dr_ok hA (by kernel_rfl) | with_reducible refine And.intro ?_ ?_ | (intro hc; cbv))
  refine ⟨⟨{i : Nat // i ≤ L.length ∧ ∀ j, j < i → kE s r (L.getD j E0) = false}, fun b i => [(5, .int .i64 (i.1 : Nat))], fun b i => [], fun i => L.length - i.1, true⟩, ⟨⟨0, by omega, by simp⟩, ?_⟩, ?_⟩
  · cbv
    subst hA
    simp [-List.getD_eq_getElem?_getD, std_add, std_sub, std_mul, std_quo, std_rem, std_band, std_bor, std_bxor, std_shl, std_shr, std_eq, std_ne, std_lt, std_le, std_conv, std_not, std_beq, std_bne, std_ite, std_want, std_and2, std_sadd, std_seq, std_sne, std_slt, std_sle, std_sgt, std_sge, std_slen, std_sget, std_scut, std_ofNat, std_toNat, std_nsub, std_nadd, std_lenOf, std_nz, std_nneg, std_inb, std_upto, std_slt63, std_grow, std_imp, std_impN, std_tr, std_tb, std_ti, std_ts, std_tn, std_tp, std_nmin, std_nset, std_fset, std_makes, std_room, std_zeros, std_nilq, std_notq, std_eqi, std_eqn, std_eqb, std_eqs, std_eqv, std_cat, std_lst, std_rset, std_rcopy, std_shift, std_eqr, std_strOf, std_bytesOf, std_isB, std_zOf, zOf_int, std_isI, isI_int, std_getL, std_nmul, std_sOf, sOf_str, std_isS, isS_str, std_fadd, std_fsub, std_fav, std_fsv, std_feq, std_fne, std_flt, std_fle, std_fgt, std_fge, std_fOf, std_fTo, std_fTv]
  · rintro ⟨i, hx⟩
    have hi := hx.1
    have hz := hx.2
    obtain ⟨e, he⟩ : ∃ e, e = L.getD i E0 := ⟨_, rfl⟩
    have hg : L.getD i { s := 0, r := [], st := 0, pan := [], am := 0, code := [], tr := 0, ca := 0 } = e := he.symm
    rcases Nat.lt_or_ge i L.length with hlt | hge
    · have hyes := plc_yes (s := s) (r := r) hlt hz
      rw [← he] at hyes
      cbv
      repeat' (first | with_reducible exact True.intro | with_reducible exact dr_ok hA (by kernel_rfl) | with_reducible refine And.intro ?_ ?_ | (intro hc; cbv))
      all_goals first
        | (fail_if_success (refine Exists.intro ?_ ?_)
           clear hz
           subst hA
           simp [-List.getD_eq_getElem?_getD, std_add, std_sub, std_mul, std_quo, std_rem, std_band, std_bor, std_bxor, std_shl, std_shr, std_eq, std_ne, std_lt, std_le, std_conv, std_not, std_beq, std_bne, std_ite, std_want, std_and2, std_sadd, std_seq, std_sne, std_slt, std_sle, std_sgt, std_sge, std_slen, std_sget, std_scut, std_ofNat, std_toNat, std_nsub, std_nadd, std_lenOf, std_nz, std_nneg, std_inb, std_upto, std_slt63, std_grow, std_imp, std_impN, std_tr, std_tb, std_ti, std_ts, std_tn, std_tp, std_nmin, std_nset, std_fset, std_makes, std_room, std_zeros, std_nilq, std_notq, std_eqi, std_eqn, std_eqb, std_eqs, std_eqv, std_cat, std_lst, std_rset, std_rcopy, std_shift, std_eqr, std_strOf, std_bytesOf, std_isB, std_zOf, zOf_int, std_isI, isI_int, std_getL, std_nmul, std_sOf, sOf_str, std_isS, isS_str, std_fadd, std_fsub, std_fav, std_fsv, std_feq, std_fne, std_flt, std_fle, std_fgt, std_fge, std_fOf, std_fTo, std_fTv, hg] at *
           first
             | done
             | omega
             | exact ⟨(show (0 : Int) ≤ ((i : Nat) : Int) by omega), (show ((i : Nat) : Int) < ((L.length : Nat) : Int) by omega)⟩
             | exact (hyes (kE_iff.2 hc)).symm
             | trace_state)
        | (obtain ⟨i', hi'⟩ : ∃ i', i' = i + 1 := ⟨_, rfl⟩
           have hst : kE s r e = false := by
             clear hz hyes
             subst hA
             simp [-List.getD_eq_getElem?_getD, std_add, std_sub, std_mul, std_quo, std_rem, std_band, std_bor, std_bxor, std_shl, std_shr, std_eq, std_ne, std_lt, std_le, std_conv, std_not, std_beq, std_bne, std_ite, std_want, std_and2, std_sadd, std_seq, std_sne, std_slt, std_sle, std_sgt, std_sge, std_slen, std_sget, std_scut, std_ofNat, std_toNat, std_nsub, std_nadd, std_lenOf, std_nz, std_nneg, std_inb, std_upto, std_slt63, std_grow, std_imp, std_impN, std_tr, std_tb, std_ti, std_ts, std_tn, std_tp, std_nmin, std_nset, std_fset, std_makes, std_room, std_zeros, std_nilq, std_notq, std_eqi, std_eqn, std_eqb, std_eqs, std_eqv, std_cat, std_lst, std_rset, std_rcopy, std_shift, std_eqr, std_strOf, std_bytesOf, std_isB, std_zOf, zOf_int, std_isI, isI_int, std_getL, std_nmul, std_sOf, sOf_str, std_isS, isS_str, std_fadd, std_fsub, std_fav, std_fsv, std_feq, std_fne, std_flt, std_fle, std_fgt, std_fge, std_fOf, std_fTo, std_fTv, hg] at hc
             exact kE_no fun h => hc h.1 h.2
           refine ⟨⟨i', by omega, fun j hj => ?_⟩, ?_, show L.length - i' < L.length - i by omega⟩
           · rcases Nat.lt_or_ge j i with h | h
             · exact hz j h
             · obtain rfl : j = i := by omega
               rw [← he]; exact hst
           · cbv
             subst hA
             simp [-List.getD_eq_getElem?_getD, std_add, std_sub, std_mul, std_quo, std_rem, std_band, std_bor, std_bxor, std_shl, std_shr, std_eq, std_ne, std_lt, std_le, std_conv, std_not, std_beq, std_bne, std_ite, std_want, std_and2, std_sadd, std_seq, std_sne, std_slt, std_sle, std_sgt, std_sge, std_slen, std_sget, std_scut, std_ofNat, std_toNat, std_nsub, std_nadd, std_lenOf, std_nz, std_nneg, std_inb, std_upto, std_slt63, std_grow, std_imp, std_impN, std_tr, std_tb, std_ti, std_ts, std_tn, std_tp, std_nmin, std_nset, std_fset, std_makes, std_room, std_zeros, std_nilq, std_notq, std_eqi, std_eqn, std_eqb, std_eqs, std_eqv, std_cat, std_lst, std_rset, std_rcopy, std_shift, std_eqr, std_strOf, std_bytesOf, std_isB, std_zOf, zOf_int, std_isI, isI_int, std_getL, std_nmul, std_sOf, sOf_str, std_isS, isS_str, std_fadd, std_fsub, std_fav, std_fsv, std_feq, std_fne, std_flt, std_fle, std_fgt, std_fge, std_fOf, std_fTo, std_fTv]
             exact w_succ' hi' (by omega))
        | trace_state
    · have hie : i = L.length := by omega
      have hall := plc_no (L := L) (s := s) (r := r) fun j hj => hz j (by omega)
      cbv
      repeat' (first | with_reducible exact True.intro | with_reducible exact dr_ok hA (by kernel_rfl) | with_reducible refine And.intro ?_ ?_ | (intro hc; cbv))
      all_goals first
        | (exfalso; clear hz; subst hA; simp [-List.getD_eq_getElem?_getD, std_add, std_sub, std_mul, std_quo, std_rem, std_band, std_bor, std_bxor, std_shl, std_shr, std_eq, std_ne, std_lt, std_le, std_conv, std_not, std_beq, std_bne, std_ite, std_want, std_and2, std_sadd, std_seq, std_sne, std_slt, std_sle, std_sgt, std_sge, std_slen, std_sget, std_scut, std_ofNat, std_toNat, std_nsub, std_nadd, std_lenOf, std_nz, std_nneg, std_inb, std_upto, std_slt63, std_grow, std_imp, std_impN, std_tr, std_tb, std_ti, std_ts, std_tn, std_tp, std_nmin, std_nset, std_fset, std_makes, std_room, std_zeros, std_nilq, std_notq, std_eqi, std_eqn, std_eqb, std_eqs, std_eqv, std_cat, std_lst, std_rset, std_rcopy, std_shift, std_eqr, std_strOf, std_bytesOf, std_isB, std_zOf, zOf_int, std_isI, isI_int, std_getL, std_nmul, std_sOf, sOf_str, std_isS, isS_str, std_fadd, std_fsub, std_fav, std_fsv, std_feq, std_fne, std_flt, std_fle, std_fgt, std_fge, std_fOf, std_fTo, std_fTv] at hc; omega)
        | (exfalso; clear hz; subst hA; rename_i q; simp [-List.getD_eq_getElem?_getD, std_add, std_sub, std_mul, std_quo, std_rem, std_band, std_bor, std_bxor, std_shl, std_shr, std_eq, std_ne, std_lt, std_le, std_conv, std_not, std_beq, std_bne, std_ite, std_want, std_and2, std_sadd, std_seq, std_sne, std_slt, std_sle, std_sgt, std_sge, std_slen, std_sget, std_scut, std_ofNat, std_toNat, std_nsub, std_nadd, std_lenOf, std_nz, std_nneg, std_inb, std_upto, std_slt63, std_grow, std_imp, std_impN, std_tr, std_tb, std_ti, std_ts, std_tn, std_tp, std_nmin, std_nset, std_fset, std_makes, std_room, std_zeros, std_nilq, std_notq, std_eqi, std_eqn, std_eqb, std_eqs, std_eqv, std_cat, std_lst, std_rset, std_rcopy, std_shift, std_eqr, std_strOf, std_bytesOf, std_isB, std_zOf, zOf_int, std_isI, isI_int, std_getL, std_nmul, std_sOf, sOf_str, std_isS, isS_str, std_fadd, std_fsub, std_fav, std_fsv, std_feq, std_fne, std_flt, std_fle, std_fgt, std_fge, std_fOf, std_fTo, std_fTv] at q; omega)
        | (clear hz
           subst hA
           simp [-List.getD_eq_getElem?_getD, std_add, std_sub, std_mul, std_quo, std_rem, std_band, std_bor, std_bxor, std_shl, std_shr, std_eq, std_ne, std_lt, std_le, std_conv, std_not, std_beq, std_bne, std_ite, std_want, std_and2, std_sadd, std_seq, std_sne, std_slt, std_sle, std_sgt, std_sge, std_slen, std_sget, std_scut, std_ofNat, std_toNat, std_nsub, std_nadd, std_lenOf, std_nz, std_nneg, std_inb, std_upto, std_slt63, std_grow, std_imp, std_impN, std_tr, std_tb, std_ti, std_ts, std_tn, std_tp, std_nmin, std_nset, std_fset, std_makes, std_room, std_zeros, std_nilq, std_notq, std_eqi, std_eqn, std_eqb, std_eqs, std_eqv, std_cat, std_lst, std_rset, std_rcopy, std_shift, std_eqr, std_strOf, std_bytesOf, std_isB, std_zOf, zOf_int, std_isI, isI_int, std_getL, std_nmul, std_sOf, sOf_str, std_isS, isS_str, std_fadd, std_fsub, std_fav, std_fsv, std_feq, std_fne, std_flt, std_fle, std_fgt, std_fge, std_fOf, std_fTo, std_fTv, hall] at *)
        | trace_state
noncomputable def c_rPlace : Ct := fun A args => match args with
  | [.slc n 8 f, .agg [.int .u32 s, .str r]] => some (some (A.tp fun _ => isRow eE E0 8 n f ∧ n ≤ 1000000), .int .i64 (A.ti fun _ => plc (lstOf eE E0 8 n f) s r))
  | _ => none
noncomputable def gt4 : Ar → Pu := addC 27 c_rRightE (addC 14 c_rPlace (gt3))
theorem gt4_ok : PuOk Tryz.prog gl0 (gt4 std) := by
  refine addC_ok (addC_ok (gt3_ok) ⟨_, Tryz.func14, rfl, by decide⟩ ?_) ⟨_, Tryz.func27, rfl, by decide⟩ ?_
  · intro args p r h hp
    unfold c_rPlace at h
    split at h <;> cases h
    exact good_sv (good_rPlace _ _ _ (by rw [lstOf_length hp.1]; exact hp.2)) ⟨hp.1.sv, ⟨_, rfl, rfl, rfl, trivial⟩, trivial⟩
  · intro args p r h hp
    unfold c_rRightE at h
    split at h <;> cases h
    exact good_sv (good_rRightE _ (by rw [lstOf_length hp.1]; exact hp.2.1) hp.2.2) ⟨hp.1.sv, trivial⟩
end Go.Vd

set_option linter.unusedVariables false
set_option linter.unusedSimpArgs false
set_option maxRecDepth 100000
set_option maxHeartbeats 8000000
namespace Go.Vd
def putR (e : Ent) : List Ent → Bool → List Ent
  | [], d => if d = true then [] else [e]
  | x :: L, d => (if ordE e x ≤ 0 ∧ d = false then [e] else []) ++ ((if ordE e x = 0 then [] else [x]) ++ putR e L (d || decide (ordE e x ≤ 0)))
theorem putR_gt {e : Ent} {B : List Ent} {d : Bool} : ∀ {A : List Ent}, (∀ a ∈ A, 0 < ordE e a) → putR e (A ++ B) d = A ++ putR e B d
  | [], _ => rfl
  | a :: A, h => by
    have h1 := h a (List.mem_cons_self ..)
    rw [List.cons_append, putR, if_neg (by omega), if_neg (by omega), decide_eq_false (by omega), Bool.or_false, putR_gt fun x hx => h x (List.mem_cons_of_mem _ hx)]
    rfl
theorem putR_done {e : Ent} : ∀ {B : List Ent}, (∀ b ∈ B, ordE e b < 0) → putR e B true = B
  | [], _ => rfl
  | b :: B, h => by
    have h1 := h b (List.mem_cons_self ..)
    rw [putR, if_neg (by simp), if_neg (by omega), Bool.true_or, putR_done fun x hx => h x (List.mem_cons_of_mem _ hx)]
    rfl
theorem putR_first {e : Ent} : ∀ {B : List Ent}, (∀ b ∈ B, ordE e b < 0) → putR e B false = e :: B
  | [], _ => rfl
  | b :: B, h => by
    have h1 := h b (List.mem_cons_self ..)
    rw [putR, if_pos ⟨by omega, rfl⟩, if_neg (by omega), decide_eq_true (by omega), Bool.or_true, putR_done fun x hx => h x (List.mem_cons_of_mem _ hx)]
    rfl
theorem putR_same {e x : Ent} {B : List Ent} (hx : ordE e x = 0) (h : ∀ b ∈ B, ordE e b < 0) : putR e (x :: B) false = e :: B := by
  rw [putR, if_pos ⟨by omega, rfl⟩, if_pos hx, decide_eq_true (by omega), Bool.or_true, putR_done h]
  rfl
theorem putR_step {e : Ent} {L M : List Ent} {i : Nat} {d : Bool} (hi : i < L.length) {x : Ent} (hx : x = L.getD i E0) (h : M ++ putR e (L.drop i) d = putR e L false) :
    (M ++ ((if ordE e x ≤ 0 ∧ d = false then [e] else []) ++ (if ordE e x = 0 then [] else [x]))) ++ putR e (L.drop (i + 1)) (d || decide (ordE e x ≤ 0)) = putR e L false := by
  rw [List.drop_eq_getElem_cons hi, getD_get hi, ← hx, putR] at h
  rw [← h]
  simp [List.append_assoc]
theorem putR_end {e : Ent} {L M : List Ent} {d : Bool} (h : M ++ putR e (L.drop L.length) d = putR e L false) : putR e L false = if d = true then M else M ++ [e] := by
  rw [List.drop_length] at h
  rw [← h, putR]
  cases d <;> simp
theorem ordK_rev {s t : Int} {r q : List UInt8} (h : ordK s r t q < 0) : 0 < ordK t q s r := by
  have h1 := ordK_lt_iff.1 h
  rw [ordK_eq]
  split
  · rename_i h2
    obtain ⟨rfl, rfl⟩ := h2
    rw [ordK_eq, if_pos ⟨rfl, rfl⟩] at h
    exact absurd h (by decide)
  · split
    · rename_i h3
      exfalso
      rcases h1 with h1 | ⟨rfl, h1⟩
      · rcases h3 with h3 | ⟨h3, _⟩ <;> omega
      · rcases h3 with h3 | ⟨_, h3⟩
        · omega
        · exact List.lt_irrefl _ (List.lt_trans h1 h3)
    · decide
theorem put_ins {L : List Ent} {e : Ent} (h : shR L = true) (hn : has L e.s e.r = false) : putR e L false = L.take (pos L e.s e.r) ++ [e] ++ L.drop (pos L e.s e.r) := by
  have hSp := Sp.of ((ascB_iff L).1 (shR_asc h).1) hn
  have h1 : ∀ a ∈ L.take (pos L e.s e.r), 0 < ordE e a := fun a ha => ordK_rev (hSp.la a ha)
  have h2 := putR_gt (e := e) (B := L.drop (pos L e.s e.r)) (d := false) h1
  rw [List.take_append_drop] at h2
  rw [h2, putR_first (e := e) fun b hb => hSp.lb b hb, List.append_assoc]
  rfl
theorem put_sw {L : List Ent} {e : Ent} (h : shR L = true) (hn : has L e.s e.r = true) : putR e L false = L.set (pos L e.s e.r) e := by
  have hasc := (ascB_iff L).1 (shR_asc h).1
  obtain ⟨hp, hk⟩ := has_pos hasc hn
  obtain ⟨k1, k2⟩ := kE_iff.1 hk
  have h1 : ∀ a ∈ L.take (pos L e.s e.r), 0 < ordE e a := fun a ha => by
    obtain ⟨i, hi, rfl⟩ := List.getElem_of_mem ha
    rw [List.length_take] at hi
    rw [List.getElem_take, getD_get (by omega)]
    have := pos_lt (L := L) (s := e.s) (r := e.r) (t := i) (by omega)
    unfold ltK at this
    exact ordK_rev (of_decide_eq_true this)
  have h3 : L.drop (pos L e.s e.r) = L.getD (pos L e.s e.r) E0 :: L.drop (pos L e.s e.r + 1) := by rw [List.drop_eq_getElem_cons hp, getD_get hp]
  have h2 := putR_gt (e := e) (B := L.drop (pos L e.s e.r)) (d := false) h1
  rw [List.take_append_drop] at h2
  rw [h2, h3, putR_same, List.set_eq_take_append_cons_drop, if_pos hp]
  · unfold ordE
    rw [k1, k2, ordK_eq, if_pos ⟨rfl, rfl⟩]
  · intro b hb
    obtain ⟨i, hi, rfl⟩ := List.getElem_of_mem hb
    rw [List.length_drop] at hi
    rw [List.getElem_drop, getD_get (by omega)]
    have := asc_mono hasc (show pos L e.s e.r < pos L e.s e.r + 1 + i by omega) (by omega)
    unfold ordE at this ⊢
    rw [k1, k2] at this
    exact this
theorem plc_has {L : List Ent} {s : Int} {r : List UInt8} : decide (0 ≤ plc L s r) = has L s r := by
  unfold plc
  cases h : has L s r
  · simp
  · simp
theorem plc_lt {L : List Ent} {s : Int} {r : List UInt8} : decide (plc L s r < 0) = !has L s r := by
  unfold plc
  cases h : has L s r
  · simp
  · simp
theorem plc_fnd {L : List Ent} {s : Int} {r : List UInt8} (h : has L s r = true) : ∃ i : Nat, i < L.length ∧ plc L s r = (i : Int) ∧ fnd L s r = L.getD i E0 := by
  have h2 := h
  unfold has at h2
  rw [List.any_eq_true] at h2
  have hi : L.findIdx (kE s r) < L.length := List.findIdx_lt_length.2 h2
  refine ⟨L.findIdx (kE s r), hi, by unfold plc; rw [if_pos h], ?_⟩
  have h0 : ∀ j, j < L.findIdx (kE s r) → kE s r (L.getD j E0) = false := fun j hj => by
    have := List.not_of_lt_findIdx hj
    rw [getD_get (by omega)] at this
    simpa using this
  have h1 : kE s r (L.getD (L.findIdx (kE s r)) E0) = true := by
    have := List.findIdx_getElem (w := hi)
    rw [getD_get hi] at this
    exact this
  exact (fnd_yes hi h0 h1).1
theorem plc_pos {L : List Ent} {s : Int} {r : List UInt8} (h : shR L = true) (hn : has L s r = true) : plc L s r = (pos L s r : Int) := by
  have hasc := (ascB_iff L).1 (shR_asc h).1
  obtain ⟨hp, hk⟩ := has_pos hasc hn
  refine plc_yes hp (fun j hj => ?_) hk
  cases h2 : kE s r (L.getD j E0)
  · rfl
  · have := ltK_self h2
    rw [pos_lt hj] at this
    cases this
end Go.Vd

set_option linter.unusedVariables false
set_option linter.unusedSimpArgs false
set_option maxRecDepth 100000
set_option maxHeartbeats 8000000
namespace Go.Vd
open Go.Proofs
attribute [local irreducible] vc
theorem good_rPutE (L : List Ent) (s st am tr ca : Int) (r pan code : List UInt8) (hL : L.length ≤ 1000000) : GoodP Tryz.prog gl0 67 [rowS eE E0 8 std fun _ => L, .agg [.int .u32 s, .str r, .int .i64 st, .str pan, .int .u64 am, .str code, .int .i64 tr, .int .i64 ca]] (rowS eE E0 8 std fun _ => putR ⟨s, r, st, pan, am, code, tr, ca⟩ L false) := by
  refine fn_sound' (T := seatT) (G := gt4) (X := noX) seatT_ok gt4_ok noX_ok noI_ok mixed Tryz.func67 (.none) (fun A => [rowS eE E0 8 A fun _ => L, .agg [.int .u32 s, .str r, .int .i64 st, .str pan, .int .u64 am, .str code, .int .i64 tr, .int .i64 ca]]) (fun A => rowS eE E0 8 A fun _ => putR ⟨s, r, st, pan, am, code, tr, ca⟩ L false) fun A hA => ?_
  obtain ⟨E, hE⟩ : ∃ E : Ent, E = ⟨s, r, st, pan, am, code, tr, ca⟩ := ⟨_, rfl⟩
  rw [← hE]
  cbv
  repeat' (first | with_reducible exact True.intro | with_reducible exact dr_ok hA (by kernel_rfl) | with_reducible refine And.intro ?_ ?_ | (intro hc; cbv))
  refine ⟨⟨{p : (Nat × Bool) × List Ent // p.1.1 ≤ L.length ∧ p.2 ++ putR E (L.drop p.1.1) p.1.2 = putR E L false ∧ p.2.length ≤ 2 * p.1.1}, fun b p => [(5, .own b), (6, .bool p.1.1.2), (7, .int .i64 (p.1.1.1 : Nat))], fun b p => [(b, .row 30 8 (A.tn fun _ => p.1.2.length) (rowF eE E0 A fun _ => p.1.2))], fun p => L.length - p.1.1.1, true⟩, ⟨⟨((0, false), []), Nat.zero_le _, rfl, by simp⟩, ?_⟩, ?_⟩
  · cbv
    subst hA
    simp [-List.getD_eq_getElem?_getD, std_add, std_sub, std_mul, std_quo, std_rem, std_band, std_bor, std_bxor, std_shl, std_shr, std_eq, std_ne, std_lt, std_le, std_conv, std_not, std_beq, std_bne, std_ite, std_want, std_and2, std_sadd, std_seq, std_sne, std_slt, std_sle, std_sgt, std_sge, std_slen, std_sget, std_scut, std_ofNat, std_toNat, std_nsub, std_nadd, std_lenOf, std_nz, std_nneg, std_inb, std_upto, std_slt63, std_grow, std_imp, std_impN, std_tr, std_tb, std_ti, std_ts, std_tn, std_tp, std_nmin, std_nset, std_fset, std_makes, std_room, std_zeros, std_nilq, std_notq, std_eqi, std_eqn, std_eqb, std_eqs, std_eqv, std_cat, std_lst, std_rset, std_rcopy, std_shift, std_eqr, std_strOf, std_bytesOf, std_isB, std_zOf, zOf_int, std_isI, isI_int, std_getL, std_nmul, std_sOf, sOf_str, std_isS, isS_str, std_fadd, std_fsub, std_fav, std_fsv, std_feq, std_fne, std_flt, std_fle, std_fgt, std_fge, std_fOf, std_fTo, std_fTv]
  · rintro ⟨⟨⟨i, d⟩, M⟩, hx⟩
    have hi : i ≤ L.length := hx.1
    have hM : M ++ putR E (L.drop i) d = putR E L false := hx.2.1
    have hl : M.length ≤ 2 * i := hx.2.2
    obtain ⟨x, hxe⟩ : ∃ x, x = L.getD i E0 := ⟨_, rfl⟩
    have hg : L.getD i { s := 0, r := [], st := 0, pan := [], am := 0, code := [], tr := 0, ca := 0 } = x := hxe.symm
    rcases Nat.lt_or_ge i L.length with hlt | hge
    · have hst := putR_step (e := E) hlt hxe hM
      have hoE : ordE E x = ordK s r x.s x.r := by unfold ordE; rw [hE]
      obtain ⟨i', hi'⟩ : ∃ i', i' = i + 1 := ⟨_, rfl⟩
      rw [← hi', hoE] at hst
      obtain ⟨n, hn⟩ : ∃ n, n = ordK s r x.s x.r := ⟨_, rfl⟩
      rw [← hn] at hst
      have hcE : ∀ j, j < 8 → Ceq (getAt [SV.int .u32 s, SV.str r, SV.int .i64 st, SV.str pan, SV.int .u64 am, SV.str code, SV.int .i64 tr, SV.int .i64 ca] j) (getAt (eE std fun _ => E) j) := by
        rw [hE]; exact cell_eE ⟨s, r, st, pan, am, code, tr, ca⟩
      cbv
      repeat' (first | with_reducible exact True.intro | with_reducible exact dr_ok hA (by kernel_rfl) | with_reducible refine And.intro ?_ ?_ | (intro hc; cbv))
      all_goals first
        | (fail_if_success (refine Exists.intro ?_ ?_)
           clear hst hM hoE
           subst hA
           simp [-List.getD_eq_getElem?_getD, std_add, std_sub, std_mul, std_quo, std_rem, std_band, std_bor, std_bxor, std_shl, std_shr, std_eq, std_ne, std_lt, std_le, std_conv, std_not, std_beq, std_bne, std_ite, std_want, std_and2, std_sadd, std_seq, std_sne, std_slt, std_sle, std_sgt, std_sge, std_slen, std_sget, std_scut, std_ofNat, std_toNat, std_nsub, std_nadd, std_lenOf, std_nz, std_nneg, std_inb, std_upto, std_slt63, std_grow, std_imp, std_impN, std_tr, std_tb, std_ti, std_ts, std_tn, std_tp, std_nmin, std_nset, std_fset, std_makes, std_room, std_zeros, std_nilq, std_notq, std_eqi, std_eqn, std_eqb, std_eqs, std_eqv, std_cat, std_lst, std_rset, std_rcopy, std_shift, std_eqr, std_strOf, std_bytesOf, std_isB, std_zOf, zOf_int, std_isI, isI_int, std_getL, std_nmul, std_sOf, sOf_str, std_isS, isS_str, std_fadd, std_fsub, std_fav, std_fsv, std_feq, std_fne, std_flt, std_fle, std_fgt, std_fge, std_fOf, std_fTo, std_fTv, hg, ← hn] at *
           first
             | done
             | omega
             | exact ⟨(show (0 : Int) ≤ ((i : Nat) : Int) by omega), (show ((i : Nat) : Int) < ((L.length : Nat) : Int) by omega)⟩
             | (constructor <;> omega)
             | (intros; assumption)
             | (intro h1 h2; exact ⟨h1, h2⟩)
             | trace_state)
        | (have key : ∀ (M' : List Ent) (d' : Bool), M' = M ++ ((if n ≤ 0 ∧ d = false then [E] else []) ++ (if n = 0 then [] else [x])) → d' = (d || decide (n ≤ 0)) → i' ≤ L.length ∧ M' ++ putR E (L.drop i') d' = putR E L false ∧ M'.length ≤ 2 * i' := by
             intro M' d' e1 e2
             refine ⟨by omega, by rw [e1, e2]; exact hst, ?_⟩
             rw [e1]
             split <;> split <;> simp <;> omega
           rename_i g1 g2
           by_cases z : n = 0
           · by_cases k : n ≤ 0 ∧ d = false
             · obtain ⟨M', hM'⟩ : ∃ M', M' = M ++ [E] := ⟨_, rfl⟩
               obtain ⟨d', hd'⟩ : ∃ d', d' = true := ⟨_, rfl⟩
               first
                 | (exfalso; clear key hst; subst hA; simp [-List.getD_eq_getElem?_getD, std_add, std_sub, std_mul, std_quo, std_rem, std_band, std_bor, std_bxor, std_shl, std_shr, std_eq, std_ne, std_lt, std_le, std_conv, std_not, std_beq, std_bne, std_ite, std_want, std_and2, std_sadd, std_seq, std_sne, std_slt, std_sle, std_sgt, std_sge, std_slen, std_sget, std_scut, std_ofNat, std_toNat, std_nsub, std_nadd, std_lenOf, std_nz, std_nneg, std_inb, std_upto, std_slt63, std_grow, std_imp, std_impN, std_tr, std_tb, std_ti, std_ts, std_tn, std_tp, std_nmin, std_nset, std_fset, std_makes, std_room, std_zeros, std_nilq, std_notq, std_eqi, std_eqn, std_eqb, std_eqs, std_eqv, std_cat, std_lst, std_rset, std_rcopy, std_shift, std_eqr, std_strOf, std_bytesOf, std_isB, std_zOf, zOf_int, std_isI, isI_int, std_getL, std_nmul, std_sOf, sOf_str, std_isS, isS_str, std_fadd, std_fsub, std_fav, std_fsv, std_feq, std_fne, std_flt, std_fle, std_fgt, std_fge, std_fOf, std_fTo, std_fTv, hg, ← hn, z, k.2] at g2 hc; done)
                 | (refine ⟨⟨((i', d'), M'), key M' d' (by rw [hM', if_pos k, if_pos z]; simp) (by rw [hd', decide_eq_true k.1]; simp)⟩, ?_, show L.length - i' < L.length - i by omega⟩
                    cbv
                    subst hA
                    simp [-List.getD_eq_getElem?_getD, std_add, std_sub, std_mul, std_quo, std_rem, std_band, std_bor, std_bxor, std_shl, std_shr, std_eq, std_ne, std_lt, std_le, std_conv, std_not, std_beq, std_bne, std_ite, std_want, std_and2, std_sadd, std_seq, std_sne, std_slt, std_sle, std_sgt, std_sge, std_slen, std_sget, std_scut, std_ofNat, std_toNat, std_nsub, std_nadd, std_lenOf, std_nz, std_nneg, std_inb, std_upto, std_slt63, std_grow, std_imp, std_impN, std_tr, std_tb, std_ti, std_ts, std_tn, std_tp, std_nmin, std_nset, std_fset, std_makes, std_room, std_zeros, std_nilq, std_notq, std_eqi, std_eqn, std_eqb, std_eqs, std_eqv, std_cat, std_lst, std_rset, std_rcopy, std_shift, std_eqr, std_strOf, std_bytesOf, std_isB, std_zOf, zOf_int, std_isI, isI_int, std_getL, std_nmul, std_sOf, sOf_str, std_isS, isS_str, std_fadd, std_fsub, std_fav, std_fsv, std_feq, std_fne, std_flt, std_fle, std_fgt, std_fge, std_fOf, std_fTo, std_fTv, hd']
                    refine ⟨w_succ' hi' (by omega), ?_, ?_⟩
                    · rw [hM']; simp
                    · exact eqr_of ((Reps.lit M).cat (Reps.one hcE)) (by rw [hM']; simp) hM'.symm)
             · obtain ⟨M', hM'⟩ : ∃ M', M' = M := ⟨_, rfl⟩
               obtain ⟨d', hd'⟩ : ∃ d', d' = d := ⟨_, rfl⟩
               have hdt : d = true := by cases d <;> simp [z] at k ⊢
               first
                 | (exfalso; clear key hst; subst hA; simp [-List.getD_eq_getElem?_getD, std_add, std_sub, std_mul, std_quo, std_rem, std_band, std_bor, std_bxor, std_shl, std_shr, std_eq, std_ne, std_lt, std_le, std_conv, std_not, std_beq, std_bne, std_ite, std_want, std_and2, std_sadd, std_seq, std_sne, std_slt, std_sle, std_sgt, std_sge, std_slen, std_sget, std_scut, std_ofNat, std_toNat, std_nsub, std_nadd, std_lenOf, std_nz, std_nneg, std_inb, std_upto, std_slt63, std_grow, std_imp, std_impN, std_tr, std_tb, std_ti, std_ts, std_tn, std_tp, std_nmin, std_nset, std_fset, std_makes, std_room, std_zeros, std_nilq, std_notq, std_eqi, std_eqn, std_eqb, std_eqs, std_eqv, std_cat, std_lst, std_rset, std_rcopy, std_shift, std_eqr, std_strOf, std_bytesOf, std_isB, std_zOf, zOf_int, std_isI, isI_int, std_getL, std_nmul, std_sOf, sOf_str, std_isS, isS_str, std_fadd, std_fsub, std_fav, std_fsv, std_feq, std_fne, std_flt, std_fle, std_fgt, std_fge, std_fOf, std_fTo, std_fTv, hg, ← hn, z, hdt] at g2 hc; done)
                 | (refine ⟨⟨((i', d'), M'), key M' d' (by rw [hM', if_neg k, if_pos z]; simp) (by rw [hd', hdt]; simp)⟩, ?_, show L.length - i' < L.length - i by omega⟩
                    cbv
                    subst hA
                    simp [-List.getD_eq_getElem?_getD, std_add, std_sub, std_mul, std_quo, std_rem, std_band, std_bor, std_bxor, std_shl, std_shr, std_eq, std_ne, std_lt, std_le, std_conv, std_not, std_beq, std_bne, std_ite, std_want, std_and2, std_sadd, std_seq, std_sne, std_slt, std_sle, std_sgt, std_sge, std_slen, std_sget, std_scut, std_ofNat, std_toNat, std_nsub, std_nadd, std_lenOf, std_nz, std_nneg, std_inb, std_upto, std_slt63, std_grow, std_imp, std_impN, std_tr, std_tb, std_ti, std_ts, std_tn, std_tp, std_nmin, std_nset, std_fset, std_makes, std_room, std_zeros, std_nilq, std_notq, std_eqi, std_eqn, std_eqb, std_eqs, std_eqv, std_cat, std_lst, std_rset, std_rcopy, std_shift, std_eqr, std_strOf, std_bytesOf, std_isB, std_zOf, zOf_int, std_isI, isI_int, std_getL, std_nmul, std_sOf, sOf_str, std_isS, isS_str, std_fadd, std_fsub, std_fav, std_fsv, std_feq, std_fne, std_flt, std_fle, std_fgt, std_fge, std_fOf, std_fTo, std_fTv, hd', hM']
                    exact w_succ' hi' (by omega))
           · by_cases k : n ≤ 0 ∧ d = false
             · obtain ⟨M', hM'⟩ : ∃ M', M' = M ++ [E] ++ [x] := ⟨_, rfl⟩
               obtain ⟨d', hd'⟩ : ∃ d', d' = true := ⟨_, rfl⟩
               first
                 | (exfalso; clear key hst; subst hA; simp [-List.getD_eq_getElem?_getD, std_add, std_sub, std_mul, std_quo, std_rem, std_band, std_bor, std_bxor, std_shl, std_shr, std_eq, std_ne, std_lt, std_le, std_conv, std_not, std_beq, std_bne, std_ite, std_want, std_and2, std_sadd, std_seq, std_sne, std_slt, std_sle, std_sgt, std_sge, std_slen, std_sget, std_scut, std_ofNat, std_toNat, std_nsub, std_nadd, std_lenOf, std_nz, std_nneg, std_inb, std_upto, std_slt63, std_grow, std_imp, std_impN, std_tr, std_tb, std_ti, std_ts, std_tn, std_tp, std_nmin, std_nset, std_fset, std_makes, std_room, std_zeros, std_nilq, std_notq, std_eqi, std_eqn, std_eqb, std_eqs, std_eqv, std_cat, std_lst, std_rset, std_rcopy, std_shift, std_eqr, std_strOf, std_bytesOf, std_isB, std_zOf, zOf_int, std_isI, isI_int, std_getL, std_nmul, std_sOf, sOf_str, std_isS, isS_str, std_fadd, std_fsub, std_fav, std_fsv, std_feq, std_fne, std_flt, std_fle, std_fgt, std_fge, std_fOf, std_fTo, std_fTv, hg, ← hn, z, k.1, k.2] at g2 hc; done)
                 | (refine ⟨⟨((i', d'), M'), key M' d' (by rw [hM', if_pos k, if_neg z]; simp) (by rw [hd', decide_eq_true k.1]; simp)⟩, ?_, show L.length - i' < L.length - i by omega⟩
                    cbv
                    subst hA
                    simp [-List.getD_eq_getElem?_getD, std_add, std_sub, std_mul, std_quo, std_rem, std_band, std_bor, std_bxor, std_shl, std_shr, std_eq, std_ne, std_lt, std_le, std_conv, std_not, std_beq, std_bne, std_ite, std_want, std_and2, std_sadd, std_seq, std_sne, std_slt, std_sle, std_sgt, std_sge, std_slen, std_sget, std_scut, std_ofNat, std_toNat, std_nsub, std_nadd, std_lenOf, std_nz, std_nneg, std_inb, std_upto, std_slt63, std_grow, std_imp, std_impN, std_tr, std_tb, std_ti, std_ts, std_tn, std_tp, std_nmin, std_nset, std_fset, std_makes, std_room, std_zeros, std_nilq, std_notq, std_eqi, std_eqn, std_eqb, std_eqs, std_eqv, std_cat, std_lst, std_rset, std_rcopy, std_shift, std_eqr, std_strOf, std_bytesOf, std_isB, std_zOf, zOf_int, std_isI, isI_int, std_getL, std_nmul, std_sOf, sOf_str, std_isS, isS_str, std_fadd, std_fsub, std_fav, std_fsv, std_feq, std_fne, std_flt, std_fle, std_fgt, std_fge, std_fOf, std_fTo, std_fTv, hd', hg]
                    refine ⟨w_succ' hi' (by omega), ?_, ?_⟩
                    · rw [hM']; simp
                    · exact eqr_of (((Reps.lit M).cat (Reps.one hcE)).cat (Reps.one (cell_eE x))) (by rw [hM']; simp) hM'.symm)
             · obtain ⟨M', hM'⟩ : ∃ M', M' = M ++ [x] := ⟨_, rfl⟩
               obtain ⟨d', hd'⟩ : ∃ d', d' = d := ⟨_, rfl⟩
               first
                 | (exfalso; clear key hst; subst hA; simp [-List.getD_eq_getElem?_getD, std_add, std_sub, std_mul, std_quo, std_rem, std_band, std_bor, std_bxor, std_shl, std_shr, std_eq, std_ne, std_lt, std_le, std_conv, std_not, std_beq, std_bne, std_ite, std_want, std_and2, std_sadd, std_seq, std_sne, std_slt, std_sle, std_sgt, std_sge, std_slen, std_sget, std_scut, std_ofNat, std_toNat, std_nsub, std_nadd, std_lenOf, std_nz, std_nneg, std_inb, std_upto, std_slt63, std_grow, std_imp, std_impN, std_tr, std_tb, std_ti, std_ts, std_tn, std_tp, std_nmin, std_nset, std_fset, std_makes, std_room, std_zeros, std_nilq, std_notq, std_eqi, std_eqn, std_eqb, std_eqs, std_eqv, std_cat, std_lst, std_rset, std_rcopy, std_shift, std_eqr, std_strOf, std_bytesOf, std_isB, std_zOf, zOf_int, std_isI, isI_int, std_getL, std_nmul, std_sOf, sOf_str, std_isS, isS_str, std_fadd, std_fsub, std_fav, std_fsv, std_feq, std_fne, std_flt, std_fle, std_fgt, std_fge, std_fOf, std_fTo, std_fTv, hg, ← hn, z] at g2 hc; cases d <;> simp at k g2 <;> omega)
                 | (exfalso; clear key hst; subst hA; simp [-List.getD_eq_getElem?_getD, std_add, std_sub, std_mul, std_quo, std_rem, std_band, std_bor, std_bxor, std_shl, std_shr, std_eq, std_ne, std_lt, std_le, std_conv, std_not, std_beq, std_bne, std_ite, std_want, std_and2, std_sadd, std_seq, std_sne, std_slt, std_sle, std_sgt, std_sge, std_slen, std_sget, std_scut, std_ofNat, std_toNat, std_nsub, std_nadd, std_lenOf, std_nz, std_nneg, std_inb, std_upto, std_slt63, std_grow, std_imp, std_impN, std_tr, std_tb, std_ti, std_ts, std_tn, std_tp, std_nmin, std_nset, std_fset, std_makes, std_room, std_zeros, std_nilq, std_notq, std_eqi, std_eqn, std_eqb, std_eqs, std_eqv, std_cat, std_lst, std_rset, std_rcopy, std_shift, std_eqr, std_strOf, std_bytesOf, std_isB, std_zOf, zOf_int, std_isI, isI_int, std_getL, std_nmul, std_sOf, sOf_str, std_isS, isS_str, std_fadd, std_fsub, std_fav, std_fsv, std_feq, std_fne, std_flt, std_fle, std_fgt, std_fge, std_fOf, std_fTo, std_fTv, hg, ← hn, z] at g2 hc; done)
                 | (refine ⟨⟨((i', d'), M'), key M' d' (by rw [hM', if_neg k, if_neg z]; simp) (by rw [hd']; cases d <;> simp at k ⊢; omega)⟩, ?_, show L.length - i' < L.length - i by omega⟩
                    cbv
                    subst hA
                    simp [-List.getD_eq_getElem?_getD, std_add, std_sub, std_mul, std_quo, std_rem, std_band, std_bor, std_bxor, std_shl, std_shr, std_eq, std_ne, std_lt, std_le, std_conv, std_not, std_beq, std_bne, std_ite, std_want, std_and2, std_sadd, std_seq, std_sne, std_slt, std_sle, std_sgt, std_sge, std_slen, std_sget, std_scut, std_ofNat, std_toNat, std_nsub, std_nadd, std_lenOf, std_nz, std_nneg, std_inb, std_upto, std_slt63, std_grow, std_imp, std_impN, std_tr, std_tb, std_ti, std_ts, std_tn, std_tp, std_nmin, std_nset, std_fset, std_makes, std_room, std_zeros, std_nilq, std_notq, std_eqi, std_eqn, std_eqb, std_eqs, std_eqv, std_cat, std_lst, std_rset, std_rcopy, std_shift, std_eqr, std_strOf, std_bytesOf, std_isB, std_zOf, zOf_int, std_isI, isI_int, std_getL, std_nmul, std_sOf, sOf_str, std_isS, isS_str, std_fadd, std_fsub, std_fav, std_fsv, std_feq, std_fne, std_flt, std_fle, std_fgt, std_fge, std_fOf, std_fTo, std_fTv, hd', hg]
                    refine ⟨w_succ' hi' (by omega), ?_, ?_⟩
                    · rw [hM']; simp
                    · exact eqr_of ((Reps.lit M).cat (Reps.one (cell_eE x))) (by rw [hM']; simp) hM'.symm))
        | trace_state
    · have hie : i = L.length := by omega
      rw [hie] at hM
      have hend := putR_end hM
      have hcE : ∀ j, j < 8 → Ceq (getAt [SV.int .u32 s, SV.str r, SV.int .i64 st, SV.str pan, SV.int .u64 am, SV.str code, SV.int .i64 tr, SV.int .i64 ca] j) (getAt (eE std fun _ => E) j) := by
        rw [hE]; exact cell_eE ⟨s, r, st, pan, am, code, tr, ca⟩
      cbv
      repeat' (first | with_reducible exact True.intro | with_reducible exact dr_ok hA (by kernel_rfl) | with_reducible refine And.intro ?_ ?_ | (intro hc; cbv))
      all_goals first
        | (exfalso; clear hM hend; subst hA; simp [-List.getD_eq_getElem?_getD, std_add, std_sub, std_mul, std_quo, std_rem, std_band, std_bor, std_bxor, std_shl, std_shr, std_eq, std_ne, std_lt, std_le, std_conv, std_not, std_beq, std_bne, std_ite, std_want, std_and2, std_sadd, std_seq, std_sne, std_slt, std_sle, std_sgt, std_sge, std_slen, std_sget, std_scut, std_ofNat, std_toNat, std_nsub, std_nadd, std_lenOf, std_nz, std_nneg, std_inb, std_upto, std_slt63, std_grow, std_imp, std_impN, std_tr, std_tb, std_ti, std_ts, std_tn, std_tp, std_nmin, std_nset, std_fset, std_makes, std_room, std_zeros, std_nilq, std_notq, std_eqi, std_eqn, std_eqb, std_eqs, std_eqv, std_cat, std_lst, std_rset, std_rcopy, std_shift, std_eqr, std_strOf, std_bytesOf, std_isB, std_zOf, zOf_int, std_isI, isI_int, std_getL, std_nmul, std_sOf, sOf_str, std_isS, isS_str, std_fadd, std_fsub, std_fav, std_fsv, std_feq, std_fne, std_flt, std_fle, std_fgt, std_fge, std_fOf, std_fTo, std_fTv] at hc; omega)
        | (exfalso; clear hM hend; subst hA; rename_i q; simp [-List.getD_eq_getElem?_getD, std_add, std_sub, std_mul, std_quo, std_rem, std_band, std_bor, std_bxor, std_shl, std_shr, std_eq, std_ne, std_lt, std_le, std_conv, std_not, std_beq, std_bne, std_ite, std_want, std_and2, std_sadd, std_seq, std_sne, std_slt, std_sle, std_sgt, std_sge, std_slen, std_sget, std_scut, std_ofNat, std_toNat, std_nsub, std_nadd, std_lenOf, std_nz, std_nneg, std_inb, std_upto, std_slt63, std_grow, std_imp, std_impN, std_tr, std_tb, std_ti, std_ts, std_tn, std_tp, std_nmin, std_nset, std_fset, std_makes, std_room, std_zeros, std_nilq, std_notq, std_eqi, std_eqn, std_eqb, std_eqs, std_eqv, std_cat, std_lst, std_rset, std_rcopy, std_shift, std_eqr, std_strOf, std_bytesOf, std_isB, std_zOf, zOf_int, std_isI, isI_int, std_getL, std_nmul, std_sOf, sOf_str, std_isS, isS_str, std_fadd, std_fsub, std_fav, std_fsv, std_feq, std_fne, std_flt, std_fle, std_fgt, std_fge, std_fOf, std_fTo, std_fTv] at q; omega)
        | (exfalso; clear hM hend; subst hA; rename_i q q2; simp [-List.getD_eq_getElem?_getD, std_add, std_sub, std_mul, std_quo, std_rem, std_band, std_bor, std_bxor, std_shl, std_shr, std_eq, std_ne, std_lt, std_le, std_conv, std_not, std_beq, std_bne, std_ite, std_want, std_and2, std_sadd, std_seq, std_sne, std_slt, std_sle, std_sgt, std_sge, std_slen, std_sget, std_scut, std_ofNat, std_toNat, std_nsub, std_nadd, std_lenOf, std_nz, std_nneg, std_inb, std_upto, std_slt63, std_grow, std_imp, std_impN, std_tr, std_tb, std_ti, std_ts, std_tn, std_tp, std_nmin, std_nset, std_fset, std_makes, std_room, std_zeros, std_nilq, std_notq, std_eqi, std_eqn, std_eqb, std_eqs, std_eqv, std_cat, std_lst, std_rset, std_rcopy, std_shift, std_eqr, std_strOf, std_bytesOf, std_isB, std_zOf, zOf_int, std_isI, isI_int, std_getL, std_nmul, std_sOf, sOf_str, std_isS, isS_str, std_fadd, std_fsub, std_fav, std_fsv, std_feq, std_fne, std_flt, std_fle, std_fgt, std_fge, std_fOf, std_fTo, std_fTv] at q; omega)
        | (clear hM
           subst hA
           simp [-List.getD_eq_getElem?_getD, std_add, std_sub, std_mul, std_quo, std_rem, std_band, std_bor, std_bxor, std_shl, std_shr, std_eq, std_ne, std_lt, std_le, std_conv, std_not, std_beq, std_bne, std_ite, std_want, std_and2, std_sadd, std_seq, std_sne, std_slt, std_sle, std_sgt, std_sge, std_slen, std_sget, std_scut, std_ofNat, std_toNat, std_nsub, std_nadd, std_lenOf, std_nz, std_nneg, std_inb, std_upto, std_slt63, std_grow, std_imp, std_impN, std_tr, std_tb, std_ti, std_ts, std_tn, std_tp, std_nmin, std_nset, std_fset, std_makes, std_room, std_zeros, std_nilq, std_notq, std_eqi, std_eqn, std_eqb, std_eqs, std_eqv, std_cat, std_lst, std_rset, std_rcopy, std_shift, std_eqr, std_strOf, std_bytesOf, std_isB, std_zOf, zOf_int, std_isI, isI_int, std_getL, std_nmul, std_sOf, sOf_str, std_isS, isS_str, std_fadd, std_fsub, std_fav, std_fsv, std_feq, std_fne, std_flt, std_fle, std_fgt, std_fge, std_fOf, std_fTo, std_fTv] at hc ⊢
           rw [hc] at hend
           simp at hend
           first
             | (constructor <;> omega)
             | omega
             | (rw [hend]; done)
             | (rw [hend]; simp; done)
             | (rw [hend]; exact (Reps.lit _).eqr)
             | exact eqr_of ((Reps.lit M).cat (Reps.one hcE)) (by rw [hend]; simp) hend.symm
             | trace_state)
        | trace_state
noncomputable def c_rPutE : Ct := fun A args => match args with
  | [.slc n 8 f, .agg [.int .u32 s, .str r, .int .i64 st, .str pan, .int .u64 am, .str code, .int .i64 tr, .int .i64 ca]] => some (some (A.tp fun _ => isRow eE E0 8 n f ∧ n ≤ 1000000), rowS eE E0 8 A fun _ => putR ⟨s, r, st, pan, am, code, tr, ca⟩ (lstOf eE E0 8 n f) false)
  | _ => none
noncomputable def gt5 : Ar → Pu := addC 67 c_rPutE (gt4)
theorem gt5_ok : PuOk Tryz.prog gl0 (gt5 std) := by
  refine addC_ok (gt4_ok) ⟨_, Tryz.func67, rfl, by decide⟩ ?_
  · intro args p r h hp
    unfold c_rPutE at h
    split at h <;> cases h
    exact good_sv (good_rPutE _ _ _ _ _ _ _ _ _ (by rw [lstOf_length hp.1]; exact hp.2)) ⟨hp.1.sv, ⟨_, rfl, rfl, rfl, rfl, rfl, rfl, rfl, rfl, rfl, trivial⟩, trivial⟩
end Go.Vd

set_option linter.unusedVariables false
set_option linter.unusedSimpArgs false
set_option maxRecDepth 100000
set_option maxHeartbeats 8000000
namespace Go.Vd
open Go.Proofs
end Go.Vd

set_option linter.unusedVariables false
set_option linter.unusedSimpArgs false
set_option maxRecDepth 100000
set_option maxHeartbeats 8000000
namespace Go.Vd
open Go.Proofs
theorem gd_t {a b : Bool} (h : (bif !a then true else !b) = false) : (bif a then b else false) = true := by cases a <;> cases b <;> simp at h ⊢
theorem gd_f {a b : Bool} (h : (bif !a then true else !b) = true) : (bif a then b else false) = false := by cases a <;> cases b <;> simp at h ⊢
attribute [local irreducible] vc
theorem good_rInsE (L : List Ent) (s st am tr ca : Int) (r pan code : List UInt8) (hL : L.length ≤ 1000000) (hS : ∀ i, enT (L.getD i E0)) (hr1 : r.length ≤ 1000000) (hp : pan.length ≤ 100000) (hcc : code.length ≤ 1000000) : GoodP Tryz.prog gl0 39 [rowS eE E0 8 std fun _ => L, .agg [.int .u32 s, .str r, .int .i64 st, .str pan, .int .u64 am, .str code, .int .i64 tr, .int .i64 ca]] (.tup [rowS eE E0 8 std fun _ => insL L ⟨s, r, st, pan, am, code, tr, ca⟩, .int .i64 (std.ti fun _ => insC L ⟨s, r, st, pan, am, code, tr, ca⟩)]) := by
  refine fn_sound' (T := seatT) (G := gt5) (X := noX) seatT_ok gt5_ok noX_ok noI_ok mixed Tryz.func39 (.none) (fun A => [rowS eE E0 8 A fun _ => L, .agg [.int .u32 s, .str r, .int .i64 st, .str pan, .int .u64 am, .str code, .int .i64 tr, .int .i64 ca]]) (fun A => .tup [rowS eE E0 8 A fun _ => insL L ⟨s, r, st, pan, am, code, tr, ca⟩, .int .i64 (A.ti fun _ => insC L ⟨s, r, st, pan, am, code, tr, ca⟩)]) fun A hA => ?_
  obtain ⟨E, hE⟩ : ∃ E : Ent, E = ⟨s, r, st, pan, am, code, tr, ca⟩ := ⟨_, rfl⟩
  have eS : E.s = s := by rw [hE]
  have eR' : E.r = r := by rw [hE]
  rw [← hE]
  cbv
  repeat' (first | with_reducible exact True.intro | with_reducible exact dr_ok hA (by kernel_rfl) | with_reducible refine And.intro ?_ ?_ | (intro hc; cbv))
  all_goals (subst hA; simp only [std_add, std_sub, std_mul, std_quo, std_rem, std_band, std_bor, std_bxor, std_shl, std_shr, std_eq, std_ne, std_lt, std_le, std_conv, std_not, std_beq, std_bne, std_ite, std_want, std_and2, std_sadd, std_seq, std_sne, std_slt, std_sle, std_sgt, std_sge, std_slen, std_sget, std_scut, std_ofNat, std_toNat, std_nsub, std_nadd, std_lenOf, std_nz, std_nneg, std_inb, std_upto, std_slt63, std_grow, std_imp, std_impN, std_tr, std_tb, std_ti, std_ts, std_tn, std_tp, std_nmin, std_nset, std_fset, std_makes, std_room, std_zeros, std_nilq, std_notq, std_eqi, std_eqn, std_eqb, std_eqs, std_eqv, std_cat, std_lst, std_rset, std_rcopy, std_shift, std_eqr, std_strOf, std_bytesOf, std_isB, std_zOf, zOf_int, std_isI, isI_int, std_getL, std_nmul, std_sOf, sOf_str, std_isS, isS_str, std_fadd, std_fsub, std_fav, std_fsv, std_feq, std_fne, std_flt, std_fle, std_fgt, std_fge, std_fOf, std_fTo, std_fTv, lstOf_V, isRow_V, plc_has, ← hE] at *)
  all_goals first
    | exact ⟨trivial, hL⟩
    | exact ⟨trivial, hL, hS⟩
    | (intro h; exact ⟨h, hr1, hp, hcc⟩)
    | (intro h; exact ⟨h, trivial, hL⟩)
    | (intro h; exact h)
    | (intro h; simp only [Bool.true_and, Bool.beq_eq_decide_eq, decide_eq_true_eq]; exact h)
    | (have hg := gd_f hc
       have h1 := insL_1 hg
       first
         | (rw [h1.1]; done)
         | (rw [h1.1]; exact (Reps.lit _).eqr)
         | (rw [h1.2]; done))
    | (have hq : (bif !shR L then true else !eR E) = false := by assumption
       have hg := gd_t hq
       have hs : shR L = true := by cases h : shR L <;> simp [h] at hg ⊢
       first
         | (have h2 : has L s r = true := by assumption
            have h1 := insL_6 hg (by rw [eS, eR']; exact h2)
            first
              | (rw [h1.1]; done)
              | (rw [h1.1]; exact (Reps.lit _).eqr)
              | (rw [h1.2]; done))
         | (have h2 : has L s r = false := by assumption
            have h3 : ((L.length : Int) == 128) = true := by assumption
            have h1 := insL_7 hg (by rw [eS, eR']; exact h2) (by simp at h3; omega)
            first
              | (rw [h1.1]; done)
              | (rw [h1.1]; exact (Reps.lit _).eqr)
              | (rw [h1.2]; done))
         | (have h2 : has L s r = false := by assumption
            have h3 : ((L.length : Int) == 128) = false := by assumption
            have h1 := insL_0 hg (by rw [eS, eR']; exact h2) (by simp at h3; omega)
            have h4 := put_ins hs (e := E) (by rw [eS, eR']; exact h2)
            rw [← h1.1] at h4
            first
              | (rw [h4]; done)
              | (rw [h4]; exact (Reps.lit _).eqr)
              | (rw [h1.2]; done))
         | trace_state)
    | trace_state
noncomputable def c_rInsE : Ct := fun A args => match args with
  | [.slc n 8 f, .agg [.int .u32 s, .str r, .int .i64 st, .str pan, .int .u64 am, .str code, .int .i64 tr, .int .i64 ca]] => some (some (A.tp fun _ => (isRow eE E0 8 n f ∧ n ≤ 1000000 ∧ ∀ i, enT ((lstOf eE E0 8 n f).getD i E0)) ∧ r.length ≤ 1000000 ∧ pan.length ≤ 100000 ∧ code.length ≤ 1000000), .tup [rowS eE E0 8 A fun _ => insL (lstOf eE E0 8 n f) ⟨s, r, st, pan, am, code, tr, ca⟩, .int .i64 (A.ti fun _ => insC (lstOf eE E0 8 n f) ⟨s, r, st, pan, am, code, tr, ca⟩)])
  | _ => none
theorem good_rSwE (L : List Ent) (z s st am tr ca : Int) (r pan code : List UInt8) (hL : L.length ≤ 1000000) (hS : ∀ i, enT (L.getD i E0)) (hr1 : r.length ≤ 1000000) (hp : pan.length ≤ 100000) (hcc : code.length ≤ 1000000) : GoodP Tryz.prog gl0 42 [rowS eE E0 8 std fun _ => L, .int .i64 z, .agg [.int .u32 s, .str r, .int .i64 st, .str pan, .int .u64 am, .str code, .int .i64 tr, .int .i64 ca]] (.tup [rowS eE E0 8 std fun _ => swL L z ⟨s, r, st, pan, am, code, tr, ca⟩, .int .i64 (std.ti fun _ => swC L z ⟨s, r, st, pan, am, code, tr, ca⟩)]) := by
  refine fn_sound' (T := seatT) (G := gt5) (X := noX) seatT_ok gt5_ok noX_ok noI_ok mixed Tryz.func42 (.none) (fun A => [rowS eE E0 8 A fun _ => L, .int .i64 z, .agg [.int .u32 s, .str r, .int .i64 st, .str pan, .int .u64 am, .str code, .int .i64 tr, .int .i64 ca]]) (fun A => .tup [rowS eE E0 8 A fun _ => swL L z ⟨s, r, st, pan, am, code, tr, ca⟩, .int .i64 (A.ti fun _ => swC L z ⟨s, r, st, pan, am, code, tr, ca⟩)]) fun A hA => ?_
  obtain ⟨E, hE⟩ : ∃ E : Ent, E = ⟨s, r, st, pan, am, code, tr, ca⟩ := ⟨_, rfl⟩
  have eS : E.s = s := by rw [hE]
  have eR' : E.r = r := by rw [hE]
  rw [← hE]
  cbv
  repeat' (first | with_reducible exact True.intro | with_reducible exact dr_ok hA (by kernel_rfl) | with_reducible refine And.intro ?_ ?_ | (intro hc; cbv))
  all_goals (subst hA; simp only [std_add, std_sub, std_mul, std_quo, std_rem, std_band, std_bor, std_bxor, std_shl, std_shr, std_eq, std_ne, std_lt, std_le, std_conv, std_not, std_beq, std_bne, std_ite, std_want, std_and2, std_sadd, std_seq, std_sne, std_slt, std_sle, std_sgt, std_sge, std_slen, std_sget, std_scut, std_ofNat, std_toNat, std_nsub, std_nadd, std_lenOf, std_nz, std_nneg, std_inb, std_upto, std_slt63, std_grow, std_imp, std_impN, std_tr, std_tb, std_ti, std_ts, std_tn, std_tp, std_nmin, std_nset, std_fset, std_makes, std_room, std_zeros, std_nilq, std_notq, std_eqi, std_eqn, std_eqb, std_eqs, std_eqv, std_cat, std_lst, std_rset, std_rcopy, std_shift, std_eqr, std_strOf, std_bytesOf, std_isB, std_zOf, zOf_int, std_isI, isI_int, std_getL, std_nmul, std_sOf, sOf_str, std_isS, isS_str, std_fadd, std_fsub, std_fav, std_fsv, std_feq, std_fne, std_flt, std_fle, std_fgt, std_fge, std_fOf, std_fTo, std_fTv, lstOf_V, isRow_V, plc_lt, ← hE] at *)
  all_goals first
    | exact ⟨trivial, hL⟩
    | exact ⟨trivial, hL, hS⟩
    | (intro h; exact ⟨h, hr1, hp, hcc⟩)
    | (intro h; exact ⟨h, trivial, hL⟩)
    | (intro h; exact h)
    | (intro h; simp only [Bool.true_and, Bool.beq_eq_decide_eq, decide_eq_true_eq]; exact h)
    | (have hg := gd_f hc
       have h1 := swL_1 (z := z) hg
       first
         | (rw [h1.1]; done)
         | (rw [h1.1]; exact (Reps.lit _).eqr)
         | (rw [h1.2]; done))
    | (have hq : (bif !shR L then true else !eR E) = false := by assumption
       have hg := gd_t hq
       have hs : shR L = true := by cases h : shR L <;> simp [h] at hg ⊢
       first
         | (have h2 : (!has L s r) = true := by assumption
            have h1 := swL_5 (z := z) hg (by rw [eS, eR']; exact nb_f h2)
            first
              | (rw [h1.1]; done)
              | (rw [h1.1]; exact (Reps.lit _).eqr)
              | (rw [h1.2]; done))
         | (have h2 : (!has L s r) = false := by assumption
            have h3 := plc_pos hs (nb_t h2)
            have h5 := (has_pos ((ascB_iff L).1 (shR_asc hs).1) (nb_t h2)).1
            simp only [h3, Int.toNat_natCast] at hc ⊢
            first
              | exact ⟨Int.natCast_nonneg _, Int.ofNat_lt.2 h5⟩
              | (have h4 : ((L.getD (pos L s r) { s := 0, r := [], st := 0, pan := [], am := 0, code := [], tr := 0, ca := 0 }).st != z) = true := hc
                 have h1 := swL_8 (z := z) hg (by rw [eS, eR']; exact nb_t h2) (by rw [eS, eR']; exact (bne_iff_ne).1 h4)
                 first
                   | (rw [h1.1]; done)
                   | (rw [h1.1]; exact (Reps.lit _).eqr)
                   | (rw [h1.2]; done))
              | (have h4 : ((L.getD (pos L s r) { s := 0, r := [], st := 0, pan := [], am := 0, code := [], tr := 0, ca := 0 }).st != z) = false := hc
                 have h1 := swL_0 (z := z) hg (by rw [eS, eR']; exact nb_t h2) (by rw [eS, eR']; exact bne_eq_false_iff_eq.1 h4)
                 have h6 := put_sw hs (e := E) (by rw [eS, eR']; exact nb_t h2)
                 rw [← h1.1] at h6
                 first
                   | (rw [h6]; done)
                   | (rw [h6]; exact (Reps.lit _).eqr)
                   | (rw [h1.2]; done))
              | trace_state)
         | trace_state)
    | trace_state
noncomputable def c_rSwE : Ct := fun A args => match args with
  | [.slc n 8 f, .int .i64 z, .agg [.int .u32 s, .str r, .int .i64 st, .str pan, .int .u64 am, .str code, .int .i64 tr, .int .i64 ca]] => some (some (A.tp fun _ => (isRow eE E0 8 n f ∧ n ≤ 1000000 ∧ ∀ i, enT ((lstOf eE E0 8 n f).getD i E0)) ∧ r.length ≤ 1000000 ∧ pan.length ≤ 100000 ∧ code.length ≤ 1000000), .tup [rowS eE E0 8 A fun _ => swL (lstOf eE E0 8 n f) z ⟨s, r, st, pan, am, code, tr, ca⟩, .int .i64 (A.ti fun _ => swC (lstOf eE E0 8 n f) z ⟨s, r, st, pan, am, code, tr, ca⟩)])
  | _ => none
theorem good_rRmE (L : List Ent) (s : Int) (r : List UInt8) (hL : L.length ≤ 1000000) (hS : ∀ i, enT (L.getD i E0)) : GoodP Tryz.prog gl0 44 [rowS eE E0 8 std fun _ => L, .agg [.int .u32 s, .str r]] (.tup [rowS eE E0 8 std fun _ => rmL L s r, .int .i64 (std.ti fun _ => rmC L s r)]) := by
  refine fn_sound' (T := seatT.bsx) (G := gt5) (X := bsX) (tys_bsx seatT_ok) gt5_ok bsX_ok noI_ok mixed Tryz.func44 (.none) (fun A => [rowS eE E0 8 A fun _ => L, .agg [.int .u32 s, .str r]]) (fun A => .tup [rowS eE E0 8 A fun _ => rmL L s r, .int .i64 (A.ti fun _ => rmC L s r)]) fun A hA => ?_
  cbv
  repeat' (first | with_reducible exact True.intro | with_reducible exact dr_ok hA (by kernel_rfl) | with_reducible refine And.intro ?_ ?_ | (intro hc; cbv))
  all_goals (subst hA; simp only [std_add, std_sub, std_mul, std_quo, std_rem, std_band, std_bor, std_bxor, std_shl, std_shr, std_eq, std_ne, std_lt, std_le, std_conv, std_not, std_beq, std_bne, std_ite, std_want, std_and2, std_sadd, std_seq, std_sne, std_slt, std_sle, std_sgt, std_sge, std_slen, std_sget, std_scut, std_ofNat, std_toNat, std_nsub, std_nadd, std_lenOf, std_nz, std_nneg, std_inb, std_upto, std_slt63, std_grow, std_imp, std_impN, std_tr, std_tb, std_ti, std_ts, std_tn, std_tp, std_nmin, std_nset, std_fset, std_makes, std_room, std_zeros, std_nilq, std_notq, std_eqi, std_eqn, std_eqb, std_eqs, std_eqv, std_cat, std_lst, std_rset, std_rcopy, std_shift, std_eqr, std_strOf, std_bytesOf, std_isB, std_zOf, zOf_int, std_isI, isI_int, std_getL, std_nmul, std_sOf, sOf_str, std_isS, isS_str, std_fadd, std_fsub, std_fav, std_fsv, std_feq, std_fne, std_flt, std_fle, std_fgt, std_fge, std_fOf, std_fTo, std_fTv, lstOf_V, isRow_V, plc_lt] at *)
  all_goals first
    | exact ⟨trivial, hL⟩
    | exact ⟨trivial, hL, hS⟩
    | (have h1 := rm_1 (s := s) (r := r) (nb_f hc)
       first
         | (rw [h1.1]; done)
         | (rw [h1.1]; exact (Reps.lit _).eqr)
         | (rw [h1.2]; done))
    | (have hq : (!shR L) = false := by assumption
       have hs := nb_t hq
       first
         | (have h2 : (!has L s r) = true := by assumption
            have h1 := rm_5 hs (nb_f h2)
            first
              | (rw [h1.1]; done)
              | (rw [h1.1]; exact (Reps.lit _).eqr)
              | (rw [h1.2]; done))
         | (have h2 : (!has L s r) = false := by assumption
            have h3 := plc_pos hs (nb_t h2)
            have h5 := (has_pos ((ascB_iff L).1 (shR_asc hs).1) (nb_t h2)).1
            have h1 := rm_0 hs (nb_t h2)
            obtain ⟨p, hpp⟩ : ∃ p, p = pos L s r := ⟨_, rfl⟩
            rw [← hpp] at h3 h1 h5
            have hw : IntKind.i64.wrap ((p : Int) + 1) = ((p + 1 : Nat) : Int) := by rw [w64 (by omega)]; omega
            try simp only [h3, hw, Int.toNat_natCast, Nat.zero_add]
            first
              | exact ⟨Int.natCast_nonneg _, Int.ofNat_lt.2 (by omega)⟩
              | (constructor <;> omega)
              | omega
              | (rw [h1.2]; done)
              | (have hA := (((Reps.nil (enc := eE) (d := E0) (k := 8) (f := fun _ _ => SV.any)).catE (Reps.cut (enc := eE) (d := E0) (k := 8) L p (by omega)) rfl).catE (Reps.shift' (Reps.lit (enc := eE) (d := E0) (k := 8) L) (p + 1) (by omega)) (show 0 + p = p by omega))
                 refine eqr_of hA ?_ ?_
                 · rw [h1.1]; simp; omega
                 · rw [h1.1]; simp)
              | (rw [h1.1]; simp; omega)
              | trace_state)
         | trace_state)
    | trace_state
noncomputable def c_rRmE : Ct := fun A args => match args with
  | [.slc n 8 f, .agg [.int .u32 s, .str r]] => some (some (A.tp fun _ => isRow eE E0 8 n f ∧ n ≤ 1000000 ∧ ∀ i, enT ((lstOf eE E0 8 n f).getD i E0)), .tup [rowS eE E0 8 A fun _ => rmL (lstOf eE E0 8 n f) s r, .int .i64 (A.ti fun _ => rmC (lstOf eE E0 8 n f) s r)])
  | _ => none
noncomputable def gt6 : Ar → Pu := addC 39 c_rInsE (addC 42 c_rSwE (addC 44 c_rRmE (gt5)))
theorem gt6_ok : PuOk Tryz.prog gl0 (gt6 std) := by
  refine addC_ok (addC_ok (addC_ok (gt5_ok) ⟨_, Tryz.func44, rfl, by decide⟩ ?_) ⟨_, Tryz.func42, rfl, by decide⟩ ?_) ⟨_, Tryz.func39, rfl, by decide⟩ ?_
  · intro args p r h hp
    unfold c_rRmE at h
    split at h <;> cases h
    exact good_sv (good_rRmE _ _ _ (by rw [lstOf_length hp.1]; exact hp.2.1) hp.2.2) ⟨hp.1.sv, ⟨_, rfl, rfl, rfl, trivial⟩, trivial⟩
  · intro args p r h hp
    unfold c_rSwE at h
    split at h <;> cases h
    exact good_sv (good_rSwE _ _ _ _ _ _ _ _ _ _ (by rw [lstOf_length hp.1.1]; exact hp.1.2.1) hp.1.2.2 hp.2.1 hp.2.2.1 hp.2.2.2) ⟨hp.1.1.sv, rfl, ⟨_, rfl, rfl, rfl, rfl, rfl, rfl, rfl, rfl, rfl, trivial⟩, trivial⟩
  · intro args p r h hp
    unfold c_rInsE at h
    split at h <;> cases h
    exact good_sv (good_rInsE _ _ _ _ _ _ _ _ _ (by rw [lstOf_length hp.1.1]; exact hp.1.2.1) hp.1.2.2 hp.2.1 hp.2.2.1 hp.2.2.2) ⟨hp.1.1.sv, ⟨_, rfl, rfl, rfl, rfl, rfl, rfl, rfl, rfl, rfl, trivial⟩, trivial⟩
end Go.Vd

