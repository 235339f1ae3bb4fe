/- Shards: the reference's functions on rows of entries. -/
import Derived.Test.YtakcggldilbilaaDoorVdS9
import Derived.Test.YtakcggldilbilaaDoorVdRow2
import Derived.Lib.SmallJoins
import Derived.Test.YtakcggldilbilaaDoorRows
import Derived.Test.YtakcggldilbilaaDoorCards
import Derived.Test.YtakcggldilbilaaDoorTie
import Derived.Test.YtakcggldilbilaaDoorVdH3
import Derived.ProofKit
import Derived.LaidMore
import Derived.OpenShut
import Derived.Stop.Joined
import Derived.SevenTiedAt
import Derived.Lib.LaidTab
set_option linter.unusedVariables false
set_option linter.unusedSimpArgs false
set_option maxRecDepth 100000
set_option maxHeartbeats 8000000
namespace Go.Vd
open Go.Proofs
theorem ord_m1 {s t : Int} {r q : List UInt8} : ordK s r t q < 0 ↔ ordK s r t q = -1 := by
  rw [ordK_eq]
  split
  · simp
  · split <;> simp
def enT (e : Ent) : Prop := e.r.length ≤ 1000000 ∧ e.pan.length ≤ 100000 ∧ e.code.length ≤ 1000000
theorem good_rRightE (L : List Ent) (hL : L.length ≤ 1000000) (hS : ∀ i, enT (L.getD i E0)) : GoodP Tryd.prog gl0 56 [rowS eE E0 8 std fun _ => L] (.bool (std.tb fun _ => shR L)) := by
  refine fn_sound' (T := seatT) (G := gt3) (X := noX) seatT_ok gt3_ok noX_ok noI_ok mixed Tryd.func56 (.one) (fun A => [rowS eE E0 8 A fun _ => L]) (fun A => .bool (A.tb fun _ => shR L)) fun A hA => ?_
  cbv
  repeat' (first | with_reducible exact True.intro | with_reducible exact dr_ok hA (by kernel_rfl) | with_reducible refine And.intro ?_ ?_ | (intro hc; cbv))
  refine ⟨⟨{i : Nat // i ≤ L.length ∧ ∀ j, j < i → eR (L.getD j E0) = true ∧ (0 < j → ordE (L.getD (j - 1) E0) (L.getD j E0) < 0)}, fun b i => [(3, .int .i64 (i.1 : Nat))], fun b i => [], fun i => L.length - i.1, true⟩, ⟨⟨0, by omega, by simp⟩, ?_⟩, ?_⟩
  · cbv
    subst hA
    simp [-List.getD_eq_getElem?_getD, std_add, std_sub, std_mul, std_quo, std_rem, std_band, std_bor, std_bxor, std_shl, std_shr, std_eq, std_ne, std_lt, std_le, std_conv, std_not, std_beq, std_bne, std_ite, std_want, std_and2, std_sadd, std_seq, std_sne, std_slt, std_sle, std_sgt, std_sge, std_slen, std_sget, std_scut, std_ofNat, std_toNat, std_nsub, std_nadd, std_lenOf, std_nz, std_nneg, std_inb, std_upto, std_slt63, std_grow, std_imp, std_impN, std_tr, std_tb, std_ti, std_ts, std_tn, std_tp, std_nmin, std_makes, std_room, std_zeros, std_nilq, std_notq, std_eqi, std_eqn, std_eqb, std_eqs, std_eqv, std_cat, std_lst, std_rset, std_rcopy, std_shift, std_eqr, std_strOf, std_bytesOf, std_isB, std_zOf, zOf_int, std_isI, isI_int, std_getL, std_nmul, std_sOf, sOf_str, std_isS, isS_str, std_fadd, std_fsub, std_fav, std_fsv, std_feq, std_fne, std_flt, std_fle, std_fgt, std_fge, std_fOf, std_fTo, std_fTv]
  · rintro ⟨i, hx⟩
    have hi := hx.1
    have hz := hx.2
    have hSi := hS i
    obtain ⟨e, he⟩ : ∃ e, e = L.getD i E0 := ⟨_, rfl⟩
    obtain ⟨q, hq⟩ : ∃ q, q = L.getD (i - 1) E0 := ⟨_, rfl⟩
    have hg : L.getD i { s := 0, r := [], st := 0, pan := [], am := 0, code := [], tr := 0, ca := 0 } = e := he.symm
    have hw : IntKind.i64.wrap ((i : Int) - 1) = (i : Int) - 1 := w64 (by omega)
    have hg2 : L.getD ((i : Int) - 1).toNat { s := 0, r := [], st := 0, pan := [], am := 0, code := [], tr := 0, ca := 0 } = q := by
      rw [hq, show ((i : Int) - 1).toNat = i - 1 by omega]; rfl
    have hg3 : L.getD (i - 1) { s := 0, r := [], st := 0, pan := [], am := 0, code := [], tr := 0, ca := 0 } = q := hq.symm
    have hno := shR_no (L := L) (j := i)
    rw [← he] at hSi hno
    rw [← hq] at hno
    have hSi' : (e.r.length ≤ 1000000 ∧ e.pan.length ≤ 100000) ∧ e.code.length ≤ 1000000 := ⟨⟨hSi.1, hSi.2.1⟩, hSi.2.2⟩
    have hm : ordE q e < 0 ↔ ordK q.s q.r e.s e.r = -1 := ord_m1
    rcases Nat.lt_or_ge i L.length with hlt | hge
    · have hno2 := hno hlt
      rw [hm] at hno2
      clear hno
      cbv
      repeat' (first | with_reducible exact True.intro | with_reducible exact dr_ok hA (by kernel_rfl) | with_reducible refine And.intro ?_ ?_ | (intro hc; cbv))
      all_goals first
        | (fail_if_success (refine Exists.intro ?_ ?_)
           clear hz hm
           subst hA
           simp [-List.getD_eq_getElem?_getD, std_add, std_sub, std_mul, std_quo, std_rem, std_band, std_bor, std_bxor, std_shl, std_shr, std_eq, std_ne, std_lt, std_le, std_conv, std_not, std_beq, std_bne, std_ite, std_want, std_and2, std_sadd, std_seq, std_sne, std_slt, std_sle, std_sgt, std_sge, std_slen, std_sget, std_scut, std_ofNat, std_toNat, std_nsub, std_nadd, std_lenOf, std_nz, std_nneg, std_inb, std_upto, std_slt63, std_grow, std_imp, std_impN, std_tr, std_tb, std_ti, std_ts, std_tn, std_tp, std_nmin, std_makes, std_room, std_zeros, std_nilq, std_notq, std_eqi, std_eqn, std_eqb, std_eqs, std_eqv, std_cat, std_lst, std_rset, std_rcopy, std_shift, std_eqr, std_strOf, std_bytesOf, std_isB, std_zOf, zOf_int, std_isI, isI_int, std_getL, std_nmul, std_sOf, sOf_str, std_isS, isS_str, std_fadd, std_fsub, std_fav, std_fsv, std_feq, std_fne, std_flt, std_fle, std_fgt, std_fge, std_fOf, std_fTo, std_fTv, hg, hg2, hg3, hw] at *
           first
             | done
             | omega
             | exact hSi
             | exact hSi'
             | (intros; omega)
             | (intro h1 h2; exact ⟨⟨h1, h2⟩, (show (1 : Int) ≤ ((i : Nat) : Int) by omega), (show ((i : Nat) : Int) - 1 < ((L.length : Nat) : Int) by omega)⟩)
             | (intro h1 h2; exact ⟨⟨h1, h2⟩, hlt⟩)
             | (intro h1; exact ⟨h1, fun h2 => ⟨h1, h2⟩⟩)
             | exact hno2 (by rcases hc with h | h; exact .inl h; exact .inr h)
             | exact hno2 hc
             | trace_state)
        | (obtain ⟨i', hi'⟩ : ∃ i', i' = i + 1 := ⟨_, rfl⟩
           have hst : eR e = true ∧ (0 < i → ordE q e < 0) := by
             rw [hm]
             clear hm hno2 hz
             subst hA
             simp [-List.getD_eq_getElem?_getD, std_add, std_sub, std_mul, std_quo, std_rem, std_band, std_bor, std_bxor, std_shl, std_shr, std_eq, std_ne, std_lt, std_le, std_conv, std_not, std_beq, std_bne, std_ite, std_want, std_and2, std_sadd, std_seq, std_sne, std_slt, std_sle, std_sgt, std_sge, std_slen, std_sget, std_scut, std_ofNat, std_toNat, std_nsub, std_nadd, std_lenOf, std_nz, std_nneg, std_inb, std_upto, std_slt63, std_grow, std_imp, std_impN, std_tr, std_tb, std_ti, std_ts, std_tn, std_tp, std_nmin, std_makes, std_room, std_zeros, std_nilq, std_notq, std_eqi, std_eqn, std_eqb, std_eqs, std_eqv, std_cat, std_lst, std_rset, std_rcopy, std_shift, std_eqr, std_strOf, std_bytesOf, std_isB, std_zOf, zOf_int, std_isI, isI_int, std_getL, std_nmul, std_sOf, sOf_str, std_isS, isS_str, std_fadd, std_fsub, std_fav, std_fsv, std_feq, std_fne, std_flt, std_fle, std_fgt, std_fge, std_fOf, std_fTo, std_fTv, hg, hg2, hg3, hw] at hc
             exact ⟨hc.1, hc.2⟩
           refine ⟨⟨i', by omega, fun j hj => ?_⟩, ?_, show L.length - i' < L.length - i by omega⟩
           · rcases Nat.lt_or_ge j i with h | h
             · exact hz j h
             · obtain rfl : j = i := by omega
               rw [← he, ← hq]; exact hst
           · cbv
             subst hA
             simp [-List.getD_eq_getElem?_getD, std_add, std_sub, std_mul, std_quo, std_rem, std_band, std_bor, std_bxor, std_shl, std_shr, std_eq, std_ne, std_lt, std_le, std_conv, std_not, std_beq, std_bne, std_ite, std_want, std_and2, std_sadd, std_seq, std_sne, std_slt, std_sle, std_sgt, std_sge, std_slen, std_sget, std_scut, std_ofNat, std_toNat, std_nsub, std_nadd, std_lenOf, std_nz, std_nneg, std_inb, std_upto, std_slt63, std_grow, std_imp, std_impN, std_tr, std_tb, std_ti, std_ts, std_tn, std_tp, std_nmin, std_makes, std_room, std_zeros, std_nilq, std_notq, std_eqi, std_eqn, std_eqb, std_eqs, std_eqv, std_cat, std_lst, std_rset, std_rcopy, std_shift, std_eqr, std_strOf, std_bytesOf, std_isB, std_zOf, zOf_int, std_isI, isI_int, std_getL, std_nmul, std_sOf, sOf_str, std_isS, isS_str, std_fadd, std_fsub, std_fav, std_fsv, std_feq, std_fne, std_flt, std_fle, std_fgt, std_fge, std_fOf, std_fTo, std_fTv]
             exact w_succ' hi' (by omega))
        | trace_state
    · have hie : i = L.length := by omega
      have hall : shR L = decide (L.length ≤ 128) := by
        by_cases hl : L.length ≤ 128
        · rw [shR_yes hl fun j hj => hz j (by omega), decide_eq_true hl]
        · rw [shR_big hl, decide_eq_false hl]
      cbv
      repeat' (first | with_reducible exact True.intro | with_reducible exact dr_ok hA (by kernel_rfl) | with_reducible refine And.intro ?_ ?_ | (intro hc; cbv))
      all_goals first
        | (exfalso; clear hz hm hno; subst hA; simp [-List.getD_eq_getElem?_getD, std_add, std_sub, std_mul, std_quo, std_rem, std_band, std_bor, std_bxor, std_shl, std_shr, std_eq, std_ne, std_lt, std_le, std_conv, std_not, std_beq, std_bne, std_ite, std_want, std_and2, std_sadd, std_seq, std_sne, std_slt, std_sle, std_sgt, std_sge, std_slen, std_sget, std_scut, std_ofNat, std_toNat, std_nsub, std_nadd, std_lenOf, std_nz, std_nneg, std_inb, std_upto, std_slt63, std_grow, std_imp, std_impN, std_tr, std_tb, std_ti, std_ts, std_tn, std_tp, std_nmin, std_makes, std_room, std_zeros, std_nilq, std_notq, std_eqi, std_eqn, std_eqb, std_eqs, std_eqv, std_cat, std_lst, std_rset, std_rcopy, std_shift, std_eqr, std_strOf, std_bytesOf, std_isB, std_zOf, zOf_int, std_isI, isI_int, std_getL, std_nmul, std_sOf, sOf_str, std_isS, isS_str, std_fadd, std_fsub, std_fav, std_fsv, std_feq, std_fne, std_flt, std_fle, std_fgt, std_fge, std_fOf, std_fTo, std_fTv] at hc; omega)
        | (exfalso; clear hz hm hno; subst hA; rename_i q; simp [-List.getD_eq_getElem?_getD, std_add, std_sub, std_mul, std_quo, std_rem, std_band, std_bor, std_bxor, std_shl, std_shr, std_eq, std_ne, std_lt, std_le, std_conv, std_not, std_beq, std_bne, std_ite, std_want, std_and2, std_sadd, std_seq, std_sne, std_slt, std_sle, std_sgt, std_sge, std_slen, std_sget, std_scut, std_ofNat, std_toNat, std_nsub, std_nadd, std_lenOf, std_nz, std_nneg, std_inb, std_upto, std_slt63, std_grow, std_imp, std_impN, std_tr, std_tb, std_ti, std_ts, std_tn, std_tp, std_nmin, std_makes, std_room, std_zeros, std_nilq, std_notq, std_eqi, std_eqn, std_eqb, std_eqs, std_eqv, std_cat, std_lst, std_rset, std_rcopy, std_shift, std_eqr, std_strOf, std_bytesOf, std_isB, std_zOf, zOf_int, std_isI, isI_int, std_getL, std_nmul, std_sOf, sOf_str, std_isS, isS_str, std_fadd, std_fsub, std_fav, std_fsv, std_feq, std_fne, std_flt, std_fle, std_fgt, std_fge, std_fOf, std_fTo, std_fTv] at q; omega)
        | (clear hz hm hno
           subst hA
           simp [-List.getD_eq_getElem?_getD, std_add, std_sub, std_mul, std_quo, std_rem, std_band, std_bor, std_bxor, std_shl, std_shr, std_eq, std_ne, std_lt, std_le, std_conv, std_not, std_beq, std_bne, std_ite, std_want, std_and2, std_sadd, std_seq, std_sne, std_slt, std_sle, std_sgt, std_sge, std_slen, std_sget, std_scut, std_ofNat, std_toNat, std_nsub, std_nadd, std_lenOf, std_nz, std_nneg, std_inb, std_upto, std_slt63, std_grow, std_imp, std_impN, std_tr, std_tb, std_ti, std_ts, std_tn, std_tp, std_nmin, std_makes, std_room, std_zeros, std_nilq, std_notq, std_eqi, std_eqn, std_eqb, std_eqs, std_eqv, std_cat, std_lst, std_rset, std_rcopy, std_shift, std_eqr, std_strOf, std_bytesOf, std_isB, std_zOf, zOf_int, std_isI, isI_int, std_getL, std_nmul, std_sOf, sOf_str, std_isS, isS_str, std_fadd, std_fsub, std_fav, std_fsv, std_feq, std_fne, std_flt, std_fle, std_fgt, std_fge, std_fOf, std_fTo, std_fTv, hall] at *
           first
             | done
             | (rw [Bool.eq_iff_iff]; simp; omega)
             | omega
             | trace_state)
        | trace_state
noncomputable def c_rRightE : Ct := fun A args => match args with
  | [.slc n 8 f] => some (some (A.tp fun _ => isRow eE E0 8 n f ∧ n ≤ 1000000 ∧ ∀ i, enT ((lstOf eE E0 8 n f).getD i E0)), .bool (A.tb fun _ => shR (lstOf eE E0 8 n f)))
  | _ => none
/-- The place of a key's first entry. -/
def plc (L : List Ent) (s : Int) (r : List UInt8) : Int := if has L s r = true then (L.findIdx (kE s r) : Int) else -1
theorem plc_yes {L : List Ent} {s : Int} {r : List UInt8} {i : Nat} (hi : i < L.length) (h0 : ∀ j, j < i → kE s r (L.getD j E0) = false) (h : kE s r (L.getD i E0) = true) : plc L s r = (i : Int) := by
  unfold plc
  rw [if_pos (fnd_yes hi h0 h).2]
  congr 1
  rw [List.findIdx_eq hi]
  refine ⟨by rw [getD_get hi]; exact h, fun j hj => ?_⟩
  rw [getD_get (by omega)]
  exact h0 j hj
theorem plc_no {L : List Ent} {s : Int} {r : List UInt8} (h0 : ∀ j, j < L.length → kE s r (L.getD j E0) = false) : plc L s r = -1 := by
  unfold plc
  rw [if_neg (by rw [(fnd_no h0).2]; simp)]
theorem good_rPlace (L : List Ent) (s : Int) (r : List UInt8) (hL : L.length ≤ 1000000) : GoodP Tryd.prog gl0 45 [rowS eE E0 8 std fun _ => L, .agg [.int .u32 s, .str r]] (.int .i64 (std.ti fun _ => plc L s r)) := by
  refine fn_sound' (T := seatT) (G := noC) (X := noX) seatT_ok noC_ok noX_ok noI_ok mixed Tryd.func45 (.one) (fun A => [rowS eE E0 8 A fun _ => L, .agg [.int .u32 s, .str r]]) (fun A => .int .i64 (A.ti fun _ => plc L s r)) fun A hA => ?_
  cbv
  repeat' (first | with_reducible exact True.intro | with_reducible exact dr_ok hA (by kernel_rfl) | with_reducible refine And.intro ?_ ?_ | (intro hc; cbv))
  refine ⟨⟨{i : Nat // i ≤ L.length ∧ ∀ j, j < i → kE s r (L.getD j E0) = false}, fun b i => [(5, .int .i64 (i.1 : Nat))], fun b i => [], fun i => L.length - i.1, true⟩, ⟨⟨0, by omega, by simp⟩, ?_⟩, ?_⟩
  · cbv
    subst hA
    simp [-List.getD_eq_getElem?_getD, std_add, std_sub, std_mul, std_quo, std_rem, std_band, std_bor, std_bxor, std_shl, std_shr, std_eq, std_ne, std_lt, std_le, std_conv, std_not, std_beq, std_bne, std_ite, std_want, std_and2, std_sadd, std_seq, std_sne, std_slt, std_sle, std_sgt, std_sge, std_slen, std_sget, std_scut, std_ofNat, std_toNat, std_nsub, std_nadd, std_lenOf, std_nz, std_nneg, std_inb, std_upto, std_slt63, std_grow, std_imp, std_impN, std_tr, std_tb, std_ti, std_ts, std_tn, std_tp, std_nmin, std_makes, std_room, std_zeros, std_nilq, std_notq, std_eqi, std_eqn, std_eqb, std_eqs, std_eqv, std_cat, std_lst, std_rset, std_rcopy, std_shift, std_eqr, std_strOf, std_bytesOf, std_isB, std_zOf, zOf_int, std_isI, isI_int, std_getL, std_nmul, std_sOf, sOf_str, std_isS, isS_str, std_fadd, std_fsub, std_fav, std_fsv, std_feq, std_fne, std_flt, std_fle, std_fgt, std_fge, std_fOf, std_fTo, std_fTv]
  · rintro ⟨i, hx⟩
    have hi := hx.1
    have hz := hx.2
    obtain ⟨e, he⟩ : ∃ e, e = L.getD i E0 := ⟨_, rfl⟩
    have hg : L.getD i { s := 0, r := [], st := 0, pan := [], am := 0, code := [], tr := 0, ca := 0 } = e := he.symm
    rcases Nat.lt_or_ge i L.length with hlt | hge
    · have hyes := plc_yes (s := s) (r := r) hlt hz
      rw [← he] at hyes
      cbv
      repeat' (first | with_reducible exact True.intro | with_reducible exact dr_ok hA (by kernel_rfl) | with_reducible refine And.intro ?_ ?_ | (intro hc; cbv))
      all_goals first
        | (fail_if_success (refine Exists.intro ?_ ?_)
           clear hz
           subst hA
           simp [-List.getD_eq_getElem?_getD, std_add, std_sub, std_mul, std_quo, std_rem, std_band, std_bor, std_bxor, std_shl, std_shr, std_eq, std_ne, std_lt, std_le, std_conv, std_not, std_beq, std_bne, std_ite, std_want, std_and2, std_sadd, std_seq, std_sne, std_slt, std_sle, std_sgt, std_sge, std_slen, std_sget, std_scut, std_ofNat, std_toNat, std_nsub, std_nadd, std_lenOf, std_nz, std_nneg, std_inb, std_upto, std_slt63, std_grow, std_imp, std_impN, std_tr, std_tb, std_ti, std_ts, std_tn, std_tp, std_nmin, std_makes, std_room, std_zeros, std_nilq, std_notq, std_eqi, std_eqn, std_eqb, std_eqs, std_eqv, std_cat, std_lst, std_rset, std_rcopy, std_shift, std_eqr, std_strOf, std_bytesOf, std_isB, std_zOf, zOf_int, std_isI, isI_int, std_getL, std_nmul, std_sOf, sOf_str, std_isS, isS_str, std_fadd, std_fsub, std_fav, std_fsv, std_feq, std_fne, std_flt, std_fle, std_fgt, std_fge, std_fOf, std_fTo, std_fTv, hg] at *
           first
             | done
             | omega
             | exact ⟨(show (0 : Int) ≤ ((i : Nat) : Int) by omega), (show ((i : Nat) : Int) < ((L.length : Nat) : Int) by omega)⟩
             | exact (hyes (kE_iff.2 hc)).symm
             | trace_state)
        | (obtain ⟨i', hi'⟩ : ∃ i', i' = i + 1 := ⟨_, rfl⟩
           have hst : kE s r e = false := by
             clear hz hyes
             subst hA
             simp [-List.getD_eq_getElem?_getD, std_add, std_sub, std_mul, std_quo, std_rem, std_band, std_bor, std_bxor, std_shl, std_shr, std_eq, std_ne, std_lt, std_le, std_conv, std_not, std_beq, std_bne, std_ite, std_want, std_and2, std_sadd, std_seq, std_sne, std_slt, std_sle, std_sgt, std_sge, std_slen, std_sget, std_scut, std_ofNat, std_toNat, std_nsub, std_nadd, std_lenOf, std_nz, std_nneg, std_inb, std_upto, std_slt63, std_grow, std_imp, std_impN, std_tr, std_tb, std_ti, std_ts, std_tn, std_tp, std_nmin, std_makes, std_room, std_zeros, std_nilq, std_notq, std_eqi, std_eqn, std_eqb, std_eqs, std_eqv, std_cat, std_lst, std_rset, std_rcopy, std_shift, std_eqr, std_strOf, std_bytesOf, std_isB, std_zOf, zOf_int, std_isI, isI_int, std_getL, std_nmul, std_sOf, sOf_str, std_isS, isS_str, std_fadd, std_fsub, std_fav, std_fsv, std_feq, std_fne, std_flt, std_fle, std_fgt, std_fge, std_fOf, std_fTo, std_fTv, hg] at hc
             exact kE_no fun h => hc h.1 h.2
           refine ⟨⟨i', by omega, fun j hj => ?_⟩, ?_, show L.length - i' < L.length - i by omega⟩
           · rcases Nat.lt_or_ge j i with h | h
             · exact hz j h
             · obtain rfl : j = i := by omega
               rw [← he]; exact hst
           · cbv
             subst hA
             simp [-List.getD_eq_getElem?_getD, std_add, std_sub, std_mul, std_quo, std_rem, std_band, std_bor, std_bxor, std_shl, std_shr, std_eq, std_ne, std_lt, std_le, std_conv, std_not, std_beq, std_bne, std_ite, std_want, std_and2, std_sadd, std_seq, std_sne, std_slt, std_sle, std_sgt, std_sge, std_slen, std_sget, std_scut, std_ofNat, std_toNat, std_nsub, std_nadd, std_lenOf, std_nz, std_nneg, std_inb, std_upto, std_slt63, std_grow, std_imp, std_impN, std_tr, std_tb, std_ti, std_ts, std_tn, std_tp, std_nmin, std_makes, std_room, std_zeros, std_nilq, std_notq, std_eqi, std_eqn, std_eqb, std_eqs, std_eqv, std_cat, std_lst, std_rset, std_rcopy, std_shift, std_eqr, std_strOf, std_bytesOf, std_isB, std_zOf, zOf_int, std_isI, isI_int, std_getL, std_nmul, std_sOf, sOf_str, std_isS, isS_str, std_fadd, std_fsub, std_fav, std_fsv, std_feq, std_fne, std_flt, std_fle, std_fgt, std_fge, std_fOf, std_fTo, std_fTv]
             exact w_succ' hi' (by omega))
        | trace_state
    · have hie : i = L.length := by omega
      have hall := plc_no (L := L) (s := s) (r := r) fun j hj => hz j (by omega)
      cbv
      repeat' (first | with_reducible exact True.intro | with_reducible exact dr_ok hA (by kernel_rfl) | with_reducible refine And.intro ?_ ?_ | (intro hc; cbv))
      all_goals first
        | (exfalso; clear hz; subst hA; simp [-List.getD_eq_getElem?_getD, std_add, std_sub, std_mul, std_quo, std_rem, std_band, std_bor, std_bxor, std_shl, std_shr, std_eq, std_ne, std_lt, std_le, std_conv, std_not, std_beq, std_bne, std_ite, std_want, std_and2, std_sadd, std_seq, std_sne, std_slt, std_sle, std_sgt, std_sge, std_slen, std_sget, std_scut, std_ofNat, std_toNat, std_nsub, std_nadd, std_lenOf, std_nz, std_nneg, std_inb, std_upto, std_slt63, std_grow, std_imp, std_impN, std_tr, std_tb, std_ti, std_ts, std_tn, std_tp, std_nmin, std_makes, std_room, std_zeros, std_nilq, std_notq, std_eqi, std_eqn, std_eqb, std_eqs, std_eqv, std_cat, std_lst, std_rset, std_rcopy, std_shift, std_eqr, std_strOf, std_bytesOf, std_isB, std_zOf, zOf_int, std_isI, isI_int, std_getL, std_nmul, std_sOf, sOf_str, std_isS, isS_str, std_fadd, std_fsub, std_fav, std_fsv, std_feq, std_fne, std_flt, std_fle, std_fgt, std_fge, std_fOf, std_fTo, std_fTv] at hc; omega)
        | (exfalso; clear hz; subst hA; rename_i q; simp [-List.getD_eq_getElem?_getD, std_add, std_sub, std_mul, std_quo, std_rem, std_band, std_bor, std_bxor, std_shl, std_shr, std_eq, std_ne, std_lt, std_le, std_conv, std_not, std_beq, std_bne, std_ite, std_want, std_and2, std_sadd, std_seq, std_sne, std_slt, std_sle, std_sgt, std_sge, std_slen, std_sget, std_scut, std_ofNat, std_toNat, std_nsub, std_nadd, std_lenOf, std_nz, std_nneg, std_inb, std_upto, std_slt63, std_grow, std_imp, std_impN, std_tr, std_tb, std_ti, std_ts, std_tn, std_tp, std_nmin, std_makes, std_room, std_zeros, std_nilq, std_notq, std_eqi, std_eqn, std_eqb, std_eqs, std_eqv, std_cat, std_lst, std_rset, std_rcopy, std_shift, std_eqr, std_strOf, std_bytesOf, std_isB, std_zOf, zOf_int, std_isI, isI_int, std_getL, std_nmul, std_sOf, sOf_str, std_isS, isS_str, std_fadd, std_fsub, std_fav, std_fsv, std_feq, std_fne, std_flt, std_fle, std_fgt, std_fge, std_fOf, std_fTo, std_fTv] at q; omega)
        | (clear hz
           subst hA
           simp [-List.getD_eq_getElem?_getD, std_add, std_sub, std_mul, std_quo, std_rem, std_band, std_bor, std_bxor, std_shl, std_shr, std_eq, std_ne, std_lt, std_le, std_conv, std_not, std_beq, std_bne, std_ite, std_want, std_and2, std_sadd, std_seq, std_sne, std_slt, std_sle, std_sgt, std_sge, std_slen, std_sget, std_scut, std_ofNat, std_toNat, std_nsub, std_nadd, std_lenOf, std_nz, std_nneg, std_inb, std_upto, std_slt63, std_grow, std_imp, std_impN, std_tr, std_tb, std_ti, std_ts, std_tn, std_tp, std_nmin, std_makes, std_room, std_zeros, std_nilq, std_notq, std_eqi, std_eqn, std_eqb, std_eqs, std_eqv, std_cat, std_lst, std_rset, std_rcopy, std_shift, std_eqr, std_strOf, std_bytesOf, std_isB, std_zOf, zOf_int, std_isI, isI_int, std_getL, std_nmul, std_sOf, sOf_str, std_isS, isS_str, std_fadd, std_fsub, std_fav, std_fsv, std_feq, std_fne, std_flt, std_fle, std_fgt, std_fge, std_fOf, std_fTo, std_fTv, hall] at *)
        | trace_state
noncomputable def c_rPlace : Ct := fun A args => match args with
  | [.slc n 8 f, .agg [.int .u32 s, .str r]] => some (some (A.tp fun _ => isRow eE E0 8 n f ∧ n ≤ 1000000), .int .i64 (A.ti fun _ => plc (lstOf eE E0 8 n f) s r))
  | _ => none
noncomputable def gt4 : Ar → Pu := addC 56 c_rRightE (addC 45 c_rPlace (gt3))
theorem gt4_ok : PuOk Tryd.prog gl0 (gt4 std) := by
  refine addC_ok (addC_ok (gt3_ok) ⟨_, Tryd.func45, rfl, by decide⟩ ?_) ⟨_, Tryd.func56, rfl, by decide⟩ ?_
  · intro args p r h hp
    unfold c_rPlace at h
    split at h <;> cases h
    exact good_sv (good_rPlace _ _ _ (by rw [lstOf_length hp.1]; exact hp.2)) ⟨hp.1.sv, ⟨_, rfl, rfl, rfl, trivial⟩, trivial⟩
  · intro args p r h hp
    unfold c_rRightE at h
    split at h <;> cases h
    exact good_sv (good_rRightE _ (by rw [lstOf_length hp.1]; exact hp.2.1) hp.2.2) ⟨hp.1.sv, trivial⟩
end Go.Vd

set_option linter.unusedVariables false
set_option linter.unusedSimpArgs false
set_option maxRecDepth 100000
set_option maxHeartbeats 8000000
namespace Go.Vd
def putR (e : Ent) : List Ent → Bool → List Ent
  | [], d => if d = true then [] else [e]
  | x :: L, d => (if ordE e x ≤ 0 ∧ d = false then [e] else []) ++ ((if ordE e x = 0 then [] else [x]) ++ putR e L (d || decide (ordE e x ≤ 0)))
theorem putR_gt {e : Ent} {B : List Ent} {d : Bool} : ∀ {A : List Ent}, (∀ a ∈ A, 0 < ordE e a) → putR e (A ++ B) d = A ++ putR e B d
  | [], _ => rfl
  | a :: A, h => by
    have h1 := h a (List.mem_cons_self ..)
    rw [List.cons_append, putR, if_neg (by omega), if_neg (by omega), decide_eq_false (by omega), Bool.or_false, putR_gt fun x hx => h x (List.mem_cons_of_mem _ hx)]
    rfl
theorem putR_done {e : Ent} : ∀ {B : List Ent}, (∀ b ∈ B, ordE e b < 0) → putR e B true = B
  | [], _ => rfl
  | b :: B, h => by
    have h1 := h b (List.mem_cons_self ..)
    rw [putR, if_neg (by simp), if_neg (by omega), Bool.true_or, putR_done fun x hx => h x (List.mem_cons_of_mem _ hx)]
    rfl
theorem putR_first {e : Ent} : ∀ {B : List Ent}, (∀ b ∈ B, ordE e b < 0) → putR e B false = e :: B
  | [], _ => rfl
  | b :: B, h => by
    have h1 := h b (List.mem_cons_self ..)
    rw [putR, if_pos ⟨by omega, rfl⟩, if_neg (by omega), decide_eq_true (by omega), Bool.or_true, putR_done fun x hx => h x (List.mem_cons_of_mem _ hx)]
    rfl
theorem putR_same {e x : Ent} {B : List Ent} (hx : ordE e x = 0) (h : ∀ b ∈ B, ordE e b < 0) : putR e (x :: B) false = e :: B := by
  rw [putR, if_pos ⟨by omega, rfl⟩, if_pos hx, decide_eq_true (by omega), Bool.or_true, putR_done h]
  rfl
theorem putR_step {e : Ent} {L M : List Ent} {i : Nat} {d : Bool} (hi : i < L.length) {x : Ent} (hx : x = L.getD i E0) (h : M ++ putR e (L.drop i) d = putR e L false) :
    (M ++ ((if ordE e x ≤ 0 ∧ d = false then [e] else []) ++ (if ordE e x = 0 then [] else [x]))) ++ putR e (L.drop (i + 1)) (d || decide (ordE e x ≤ 0)) = putR e L false := by
  rw [List.drop_eq_getElem_cons hi, getD_get hi, ← hx, putR] at h
  rw [← h]
  simp [List.append_assoc]
theorem putR_end {e : Ent} {L M : List Ent} {d : Bool} (h : M ++ putR e (L.drop L.length) d = putR e L false) : putR e L false = if d = true then M else M ++ [e] := by
  rw [List.drop_length] at h
  rw [← h, putR]
  cases d <;> simp
theorem putR_len (e : Ent) : ∀ (L : List Ent) (d : Bool), (putR e L d).length ≤ 2 * L.length + 1
  | [], d => by unfold putR; split <;> simp
  | x :: L, d => by
    have := putR_len e L (d || decide (ordE e x ≤ 0))
    unfold putR
    simp only [List.length_append, List.length_cons]
    split <;> split <;> simp <;> omega
theorem ordK_rev {s t : Int} {r q : List UInt8} (h : ordK s r t q < 0) : 0 < ordK t q s r := by
  have h1 := ordK_lt_iff.1 h
  rw [ordK_eq]
  split
  · rename_i h2
    obtain ⟨rfl, rfl⟩ := h2
    rw [ordK_eq, if_pos ⟨rfl, rfl⟩] at h
    exact absurd h (by decide)
  · split
    · rename_i h3
      exfalso
      rcases h1 with h1 | ⟨rfl, h1⟩
      · rcases h3 with h3 | ⟨h3, _⟩ <;> omega
      · rcases h3 with h3 | ⟨_, h3⟩
        · omega
        · exact List.lt_irrefl _ (List.lt_trans h1 h3)
    · decide
theorem put_ins {L : List Ent} {e : Ent} (h : shR L = true) (hn : has L e.s e.r = false) : putR e L false = L.take (pos L e.s e.r) ++ [e] ++ L.drop (pos L e.s e.r) := by
  have hSp := Sp.of ((ascB_iff L).1 (shR_asc h).1) hn
  have h1 : ∀ a ∈ L.take (pos L e.s e.r), 0 < ordE e a := fun a ha => ordK_rev (hSp.la a ha)
  have h2 := putR_gt (e := e) (B := L.drop (pos L e.s e.r)) (d := false) h1
  rw [List.take_append_drop] at h2
  rw [h2, putR_first (e := e) fun b hb => hSp.lb b hb, List.append_assoc]
  rfl
theorem put_sw {L : List Ent} {e : Ent} (h : shR L = true) (hn : has L e.s e.r = true) : putR e L false = L.set (pos L e.s e.r) e := by
  have hasc := (ascB_iff L).1 (shR_asc h).1
  obtain ⟨hp, hk⟩ := has_pos hasc hn
  obtain ⟨k1, k2⟩ := kE_iff.1 hk
  have h1 : ∀ a ∈ L.take (pos L e.s e.r), 0 < ordE e a := fun a ha => by
    obtain ⟨i, hi, rfl⟩ := List.getElem_of_mem ha
    rw [List.length_take] at hi
    rw [List.getElem_take, getD_get (by omega)]
    have := pos_lt (L := L) (s := e.s) (r := e.r) (t := i) (by omega)
    unfold ltK at this
    exact ordK_rev (of_decide_eq_true this)
  have h3 : L.drop (pos L e.s e.r) = L.getD (pos L e.s e.r) E0 :: L.drop (pos L e.s e.r + 1) := by rw [List.drop_eq_getElem_cons hp, getD_get hp]
  have h2 := putR_gt (e := e) (B := L.drop (pos L e.s e.r)) (d := false) h1
  rw [List.take_append_drop] at h2
  rw [h2, h3, putR_same, List.set_eq_take_append_cons_drop, if_pos hp]
  · unfold ordE
    rw [k1, k2, ordK_eq, if_pos ⟨rfl, rfl⟩]
  · intro b hb
    obtain ⟨i, hi, rfl⟩ := List.getElem_of_mem hb
    rw [List.length_drop] at hi
    rw [List.getElem_drop, getD_get (by omega)]
    have := asc_mono hasc (show pos L e.s e.r < pos L e.s e.r + 1 + i by omega) (by omega)
    unfold ordE at this ⊢
    rw [k1, k2] at this
    exact this
theorem plc_has {L : List Ent} {s : Int} {r : List UInt8} : decide (0 ≤ plc L s r) = has L s r := by
  unfold plc
  cases h : has L s r
  · simp
  · simp
theorem plc_lt {L : List Ent} {s : Int} {r : List UInt8} : decide (plc L s r < 0) = !has L s r := by
  unfold plc
  cases h : has L s r
  · simp
  · simp
theorem plc_fnd {L : List Ent} {s : Int} {r : List UInt8} (h : has L s r = true) : ∃ i : Nat, i < L.length ∧ plc L s r = (i : Int) ∧ fnd L s r = L.getD i E0 := by
  have h2 := h
  unfold has at h2
  rw [List.any_eq_true] at h2
  have hi : L.findIdx (kE s r) < L.length := List.findIdx_lt_length.2 h2
  refine ⟨L.findIdx (kE s r), hi, by unfold plc; rw [if_pos h], ?_⟩
  have h0 : ∀ j, j < L.findIdx (kE s r) → kE s r (L.getD j E0) = false := fun j hj => by
    have := List.not_of_lt_findIdx hj
    rw [getD_get (by omega)] at this
    simpa using this
  have h1 : kE s r (L.getD (L.findIdx (kE s r)) E0) = true := by
    have := List.findIdx_getElem (w := hi)
    rw [getD_get hi] at this
    exact this
  exact (fnd_yes hi h0 h1).1
theorem plc_pos {L : List Ent} {s : Int} {r : List UInt8} (h : shR L = true) (hn : has L s r = true) : plc L s r = (pos L s r : Int) := by
  have hasc := (ascB_iff L).1 (shR_asc h).1
  obtain ⟨hp, hk⟩ := has_pos hasc hn
  refine plc_yes hp (fun j hj => ?_) hk
  cases h2 : kE s r (L.getD j E0)
  · rfl
  · have := ltK_self h2
    rw [pos_lt hj] at this
    cases this
end Go.Vd

set_option linter.unusedVariables false
set_option linter.unusedSimpArgs false
set_option maxRecDepth 100000
set_option maxHeartbeats 8000000
namespace Go.Vd
open Go.Proofs
theorem good_rPutE (L : List Ent) (s st am tr ca : Int) (r pan code : List UInt8) (hL : L.length ≤ 1000000) : GoodP Tryd.prog gl0 109 [rowS eE E0 8 std fun _ => L, .agg [.int .u32 s, .str r, .int .i64 st, .str pan, .int .u64 am, .str code, .int .i64 tr, .int .i64 ca]] (rowS eE E0 8 std fun _ => putR ⟨s, r, st, pan, am, code, tr, ca⟩ L false) := by
  refine fn_sound' (T := seatT) (G := gt4) (X := noX) seatT_ok gt4_ok noX_ok noI_ok mixed Tryd.func109 (.none) (fun A => [rowS eE E0 8 A fun _ => L, .agg [.int .u32 s, .str r, .int .i64 st, .str pan, .int .u64 am, .str code, .int .i64 tr, .int .i64 ca]]) (fun A => rowS eE E0 8 A fun _ => putR ⟨s, r, st, pan, am, code, tr, ca⟩ L false) fun A hA => ?_
  obtain ⟨E, hE⟩ : ∃ E : Ent, E = ⟨s, r, st, pan, am, code, tr, ca⟩ := ⟨_, rfl⟩
  rw [← hE]
  cbv
  repeat' (first | with_reducible exact True.intro | with_reducible exact dr_ok hA (by kernel_rfl) | with_reducible refine And.intro ?_ ?_ | (intro hc; cbv))
  refine ⟨⟨{p : (Nat × Bool) × List Ent // p.1.1 ≤ L.length ∧ p.2 ++ putR E (L.drop p.1.1) p.1.2 = putR E L false ∧ p.2.length ≤ 2 * p.1.1}, fun b p => [(5, .own b), (6, .bool p.1.1.2), (7, .int .i64 (p.1.1.1 : Nat))], fun b p => [(b, .row 68 8 (A.tn fun _ => p.1.2.length) (rowF eE E0 A fun _ => p.1.2))], fun p => L.length - p.1.1.1, true⟩, ⟨⟨((0, false), []), Nat.zero_le _, rfl, by simp⟩, ?_⟩, ?_⟩
  · cbv
    subst hA
    simp [-List.getD_eq_getElem?_getD, std_add, std_sub, std_mul, std_quo, std_rem, std_band, std_bor, std_bxor, std_shl, std_shr, std_eq, std_ne, std_lt, std_le, std_conv, std_not, std_beq, std_bne, std_ite, std_want, std_and2, std_sadd, std_seq, std_sne, std_slt, std_sle, std_sgt, std_sge, std_slen, std_sget, std_scut, std_ofNat, std_toNat, std_nsub, std_nadd, std_lenOf, std_nz, std_nneg, std_inb, std_upto, std_slt63, std_grow, std_imp, std_impN, std_tr, std_tb, std_ti, std_ts, std_tn, std_tp, std_nmin, std_makes, std_room, std_zeros, std_nilq, std_notq, std_eqi, std_eqn, std_eqb, std_eqs, std_eqv, std_cat, std_lst, std_rset, std_rcopy, std_shift, std_eqr, std_strOf, std_bytesOf, std_isB, std_zOf, zOf_int, std_isI, isI_int, std_getL, std_nmul, std_sOf, sOf_str, std_isS, isS_str, std_fadd, std_fsub, std_fav, std_fsv, std_feq, std_fne, std_flt, std_fle, std_fgt, std_fge, std_fOf, std_fTo, std_fTv]
  · rintro ⟨⟨⟨i, d⟩, M⟩, hx⟩
    have hi : i ≤ L.length := hx.1
    have hM : M ++ putR E (L.drop i) d = putR E L false := hx.2.1
    have hl : M.length ≤ 2 * i := hx.2.2
    obtain ⟨x, hxe⟩ : ∃ x, x = L.getD i E0 := ⟨_, rfl⟩
    have hg : L.getD i { s := 0, r := [], st := 0, pan := [], am := 0, code := [], tr := 0, ca := 0 } = x := hxe.symm
    rcases Nat.lt_or_ge i L.length with hlt | hge
    · have hst := putR_step (e := E) hlt hxe hM
      have hoE : ordE E x = ordK s r x.s x.r := by unfold ordE; rw [hE]
      obtain ⟨i', hi'⟩ : ∃ i', i' = i + 1 := ⟨_, rfl⟩
      rw [← hi', hoE] at hst
      obtain ⟨n, hn⟩ : ∃ n, n = ordK s r x.s x.r := ⟨_, rfl⟩
      rw [← hn] at hst
      have hcE : ∀ j, j < 8 → Ceq (getAt [SV.int .u32 s, SV.str r, SV.int .i64 st, SV.str pan, SV.int .u64 am, SV.str code, SV.int .i64 tr, SV.int .i64 ca] j) (getAt (eE std fun _ => E) j) := by
        rw [hE]; exact cell_eE ⟨s, r, st, pan, am, code, tr, ca⟩
      cbv
      repeat' (first | with_reducible exact True.intro | with_reducible exact dr_ok hA (by kernel_rfl) | with_reducible refine And.intro ?_ ?_ | (intro hc; cbv))
      all_goals first
        | (fail_if_success (refine Exists.intro ?_ ?_)
           clear hst hM hoE
           subst hA
           simp [-List.getD_eq_getElem?_getD, std_add, std_sub, std_mul, std_quo, std_rem, std_band, std_bor, std_bxor, std_shl, std_shr, std_eq, std_ne, std_lt, std_le, std_conv, std_not, std_beq, std_bne, std_ite, std_want, std_and2, std_sadd, std_seq, std_sne, std_slt, std_sle, std_sgt, std_sge, std_slen, std_sget, std_scut, std_ofNat, std_toNat, std_nsub, std_nadd, std_lenOf, std_nz, std_nneg, std_inb, std_upto, std_slt63, std_grow, std_imp, std_impN, std_tr, std_tb, std_ti, std_ts, std_tn, std_tp, std_nmin, std_makes, std_room, std_zeros, std_nilq, std_notq, std_eqi, std_eqn, std_eqb, std_eqs, std_eqv, std_cat, std_lst, std_rset, std_rcopy, std_shift, std_eqr, std_strOf, std_bytesOf, std_isB, std_zOf, zOf_int, std_isI, isI_int, std_getL, std_nmul, std_sOf, sOf_str, std_isS, isS_str, std_fadd, std_fsub, std_fav, std_fsv, std_feq, std_fne, std_flt, std_fle, std_fgt, std_fge, std_fOf, std_fTo, std_fTv, hg, ← hn] at *
           first
             | done
             | omega
             | exact ⟨(show (0 : Int) ≤ ((i : Nat) : Int) by omega), (show ((i : Nat) : Int) < ((L.length : Nat) : Int) by omega)⟩
             | (constructor <;> omega)
             | (intros; assumption)
             | (intro h1 h2; exact ⟨h1, h2⟩)
             | trace_state)
        | (have key : ∀ (M' : List Ent) (d' : Bool), M' = M ++ ((if n ≤ 0 ∧ d = false then [E] else []) ++ (if n = 0 then [] else [x])) → d' = (d || decide (n ≤ 0)) → i' ≤ L.length ∧ M' ++ putR E (L.drop i') d' = putR E L false ∧ M'.length ≤ 2 * i' := by
             intro M' d' e1 e2
             refine ⟨by omega, by rw [e1, e2]; exact hst, ?_⟩
             rw [e1]
             split <;> split <;> simp <;> omega
           rename_i g1 g2
           by_cases z : n = 0
           · by_cases k : n ≤ 0 ∧ d = false
             · obtain ⟨M', hM'⟩ : ∃ M', M' = M ++ [E] := ⟨_, rfl⟩
               obtain ⟨d', hd'⟩ : ∃ d', d' = true := ⟨_, rfl⟩
               first
                 | (exfalso; clear key hst; subst hA; simp [-List.getD_eq_getElem?_getD, std_add, std_sub, std_mul, std_quo, std_rem, std_band, std_bor, std_bxor, std_shl, std_shr, std_eq, std_ne, std_lt, std_le, std_conv, std_not, std_beq, std_bne, std_ite, std_want, std_and2, std_sadd, std_seq, std_sne, std_slt, std_sle, std_sgt, std_sge, std_slen, std_sget, std_scut, std_ofNat, std_toNat, std_nsub, std_nadd, std_lenOf, std_nz, std_nneg, std_inb, std_upto, std_slt63, std_grow, std_imp, std_impN, std_tr, std_tb, std_ti, std_ts, std_tn, std_tp, std_nmin, std_makes, std_room, std_zeros, std_nilq, std_notq, std_eqi, std_eqn, std_eqb, std_eqs, std_eqv, std_cat, std_lst, std_rset, std_rcopy, std_shift, std_eqr, std_strOf, std_bytesOf, std_isB, std_zOf, zOf_int, std_isI, isI_int, std_getL, std_nmul, std_sOf, sOf_str, std_isS, isS_str, std_fadd, std_fsub, std_fav, std_fsv, std_feq, std_fne, std_flt, std_fle, std_fgt, std_fge, std_fOf, std_fTo, std_fTv, hg, ← hn, z, k.2] at g2 hc; done)
                 | (refine ⟨⟨((i', d'), M'), key M' d' (by rw [hM', if_pos k, if_pos z]; simp) (by rw [hd', decide_eq_true k.1]; simp)⟩, ?_, show L.length - i' < L.length - i by omega⟩
                    cbv
                    subst hA
                    simp [-List.getD_eq_getElem?_getD, std_add, std_sub, std_mul, std_quo, std_rem, std_band, std_bor, std_bxor, std_shl, std_shr, std_eq, std_ne, std_lt, std_le, std_conv, std_not, std_beq, std_bne, std_ite, std_want, std_and2, std_sadd, std_seq, std_sne, std_slt, std_sle, std_sgt, std_sge, std_slen, std_sget, std_scut, std_ofNat, std_toNat, std_nsub, std_nadd, std_lenOf, std_nz, std_nneg, std_inb, std_upto, std_slt63, std_grow, std_imp, std_impN, std_tr, std_tb, std_ti, std_ts, std_tn, std_tp, std_nmin, std_makes, std_room, std_zeros, std_nilq, std_notq, std_eqi, std_eqn, std_eqb, std_eqs, std_eqv, std_cat, std_lst, std_rset, std_rcopy, std_shift, std_eqr, std_strOf, std_bytesOf, std_isB, std_zOf, zOf_int, std_isI, isI_int, std_getL, std_nmul, std_sOf, sOf_str, std_isS, isS_str, std_fadd, std_fsub, std_fav, std_fsv, std_feq, std_fne, std_flt, std_fle, std_fgt, std_fge, std_fOf, std_fTo, std_fTv, hd']
                    refine ⟨w_succ' hi' (by omega), ?_, ?_⟩
                    · rw [hM']; simp
                    · exact eqr_of ((Reps.lit M).cat (Reps.one hcE)) (by rw [hM']; simp) hM'.symm)
             · obtain ⟨M', hM'⟩ : ∃ M', M' = M := ⟨_, rfl⟩
               obtain ⟨d', hd'⟩ : ∃ d', d' = d := ⟨_, rfl⟩
               have hdt : d = true := by cases d <;> simp [z] at k ⊢
               first
                 | (exfalso; clear key hst; subst hA; simp [-List.getD_eq_getElem?_getD, std_add, std_sub, std_mul, std_quo, std_rem, std_band, std_bor, std_bxor, std_shl, std_shr, std_eq, std_ne, std_lt, std_le, std_conv, std_not, std_beq, std_bne, std_ite, std_want, std_and2, std_sadd, std_seq, std_sne, std_slt, std_sle, std_sgt, std_sge, std_slen, std_sget, std_scut, std_ofNat, std_toNat, std_nsub, std_nadd, std_lenOf, std_nz, std_nneg, std_inb, std_upto, std_slt63, std_grow, std_imp, std_impN, std_tr, std_tb, std_ti, std_ts, std_tn, std_tp, std_nmin, std_makes, std_room, std_zeros, std_nilq, std_notq, std_eqi, std_eqn, std_eqb, std_eqs, std_eqv, std_cat, std_lst, std_rset, std_rcopy, std_shift, std_eqr, std_strOf, std_bytesOf, std_isB, std_zOf, zOf_int, std_isI, isI_int, std_getL, std_nmul, std_sOf, sOf_str, std_isS, isS_str, std_fadd, std_fsub, std_fav, std_fsv, std_feq, std_fne, std_flt, std_fle, std_fgt, std_fge, std_fOf, std_fTo, std_fTv, hg, ← hn, z, hdt] at g2 hc; done)
                 | (refine ⟨⟨((i', d'), M'), key M' d' (by rw [hM', if_neg k, if_pos z]; simp) (by rw [hd', hdt]; simp)⟩, ?_, show L.length - i' < L.length - i by omega⟩
                    cbv
                    subst hA
                    simp [-List.getD_eq_getElem?_getD, std_add, std_sub, std_mul, std_quo, std_rem, std_band, std_bor, std_bxor, std_shl, std_shr, std_eq, std_ne, std_lt, std_le, std_conv, std_not, std_beq, std_bne, std_ite, std_want, std_and2, std_sadd, std_seq, std_sne, std_slt, std_sle, std_sgt, std_sge, std_slen, std_sget, std_scut, std_ofNat, std_toNat, std_nsub, std_nadd, std_lenOf, std_nz, std_nneg, std_inb, std_upto, std_slt63, std_grow, std_imp, std_impN, std_tr, std_tb, std_ti, std_ts, std_tn, std_tp, std_nmin, std_makes, std_room, std_zeros, std_nilq, std_notq, std_eqi, std_eqn, std_eqb, std_eqs, std_eqv, std_cat, std_lst, std_rset, std_rcopy, std_shift, std_eqr, std_strOf, std_bytesOf, std_isB, std_zOf, zOf_int, std_isI, isI_int, std_getL, std_nmul, std_sOf, sOf_str, std_isS, isS_str, std_fadd, std_fsub, std_fav, std_fsv, std_feq, std_fne, std_flt, std_fle, std_fgt, std_fge, std_fOf, std_fTo, std_fTv, hd', hM']
                    exact w_succ' hi' (by omega))
           · by_cases k : n ≤ 0 ∧ d = false
             · obtain ⟨M', hM'⟩ : ∃ M', M' = M ++ [E] ++ [x] := ⟨_, rfl⟩
               obtain ⟨d', hd'⟩ : ∃ d', d' = true := ⟨_, rfl⟩
               first
                 | (exfalso; clear key hst; subst hA; simp [-List.getD_eq_getElem?_getD, std_add, std_sub, std_mul, std_quo, std_rem, std_band, std_bor, std_bxor, std_shl, std_shr, std_eq, std_ne, std_lt, std_le, std_conv, std_not, std_beq, std_bne, std_ite, std_want, std_and2, std_sadd, std_seq, std_sne, std_slt, std_sle, std_sgt, std_sge, std_slen, std_sget, std_scut, std_ofNat, std_toNat, std_nsub, std_nadd, std_lenOf, std_nz, std_nneg, std_inb, std_upto, std_slt63, std_grow, std_imp, std_impN, std_tr, std_tb, std_ti, std_ts, std_tn, std_tp, std_nmin, std_makes, std_room, std_zeros, std_nilq, std_notq, std_eqi, std_eqn, std_eqb, std_eqs, std_eqv, std_cat, std_lst, std_rset, std_rcopy, std_shift, std_eqr, std_strOf, std_bytesOf, std_isB, std_zOf, zOf_int, std_isI, isI_int, std_getL, std_nmul, std_sOf, sOf_str, std_isS, isS_str, std_fadd, std_fsub, std_fav, std_fsv, std_feq, std_fne, std_flt, std_fle, std_fgt, std_fge, std_fOf, std_fTo, std_fTv, hg, ← hn, z, k.1, k.2] at g2 hc; done)
                 | (refine ⟨⟨((i', d'), M'), key M' d' (by rw [hM', if_pos k, if_neg z]; simp) (by rw [hd', decide_eq_true k.1]; simp)⟩, ?_, show L.length - i' < L.length - i by omega⟩
                    cbv
                    subst hA
                    simp [-List.getD_eq_getElem?_getD, std_add, std_sub, std_mul, std_quo, std_rem, std_band, std_bor, std_bxor, std_shl, std_shr, std_eq, std_ne, std_lt, std_le, std_conv, std_not, std_beq, std_bne, std_ite, std_want, std_and2, std_sadd, std_seq, std_sne, std_slt, std_sle, std_sgt, std_sge, std_slen, std_sget, std_scut, std_ofNat, std_toNat, std_nsub, std_nadd, std_lenOf, std_nz, std_nneg, std_inb, std_upto, std_slt63, std_grow, std_imp, std_impN, std_tr, std_tb, std_ti, std_ts, std_tn, std_tp, std_nmin, std_makes, std_room, std_zeros, std_nilq, std_notq, std_eqi, std_eqn, std_eqb, std_eqs, std_eqv, std_cat, std_lst, std_rset, std_rcopy, std_shift, std_eqr, std_strOf, std_bytesOf, std_isB, std_zOf, zOf_int, std_isI, isI_int, std_getL, std_nmul, std_sOf, sOf_str, std_isS, isS_str, std_fadd, std_fsub, std_fav, std_fsv, std_feq, std_fne, std_flt, std_fle, std_fgt, std_fge, std_fOf, std_fTo, std_fTv, hd', hg]
                    refine ⟨w_succ' hi' (by omega), ?_, ?_⟩
                    · rw [hM']; simp
                    · exact eqr_of (((Reps.lit M).cat (Reps.one hcE)).cat (Reps.one (cell_eE x))) (by rw [hM']; simp) hM'.symm)
             · obtain ⟨M', hM'⟩ : ∃ M', M' = M ++ [x] := ⟨_, rfl⟩
               obtain ⟨d', hd'⟩ : ∃ d', d' = d := ⟨_, rfl⟩
               first
                 | (exfalso; clear key hst; subst hA; simp [-List.getD_eq_getElem?_getD, std_add, std_sub, std_mul, std_quo, std_rem, std_band, std_bor, std_bxor, std_shl, std_shr, std_eq, std_ne, std_lt, std_le, std_conv, std_not, std_beq, std_bne, std_ite, std_want, std_and2, std_sadd, std_seq, std_sne, std_slt, std_sle, std_sgt, std_sge, std_slen, std_sget, std_scut, std_ofNat, std_toNat, std_nsub, std_nadd, std_lenOf, std_nz, std_nneg, std_inb, std_upto, std_slt63, std_grow, std_imp, std_impN, std_tr, std_tb, std_ti, std_ts, std_tn, std_tp, std_nmin, std_makes, std_room, std_zeros, std_nilq, std_notq, std_eqi, std_eqn, std_eqb, std_eqs, std_eqv, std_cat, std_lst, std_rset, std_rcopy, std_shift, std_eqr, std_strOf, std_bytesOf, std_isB, std_zOf, zOf_int, std_isI, isI_int, std_getL, std_nmul, std_sOf, sOf_str, std_isS, isS_str, std_fadd, std_fsub, std_fav, std_fsv, std_feq, std_fne, std_flt, std_fle, std_fgt, std_fge, std_fOf, std_fTo, std_fTv, hg, ← hn, z] at g2 hc; cases d <;> simp at k g2 <;> omega)
                 | (exfalso; clear key hst; subst hA; simp [-List.getD_eq_getElem?_getD, std_add, std_sub, std_mul, std_quo, std_rem, std_band, std_bor, std_bxor, std_shl, std_shr, std_eq, std_ne, std_lt, std_le, std_conv, std_not, std_beq, std_bne, std_ite, std_want, std_and2, std_sadd, std_seq, std_sne, std_slt, std_sle, std_sgt, std_sge, std_slen, std_sget, std_scut, std_ofNat, std_toNat, std_nsub, std_nadd, std_lenOf, std_nz, std_nneg, std_inb, std_upto, std_slt63, std_grow, std_imp, std_impN, std_tr, std_tb, std_ti, std_ts, std_tn, std_tp, std_nmin, std_makes, std_room, std_zeros, std_nilq, std_notq, std_eqi, std_eqn, std_eqb, std_eqs, std_eqv, std_cat, std_lst, std_rset, std_rcopy, std_shift, std_eqr, std_strOf, std_bytesOf, std_isB, std_zOf, zOf_int, std_isI, isI_int, std_getL, std_nmul, std_sOf, sOf_str, std_isS, isS_str, std_fadd, std_fsub, std_fav, std_fsv, std_feq, std_fne, std_flt, std_fle, std_fgt, std_fge, std_fOf, std_fTo, std_fTv, hg, ← hn, z] at g2 hc; done)
                 | (refine ⟨⟨((i', d'), M'), key M' d' (by rw [hM', if_neg k, if_neg z]; simp) (by rw [hd']; cases d <;> simp at k ⊢; omega)⟩, ?_, show L.length - i' < L.length - i by omega⟩
                    cbv
                    subst hA
                    simp [-List.getD_eq_getElem?_getD, std_add, std_sub, std_mul, std_quo, std_rem, std_band, std_bor, std_bxor, std_shl, std_shr, std_eq, std_ne, std_lt, std_le, std_conv, std_not, std_beq, std_bne, std_ite, std_want, std_and2, std_sadd, std_seq, std_sne, std_slt, std_sle, std_sgt, std_sge, std_slen, std_sget, std_scut, std_ofNat, std_toNat, std_nsub, std_nadd, std_lenOf, std_nz, std_nneg, std_inb, std_upto, std_slt63, std_grow, std_imp, std_impN, std_tr, std_tb, std_ti, std_ts, std_tn, std_tp, std_nmin, std_makes, std_room, std_zeros, std_nilq, std_notq, std_eqi, std_eqn, std_eqb, std_eqs, std_eqv, std_cat, std_lst, std_rset, std_rcopy, std_shift, std_eqr, std_strOf, std_bytesOf, std_isB, std_zOf, zOf_int, std_isI, isI_int, std_getL, std_nmul, std_sOf, sOf_str, std_isS, isS_str, std_fadd, std_fsub, std_fav, std_fsv, std_feq, std_fne, std_flt, std_fle, std_fgt, std_fge, std_fOf, std_fTo, std_fTv, hd', hg]
                    refine ⟨w_succ' hi' (by omega), ?_, ?_⟩
                    · rw [hM']; simp
                    · exact eqr_of ((Reps.lit M).cat (Reps.one (cell_eE x))) (by rw [hM']; simp) hM'.symm))
        | trace_state
    · have hie : i = L.length := by omega
      rw [hie] at hM
      have hend := putR_end hM
      have hcE : ∀ j, j < 8 → Ceq (getAt [SV.int .u32 s, SV.str r, SV.int .i64 st, SV.str pan, SV.int .u64 am, SV.str code, SV.int .i64 tr, SV.int .i64 ca] j) (getAt (eE std fun _ => E) j) := by
        rw [hE]; exact cell_eE ⟨s, r, st, pan, am, code, tr, ca⟩
      cbv
      repeat' (first | with_reducible exact True.intro | with_reducible exact dr_ok hA (by kernel_rfl) | with_reducible refine And.intro ?_ ?_ | (intro hc; cbv))
      all_goals first
        | (exfalso; clear hM hend; subst hA; simp [-List.getD_eq_getElem?_getD, std_add, std_sub, std_mul, std_quo, std_rem, std_band, std_bor, std_bxor, std_shl, std_shr, std_eq, std_ne, std_lt, std_le, std_conv, std_not, std_beq, std_bne, std_ite, std_want, std_and2, std_sadd, std_seq, std_sne, std_slt, std_sle, std_sgt, std_sge, std_slen, std_sget, std_scut, std_ofNat, std_toNat, std_nsub, std_nadd, std_lenOf, std_nz, std_nneg, std_inb, std_upto, std_slt63, std_grow, std_imp, std_impN, std_tr, std_tb, std_ti, std_ts, std_tn, std_tp, std_nmin, std_makes, std_room, std_zeros, std_nilq, std_notq, std_eqi, std_eqn, std_eqb, std_eqs, std_eqv, std_cat, std_lst, std_rset, std_rcopy, std_shift, std_eqr, std_strOf, std_bytesOf, std_isB, std_zOf, zOf_int, std_isI, isI_int, std_getL, std_nmul, std_sOf, sOf_str, std_isS, isS_str, std_fadd, std_fsub, std_fav, std_fsv, std_feq, std_fne, std_flt, std_fle, std_fgt, std_fge, std_fOf, std_fTo, std_fTv] at hc; omega)
        | (exfalso; clear hM hend; subst hA; rename_i q; simp [-List.getD_eq_getElem?_getD, std_add, std_sub, std_mul, std_quo, std_rem, std_band, std_bor, std_bxor, std_shl, std_shr, std_eq, std_ne, std_lt, std_le, std_conv, std_not, std_beq, std_bne, std_ite, std_want, std_and2, std_sadd, std_seq, std_sne, std_slt, std_sle, std_sgt, std_sge, std_slen, std_sget, std_scut, std_ofNat, std_toNat, std_nsub, std_nadd, std_lenOf, std_nz, std_nneg, std_inb, std_upto, std_slt63, std_grow, std_imp, std_impN, std_tr, std_tb, std_ti, std_ts, std_tn, std_tp, std_nmin, std_makes, std_room, std_zeros, std_nilq, std_notq, std_eqi, std_eqn, std_eqb, std_eqs, std_eqv, std_cat, std_lst, std_rset, std_rcopy, std_shift, std_eqr, std_strOf, std_bytesOf, std_isB, std_zOf, zOf_int, std_isI, isI_int, std_getL, std_nmul, std_sOf, sOf_str, std_isS, isS_str, std_fadd, std_fsub, std_fav, std_fsv, std_feq, std_fne, std_flt, std_fle, std_fgt, std_fge, std_fOf, std_fTo, std_fTv] at q; omega)
        | (exfalso; clear hM hend; subst hA; rename_i q q2; simp [-List.getD_eq_getElem?_getD, std_add, std_sub, std_mul, std_quo, std_rem, std_band, std_bor, std_bxor, std_shl, std_shr, std_eq, std_ne, std_lt, std_le, std_conv, std_not, std_beq, std_bne, std_ite, std_want, std_and2, std_sadd, std_seq, std_sne, std_slt, std_sle, std_sgt, std_sge, std_slen, std_sget, std_scut, std_ofNat, std_toNat, std_nsub, std_nadd, std_lenOf, std_nz, std_nneg, std_inb, std_upto, std_slt63, std_grow, std_imp, std_impN, std_tr, std_tb, std_ti, std_ts, std_tn, std_tp, std_nmin, std_makes, std_room, std_zeros, std_nilq, std_notq, std_eqi, std_eqn, std_eqb, std_eqs, std_eqv, std_cat, std_lst, std_rset, std_rcopy, std_shift, std_eqr, std_strOf, std_bytesOf, std_isB, std_zOf, zOf_int, std_isI, isI_int, std_getL, std_nmul, std_sOf, sOf_str, std_isS, isS_str, std_fadd, std_fsub, std_fav, std_fsv, std_feq, std_fne, std_flt, std_fle, std_fgt, std_fge, std_fOf, std_fTo, std_fTv] at q; omega)
        | (clear hM
           subst hA
           simp [-List.getD_eq_getElem?_getD, std_add, std_sub, std_mul, std_quo, std_rem, std_band, std_bor, std_bxor, std_shl, std_shr, std_eq, std_ne, std_lt, std_le, std_conv, std_not, std_beq, std_bne, std_ite, std_want, std_and2, std_sadd, std_seq, std_sne, std_slt, std_sle, std_sgt, std_sge, std_slen, std_sget, std_scut, std_ofNat, std_toNat, std_nsub, std_nadd, std_lenOf, std_nz, std_nneg, std_inb, std_upto, std_slt63, std_grow, std_imp, std_impN, std_tr, std_tb, std_ti, std_ts, std_tn, std_tp, std_nmin, std_makes, std_room, std_zeros, std_nilq, std_notq, std_eqi, std_eqn, std_eqb, std_eqs, std_eqv, std_cat, std_lst, std_rset, std_rcopy, std_shift, std_eqr, std_strOf, std_bytesOf, std_isB, std_zOf, zOf_int, std_isI, isI_int, std_getL, std_nmul, std_sOf, sOf_str, std_isS, isS_str, std_fadd, std_fsub, std_fav, std_fsv, std_feq, std_fne, std_flt, std_fle, std_fgt, std_fge, std_fOf, std_fTo, std_fTv] at hc ⊢
           rw [hc] at hend
           simp at hend
           first
             | (constructor <;> omega)
             | omega
             | (rw [hend]; done)
             | (rw [hend]; simp; done)
             | (rw [hend]; exact (Reps.lit _).eqr)
             | exact eqr_of ((Reps.lit M).cat (Reps.one hcE)) (by rw [hend]; simp) hend.symm
             | trace_state)
        | trace_state
noncomputable def c_rPutE : Ct := fun A args => match args with
  | [.slc n 8 f, .agg [.int .u32 s, .str r, .int .i64 st, .str pan, .int .u64 am, .str code, .int .i64 tr, .int .i64 ca]] => some (some (A.tp fun _ => isRow eE E0 8 n f ∧ n ≤ 1000000), rowS eE E0 8 A fun _ => putR ⟨s, r, st, pan, am, code, tr, ca⟩ (lstOf eE E0 8 n f) false)
  | _ => none
noncomputable def gt5 : Ar → Pu := addC 109 c_rPutE (gt4)
theorem gt5_ok : PuOk Tryd.prog gl0 (gt5 std) := by
  refine addC_ok (gt4_ok) ⟨_, Tryd.func109, rfl, by decide⟩ ?_
  · intro args p r h hp
    unfold c_rPutE at h
    split at h <;> cases h
    exact good_sv (good_rPutE _ _ _ _ _ _ _ _ _ (by rw [lstOf_length hp.1]; exact hp.2)) ⟨hp.1.sv, ⟨_, rfl, rfl, rfl, rfl, rfl, rfl, rfl, rfl, rfl, trivial⟩, trivial⟩
end Go.Vd

set_option linter.unusedVariables false
set_option linter.unusedSimpArgs false
set_option maxRecDepth 100000
set_option maxHeartbeats 8000000
namespace Go.Vd
open Go.Proofs
theorem tw_e (s st am tr ca : Int) (r pan code : List UInt8) : Reps eE E0 8 1 (lstS [[SV.int .u32 s, SV.str r, SV.int .i64 st, SV.str pan, SV.int .u64 am, SV.str code, SV.int .i64 tr, SV.int .i64 ca]]) [⟨s, r, st, pan, am, code, tr, ca⟩] := Reps.one (cell_eE ⟨s, r, st, pan, am, code, tr, ca⟩)
theorem tw_el (s st am tr ca : Int) (r pan code : List UInt8) : lstOf eE E0 8 1 (lstS [[SV.int .u32 s, SV.str r, SV.int .i64 st, SV.str pan, SV.int .u64 am, SV.str code, SV.int .i64 tr, SV.int .i64 ca]]) = [⟨s, r, st, pan, am, code, tr, ca⟩] := lstOf_eq inj_eE (tw_e _ _ _ _ _ _ _ _)
theorem ae1 : insL [⟨2, [82, 82, 78, 48, 48, 48, 48, 48, 48, 48, 48, 49], 1, [49, 56], 5, [], 0, 0⟩] ⟨1, [82, 82, 78, 48, 48, 48, 48, 48, 48, 48, 48, 49], 1, [49, 56], 5, [], 0, 0⟩ = [⟨1, [82, 82, 78, 48, 48, 48, 48, 48, 48, 48, 48, 49], 1, [49, 56], 5, [], 0, 0⟩, ⟨2, [82, 82, 78, 48, 48, 48, 48, 48, 48, 48, 48, 49], 1, [49, 56], 5, [], 0, 0⟩] := by decide +kernel
theorem ae2 : insC [⟨2, [82, 82, 78, 48, 48, 48, 48, 48, 48, 48, 48, 49], 1, [49, 56], 5, [], 0, 0⟩] ⟨1, [82, 82, 78, 48, 48, 48, 48, 48, 48, 48, 48, 49], 1, [49, 56], 5, [], 0, 0⟩ = 0 := by decide +kernel
theorem ae3 : swL [⟨1, [82, 82, 78, 48, 48, 48, 48, 48, 48, 48, 48, 49], 1, [49, 56], 5, [], 0, 0⟩, ⟨2, [82, 82, 78, 48, 48, 48, 48, 48, 48, 48, 48, 49], 1, [49, 56], 5, [], 0, 0⟩] 1 ⟨2, [82, 82, 78, 48, 48, 48, 48, 48, 48, 48, 48, 49], 2, [49, 56], 5, [48, 48], 0, 0⟩ = [⟨1, [82, 82, 78, 48, 48, 48, 48, 48, 48, 48, 48, 49], 1, [49, 56], 5, [], 0, 0⟩, ⟨2, [82, 82, 78, 48, 48, 48, 48, 48, 48, 48, 48, 49], 2, [49, 56], 5, [48, 48], 0, 0⟩] := by decide +kernel
theorem ae4 : swC [⟨1, [82, 82, 78, 48, 48, 48, 48, 48, 48, 48, 48, 49], 1, [49, 56], 5, [], 0, 0⟩, ⟨2, [82, 82, 78, 48, 48, 48, 48, 48, 48, 48, 48, 49], 1, [49, 56], 5, [], 0, 0⟩] 1 ⟨2, [82, 82, 78, 48, 48, 48, 48, 48, 48, 48, 48, 49], 2, [49, 56], 5, [48, 48], 0, 0⟩ = 0 := by decide +kernel
theorem ae5 : swC [⟨1, [82, 82, 78, 48, 48, 48, 48, 48, 48, 48, 48, 49], 1, [49, 56], 5, [], 0, 0⟩, ⟨2, [82, 82, 78, 48, 48, 48, 48, 48, 48, 48, 48, 49], 2, [49, 56], 5, [48, 48], 0, 0⟩] 1 ⟨2, [82, 82, 78, 48, 48, 48, 48, 48, 48, 48, 48, 49], 2, [49, 56], 5, [48, 48], 0, 0⟩ = 8 := by decide +kernel
theorem ae6 : rmL [⟨1, [82, 82, 78, 48, 48, 48, 48, 48, 48, 48, 48, 49], 1, [49, 56], 5, [], 0, 0⟩, ⟨2, [82, 82, 78, 48, 48, 48, 48, 48, 48, 48, 48, 49], 2, [49, 56], 5, [48, 48], 0, 0⟩] 1 [82, 82, 78, 48, 48, 48, 48, 48, 48, 48, 48, 49] = [⟨2, [82, 82, 78, 48, 48, 48, 48, 48, 48, 48, 48, 49], 2, [49, 56], 5, [48, 48], 0, 0⟩] := by decide +kernel
theorem ae7 : rmC [⟨1, [82, 82, 78, 48, 48, 48, 48, 48, 48, 48, 48, 49], 1, [49, 56], 5, [], 0, 0⟩, ⟨2, [82, 82, 78, 48, 48, 48, 48, 48, 48, 48, 48, 49], 2, [49, 56], 5, [48, 48], 0, 0⟩] 1 [82, 82, 78, 48, 48, 48, 48, 48, 48, 48, 48, 49] = 0 := by decide +kernel
theorem ae8 : fnd [⟨2, [82, 82, 78, 48, 48, 48, 48, 48, 48, 48, 48, 49], 2, [49, 56], 5, [48, 48], 0, 0⟩] 2 [82, 82, 78, 48, 48, 48, 48, 48, 48, 48, 48, 49] = ⟨2, [82, 82, 78, 48, 48, 48, 48, 48, 48, 48, 48, 49], 2, [49, 56], 5, [48, 48], 0, 0⟩ := by decide +kernel
theorem ae9 : has [⟨2, [82, 82, 78, 48, 48, 48, 48, 48, 48, 48, 48, 49], 2, [49, 56], 5, [48, 48], 0, 0⟩] 2 [82, 82, 78, 48, 48, 48, 48, 48, 48, 48, 48, 49] = true := by decide +kernel
theorem ae10 : shR [⟨1, [82, 82, 78, 48, 48, 48, 48, 48, 48, 48, 48, 49], 1, [49, 56], 5, [], 0, 0⟩, ⟨2, [82, 82, 78, 48, 48, 48, 48, 48, 48, 48, 48, 49], 1, [49, 56], 5, [], 0, 0⟩] = true := by decide +kernel
theorem ae11 : eR ⟨2, [82, 82, 78, 48, 48, 48, 48, 48, 48, 48, 48, 49], 2, [49, 56], 5, [48, 48], 0, 0⟩ = true := by decide +kernel
theorem ae_S2 (a b : Ent) (ha : enS a) (hb : enS b) (i : Nat) : enS ([a, b].getD i E0) := by
  rcases i with _ | _ | i
  · exact ha
  · exact hb
  · exact ⟨by simp [E0], by simp [E0]⟩
theorem ae_S1 (a : Ent) (ha : enS a) (i : Nat) : enS ([a].getD i E0) := by
  rcases i with _ | i
  · exact ha
  · exact ⟨by simp [E0], by simp [E0]⟩
theorem good_shAwake  : GoodP Tryd.prog gl0 40 [] (.bool true) := by
  refine fn_sound' (T := seatT) (G := gs9) (X := noX) seatT_ok gs9_ok noX_ok noI_ok mixed Tryd.func40 (.one) (fun A => []) (fun A => .bool true) fun A hA => ?_
  cbv
  repeat' (first | with_reducible exact True.intro | with_reducible exact dr_ok hA (by kernel_rfl) | with_reducible refine And.intro ?_ ?_ | (intro hc; cbv))
  all_goals (subst hA; simp only [std_add, std_sub, std_mul, std_quo, std_rem, std_band, std_bor, std_bxor, std_shl, std_shr, std_eq, std_ne, std_lt, std_le, std_conv, std_not, std_beq, std_bne, std_ite, std_want, std_and2, std_sadd, std_seq, std_sne, std_slt, std_sle, std_sgt, std_sge, std_slen, std_sget, std_scut, std_ofNat, std_toNat, std_nsub, std_nadd, std_lenOf, std_nz, std_nneg, std_inb, std_upto, std_slt63, std_grow, std_imp, std_impN, std_tr, std_tb, std_ti, std_ts, std_tn, std_tp, std_nmin, std_makes, std_room, std_zeros, std_nilq, std_notq, std_eqi, std_eqn, std_eqb, std_eqs, std_eqv, std_cat, std_lst, std_rset, std_rcopy, std_shift, std_eqr, std_strOf, std_bytesOf, std_isB, std_zOf, zOf_int, std_isI, isI_int, std_getL, std_nmul, std_sOf, sOf_str, std_isS, isS_str, std_fadd, std_fsub, std_fav, std_fsv, std_feq, std_fne, std_flt, std_fle, std_fgt, std_fge, std_fOf, std_fTo, std_fTv, strOf_lit, lstOf_lit inj_eB, lstOf_lit inj_eZ, lstOf_lit inj_eBs, lstOf_lit inj_eS, lstOf_V, isRow_V, tw_el, ae1, ae2, ae3, ae4, ae5, ae6, ae7, ae8, ae9, ae10, ae11] at *)
  all_goals first
    | decide
    | exact ⟨⟨⟨_, tw_e _ _ _ _ _ _ _ _⟩, by decide, ae_S1 _ ⟨by decide, by decide⟩⟩, by decide, by decide⟩
    | exact ⟨⟨trivial, by decide, ae_S2 _ _ ⟨by decide, by decide⟩ ⟨by decide, by decide⟩⟩, by decide, by decide⟩
    | exact ⟨trivial, by decide, ae_S2 _ _ ⟨by decide, by decide⟩ ⟨by decide, by decide⟩⟩
    | exact ⟨trivial, by decide⟩
    | (intro h; exact ⟨h, trivial, by decide, ae_S2 _ _ ⟨by decide, by decide⟩ ⟨by decide, by decide⟩⟩)
    | trace_state
noncomputable def c_shAwake : Ct := fun A args => match args with
  | [] => some (none, .bool true)
  | _ => none
noncomputable def gsA : Ar → Pu := addC 40 c_shAwake (gs9)
theorem gsA_ok : PuOk Tryd.prog gl0 (gsA std) := by
  refine addC_ok (gs9_ok) ⟨_, Tryd.func40, rfl, by decide⟩ ?_
  · intro args p r h hp
    unfold c_shAwake at h
    split at h <;> cases h
    exact good_shAwake
end Go.Vd

set_option linter.unusedVariables false
set_option linter.unusedSimpArgs false
set_option maxRecDepth 100000
set_option maxHeartbeats 8000000
namespace Go.Vd
open Go.Proofs
theorem gd_t {a b : Bool} (h : (bif !a then true else !b) = false) : (bif a then b else false) = true := by cases a <;> cases b <;> simp at h ⊢
theorem gd_f {a b : Bool} (h : (bif !a then true else !b) = true) : (bif a then b else false) = false := by cases a <;> cases b <;> simp at h ⊢
theorem good_rInsE (L : List Ent) (s st am tr ca : Int) (r pan code : List UInt8) (hL : L.length ≤ 1000000) (hS : ∀ i, enT (L.getD i E0)) (hr1 : r.length ≤ 1000000) (hp : pan.length ≤ 100000) (hcc : code.length ≤ 1000000) : GoodP Tryd.prog gl0 47 [rowS eE E0 8 std fun _ => L, .agg [.int .u32 s, .str r, .int .i64 st, .str pan, .int .u64 am, .str code, .int .i64 tr, .int .i64 ca]] (.tup [rowS eE E0 8 std fun _ => insL L ⟨s, r, st, pan, am, code, tr, ca⟩, .int .i64 (std.ti fun _ => insC L ⟨s, r, st, pan, am, code, tr, ca⟩)]) := by
  refine fn_sound' (T := seatT) (G := gt5) (X := noX) seatT_ok gt5_ok noX_ok noI_ok mixed Tryd.func47 (.none) (fun A => [rowS eE E0 8 A fun _ => L, .agg [.int .u32 s, .str r, .int .i64 st, .str pan, .int .u64 am, .str code, .int .i64 tr, .int .i64 ca]]) (fun A => .tup [rowS eE E0 8 A fun _ => insL L ⟨s, r, st, pan, am, code, tr, ca⟩, .int .i64 (A.ti fun _ => insC L ⟨s, r, st, pan, am, code, tr, ca⟩)]) fun A hA => ?_
  obtain ⟨E, hE⟩ : ∃ E : Ent, E = ⟨s, r, st, pan, am, code, tr, ca⟩ := ⟨_, rfl⟩
  have eS : E.s = s := by rw [hE]
  have eR' : E.r = r := by rw [hE]
  rw [← hE]
  cbv
  repeat' (first | with_reducible exact True.intro | with_reducible exact dr_ok hA (by kernel_rfl) | with_reducible refine And.intro ?_ ?_ | (intro hc; cbv))
  all_goals (subst hA; simp only [std_add, std_sub, std_mul, std_quo, std_rem, std_band, std_bor, std_bxor, std_shl, std_shr, std_eq, std_ne, std_lt, std_le, std_conv, std_not, std_beq, std_bne, std_ite, std_want, std_and2, std_sadd, std_seq, std_sne, std_slt, std_sle, std_sgt, std_sge, std_slen, std_sget, std_scut, std_ofNat, std_toNat, std_nsub, std_nadd, std_lenOf, std_nz, std_nneg, std_inb, std_upto, std_slt63, std_grow, std_imp, std_impN, std_tr, std_tb, std_ti, std_ts, std_tn, std_tp, std_nmin, std_makes, std_room, std_zeros, std_nilq, std_notq, std_eqi, std_eqn, std_eqb, std_eqs, std_eqv, std_cat, std_lst, std_rset, std_rcopy, std_shift, std_eqr, std_strOf, std_bytesOf, std_isB, std_zOf, zOf_int, std_isI, isI_int, std_getL, std_nmul, std_sOf, sOf_str, std_isS, isS_str, std_fadd, std_fsub, std_fav, std_fsv, std_feq, std_fne, std_flt, std_fle, std_fgt, std_fge, std_fOf, std_fTo, std_fTv, lstOf_V, isRow_V, plc_has, ← hE] at *)
  all_goals first
    | exact ⟨trivial, hL⟩
    | exact ⟨trivial, hL, hS⟩
    | (intro h; exact ⟨h, hr1, hp, hcc⟩)
    | (intro h; exact ⟨h, trivial, hL⟩)
    | (intro h; exact h)
    | (intro h; simp only [Bool.true_and, Bool.beq_eq_decide_eq, decide_eq_true_eq]; exact h)
    | (have hg := gd_f hc
       have h1 := insL_1 hg
       first
         | (rw [h1.1]; done)
         | (rw [h1.1]; exact (Reps.lit _).eqr)
         | (rw [h1.2]; done))
    | (have hq : (bif !shR L then true else !eR E) = false := by assumption
       have hg := gd_t hq
       have hs : shR L = true := by cases h : shR L <;> simp [h] at hg ⊢
       first
         | (have h2 : has L s r = true := by assumption
            have h1 := insL_6 hg (by rw [eS, eR']; exact h2)
            first
              | (rw [h1.1]; done)
              | (rw [h1.1]; exact (Reps.lit _).eqr)
              | (rw [h1.2]; done))
         | (have h2 : has L s r = false := by assumption
            have h3 : ((L.length : Int) == 128) = true := by assumption
            have h1 := insL_7 hg (by rw [eS, eR']; exact h2) (by simp at h3; omega)
            first
              | (rw [h1.1]; done)
              | (rw [h1.1]; exact (Reps.lit _).eqr)
              | (rw [h1.2]; done))
         | (have h2 : has L s r = false := by assumption
            have h3 : ((L.length : Int) == 128) = false := by assumption
            have h1 := insL_0 hg (by rw [eS, eR']; exact h2) (by simp at h3; omega)
            have h4 := put_ins hs (e := E) (by rw [eS, eR']; exact h2)
            rw [← h1.1] at h4
            first
              | (rw [h4]; done)
              | (rw [h4]; exact (Reps.lit _).eqr)
              | (rw [h1.2]; done))
         | trace_state)
    | trace_state
noncomputable def c_rInsE : Ct := fun A args => match args with
  | [.slc n 8 f, .agg [.int .u32 s, .str r, .int .i64 st, .str pan, .int .u64 am, .str code, .int .i64 tr, .int .i64 ca]] => some (some (A.tp fun _ => (isRow eE E0 8 n f ∧ n ≤ 1000000 ∧ ∀ i, enT ((lstOf eE E0 8 n f).getD i E0)) ∧ r.length ≤ 1000000 ∧ pan.length ≤ 100000 ∧ code.length ≤ 1000000), .tup [rowS eE E0 8 A fun _ => insL (lstOf eE E0 8 n f) ⟨s, r, st, pan, am, code, tr, ca⟩, .int .i64 (A.ti fun _ => insC (lstOf eE E0 8 n f) ⟨s, r, st, pan, am, code, tr, ca⟩)])
  | _ => none
theorem good_rSwE (L : List Ent) (z s st am tr ca : Int) (r pan code : List UInt8) (hL : L.length ≤ 1000000) (hS : ∀ i, enT (L.getD i E0)) (hr1 : r.length ≤ 1000000) (hp : pan.length ≤ 100000) (hcc : code.length ≤ 1000000) : GoodP Tryd.prog gl0 50 [rowS eE E0 8 std fun _ => L, .int .i64 z, .agg [.int .u32 s, .str r, .int .i64 st, .str pan, .int .u64 am, .str code, .int .i64 tr, .int .i64 ca]] (.tup [rowS eE E0 8 std fun _ => swL L z ⟨s, r, st, pan, am, code, tr, ca⟩, .int .i64 (std.ti fun _ => swC L z ⟨s, r, st, pan, am, code, tr, ca⟩)]) := by
  refine fn_sound' (T := seatT) (G := gt5) (X := noX) seatT_ok gt5_ok noX_ok noI_ok mixed Tryd.func50 (.none) (fun A => [rowS eE E0 8 A fun _ => L, .int .i64 z, .agg [.int .u32 s, .str r, .int .i64 st, .str pan, .int .u64 am, .str code, .int .i64 tr, .int .i64 ca]]) (fun A => .tup [rowS eE E0 8 A fun _ => swL L z ⟨s, r, st, pan, am, code, tr, ca⟩, .int .i64 (A.ti fun _ => swC L z ⟨s, r, st, pan, am, code, tr, ca⟩)]) fun A hA => ?_
  obtain ⟨E, hE⟩ : ∃ E : Ent, E = ⟨s, r, st, pan, am, code, tr, ca⟩ := ⟨_, rfl⟩
  have eS : E.s = s := by rw [hE]
  have eR' : E.r = r := by rw [hE]
  rw [← hE]
  cbv
  repeat' (first | with_reducible exact True.intro | with_reducible exact dr_ok hA (by kernel_rfl) | with_reducible refine And.intro ?_ ?_ | (intro hc; cbv))
  all_goals (subst hA; simp only [std_add, std_sub, std_mul, std_quo, std_rem, std_band, std_bor, std_bxor, std_shl, std_shr, std_eq, std_ne, std_lt, std_le, std_conv, std_not, std_beq, std_bne, std_ite, std_want, std_and2, std_sadd, std_seq, std_sne, std_slt, std_sle, std_sgt, std_sge, std_slen, std_sget, std_scut, std_ofNat, std_toNat, std_nsub, std_nadd, std_lenOf, std_nz, std_nneg, std_inb, std_upto, std_slt63, std_grow, std_imp, std_impN, std_tr, std_tb, std_ti, std_ts, std_tn, std_tp, std_nmin, std_makes, std_room, std_zeros, std_nilq, std_notq, std_eqi, std_eqn, std_eqb, std_eqs, std_eqv, std_cat, std_lst, std_rset, std_rcopy, std_shift, std_eqr, std_strOf, std_bytesOf, std_isB, std_zOf, zOf_int, std_isI, isI_int, std_getL, std_nmul, std_sOf, sOf_str, std_isS, isS_str, std_fadd, std_fsub, std_fav, std_fsv, std_feq, std_fne, std_flt, std_fle, std_fgt, std_fge, std_fOf, std_fTo, std_fTv, lstOf_V, isRow_V, plc_lt, ← hE] at *)
  all_goals first
    | exact ⟨trivial, hL⟩
    | exact ⟨trivial, hL, hS⟩
    | (intro h; exact ⟨h, hr1, hp, hcc⟩)
    | (intro h; exact ⟨h, trivial, hL⟩)
    | (intro h; exact h)
    | (intro h; simp only [Bool.true_and, Bool.beq_eq_decide_eq, decide_eq_true_eq]; exact h)
    | (have hg := gd_f hc
       have h1 := swL_1 (z := z) hg
       first
         | (rw [h1.1]; done)
         | (rw [h1.1]; exact (Reps.lit _).eqr)
         | (rw [h1.2]; done))
    | (have hq : (bif !shR L then true else !eR E) = false := by assumption
       have hg := gd_t hq
       have hs : shR L = true := by cases h : shR L <;> simp [h] at hg ⊢
       first
         | (have h2 : (!has L s r) = true := by assumption
            have h1 := swL_5 (z := z) hg (by rw [eS, eR']; exact nb_f h2)
            first
              | (rw [h1.1]; done)
              | (rw [h1.1]; exact (Reps.lit _).eqr)
              | (rw [h1.2]; done))
         | (have h2 : (!has L s r) = false := by assumption
            have h3 := plc_pos hs (nb_t h2)
            have h5 := (has_pos ((ascB_iff L).1 (shR_asc hs).1) (nb_t h2)).1
            simp only [h3, Int.toNat_natCast] at hc ⊢
            first
              | exact ⟨Int.natCast_nonneg _, Int.ofNat_lt.2 h5⟩
              | (have h4 : ((L.getD (pos L s r) { s := 0, r := [], st := 0, pan := [], am := 0, code := [], tr := 0, ca := 0 }).st != z) = true := hc
                 have h1 := swL_8 (z := z) hg (by rw [eS, eR']; exact nb_t h2) (by rw [eS, eR']; exact (bne_iff_ne).1 h4)
                 first
                   | (rw [h1.1]; done)
                   | (rw [h1.1]; exact (Reps.lit _).eqr)
                   | (rw [h1.2]; done))
              | (have h4 : ((L.getD (pos L s r) { s := 0, r := [], st := 0, pan := [], am := 0, code := [], tr := 0, ca := 0 }).st != z) = false := hc
                 have h1 := swL_0 (z := z) hg (by rw [eS, eR']; exact nb_t h2) (by rw [eS, eR']; exact bne_eq_false_iff_eq.1 h4)
                 have h6 := put_sw hs (e := E) (by rw [eS, eR']; exact nb_t h2)
                 rw [← h1.1] at h6
                 first
                   | (rw [h6]; done)
                   | (rw [h6]; exact (Reps.lit _).eqr)
                   | (rw [h1.2]; done))
              | trace_state)
         | trace_state)
    | trace_state
noncomputable def c_rSwE : Ct := fun A args => match args with
  | [.slc n 8 f, .int .i64 z, .agg [.int .u32 s, .str r, .int .i64 st, .str pan, .int .u64 am, .str code, .int .i64 tr, .int .i64 ca]] => some (some (A.tp fun _ => (isRow eE E0 8 n f ∧ n ≤ 1000000 ∧ ∀ i, enT ((lstOf eE E0 8 n f).getD i E0)) ∧ r.length ≤ 1000000 ∧ pan.length ≤ 100000 ∧ code.length ≤ 1000000), .tup [rowS eE E0 8 A fun _ => swL (lstOf eE E0 8 n f) z ⟨s, r, st, pan, am, code, tr, ca⟩, .int .i64 (A.ti fun _ => swC (lstOf eE E0 8 n f) z ⟨s, r, st, pan, am, code, tr, ca⟩)])
  | _ => none
theorem good_rRmE (L : List Ent) (s : Int) (r : List UInt8) (hL : L.length ≤ 1000000) (hS : ∀ i, enT (L.getD i E0)) : GoodP Tryd.prog gl0 52 [rowS eE E0 8 std fun _ => L, .agg [.int .u32 s, .str r]] (.tup [rowS eE E0 8 std fun _ => rmL L s r, .int .i64 (std.ti fun _ => rmC L s r)]) := by
  refine fn_sound' (T := seatT.bsx) (G := gt5) (X := bsX) (tys_bsx seatT_ok) gt5_ok bsX_ok noI_ok mixed Tryd.func52 (.none) (fun A => [rowS eE E0 8 A fun _ => L, .agg [.int .u32 s, .str r]]) (fun A => .tup [rowS eE E0 8 A fun _ => rmL L s r, .int .i64 (A.ti fun _ => rmC L s r)]) fun A hA => ?_
  cbv
  repeat' (first | with_reducible exact True.intro | with_reducible exact dr_ok hA (by kernel_rfl) | with_reducible refine And.intro ?_ ?_ | (intro hc; cbv))
  all_goals (subst hA; simp only [std_add, std_sub, std_mul, std_quo, std_rem, std_band, std_bor, std_bxor, std_shl, std_shr, std_eq, std_ne, std_lt, std_le, std_conv, std_not, std_beq, std_bne, std_ite, std_want, std_and2, std_sadd, std_seq, std_sne, std_slt, std_sle, std_sgt, std_sge, std_slen, std_sget, std_scut, std_ofNat, std_toNat, std_nsub, std_nadd, std_lenOf, std_nz, std_nneg, std_inb, std_upto, std_slt63, std_grow, std_imp, std_impN, std_tr, std_tb, std_ti, std_ts, std_tn, std_tp, std_nmin, std_makes, std_room, std_zeros, std_nilq, std_notq, std_eqi, std_eqn, std_eqb, std_eqs, std_eqv, std_cat, std_lst, std_rset, std_rcopy, std_shift, std_eqr, std_strOf, std_bytesOf, std_isB, std_zOf, zOf_int, std_isI, isI_int, std_getL, std_nmul, std_sOf, sOf_str, std_isS, isS_str, std_fadd, std_fsub, std_fav, std_fsv, std_feq, std_fne, std_flt, std_fle, std_fgt, std_fge, std_fOf, std_fTo, std_fTv, lstOf_V, isRow_V, plc_lt] at *)
  all_goals first
    | exact ⟨trivial, hL⟩
    | exact ⟨trivial, hL, hS⟩
    | (have h1 := rm_1 (s := s) (r := r) (nb_f hc)
       first
         | (rw [h1.1]; done)
         | (rw [h1.1]; exact (Reps.lit _).eqr)
         | (rw [h1.2]; done))
    | (have hq : (!shR L) = false := by assumption
       have hs := nb_t hq
       first
         | (have h2 : (!has L s r) = true := by assumption
            have h1 := rm_5 hs (nb_f h2)
            first
              | (rw [h1.1]; done)
              | (rw [h1.1]; exact (Reps.lit _).eqr)
              | (rw [h1.2]; done))
         | (have h2 : (!has L s r) = false := by assumption
            have h3 := plc_pos hs (nb_t h2)
            have h5 := (has_pos ((ascB_iff L).1 (shR_asc hs).1) (nb_t h2)).1
            have h1 := rm_0 hs (nb_t h2)
            obtain ⟨p, hpp⟩ : ∃ p, p = pos L s r := ⟨_, rfl⟩
            rw [← hpp] at h3 h1 h5
            have hw : IntKind.i64.wrap ((p : Int) + 1) = ((p + 1 : Nat) : Int) := by rw [w64 (by omega)]; omega
            try simp only [h3, hw, Int.toNat_natCast, Nat.zero_add]
            first
              | exact ⟨Int.natCast_nonneg _, Int.ofNat_lt.2 (by omega)⟩
              | (constructor <;> omega)
              | omega
              | (rw [h1.2]; done)
              | (have hA := (((Reps.nil (enc := eE) (d := E0) (k := 8) (f := fun _ _ => SV.any)).catE (Reps.cut (enc := eE) (d := E0) (k := 8) L p (by omega)) rfl).catE (Reps.shift' (Reps.lit (enc := eE) (d := E0) (k := 8) L) (p + 1) (by omega)) (show 0 + p = p by omega))
                 refine eqr_of hA ?_ ?_
                 · rw [h1.1]; simp; omega
                 · rw [h1.1]; simp)
              | (rw [h1.1]; simp; omega)
              | trace_state)
         | trace_state)
    | trace_state
noncomputable def c_rRmE : Ct := fun A args => match args with
  | [.slc n 8 f, .agg [.int .u32 s, .str r]] => some (some (A.tp fun _ => isRow eE E0 8 n f ∧ n ≤ 1000000 ∧ ∀ i, enT ((lstOf eE E0 8 n f).getD i E0)), .tup [rowS eE E0 8 A fun _ => rmL (lstOf eE E0 8 n f) s r, .int .i64 (A.ti fun _ => rmC (lstOf eE E0 8 n f) s r)])
  | _ => none
noncomputable def c_shAwake2 : Ct := fun A args => match args with
  | [] => some (none, .bool true)
  | _ => none
noncomputable def gt6 : Ar → Pu := addC 47 c_rInsE (addC 50 c_rSwE (addC 52 c_rRmE (addC 40 c_shAwake2 (gt5))))
theorem gt6_ok : PuOk Tryd.prog gl0 (gt6 std) := by
  refine addC_ok (addC_ok (addC_ok (addC_ok (gt5_ok) ⟨_, Tryd.func40, rfl, by decide⟩ ?_) ⟨_, Tryd.func52, rfl, by decide⟩ ?_) ⟨_, Tryd.func50, rfl, by decide⟩ ?_) ⟨_, Tryd.func47, rfl, by decide⟩ ?_
  · intro args p r h hp
    unfold c_shAwake2 at h
    split at h <;> cases h
    exact good_shAwake
  · intro args p r h hp
    unfold c_rRmE at h
    split at h <;> cases h
    exact good_sv (good_rRmE _ _ _ (by rw [lstOf_length hp.1]; exact hp.2.1) hp.2.2) ⟨hp.1.sv, ⟨_, rfl, rfl, rfl, trivial⟩, trivial⟩
  · intro args p r h hp
    unfold c_rSwE at h
    split at h <;> cases h
    exact good_sv (good_rSwE _ _ _ _ _ _ _ _ _ _ (by rw [lstOf_length hp.1.1]; exact hp.1.2.1) hp.1.2.2 hp.2.1 hp.2.2.1 hp.2.2.2) ⟨hp.1.1.sv, rfl, ⟨_, rfl, rfl, rfl, rfl, rfl, rfl, rfl, rfl, rfl, trivial⟩, trivial⟩
  · intro args p r h hp
    unfold c_rInsE at h
    split at h <;> cases h
    exact good_sv (good_rInsE _ _ _ _ _ _ _ _ _ (by rw [lstOf_length hp.1.1]; exact hp.1.2.1) hp.1.2.2 hp.2.1 hp.2.2.1 hp.2.2.2) ⟨hp.1.1.sv, ⟨_, rfl, rfl, rfl, rfl, rfl, rfl, rfl, rfl, rfl, trivial⟩, trivial⟩
end Go.Vd

set_option linter.unusedVariables false
set_option linter.unusedSimpArgs false
set_option maxRecDepth 100000
set_option maxHeartbeats 8000000
namespace Go.Vd
open Go.Proofs
theorem enS_mem {M : List Ent} (h : ∀ x ∈ M, enS x) (i : Nat) : enS (M.getD i E0) := by
  rcases Nat.lt_or_ge i M.length with q | q
  · exact h _ (getD_mem q)
  · rw [List.getD_eq_getElem?_getD, List.getElem?_eq_none q]
    exact ⟨by decide, by decide⟩
theorem shL_mem {L : List Ent} (h : shL L = true) {x : Ent} (hx : x ∈ L) : enS x := by
  have := (shL_iff.1 h).2 x hx
  simp only [shE, decide_eq_true_eq] at this
  exact ⟨by omega, by omega⟩
theorem shE_en {e : Ent} (h : shE e = true) : enS e := by
  simp only [shE, decide_eq_true_eq] at h
  exact ⟨by omega, by omega⟩
theorem insL_mem {L : List Ent} {e x : Ent} (hx : x ∈ insL L e) : x ∈ L ∨ x = e := by
  unfold insL at hx
  split at hx
  · split at hx
    · exact .inl hx
    · split at hx
      · exact .inl hx
      · rcases List.mem_append.1 hx with hx | hx
        · rcases List.mem_append.1 hx with hx | hx
          · exact .inl (List.mem_of_mem_take hx)
          · exact .inr (List.mem_singleton.1 hx)
        · exact .inl (List.mem_of_mem_drop hx)
  · exact .inl hx
theorem swL_mem {L : List Ent} {z : Int} {e x : Ent} (hx : x ∈ swL L z e) : x ∈ L ∨ x = e := by
  unfold swL at hx
  split at hx
  · split at hx
    · split at hx
      · rcases List.mem_or_eq_of_mem_set hx with h | h
        · exact .inl h
        · exact .inr h
      · exact .inl hx
    · exact .inl hx
  · exact .inl hx
theorem insL_len (L : List Ent) (e : Ent) : (insL L e).length ≤ L.length + 1 := by
  unfold insL
  split
  · split
    · omega
    · split
      · omega
      · simp; omega
  · omega
theorem swL_len (L : List Ent) (z : Int) (e : Ent) : (swL L z e).length = L.length := by
  unfold swL
  split
  · split
    · split <;> simp
    · rfl
  · rfl
theorem rmL_len (L : List Ent) (s : Int) (r : List UInt8) : (rmL L s r).length ≤ L.length := by
  unfold rmL
  split
  · split
    · simp; omega
    · omega
  · omega
/-- All that the law asks, where the entry was put. -/
theorem sw_all {L : List Ent} {E F : Ent} (h : insC L E = 0) (hs : F.s = E.s) (hr : F.r = E.r) :
    (shR (insL L E) = true ∧ has (insL L E) E.s E.r = true ∧ fnd (insL L E) E.s E.r = E ∧ insC (insL L E) E = 6) ∧
    (∀ so ro, ¬(E.s = so ∧ E.r = ro) → fnd (insL L E) so ro = fnd L so ro ∧ has (insL L E) so ro = has L so ro) ∧
    (rmL (insL L E) E.s E.r = L ∧ rmC (insL L E) E.s E.r = 0 ∧ has L E.s E.r = false) ∧
    (eR F = false → swC (insL L E) E.st F = 1) ∧
    (eR F = true → swC (insL L E) E.st F = 0 ∧ has (swL (insL L E) E.st F) E.s E.r = true ∧ fnd (swL (insL L E) E.st F) E.s E.r = F ∧ shR (swL (insL L E) E.st F) = true ∧ swC (swL (insL L E) E.st F) E.st E = if F.st = E.st then 0 else 8) := by
  obtain ⟨h1, h2, h3, h4, h5, hSp, hM, hL⟩ := ins_spec h
  obtain ⟨A, hA⟩ : ∃ A, A = L.take (pos L E.s E.r) := ⟨_, rfl⟩
  obtain ⟨B, hB⟩ : ∃ B, B = L.drop (pos L E.s E.r) := ⟨_, rfl⟩
  rw [← hA, ← hB] at hSp hM hL
  have hlen : A.length + B.length < 128 := by
    have := congrArg List.length hL
    rw [List.length_append] at this
    omega
  have hm := mid_spec hSp h2 hlen
  have hSpF : Sp A B F.s F.r := by rw [hs, hr]; exact hSp
  rw [hM]
  refine ⟨⟨hm.1, hm.2.1, hm.2.2.1, ins_again hm.1 h2 hm.2.1⟩, fun so ro hn => ?_, ⟨?_, ?_, h3⟩, fun hF => ?_, fun hF => ?_⟩
  · have := Sp.oth (A := A) (B := B) (s := 0) (r := []) hn
    rw [← hL] at this
    exact this
  · rw [(rm_0 hm.1 hm.2.1).1, hm.2.2.2, mid_rm, ← hL]
  · exact (rm_0 hm.1 hm.2.1).2
  · exact (swL_1 (by rw [hF]; cases shR (A ++ E :: B) <;> rfl)).2
  · have hmF := mid_spec hSpF hF hlen
    have hposE : pos (A ++ E :: B) F.s F.r = A.length := by rw [hs, hr]; exact hm.2.2.2
    have hg : (bif shR (A ++ E :: B) then eR F else false) = true := by rw [hm.1, hF]; rfl
    have hst : ((A ++ E :: B).getD (pos (A ++ E :: B) F.s F.r) E0).st = E.st := by rw [hposE, mid_getD]
    have hsw := swL_0 hg (by rw [hs, hr]; exact hm.2.1) hst
    rw [hposE, mid_set] at hsw
    have hgE : (bif shR (A ++ F :: B) then eR E else false) = true := by rw [hmF.1, h2]; rfl
    have hhas : has (A ++ F :: B) E.s E.r = true := by rw [← hs, ← hr]; exact hmF.2.1
    have hposF : pos (A ++ F :: B) E.s E.r = A.length := by rw [← hs, ← hr]; exact hmF.2.2.2
    refine ⟨hsw.2, by rw [hsw.1]; exact hhas, by rw [hsw.1, ← hs, ← hr]; exact hmF.2.2.1, by rw [hsw.1]; exact hmF.1, ?_⟩
    rw [hsw.1]
    by_cases hq : F.st = E.st
    · rw [if_pos hq]
      exact (swL_0 hgE hhas (by rw [hposF, mid_getD]; exact hq)).2
    · rw [if_neg hq]
      exact (swL_8 hgE hhas (by rw [hposF, mid_getD]; exact hq)).2
end Go.Vd

set_option linter.unusedVariables false
set_option linter.unusedSimpArgs false
set_option maxRecDepth 100000
set_option maxHeartbeats 8000000
namespace Go.Vd
open Go.Proofs
theorem shE_T {e : Ent} (h : shE e = true) : enT e := by
  simp only [shE, decide_eq_true_eq] at h
  exact ⟨by omega, by omega, by omega⟩
theorem enT_mem {M : List Ent} (h : ∀ x ∈ M, enT x) (i : Nat) : enT (M.getD i E0) := by
  rcases Nat.lt_or_ge i M.length with q | q
  · exact h _ (getD_mem q)
  · rw [List.getD_eq_getElem?_getD, List.getElem?_eq_none q]
    exact ⟨by decide, by decide, by decide⟩
theorem sr_ok {a b c : Bool} (h : (bif bif !a then true else !b then true else !c) = false) : a = true ∧ b = true ∧ c = true := by
  cases a <;> cases b <;> cases c <;> simp at h ⊢
theorem fnd_hasno {L : List Ent} {s : Int} {r : List UInt8} (h : has L s r = false) : fnd L s r = E0 := by
  unfold fnd
  unfold has at h
  rw [List.find?_eq_none.2 fun x hx => by rw [List.any_eq_false] at h; exact h x hx]
  rfl
theorem good_ShardRight (L : List Ent) (s st am tr ca so z : Int) (r pan code ro : List UInt8) (hL : L.length ≤ 9223372036854775807) : GoodP Tryd.prog gl0 10 [rowS eE E0 8 std fun _ => L, .agg [.int .u32 s, .str r, .int .i64 st, .str pan, .int .u64 am, .str code, .int .i64 tr, .int .i64 ca], .agg [.int .u32 so, .str ro], .int .i64 z] (.bool true) := by
  refine fn_sound' (T := seatT) (G := gt6) (X := noX) seatT_ok gt6_ok noX_ok noI_ok mixed Tryd.func10 (.one) (fun A => [rowS eE E0 8 A fun _ => L, .agg [.int .u32 s, .str r, .int .i64 st, .str pan, .int .u64 am, .str code, .int .i64 tr, .int .i64 ca], .agg [.int .u32 so, .str ro], .int .i64 z]) (fun A => .bool true) fun A hA => ?_
  cbv
  repeat' (first | with_reducible exact True.intro | with_reducible exact dr_ok hA (by kernel_rfl) | with_reducible refine And.intro ?_ ?_ | (intro hc; cbv))
  all_goals (subst hA; simp only [std_add, std_sub, std_mul, std_quo, std_rem, std_band, std_bor, std_bxor, std_shl, std_shr, std_eq, std_ne, std_lt, std_le, std_conv, std_not, std_beq, std_bne, std_ite, std_want, std_and2, std_sadd, std_seq, std_sne, std_slt, std_sle, std_sgt, std_sge, std_slen, std_sget, std_scut, std_ofNat, std_toNat, std_nsub, std_nadd, std_lenOf, std_nz, std_nneg, std_inb, std_upto, std_slt63, std_grow, std_imp, std_impN, std_tr, std_tb, std_ti, std_ts, std_tn, std_tp, std_nmin, std_makes, std_room, std_zeros, std_nilq, std_notq, std_eqi, std_eqn, std_eqb, std_eqs, std_eqv, std_cat, std_lst, std_rset, std_rcopy, std_shift, std_eqr, std_strOf, std_bytesOf, std_isB, std_zOf, zOf_int, std_isI, isI_int, std_getL, std_nmul, std_sOf, sOf_str, std_isS, isS_str, std_fadd, std_fsub, std_fav, std_fsv, std_feq, std_fne, std_flt, std_fle, std_fgt, std_fge, std_fOf, std_fTo, std_fTv, strOf_lit, lstOf_lit inj_eB, lstOf_lit inj_eZ, lstOf_lit inj_eBs, lstOf_lit inj_eS, lstOf_V, isRow_V, plc_has] at *)
  all_goals first
    | done
    | (exfalso; revert hc; decide)
    | exact ⟨trivial, hL⟩
    | (intro h; exact h)
    | (intro h; simp only [Bool.true_and, Bool.beq_eq_decide_eq, decide_eq_true_eq]; exact h)
    | skip
  all_goals first
    | (have hv := sr_ok (by assumption)
       have hL2 : L.length ≤ 200 := (shL_iff.1 hv.1).1
       have hm0 : ∀ x ∈ L, enS x := fun x hx => shL_mem hv.1 hx
       have hmT : ∀ x ∈ L, enT x := fun x hx => shE_T ((shL_iff.1 hv.1).2 x hx)
       have hE1 := shE_en hv.2.1
       have hET := shE_T hv.2.1
       have hl1 := insL_len L ⟨s, r, st, pan, am, code, tr, ca⟩
       have hl2 := swL_len L z ⟨s, r, st, pan, am, code, tr, ca⟩
       have hl3 := rmL_len L so ro
       first
         | exact ⟨⟨trivial, by omega, enS_mem hm0⟩, hE1⟩
         | exact ⟨⟨trivial, by omega, enT_mem hmT⟩, hET⟩
         | exact ⟨⟨trivial, trivial⟩, by omega⟩
         | exact ⟨trivial, by omega⟩
         | exact ⟨trivial, by omega, enS_mem hm0⟩
         | exact ⟨trivial, by omega, enT_mem hmT⟩
         | (intro h; exact ⟨h, trivial, by omega, enS_mem hm0⟩)
         | (intro h; exact ⟨h, trivial, by omega, enT_mem hmT⟩)
         | (intro h; exact ⟨h, hE1⟩)
         | (intro h; exact ⟨h, hET⟩)
         | (intro h; exact ⟨h, h⟩)
         | (intro h; exact ⟨h, fun _ => h⟩)
         | (clear hm0 hmT
            cases hh : has L so ro
            · have hf : fnd L so ro = { s := 0, r := [], st := 0, pan := [], am := 0, code := [], tr := 0, ca := 0 } := fnd_hasno hh
              simp [hh, hf] at *
              done
            · obtain ⟨i, hi, hpl, hf0⟩ := plc_fnd hh
              have hf : fnd L so ro = L.getD i { s := 0, r := [], st := 0, pan := [], am := 0, code := [], tr := 0, ca := 0 } := hf0
              clear hf0
              first
                | (simp [hh, hf, hpl] at *; done)
                | (simp [hh, hf, hpl] at *; omega))
         | (clear hm0 hmT; simp at *; done)
         | trace_state)
    | trace_state
end Go.Vd

set_option linter.unusedVariables false
namespace Go.Vd
open Go.Proofs Go.ChangeShapes Go.WideShapes Go.ChangeAt Go.RowKit Go.Joins Go.Deep Go.WideElems
theorem u16_wf {z : Int} (h : (Lit.int .u16 z).wf = true) : 0 ≤ z ∧ z < 65536 := by
  simp [Lit.wf] at h
  have e1 : IntKind.u16.min = 0 := by decide
  have e2 : IntKind.u16.max = 65535 := by decide
  rw [e1, e2] at h
  exact ⟨h.1, by omega⟩
section
variable {H : Type} {enc : TypeId × Value → H} {P : Program}
theorem open_eB_trod {W : World} {t e : TypeId} {v : Value} {fuel : Nat} {x : DataW H × List MemPlace} (ht : P.underlying t = some (.slice e)) (he : P.underlying e = some (.int .u8)) (hc : P.cellsOf e = 1)
    (h : DataW.trod enc P W 0 (fun _ => true) true fuel t [v] = some x) : ∃ L : List UInt8, L.length ≤ maxLen ∧ one v ∧ RelC W (fun _ => False) v (rowS eB 0 1 std fun _ => L) := by
  rcases open_ints ht he hc h with ⟨hcs, hx⟩ | ⟨a, len, cap, zs, hcs, _, hl, hm, hz, hx, hcell, hwz⟩
  · simp only [List.cons.injEq, and_true] at hcs
    subst hcs
    exact ⟨[], Nat.zero_le _, rfl, .slc none 0 0 1 _ (fun _ _ => undef) (Nat.le_refl _) (fun i j hi => absurd hi (by omega)) (fun h => absurd h (by omega)) (fun i j hi => absurd hi (by omega))⟩
  · simp only [List.cons.injEq, and_true] at hcs
    subst hcs
    simp only [if_true] at hz
    have hlen : ((zs.take len).map fun n => UInt8.ofNat n.toNat).length = len := by simp; omega
    refine ⟨(zs.take len).map fun n => UInt8.ofNat n.toNat, by rw [hlen]; omega, rfl, ?_⟩
    show RelC W (fun _ => False) _ (.slc ((zs.take len).map fun n => UInt8.ofNat n.toNat).length 1 (rowF eB 0 std fun _ => (zs.take len).map fun n => UInt8.ofNat n.toNat))
    rw [hlen]
    refine .slc (some a) len cap 1 _ (fun i _ => .int .u8 (zs.getD i 0)) hl (fun i j hi hj => ⟨a, rfl, ?_, rfl, fun h => h⟩) (fun h => ⟨a, rfl, ?_⟩) (fun i j hi hj => ?_)
    · rw [show i * 1 + j = i by omega]
      exact hcell i (by omega)
    · simpa [Addr.add] using World.cell?_spot (hcell 0 (by omega))
    · obtain rfl : j = 0 := by omega
      have hw := u8_wf (hwz (zs.getD i 0) (by rw [List.getD_eq_getElem?_getD, List.getElem?_eq_getElem (by omega)]; simp))
      have : (zs.getD i 0) = (((zs.take len).map fun n => UInt8.ofNat n.toNat).getD i 0).toNat := by
        rw [List.getD_eq_getElem?_getD, List.getD_eq_getElem?_getD, List.getElem?_map, List.getElem?_take_of_lt hi]
        rw [List.getD_eq_getElem?_getD] at hw
        rw [List.getElem?_eq_getElem (by omega)] at hw ⊢
        simp at hw ⊢
        omega
      show RelC W _ _ (SV.int .u8 _)
      rw [this]
      exact .int _ _
theorem array6 {α : Type} {cs : Array α} (h : cs.size = 6) : ∃ c0 c1 c2 c3 c4 c5, cs = #[c0, c1, c2, c3, c4, c5] := by
  obtain ⟨l⟩ := cs
  match l, h with
  | [c0, c1, c2, c3, c4, c5], _ => exact ⟨c0, c1, c2, c3, c4, c5, rfl⟩
theorem open_agg6 {W : World} {b0 base : Nat} {spare : Nat → Bool} {held : Bool} {r : Reach} {t : TypeId} {f0 f1 f2 f3 f4 f5 : Field} {v : Value} {d : DataW H} {p : List MemPlace} (hs : P.underlying t = some (.struct #[f0, f1, f2, f3, f4, f5])) (hone : oneCellFields P #[f0, f1, f2, f3, f4, f5] = true) (hC : P.cellsOf t = 6)
    (hv : Value.okWide P W r b0 t v) (h : DataW.Trod enc P W base spare held t v d p) :
    ∃ (v0 v1 v2 v3 v4 v5 : Value) (y0 y1 y2 y3 y4 y5 : DataW H × List MemPlace) (n : Nat), v = .agg #[v0, v1, v2, v3, v4, v5] ∧ d = .agg [y0.1, y1.1, y2.1, y3.1, y4.1, y5.1] ∧ p = y0.2 ++ (y1.2 ++ (y2.2 ++ (y3.2 ++ (y4.2 ++ y5.2)))) ∧
      DataW.trod enc P W base spare held n f0.type [v0] = some y0 ∧ DataW.trod enc P W base spare held n f1.type [v1] = some y1 ∧ DataW.trod enc P W base spare held n f2.type [v2] = some y2 ∧ DataW.trod enc P W base spare held n f3.type [v3] = some y3 ∧ DataW.trod enc P W base spare held n f4.type [v4] = some y4 ∧ DataW.trod enc P W base spare held n f5.type [v5] = some y5 := by
  obtain ⟨cs, rfl, hsz⟩ := okWide_struct hs hv
  obtain ⟨c0, c1, c2, c3, c4, c5, rfl⟩ := array6 (hsz.trans hC)
  obtain ⟨fuel, hf⟩ := h
  obtain ⟨xs, n, _, hx, hl, hlen, hf⟩ := DataW.trod_struct hs hf
  match xs, hlen with
  | [y0, y1, y2, y3, y4, y5], _ =>
    obtain ⟨o0, k0⟩ := hone_of hone 0 f0 rfl
    have h0 := hf 0 f0 rfl
    obtain ⟨o1, k1⟩ := hone_of hone 1 f1 rfl
    have h1 := hf 1 f1 rfl
    obtain ⟨o2, k2⟩ := hone_of hone 2 f2 rfl
    have h2 := hf 2 f2 rfl
    obtain ⟨o3, k3⟩ := hone_of hone 3 f3 rfl
    have h3 := hf 3 f3 rfl
    obtain ⟨o4, k4⟩ := hone_of hone 4 f4 rfl
    have h4 := hf 4 f4 rfl
    obtain ⟨o5, k5⟩ := hone_of hone 5 f5 rfl
    have h5 := hf 5 f5 rfl
    simp only [Prod.mk.injEq] at hx
    exact ⟨c0, c1, c2, c3, c4, c5, y0, y1, y2, y3, y4, y5, n, rfl, by simpa using hx.1, by simpa using hx.2, by simpa [Value.cells, o0, k0] using h0, by simpa [Value.cells, o1, k1] using h1, by simpa [Value.cells, o2, k2] using h2, by simpa [Value.cells, o3, k3] using h3, by simpa [Value.cells, o4, k4] using h4, by simpa [Value.cells, o5, k5] using h5⟩
theorem rel_agg6 {w : World} {ρ : Nat → Value} {rw N : Nat → Prop} {u0 u1 u2 u3 u4 u5 : Value} {s0 s1 s2 s3 s4 s5 : SV} (h0 : one u0) (h1 : one u1) (h2 : one u2) (h3 : one u3) (h4 : one u4) (h5 : one u5)
    (r0 : Rel w ρ rw N u0 s0) (r1 : Rel w ρ rw N u1 s1) (r2 : Rel w ρ rw N u2 s2) (r3 : Rel w ρ rw N u3 s3) (r4 : Rel w ρ rw N u4 s4) (r5 : Rel w ρ rw N u5 s5) : Rel w ρ rw N (.agg #[u0, u1, u2, u3, u4, u5]) (.agg [s0, s1, s2, s3, s4, s5]) := by
  refine .agg _ _ rfl ?_ ?_
  · intro v hv
    simp at hv
    rcases hv with rfl | rfl | rfl | rfl | rfl | rfl <;> assumption
  · intro i v s hv hs
    match i with
    | 0 => simp at hv hs; subst hv hs; exact r0
    | 1 => simp at hv hs; subst hv hs; exact r1
    | 2 => simp at hv hs; subst hv hs; exact r2
    | 3 => simp at hv hs; subst hv hs; exact r3
    | 4 => simp at hv hs; subst hv hs; exact r4
    | 5 => simp at hv hs; subst hv hs; exact r5
    | n + 6 => simp at hv
theorem u32_wf {z : Int} (h : (Lit.int .u32 z).wf = true) : 0 ≤ z ∧ z < 4294967296 := by
  simp [Lit.wf] at h
  have e1 : IntKind.u32.min = 0 := by decide
  have e2 : IntKind.u32.max = 4294967295 := by decide
  rw [e1, e2] at h
  exact ⟨h.1, by omega⟩
end
end Go.Vd

set_option linter.unusedVariables false
namespace Go.Vd
theorem u64_wf {z : Int} (h : (Lit.int .u64 z).wf = true) : 0 ≤ z ∧ z < 18446744073709551616 := by
  simp [Lit.wf] at h
  have e1 : IntKind.u64.min = 0 := by decide
  have e2 : IntKind.u64.max = 18446744073709551615 := by decide
  rw [e1, e2] at h
  omega
theorem i64_wf {z : Int} (h : (Lit.int .i64 z).wf = true) : -9223372036854775808 ≤ z ∧ z < 9223372036854775808 := by
  simp [Lit.wf] at h
  have e1 : IntKind.i64.min = -9223372036854775808 := by decide
  have e2 : IntKind.i64.max = 9223372036854775807 := by decide
  (try rw [e1] at h)
  (try rw [e2] at h)
  omega
theorem i16_wf {z : Int} (h : (Lit.int .i16 z).wf = true) : -32768 ≤ z ∧ z < 32768 := by
  simp [Lit.wf] at h
  have e1 : IntKind.i16.min = -32768 := by decide
  have e2 : IntKind.i16.max = 32767 := by decide
  (try rw [e1] at h)
  (try rw [e2] at h)
  omega
section
open Go.Proofs Go.ChangeShapes Go.WideShapes Go.ChangeAt Go.RowKit Go.Joins
variable {H : Type} {enc : TypeId × Value → H} {P : Program} {w : World} {base : Nat} {spare : Nat → Bool} {held : Bool}
theorem trodAll_five {t0 t1 t2 t3 t4 : TypeId} {args : Array Value} {ds : List (DataW H)} {ps : List MemPlace} (h : DataW.TrodAll enc P w base spare held [t0, t1, t2, t3, t4] args.toList ds ps) :
    ∃ v0 v1 v2 v3 v4 d0 d1 d2 d3 d4 p0 p1 p2 p3 p4, args = #[v0, v1, v2, v3, v4] ∧ ds = [d0, d1, d2, d3, d4] ∧ ps = p0 ++ p1 ++ p2 ++ p3 ++ p4 ∧ DataW.Trod enc P w base spare held t0 v0 d0 p0 ∧ DataW.Trod enc P w base spare held t1 v1 d1 p1 ∧ DataW.Trod enc P w base spare held t2 v2 d2 p2 ∧ DataW.Trod enc P w base spare held t3 v3 d3 p3 ∧ DataW.Trod enc P w base spare held t4 v4 d4 p4 := by
  obtain ⟨v0, vs0, d0, ds0, p0, q0, hargs, rfl, rfl, hd0, r0⟩ := trodAll_cons h
  obtain ⟨v1, vs1, d1, ds1, p1, q1, rfl, rfl, rfl, hd1, r1⟩ := trodAll_cons r0
  obtain ⟨v2, vs2, d2, ds2, p2, q2, rfl, rfl, rfl, hd2, r2⟩ := trodAll_cons r1
  obtain ⟨v3, vs3, d3, ds3, p3, q3, rfl, rfl, rfl, hd3, r3⟩ := trodAll_cons r2
  obtain ⟨v4, vs4, d4, ds4, p4, q4, rfl, rfl, rfl, hd4, r4⟩ := trodAll_cons r3
  obtain ⟨rfl, rfl, rfl⟩ := trodAll_nil r4
  exact ⟨v0, v1, v2, v3, v4, d0, d1, d2, d3, d4, p0, p1, p2, p3, p4, by cases args; simp_all, rfl, by simp, hd0, hd1, hd2, hd3, hd4⟩
end
end Go.Vd

set_option linter.unusedVariables false
set_option maxRecDepth 100000
namespace Go.Vd
open Go.Proofs Go.ChangeShapes Go.WideShapes Go.ChangeAt Go.RowKit Go.Joins Go.Deep Go.WideElems
section
variable {H : Type} {enc : TypeId × Value → H} {P : Program} {w : World} {base : Nat} {sp : Nat → Bool} {held : Bool}
/-- A struct of three numbers, as it is read. -/
theorem trod3 {fuel : Nat} {e : TypeId} {f0 f1 f2 : Field} {cs : List Value} {a b c : Int} {p : List MemPlace} (hs : P.underlying e = some (.struct #[f0, f1, f2])) (hone : oneCellFields P #[f0, f1, f2] = true)
    (h0 : P.underlying f0.type = some (.int .i64)) (h1 : P.underlying f1.type = some (.int .i64)) (h2 : P.underlying f2.type = some (.int .i64)) (hC : P.cellsOf e = 3)
    (h : DataW.trod enc P w base sp held fuel e cs = some (.agg [.lit (.int .i64 a), .lit (.int .i64 b), .lit (.int .i64 c)], p)) : cs = [.int .i64 a, .int .i64 b, .int .i64 c] := by
  obtain ⟨xs, n, _, hx, hl, hlen, hf⟩ := DataW.trod_struct hs h
  rw [hC] at hl
  match xs, hlen with
  | [y0, y1, y2], _ =>
    match cs, hl with
    | [c0, c1, c2], _ =>
      obtain ⟨o0, k0⟩ := hone_of hone 0 f0 rfl
      have g0 := hf 0 f0 rfl
      obtain ⟨o1, k1⟩ := hone_of hone 1 f1 rfl
      have g1 := hf 1 f1 rfl
      obtain ⟨o2, k2⟩ := hone_of hone 2 f2 rfl
      have g2 := hf 2 f2 rfl
      rw [o0, k0] at g0
      rw [o1, k1] at g1
      rw [o2, k2] at g2
      obtain ⟨z0, e0, i0, _⟩ := DataW.trod_int h0 g0
      obtain ⟨z1, e1, i1, _⟩ := DataW.trod_int h1 g1
      obtain ⟨z2, e2, i2, _⟩ := DataW.trod_int h2 g2
      simp only [Prod.mk.injEq] at hx
      have hx1 := hx.1
      simp at e0 e1 e2
      subst i0 i1 i2
      simp at hx1
      obtain ⟨r0, r1, r2⟩ := hx1
      subst r0 r1 r2 e0 e1 e2
      rfl
/-- A row of such. -/
theorem cells_of_known {fuel n : Nat} {t e : TypeId} {f0 f1 f2 : Field} {cs : List Value} {L : List (Int × Int × Int)} {p : List MemPlace} (ht : P.underlying t = some (.array n e)) (hs : P.underlying e = some (.struct #[f0, f1, f2])) (hone : oneCellFields P #[f0, f1, f2] = true)
    (h0 : P.underlying f0.type = some (.int .i64)) (h1 : P.underlying f1.type = some (.int .i64)) (h2 : P.underlying f2.type = some (.int .i64)) (hC : P.cellsOf e = 3)
    (h : DataW.trod enc P w base sp held fuel t cs = some (.agg (L.map fun x => .agg [.lit (.int .i64 x.1), .lit (.int .i64 x.2.1), .lit (.int .i64 x.2.2)]), p)) :
    cs.length = P.cellsOf t ∧ L.length = n ∧ ∀ i x, L[i]? = some x → (cs.drop (i * 3)).take 3 = [.int .i64 x.1, .int .i64 x.2.1, .int .i64 x.2.2] := by
  obtain ⟨xs, m, _, hx, hl, hlen, hf⟩ := DataW.trod_array ht h
  simp only [Prod.mk.injEq] at hx
  have hx1 : L.map (fun x => (DataW.agg [.lit (.int .i64 x.1), .lit (.int .i64 x.2.1), .lit (.int .i64 x.2.2)] : DataW H)) = xs.map (·.1) := by simpa using hx.1
  have hLl : L.length = n := by
    have := congrArg List.length hx1
    simp at this
    omega
  refine ⟨hl, hLl, fun i x hi => ?_⟩
  have hin : i < n := by
    rw [← hLl]
    exact (List.getElem?_eq_some_iff.1 hi).1
  have g := hf i hin
  rw [hC] at g
  have hxi : xs[i]? = some xs[i] := List.getElem?_eq_getElem (by omega)
  rw [hxi] at g
  have h3 : (DataW.agg [.lit (.int .i64 x.1), .lit (.int .i64 x.2.1), .lit (.int .i64 x.2.2)] : DataW H) = xs[i].1 := by
    have := congrArg (·[i]?) hx1
    simp [hi, hxi] at this
    exact this
  have g' : DataW.trod enc P w base sp held m e ((cs.drop (i * 3)).take 3) = some (.agg [.lit (.int .i64 x.1), .lit (.int .i64 x.2.1), .lit (.int .i64 x.2.2)], xs[i].2) := by
    rw [g, h3]
  exact trod3 hs hone h0 h1 h2 hC g'
end
def knownT : List (Int × Int × Int) := [(2, 3, 19), (3, 1, 6), (4, 1, 12), (7, 1, 10), (11, 1, 6), (12, 1, 6), (37, 2, 12), (38, 2, 6), (39, 2, 2), (41, 2, 8), (44, 4, 25), (48, 5, 999), (49, 1, 3), (90, 1, 42), (120, 5, 999)]
theorem gKnown : Tryd.prog.globalNamed "paydesk/field.known" = some 1 := by kernel_rfl
/-- What is known of the fields' own variable. -/
def KnownIs (w : World) : Prop := ∃ cs, w.var? Tryd.prog "paydesk/field.known" = some cs ∧ cs.size = 45 ∧ ∀ j, j < 45 → cs[j]? = some (.int .i64 (knownL.getD j 0))
theorem known_at : ∀ j, j < 45 → ∃ x, knownT[j / 3]? = some x ∧ ([x.1, x.2.1, x.2.2] : List Int)[j % 3]? = some (knownL.getD j 0) := by
  intro j hj
  have h : ∀ j : Fin 45, ∃ x : Fin 15, knownT[j.val / 3]? = knownT[x.val]? ∧ ((knownT[x.val]?).bind fun x => ([x.1, x.2.1, x.2.2] : List Int)[j.val % 3]?) = some (knownL.getD j.val 0) := by decide +kernel
  obtain ⟨x, h1, h2⟩ := h ⟨j, hj⟩
  simp only at h1 h2
  rw [← h1] at h2
  obtain ⟨y, h3, h4⟩ := Option.bind_eq_some_iff.1 h2
  exact ⟨y, h3, h4⟩
/-- What the tables give of the package's variables. -/
theorem gl0_kn {w : World} (hh : KnownIs w) : GlOk gl0 w fun _ => False := by
  obtain ⟨cs0, hv0, hz0, hc0⟩ := hh
  have hne : ∀ g, g ≠ 1 → gl0 g = .val (.pointer (some ⟨g, 0, none⟩)) := fun g hg => by
    unfold gl0
    split
    · exact absurd rfl hg
    · rfl
  refine ⟨fun g ρ N => ?_, fun g k f e => ?_⟩
  · by_cases hg0 : g = 1
    · subst hg0
      show Rel w ρ (fun _ => False) N _ (.rop 45 fun j => .int .i64 (knownL.getD j 0))
      refine .rop ⟨1, 0, none⟩ 45 _ (fun j => .int .i64 (knownL.getD j 0)) rfl (fun j hj => ⟨?_, rfl, fun e => e⟩) (fun j _ => .int _ _)
      rw [add_plain, Nat.zero_add, World.var?_cell gKnown hv0]
      exact hc0 j hj
    · rw [hne g hg0]; exact .val _
  · by_cases hg0 : g = 1
    · subst hg0
      have e2 : (SV.rop 45 fun j => .int .i64 (knownL.getD j 0)) = .rop k f := e
      cases e2
      refine ⟨?_, fun e => e⟩
      unfold World.var? at hv0
      rw [gKnown] at hv0
      simp only [Option.bind_some] at hv0
      split at hv0
      · rename_i cs t b hc
        injection hv0 with hv0
        exact ⟨cs, t, b, hc, by rw [hv0]; exact hz0⟩
      · cases hv0
    · rw [hne g hg0] at e; cases e
end Go.Vd
namespace Go.Proofs.YtakcggldilbilaaDoor
open Go.ChangeShapes Go.WideShapes Go.ChangeAt Go.ChangeMaps Go.RowKit Go.Joins
def laidL : List (String × DataW Unit) := [("paydesk/field.known", Rows.laid_paydesk_field_known)]
theorem Tryd.own : ownKnob Tryd.prog.godebug = none := by kernel_rfl
theorem Tryd.laidOut : laidOutB Tryd.prog = true := by kernel_rfl
theorem tKn : (Tryd.prog.globals[1]?).map (·.type) = some 219 := by kernel_rfl
theorem cKn : Tryd.prog.cellsOf 219 = 45 := by kernel_rfl
theorem cKnE : Tryd.prog.cellsOf 171 = 3 := by kernel_rfl
theorem dKn : (Rows.laid_paydesk_field_known : DataW Unit) = .agg (Vd.knownT.map fun x => .agg [.lit (.int .i64 x.1), .lit (.int .i64 x.2.1), .lit (.int .i64 x.2.2)]) := by kernel_rfl
theorem door_met (os : Os) (args : Array Value) : laidMetH Tryd.prog laidL ((World.doorLaid Tryd.prog 2000 os).forCall (fun _ _ => 0) ⟨#[], args, []⟩).memory :=
  laidMetH_of_parts3 (fuel := 8) (laidMet_of_run' 8 (by kernel_rfl) (by kernel_rfl)) (by kernel_rfl) (by kernel_rfl)
theorem laid_known {W : World} (h : laidMetH Tryd.prog laidL W) : Vd.KnownIs W := by
  rw [MakeChecks.laidMetH_plain _ _ _ (by kernel_rfl)] at h
  obtain ⟨ps, ⟨g3, t3, cs3, f3, p3, q3, hg3, ht3, hv3, hd3, _, _⟩, _, _⟩ := h
  obtain rfl := Option.some.inj (Vd.gKnown.symm.trans hg3)
  obtain rfl := Option.some.inj (tKn.symm.trans ht3)
  rw [dKn] at hd3
  obtain ⟨hl, hn, hx⟩ := Vd.cells_of_known Tryd.underlying219 Tryd.underlying171 (by kernel_rfl) Tryd.underlying3 Tryd.underlying3 Tryd.underlying3 cKnE hd3
  rw [cKn] at hl
  refine ⟨cs3, hv3, by simpa using hl, fun j hj => ?_⟩
  obtain ⟨x, h1, h2⟩ := Vd.known_at j hj
  have h3 := hx _ x h1
  have h4 := congrArg (·[j % 3]?) h3
  rw [List.getElem?_take_of_lt (by omega), List.getElem?_drop, show j / 3 * 3 + j % 3 = j by omega] at h4
  rw [← Array.getElem?_toList, h4]
  have h5 := congrArg (Option.map (Value.int .i64)) h2
  rw [← List.getElem?_map] at h5
  exact h5
end Go.Proofs.YtakcggldilbilaaDoor

