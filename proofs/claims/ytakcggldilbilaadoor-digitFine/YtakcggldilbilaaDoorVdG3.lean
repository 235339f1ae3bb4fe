/- The digits' functions: the sum as a contract, fine rows. -/
import Derived.Test.YtakcggldilbilaaDoorVdG2
set_option linter.unusedVariables false
set_option linter.unusedSimpArgs false
set_option maxRecDepth 100000
set_option maxHeartbeats 2000000
namespace Go.Vd
open Go.Proofs
theorem good_gSum (L : List UInt8) (t : Bool) (hp : L.length ≤ 1000000 ∧ isD L = true) : GoodP Tryd.prog gl0 71 [.str L, .bool t] (.int .i64 (std.ti fun _ => (lSum L.reverse t : Int))) := by
  intro w ρ rw N vs hfr hrw hg hargs
  match vs, hargs with
  | [v1, v2], ⟨r1, r2, _⟩ =>
    generalize hs1 : SV.str L = s1 at r1
    generalize hs2 : SV.bool t = s2 at r2
    cases r1 with
    | str s =>
      cases r2 with
      | bool b =>
        cases hs1
        cases hs2
        have h0 := callsIn_wide.1 (sum_in Fence.wide 3 trivial trivial trivial trivial rfl (by omega) s.data.toList hp.1 t w)
        have e0 : (⟨s.data.toList.toArray⟩ : ByteArray) = s := by cases s; simp
        rw [e0] at h0
        refine h0.mono fun e w' hq => ?_
        obtain ⟨rfl, hb⟩ := hq
        refine ⟨_, rfl, Ext.of_below hb, fun key _ => ?_⟩
        have e1 : lSum8 s.data.toList.reverse t = lSum s.data.toList.reverse t := lSum8_eq _ _ (fun b hb => (isD_iff.1 hp.2).2 b (by simpa using hb))
        rw [e1]
        exact Rel.int _ _
      | _ => cases hs2
    | _ => cases hs1
noncomputable def c_gSum : Ct := fun A args => match args with
  | [.str L, .bool t] => some (some (A.tp fun _ => L.length ≤ 1000000 ∧ isD L = true), .int .i64 (A.ti fun _ => (lSum L.reverse t : Int)))
  | _ => none
noncomputable def gg2 : Ar → Pu := addC 71 c_gSum (gg1)
theorem gg2_ok : PuOk Tryd.prog gl0 (gg2 std) := by
  refine addC_ok (gg1_ok) ⟨_, Tryd.func71, rfl, by decide⟩ ?_
  · intro args p r h hp
    unfold c_gSum at h
    split at h <;> cases h
    exact good_gSum _ _ hp
theorem tm10 (n : Nat) : ((n : Int).tmod 10 == 0) = decide (n % 10 = 0) := by
  rw [Bool.eq_iff_iff, beq_iff_eq, decide_eq_true_eq, Int.tmod_eq_emod_of_nonneg (by omega)]
  omega
theorem good_gFine (L : List UInt8) (hL : L.length ≤ 100000) : GoodP Tryd.prog gl0 18 [.str L] (.bool (std.tb fun _ => lFine L)) := by
  refine fn_sound' (T := seatT) (G := gg2) (X := noX) seatT_ok gg2_ok noX_ok noI_ok mixed Tryd.func18 (.one) (fun A => [.str L]) (fun A => .bool (A.tb fun _ => lFine L)) fun A hA => ?_
  cbv
  repeat' (first | with_reducible exact True.intro | with_reducible exact dr_ok hA (by kernel_rfl) | with_reducible refine And.intro ?_ ?_ | (intro hc; cbv))
  all_goals (subst hA; simp [std_add, std_sub, std_mul, std_quo, std_rem, std_band, std_bor, std_bxor, std_shl, std_shr, std_eq, std_ne, std_lt, std_le, std_conv, std_not, std_beq, std_bne, std_ite, std_want, std_and2, std_sadd, std_seq, std_sne, std_slt, std_sle, std_sgt, std_sge, std_slen, std_sget, std_scut, std_ofNat, std_toNat, std_nsub, std_nadd, std_lenOf, std_nz, std_nneg, std_inb, std_upto, std_slt63, std_grow, std_imp, std_impN, std_tr, std_tb, std_ti, std_ts, std_tn, std_tp, std_nmin, std_makes, std_room, std_zeros, std_nilq, std_notq, std_eqi, std_eqn, std_eqb, std_eqs, std_eqv, std_cat, std_lst, std_rset, std_rcopy, std_shift, std_eqr, std_strOf, std_bytesOf, std_isB, std_zOf, zOf_int, std_isI, isI_int, std_getL, std_nmul, std_sOf, sOf_str, std_isS, isS_str, lFine] at *)
  all_goals first
    | omega
    | exact fun h => ⟨h, by omega, h⟩
    | rw [tm10]
    | trace_state
theorem isD_bound {L : List UInt8} (h : isD L = true) : lSum L.reverse false ≤ 510 * L.length := by
  have h1 := lSum8_le L.reverse false
  rw [lSum8_eq _ _ (fun b hb => (isD_iff.1 h).2 b (by simpa using hb)), List.length_reverse] at h1
  exact h1
theorem rf_step {L : List UInt8} {i : Nat} (hi : i < L.length) : lSum (L.drop i).reverse false = lSum (L.drop (i + 1)).reverse false + lW (dig (L.getD i 0)) (odd (L.length - i - 1)) := by
  have e : L.drop i = L.getD i 0 :: L.drop (i + 1) := by
    rw [List.getD_eq_getElem?_getD, List.getElem?_eq_getElem hi]
    exact List.drop_eq_getElem_cons hi
  rw [e, List.reverse_cons, lSum_snoc, List.length_reverse, List.length_drop, Bool.false_xor, show L.length - (i + 1) = L.length - i - 1 by omega]
theorem lW_0 (b : Nat) : lW b false = b := rfl
theorem lW_1 {b : Nat} (h : b ≤ 4) : lW b true = 2 * b := by simp only [lW, if_true]; rw [if_neg (by omega)]
theorem lW_2 {b : Nat} (h : 4 < b) : lW b true = 2 * b - 9 := by simp only [lW, if_true]; rw [if_pos h]
theorem odd_t {n : Nat} (h : n % 2 = 1) : odd n = true := by rw [odd_mod, h]; rfl
theorem odd_f {n : Nat} (h : n % 2 = 0) : odd n = false := by rw [odd_mod, h]; rfl
theorem par {len i : Nat} (hlt : i < len) (hL : len ≤ 100000) : ((IntKind.i64.wrap ((len : Int) - i)).tmod 2 = 0 → odd (len - i - 1) = true) ∧ (¬(IntKind.i64.wrap ((len : Int) - i)).tmod 2 = 0 → odd (len - i - 1) = false) := by
  rw [w64 (by omega), Int.tmod_eq_emod_of_nonneg (by omega)]
  exact ⟨fun h => odd_t (by omega), fun h => odd_f (by omega)⟩
theorem dw {b : Nat} (h : 48 ≤ b ∧ b ≤ 57) : IntKind.i64.wrap (IntKind.i64.wrap (b : Int) - 48) = ((b - 48 : Nat) : Int) := by
  rw [w64 (n := (b : Int)) (by omega), w64 (by omega)]
  omega
theorem fin_0 {b n n' len i i' : Nat} (hd : 48 ≤ b ∧ b ≤ 57) (hlt : i < len) (hL : len ≤ 100000) (hi' : i' = i + 1) (hn' : n' = n + lW (b - 48) (odd (len - i - 1))) (hb : n' ≤ 510 * len) (hc : ¬(IntKind.i64.wrap ((len : Int) - i)).tmod 2 = 0) :
    IntKind.i64.wrap ((n : Int) + IntKind.i64.wrap (IntKind.i64.wrap (b : Int) - 48)) = (n' : Int) ∧ IntKind.i64.wrap ((i : Int) + 1) = (i' : Int) := by
  rw [(par hlt hL).2 hc, lW_0] at hn'
  rw [dw hd, w64 (by omega), w64 (by omega)]
  omega
theorem fin_1 {b n n' len i i' : Nat} (hd : 48 ≤ b ∧ b ≤ 57) (hlt : i < len) (hL : len ≤ 100000) (hi' : i' = i + 1) (hn' : n' = n + lW (b - 48) (odd (len - i - 1))) (hb : n' ≤ 510 * len) (c2 : (IntKind.i64.wrap ((len : Int) - i)).tmod 2 = 0) (hc : IntKind.i64.wrap (2 * IntKind.i64.wrap (IntKind.i64.wrap (b : Int) - 48)) ≤ 9) :
    IntKind.i64.wrap ((n : Int) + IntKind.i64.wrap (2 * IntKind.i64.wrap (IntKind.i64.wrap (b : Int) - 48))) = (n' : Int) ∧ IntKind.i64.wrap ((i : Int) + 1) = (i' : Int) := by
  have e : IntKind.i64.wrap (2 * ((b - 48 : Nat) : Int)) = ((2 * (b - 48) : Nat) : Int) := by rw [w64 (by omega)]; omega
  rw [dw hd, e] at hc
  rw [(par hlt hL).1 c2, lW_1 (by omega)] at hn'
  rw [dw hd, e, w64 (by omega), w64 (by omega)]
  omega
theorem fin_2 {b n n' len i i' : Nat} (hd : 48 ≤ b ∧ b ≤ 57) (hlt : i < len) (hL : len ≤ 100000) (hi' : i' = i + 1) (hn' : n' = n + lW (b - 48) (odd (len - i - 1))) (hb : n' ≤ 510 * len) (c2 : (IntKind.i64.wrap ((len : Int) - i)).tmod 2 = 0) (hc : 9 < IntKind.i64.wrap (2 * IntKind.i64.wrap (IntKind.i64.wrap (b : Int) - 48))) :
    IntKind.i64.wrap ((n : Int) + IntKind.i64.wrap (IntKind.i64.wrap (2 * IntKind.i64.wrap (IntKind.i64.wrap (b : Int) - 48)) - 9)) = (n' : Int) ∧ IntKind.i64.wrap ((i : Int) + 1) = (i' : Int) := by
  have e : IntKind.i64.wrap (2 * ((b - 48 : Nat) : Int)) = ((2 * (b - 48) : Nat) : Int) := by rw [w64 (by omega)]; omega
  rw [dw hd, e] at hc
  rw [(par hlt hL).1 c2, lW_2 (by omega)] at hn'
  rw [dw hd, e, w64 (n := ((2 * (b - 48) : Nat) : Int) - 9) (by omega), w64 (by omega), w64 (by omega)]
  omega
theorem good_rFine (L : List UInt8) (hL : L.length ≤ 100000) : GoodP Tryd.prog gl0 91 [.str L] (.bool (std.tb fun _ => lFine L)) := by
  refine fn_sound' (T := seatT) (G := gg2) (X := noX) seatT_ok gg2_ok noX_ok noI_ok mixed Tryd.func91 (.one) (fun A => [.str L]) (fun A => .bool (A.tb fun _ => lFine L)) fun A hA => ?_
  cbv
  repeat' (first | with_reducible exact True.intro | with_reducible exact dr_ok hA (by kernel_rfl) | with_reducible refine And.intro ?_ ?_ | (intro hc; cbv))
  rotate_right
  · have hk : isD L = true := by
      subst hA
      simp [std_add, std_sub, std_mul, std_quo, std_rem, std_band, std_bor, std_bxor, std_shl, std_shr, std_eq, std_ne, std_lt, std_le, std_conv, std_not, std_beq, std_bne, std_ite, std_want, std_and2, std_sadd, std_seq, std_sne, std_slt, std_sle, std_sgt, std_sge, std_slen, std_sget, std_scut, std_ofNat, std_toNat, std_nsub, std_nadd, std_lenOf, std_nz, std_nneg, std_inb, std_upto, std_slt63, std_grow, std_imp, std_impN, std_tr, std_tb, std_ti, std_ts, std_tn, std_tp, std_nmin, std_makes, std_room, std_zeros, std_nilq, std_notq, std_eqi, std_eqn, std_eqb, std_eqs, std_eqv, std_cat, std_lst, std_rset, std_rcopy, std_shift, std_eqr, std_strOf, std_bytesOf, std_isB, std_zOf, zOf_int, std_isI, isI_int, std_getL, std_nmul, std_sOf, sOf_str, std_isS, isS_str] at hc
      exact hc
    clear hc
    have hbd := isD_bound hk
    refine ⟨⟨{p : Nat × Nat // p.1 ≤ L.length ∧ p.2 + lSum (L.drop p.1).reverse false = lSum L.reverse false}, fun b p => [(3, .int .i64 (p.1.2 : Nat)), (4, .int .i64 (p.1.1 : Nat)), (5, .any)], fun b p => [], fun p => L.length - p.1.1, true⟩, ⟨⟨(0, 0), by omega, by simp⟩, ?_⟩, ?_⟩
    · cbv
      subst hA
      simp [-List.getD_eq_getElem?_getD, std_add, std_sub, std_mul, std_quo, std_rem, std_band, std_bor, std_bxor, std_shl, std_shr, std_eq, std_ne, std_lt, std_le, std_conv, std_not, std_beq, std_bne, std_ite, std_want, std_and2, std_sadd, std_seq, std_sne, std_slt, std_sle, std_sgt, std_sge, std_slen, std_sget, std_scut, std_ofNat, std_toNat, std_nsub, std_nadd, std_lenOf, std_nz, std_nneg, std_inb, std_upto, std_slt63, std_grow, std_imp, std_impN, std_tr, std_tb, std_ti, std_ts, std_tn, std_tp, std_nmin, std_makes, std_room, std_zeros, std_nilq, std_notq, std_eqi, std_eqn, std_eqb, std_eqs, std_eqv, std_cat, std_lst, std_rset, std_rcopy, std_shift, std_eqr, std_strOf, std_bytesOf, std_isB, std_zOf, zOf_int, std_isI, isI_int, std_getL, std_nmul, std_sOf, sOf_str, std_isS, isS_str]
    · rintro ⟨⟨i, n⟩, hi, hn⟩
      simp only at hi hn
      cbv
      repeat' (first | with_reducible exact True.intro | with_reducible exact dr_ok hA (by kernel_rfl) | with_reducible refine And.intro ?_ ?_ | (intro hc; cbv))
      all_goals first
        | (fail_if_success (refine Exists.intro ?_ ?_)
           subst hA
           simp [-List.getD_eq_getElem?_getD, std_add, std_sub, std_mul, std_quo, std_rem, std_band, std_bor, std_bxor, std_shl, std_shr, std_eq, std_ne, std_lt, std_le, std_conv, std_not, std_beq, std_bne, std_ite, std_want, std_and2, std_sadd, std_seq, std_sne, std_slt, std_sle, std_sgt, std_sge, std_slen, std_sget, std_scut, std_ofNat, std_toNat, std_nsub, std_nadd, std_lenOf, std_nz, std_nneg, std_inb, std_upto, std_slt63, std_grow, std_imp, std_impN, std_tr, std_tb, std_ti, std_ts, std_tn, std_tp, std_nmin, std_makes, std_room, std_zeros, std_nilq, std_notq, std_eqi, std_eqn, std_eqb, std_eqs, std_eqv, std_cat, std_lst, std_rset, std_rcopy, std_shift, std_eqr, std_strOf, std_bytesOf, std_isB, std_zOf, zOf_int, std_isI, isI_int, std_getL, std_nmul, std_sOf, sOf_str, std_isS, isS_str, gD'] at *
           done)
        | (fail_if_success (refine Exists.intro ?_ ?_)
           subst hA
           simp [-List.getD_eq_getElem?_getD, std_add, std_sub, std_mul, std_quo, std_rem, std_band, std_bor, std_bxor, std_shl, std_shr, std_eq, std_ne, std_lt, std_le, std_conv, std_not, std_beq, std_bne, std_ite, std_want, std_and2, std_sadd, std_seq, std_sne, std_slt, std_sle, std_sgt, std_sge, std_slen, std_sget, std_scut, std_ofNat, std_toNat, std_nsub, std_nadd, std_lenOf, std_nz, std_nneg, std_inb, std_upto, std_slt63, std_grow, std_imp, std_impN, std_tr, std_tb, std_ti, std_ts, std_tn, std_tp, std_nmin, std_makes, std_room, std_zeros, std_nilq, std_notq, std_eqi, std_eqn, std_eqb, std_eqs, std_eqv, std_cat, std_lst, std_rset, std_rcopy, std_shift, std_eqr, std_strOf, std_bytesOf, std_isB, std_zOf, zOf_int, std_isI, isI_int, std_getL, std_nmul, std_sOf, sOf_str, std_isS, isS_str, gD'] at *
           omega)
        | (fail_if_success (refine Exists.intro ?_ ?_)
           have hie : i = L.length := by (clear hn; subst hA; simp [std_add, std_sub, std_mul, std_quo, std_rem, std_band, std_bor, std_bxor, std_shl, std_shr, std_eq, std_ne, std_lt, std_le, std_conv, std_not, std_beq, std_bne, std_ite, std_want, std_and2, std_sadd, std_seq, std_sne, std_slt, std_sle, std_sgt, std_sge, std_slen, std_sget, std_scut, std_ofNat, std_toNat, std_nsub, std_nadd, std_lenOf, std_nz, std_nneg, std_inb, std_upto, std_slt63, std_grow, std_imp, std_impN, std_tr, std_tb, std_ti, std_ts, std_tn, std_tp, std_nmin, std_makes, std_room, std_zeros, std_nilq, std_notq, std_eqi, std_eqn, std_eqb, std_eqs, std_eqv, std_cat, std_lst, std_rset, std_rcopy, std_shift, std_eqr, std_strOf, std_bytesOf, std_isB, std_zOf, zOf_int, std_isI, isI_int, std_getL, std_nmul, std_sOf, sOf_str, std_isS, isS_str] at *; omega)
           rw [hie, List.drop_length] at hn
           subst hA
           simp only [std_add, std_sub, std_mul, std_quo, std_rem, std_band, std_bor, std_bxor, std_shl, std_shr, std_eq, std_ne, std_lt, std_le, std_conv, std_not, std_beq, std_bne, std_ite, std_want, std_and2, std_sadd, std_seq, std_sne, std_slt, std_sle, std_sgt, std_sge, std_slen, std_sget, std_scut, std_ofNat, std_toNat, std_nsub, std_nadd, std_lenOf, std_nz, std_nneg, std_inb, std_upto, std_slt63, std_grow, std_imp, std_impN, std_tr, std_tb, std_ti, std_ts, std_tn, std_tp, std_nmin, std_makes, std_room, std_zeros, std_nilq, std_notq, std_eqi, std_eqn, std_eqb, std_eqs, std_eqv, std_cat, std_lst, std_rset, std_rcopy, std_shift, std_eqr, std_strOf, std_bytesOf, std_isB, std_zOf, zOf_int, std_isI, isI_int, std_getL, std_nmul, std_sOf, sOf_str, std_isS, isS_str, Int.ofNat_eq_natCast]
           have hn2 : n = lSum L.reverse false := hn
           rw [hn2]
           simp [lFine, hk, tm10])
        | skip
      all_goals
          (have hlt : i < L.length := by clear hn; subst hA; simp [std_add, std_sub, std_mul, std_quo, std_rem, std_band, std_bor, std_bxor, std_shl, std_shr, std_eq, std_ne, std_lt, std_le, std_conv, std_not, std_beq, std_bne, std_ite, std_want, std_and2, std_sadd, std_seq, std_sne, std_slt, std_sle, std_sgt, std_sge, std_slen, std_sget, std_scut, std_ofNat, std_toNat, std_nsub, std_nadd, std_lenOf, std_nz, std_nneg, std_inb, std_upto, std_slt63, std_grow, std_imp, std_impN, std_tr, std_tb, std_ti, std_ts, std_tn, std_tp, std_nmin, std_makes, std_room, std_zeros, std_nilq, std_notq, std_eqi, std_eqn, std_eqb, std_eqs, std_eqv, std_cat, std_lst, std_rset, std_rcopy, std_shift, std_eqr, std_strOf, std_bytesOf, std_isB, std_zOf, zOf_int, std_isI, isI_int, std_getL, std_nmul, std_sOf, sOf_str, std_isS, isS_str] at *; omega
           have hd := getD_dig hk hlt
           have hs := rf_step hlt
           obtain ⟨d', hd'⟩ : ∃ d', d' = lW (dig (L.getD i 0)) (odd (L.length - i - 1)) := ⟨_, rfl⟩
           obtain ⟨i', hi'⟩ : ∃ i', i' = i + 1 := ⟨_, rfl⟩
           obtain ⟨n', hn'⟩ : ∃ n', n' = n + d' := ⟨_, rfl⟩
           have hnn : n' + lSum (L.drop i').reverse false = lSum L.reverse false := by rw [hi']; omega
           refine ⟨⟨(i', n'), by omega, hnn⟩, ?_, show L.length - i' < L.length - i by omega⟩
           have hb : n' ≤ 510 * L.length := by omega
           have hg : dig (L.getD i 0) = (L.getD i 0).toNat - 48 := rfl
           cbv
           clear hn hnn hs hk hbd
           subst hA
           simp [-List.getD_eq_getElem?_getD, std_add, std_sub, std_mul, std_quo, std_rem, std_band, std_bor, std_bxor, std_shl, std_shr, std_eq, std_ne, std_lt, std_le, std_conv, std_not, std_beq, std_bne, std_ite, std_want, std_and2, std_sadd, std_seq, std_sne, std_slt, std_sle, std_sgt, std_sge, std_slen, std_sget, std_scut, std_ofNat, std_toNat, std_nsub, std_nadd, std_lenOf, std_nz, std_nneg, std_inb, std_upto, std_slt63, std_grow, std_imp, std_impN, std_tr, std_tb, std_ti, std_ts, std_tn, std_tp, std_nmin, std_makes, std_room, std_zeros, std_nilq, std_notq, std_eqi, std_eqn, std_eqb, std_eqs, std_eqv, std_cat, std_lst, std_rset, std_rcopy, std_shift, std_eqr, std_strOf, std_bytesOf, std_isB, std_zOf, zOf_int, std_isI, isI_int, std_getL, std_nmul, std_sOf, sOf_str, std_isS, isS_str, gD'] at hc
           simp [-List.getD_eq_getElem?_getD, std_add, std_sub, std_mul, std_quo, std_rem, std_band, std_bor, std_bxor, std_shl, std_shr, std_eq, std_ne, std_lt, std_le, std_conv, std_not, std_beq, std_bne, std_ite, std_want, std_and2, std_sadd, std_seq, std_sne, std_slt, std_sle, std_sgt, std_sge, std_slen, std_sget, std_scut, std_ofNat, std_toNat, std_nsub, std_nadd, std_lenOf, std_nz, std_nneg, std_inb, std_upto, std_slt63, std_grow, std_imp, std_impN, std_tr, std_tb, std_ti, std_ts, std_tn, std_tp, std_nmin, std_makes, std_room, std_zeros, std_nilq, std_notq, std_eqi, std_eqn, std_eqb, std_eqs, std_eqv, std_cat, std_lst, std_rset, std_rcopy, std_shift, std_eqr, std_strOf, std_bytesOf, std_isB, std_zOf, zOf_int, std_isI, isI_int, std_getL, std_nmul, std_sOf, sOf_str, std_isS, isS_str, gD']
           rw [hd'] at hn'
           rw [hg] at hn'
           first
             | with_reducible exact fin_0 hd hlt hL hi' hn' hb hc
             | (rename_i c2
                simp [-List.getD_eq_getElem?_getD, std_add, std_sub, std_mul, std_quo, std_rem, std_band, std_bor, std_bxor, std_shl, std_shr, std_eq, std_ne, std_lt, std_le, std_conv, std_not, std_beq, std_bne, std_ite, std_want, std_and2, std_sadd, std_seq, std_sne, std_slt, std_sle, std_sgt, std_sge, std_slen, std_sget, std_scut, std_ofNat, std_toNat, std_nsub, std_nadd, std_lenOf, std_nz, std_nneg, std_inb, std_upto, std_slt63, std_grow, std_imp, std_impN, std_tr, std_tb, std_ti, std_ts, std_tn, std_tp, std_nmin, std_makes, std_room, std_zeros, std_nilq, std_notq, std_eqi, std_eqn, std_eqb, std_eqs, std_eqv, std_cat, std_lst, std_rset, std_rcopy, std_shift, std_eqr, std_strOf, std_bytesOf, std_isB, std_zOf, zOf_int, std_isI, isI_int, std_getL, std_nmul, std_sOf, sOf_str, std_isS, isS_str, gD'] at c2
                first | with_reducible exact fin_1 hd hlt hL hi' hn' hb c2 hc | with_reducible exact fin_2 hd hlt hL hi' hn' hb c2 hc))
  all_goals (subst hA; simp [std_add, std_sub, std_mul, std_quo, std_rem, std_band, std_bor, std_bxor, std_shl, std_shr, std_eq, std_ne, std_lt, std_le, std_conv, std_not, std_beq, std_bne, std_ite, std_want, std_and2, std_sadd, std_seq, std_sne, std_slt, std_sle, std_sgt, std_sge, std_slen, std_sget, std_scut, std_ofNat, std_toNat, std_nsub, std_nadd, std_lenOf, std_nz, std_nneg, std_inb, std_upto, std_slt63, std_grow, std_imp, std_impN, std_tr, std_tb, std_ti, std_ts, std_tn, std_tp, std_nmin, std_makes, std_room, std_zeros, std_nilq, std_notq, std_eqi, std_eqn, std_eqb, std_eqs, std_eqv, std_cat, std_lst, std_rset, std_rcopy, std_shift, std_eqr, std_strOf, std_bytesOf, std_isB, std_zOf, zOf_int, std_isI, isI_int, std_getL, std_nmul, std_sOf, sOf_str, std_isS, isS_str, lFine] at *)
  all_goals first
    | omega
    | (intro h; rw [hc] at h; cases h)
    | trace_state
end Go.Vd
