/- The frame's functions: leaves. -/
import Derived.Test.YtdipfibiajkedaaWeFT
import Derived.Test.YtdipfibiajkedaaWeSimp
import Derived.Test.YtdipfibiajkedaaWeFM
set_option linter.unusedVariables false
set_option linter.unusedSimpArgs false
set_option maxRecDepth 100000
set_option maxHeartbeats 1000000
namespace Go.Vd
open Go.Proofs
def sR (A : Ar) (L : Unit → List UInt8) (br : Bool) : SV := .agg [rowS eB 0 1 A L, .bool br]
theorem wU8 (z : Int) (h : 0 ≤ z) : IntKind.u8.wrap z = ((UInt8.ofNat z.toNat).toNat : Int) := by
  rw [IntKind.wrap_u8, UInt8.toNat_ofNat']
  omega
theorem wB (x : UInt8) : IntKind.i64.wrap (x.toNat : Int) = x.toNat := w64 (by have := x.toNat_lt; omega)
theorem flen_bits (x y : UInt8) : bits .or .i64 (IntKind.i64.wrap (IntKind.i64.wrap (x.toNat : Int) * 2 ^ min 8 IntKind.i64.bits)) (IntKind.i64.wrap (y.toNat : Int)) = ((256 * x.toNat + y.toNat : Nat) : Int) := by
  have hx := x.toNat_lt
  have hy := y.toNat_lt
  rw [wB, wB, show (2 : Int) ^ min 8 IntKind.i64.bits = 256 from rfl, w64 (n := (x.toNat : Int) * 256) (by omega)]
  exact or_two _ _ hx hy
theorem flen_sum (x y : UInt8) : IntKind.i64.wrap (IntKind.i64.wrap (256 * IntKind.i64.wrap (x.toNat : Int)) + IntKind.i64.wrap (y.toNat : Int)) = ((256 * x.toNat + y.toNat : Nat) : Int) := by
  have hx := x.toNat_lt
  have hy := y.toNat_lt
  rw [wB, wB, w64 (n := 256 * (x.toNat : Int)) (by omega), w64 (by omega)]
  omega
theorem good_may (n : Int) : GoodP Try.prog gl0 29 [.int .i64 n] (.bool (std.tb fun _ => fMay n)) := by
  refine fn_sound' (T := seatT) (G := noC) (X := noX) seatT_ok noC_ok noX_ok noI_ok mixed Try.func29 (.one) (fun A => [.int .i64 n]) (fun A => .bool (A.tb fun _ => fMay n)) fun A hA => ?_
  cbv
  repeat' (first | with_reducible exact True.intro | with_reducible exact dr_ok hA (by kernel_rfl) | with_reducible refine And.intro ?_ ?_ | (intro hc; cbv))
  all_goals (subst hA; simp [-List.getD_eq_getElem?_getD, std_add, std_sub, std_mul, std_quo, std_rem, std_band, std_bor, std_bxor, std_shl, std_shr, std_eq, std_ne, std_lt, std_le, std_conv, std_not, std_beq, std_bne, std_ite, std_want, std_and2, std_sadd, std_seq, std_sne, std_slt, std_sle, std_sgt, std_sge, std_slen, std_sget, std_scut, std_ofNat, std_toNat, std_nsub, std_nadd, std_lenOf, std_nz, std_nneg, std_inb, std_upto, std_slt63, std_grow, std_imp, std_impN, std_tr, std_tb, std_ti, std_ts, std_tn, std_tp, std_nmin, std_makes, std_room, std_zeros, std_nilq, std_notq, std_eqi, std_eqn, std_eqb, std_eqs, std_eqv, std_cat, std_lst, std_rset, std_rcopy, std_shift, std_eqr, std_strOf, std_bytesOf, std_isB, std_zOf, zOf_int, std_isI, isI_int]; try simp [fMay])
theorem good_rmay (n : Int) : GoodP Try.prog gl0 30 [.int .i64 n] (.bool (std.tb fun _ => fMay n)) := by
  refine fn_sound' (T := seatT) (G := noC) (X := noX) seatT_ok noC_ok noX_ok noI_ok mixed Try.func30 (.one) (fun A => [.int .i64 n]) (fun A => .bool (A.tb fun _ => fMay n)) fun A hA => ?_
  cbv
  repeat' (first | with_reducible exact True.intro | with_reducible exact dr_ok hA (by kernel_rfl) | with_reducible refine And.intro ?_ ?_ | (intro hc; cbv))
  all_goals (subst hA; simp [-List.getD_eq_getElem?_getD, std_add, std_sub, std_mul, std_quo, std_rem, std_band, std_bor, std_bxor, std_shl, std_shr, std_eq, std_ne, std_lt, std_le, std_conv, std_not, std_beq, std_bne, std_ite, std_want, std_and2, std_sadd, std_seq, std_sne, std_slt, std_sle, std_sgt, std_sge, std_slen, std_sget, std_scut, std_ofNat, std_toNat, std_nsub, std_nadd, std_lenOf, std_nz, std_nneg, std_inb, std_upto, std_slt63, std_grow, std_imp, std_impN, std_tr, std_tb, std_ti, std_ts, std_tn, std_tp, std_nmin, std_makes, std_room, std_zeros, std_nilq, std_notq, std_eqi, std_eqn, std_eqb, std_eqs, std_eqv, std_cat, std_lst, std_rset, std_rcopy, std_shift, std_eqr, std_strOf, std_bytesOf, std_isB, std_zOf, zOf_int, std_isI, isI_int]; try simp [fMay])
  all_goals (rw [Bool.eq_iff_iff]; simp; omega)
theorem good_flen (L : List UInt8) (h2 : 2 ≤ L.length) : GoodP Try.prog gl0 28 [rowS eB 0 1 std fun _ => L] (.int .i64 (std.ti fun _ => (fLen L : Int))) := by
  refine fn_sound' (T := seatT) (G := noC) (X := noX) seatT_ok noC_ok noX_ok noI_ok mixed Try.func28 (.one) (fun A => [rowS eB 0 1 A fun _ => L]) (fun A => .int .i64 (A.ti fun _ => (fLen L : Int))) fun A hA => ?_
  cbv
  repeat' (first | with_reducible exact True.intro | with_reducible exact dr_ok hA (by kernel_rfl) | with_reducible refine And.intro ?_ ?_ | (intro hc; cbv))
  all_goals (subst hA; simp [-List.getD_eq_getElem?_getD, std_add, std_sub, std_mul, std_quo, std_rem, std_band, std_bor, std_bxor, std_shl, std_shr, std_eq, std_ne, std_lt, std_le, std_conv, std_not, std_beq, std_bne, std_ite, std_want, std_and2, std_sadd, std_seq, std_sne, std_slt, std_sle, std_sgt, std_sge, std_slen, std_sget, std_scut, std_ofNat, std_toNat, std_nsub, std_nadd, std_lenOf, std_nz, std_nneg, std_inb, std_upto, std_slt63, std_grow, std_imp, std_impN, std_tr, std_tb, std_ti, std_ts, std_tn, std_tp, std_nmin, std_makes, std_room, std_zeros, std_nilq, std_notq, std_eqi, std_eqn, std_eqb, std_eqs, std_eqv, std_cat, std_lst, std_rset, std_rcopy, std_shift, std_eqr, std_strOf, std_bytesOf, std_isB, std_zOf, zOf_int, std_isI, isI_int])
  · omega
  · omega
  · exact flen_bits _ _
noncomputable def c_may : Ct := fun A args => match args with
  | [.int .i64 n] => some (none, .bool (A.tb fun _ => fMay n))
  | _ => none
noncomputable def c_rmay : Ct := fun A args => match args with
  | [.int .i64 n] => some (none, .bool (A.tb fun _ => fMay n))
  | _ => none
noncomputable def c_flen : Ct := fun A args => match args with
  | [.slc n 1 f] => some (some (A.tp fun _ => isRow eB 0 1 n f ∧ 2 ≤ n), .int .i64 (A.ti fun _ => (fLen (lstOf eB 0 1 n f) : Int)))
  | _ => none
noncomputable def gf1 : Ar → Pu := addC 29 c_may (addC 30 c_rmay (addC 28 c_flen (noC)))
theorem gf1_ok : PuOk Try.prog gl0 (gf1 std) := by
  refine addC_ok (addC_ok (addC_ok (noC_ok) ⟨_, Try.func28, rfl, by decide⟩ ?_) ⟨_, Try.func30, rfl, by decide⟩ ?_) ⟨_, Try.func29, rfl, by decide⟩ ?_
  · intro args p r h hp
    unfold c_flen at h
    split at h <;> cases h
    exact good_sv (good_flen _ (by rw [lstOf_length hp.1]; exact hp.2)) ⟨hp.1.sv, trivial⟩
  · intro args p r h hp
    unfold c_rmay at h
    split at h <;> cases h
    exact good_rmay _
  · intro args p r h hp
    unfold c_may at h
    split at h <;> cases h
    exact good_may _
theorem good_fRight (br : Bool) (L : List UInt8) : GoodP Try.prog gl0 12 [sR std (fun _ => L) br] (.bool (std.tb fun _ => fOk L br)) := by
  refine fn_sound' (T := seatT) (G := gf1) (X := noX) seatT_ok gf1_ok noX_ok noI_ok mixed Try.func12 (.one) (fun A => [sR A (fun _ => L) br]) (fun A => .bool (A.tb fun _ => fOk L br)) fun A hA => ?_
  cbv
  repeat' (first | with_reducible exact True.intro | with_reducible exact dr_ok hA (by kernel_rfl) | with_reducible refine And.intro ?_ ?_ | (intro hc; cbv))
  all_goals (subst hA; simp [-List.getD_eq_getElem?_getD, std_add, std_sub, std_mul, std_quo, std_rem, std_band, std_bor, std_bxor, std_shl, std_shr, std_eq, std_ne, std_lt, std_le, std_conv, std_not, std_beq, std_bne, std_ite, std_want, std_and2, std_sadd, std_seq, std_sne, std_slt, std_sle, std_sgt, std_sge, std_slen, std_sget, std_scut, std_ofNat, std_toNat, std_nsub, std_nadd, std_lenOf, std_nz, std_nneg, std_inb, std_upto, std_slt63, std_grow, std_imp, std_impN, std_tr, std_tb, std_ti, std_ts, std_tn, std_tp, std_nmin, std_makes, std_room, std_zeros, std_nilq, std_notq, std_eqi, std_eqn, std_eqb, std_eqs, std_eqv, std_cat, std_lst, std_rset, std_rcopy, std_shift, std_eqr, std_strOf, std_bytesOf, std_isB, std_zOf, zOf_int, std_isI, isI_int, strOf_lit, lstOf_lit inj_eB, lstOf_lit inj_eZ, lstOf_lit inj_eBs, lstOf_lit inj_eS, isRow_lit, isB_lit, isRow_nil, lstOf_nil inj_eB, lstOf_nil inj_eZ, lstOf_nil inj_eBs, lstOf_nil inj_eS] at *)
  all_goals (have hF := fLen_lt L)
  all_goals (have hF2 : IntKind.i64.wrap (2 + (fLen L : Int)) = 2 + (fLen L : Int) := w64 (by omega))
  all_goals (have hG : IntKind.i64.wrap (IntKind.i64.wrap (256 * IntKind.i64.wrap ((L.getD 0 0).toNat : Int)) + IntKind.i64.wrap ((L.getD 1 0).toNat : Int)) = (fLen L : Int) := flen_sum _ _)
  all_goals first
    | omega
    | (simp only [fOk, hc, if_true]; rw [Bool.eq_iff_iff]; simp; done)
    | (rename_i h0; unfold fOk; rw [h0, if_neg Bool.false_ne_true, if_pos (by omega)])
    | (rename_i h0; unfold fOk; rw [h0, if_neg Bool.false_ne_true, if_neg (by omega), hF2]; (rw [Bool.eq_iff_iff]; simp; omega))
    | (rename_i h0; unfold fOk; rw [h0, if_neg Bool.false_ne_true, if_neg (by omega), hG, hF2]; (rw [Bool.eq_iff_iff]; simp; omega))
    | trace_state
theorem good_rfRight (br : Bool) (L : List UInt8) : GoodP Try.prog gl0 13 [sR std (fun _ => L) br] (.bool (std.tb fun _ => fOk L br)) := by
  refine fn_sound' (T := seatT) (G := gf1) (X := noX) seatT_ok gf1_ok noX_ok noI_ok mixed Try.func13 (.one) (fun A => [sR A (fun _ => L) br]) (fun A => .bool (A.tb fun _ => fOk L br)) fun A hA => ?_
  cbv
  repeat' (first | with_reducible exact True.intro | with_reducible exact dr_ok hA (by kernel_rfl) | with_reducible refine And.intro ?_ ?_ | (intro hc; cbv))
  all_goals (subst hA; simp [-List.getD_eq_getElem?_getD, std_add, std_sub, std_mul, std_quo, std_rem, std_band, std_bor, std_bxor, std_shl, std_shr, std_eq, std_ne, std_lt, std_le, std_conv, std_not, std_beq, std_bne, std_ite, std_want, std_and2, std_sadd, std_seq, std_sne, std_slt, std_sle, std_sgt, std_sge, std_slen, std_sget, std_scut, std_ofNat, std_toNat, std_nsub, std_nadd, std_lenOf, std_nz, std_nneg, std_inb, std_upto, std_slt63, std_grow, std_imp, std_impN, std_tr, std_tb, std_ti, std_ts, std_tn, std_tp, std_nmin, std_makes, std_room, std_zeros, std_nilq, std_notq, std_eqi, std_eqn, std_eqb, std_eqs, std_eqv, std_cat, std_lst, std_rset, std_rcopy, std_shift, std_eqr, std_strOf, std_bytesOf, std_isB, std_zOf, zOf_int, std_isI, isI_int, strOf_lit, lstOf_lit inj_eB, lstOf_lit inj_eZ, lstOf_lit inj_eBs, lstOf_lit inj_eS, isRow_lit, isB_lit, isRow_nil, lstOf_nil inj_eB, lstOf_nil inj_eZ, lstOf_nil inj_eBs, lstOf_nil inj_eS] at *)
  all_goals (have hF := fLen_lt L)
  all_goals (have hF2 : IntKind.i64.wrap (2 + (fLen L : Int)) = 2 + (fLen L : Int) := w64 (by omega))
  all_goals (have hG : IntKind.i64.wrap (IntKind.i64.wrap (256 * IntKind.i64.wrap ((L.getD 0 0).toNat : Int)) + IntKind.i64.wrap ((L.getD 1 0).toNat : Int)) = (fLen L : Int) := flen_sum _ _)
  all_goals first
    | omega
    | (simp only [fOk, hc, if_true]; rw [Bool.eq_iff_iff]; simp; done)
    | (rename_i h0; unfold fOk; rw [h0, if_neg Bool.false_ne_true, if_pos (by omega)])
    | (rename_i h0; unfold fOk; rw [h0, if_neg Bool.false_ne_true, if_neg (by omega), hF2]; (rw [Bool.eq_iff_iff]; simp; omega))
    | (rename_i h0; unfold fOk; rw [h0, if_neg Bool.false_ne_true, if_neg (by omega), hG, hF2]; (rw [Bool.eq_iff_iff]; simp; omega))
    | trace_state
theorem good_rfPut (L : List UInt8) (hL : L.length ≤ 1000000) : GoodP Try.prog gl0 9 [rowS eB 0 1 std fun _ => L] (rowS eB 0 1 std fun _ => fPutL L) := by
  refine fn_sound' (T := seatT) (G := gf1) (X := noX) seatT_ok gf1_ok noX_ok noI_ok mixed Try.func9 (.none) (fun A => [rowS eB 0 1 A fun _ => L]) (fun A => rowS eB 0 1 A fun _ => fPutL L) fun A hA => ?_
  cbv
  repeat' (first | with_reducible exact True.intro | with_reducible exact dr_ok hA (by kernel_rfl) | with_reducible refine And.intro ?_ ?_ | (intro hc; cbv))
  all_goals (subst hA; simp [-List.getD_eq_getElem?_getD, std_add, std_sub, std_mul, std_quo, std_rem, std_band, std_bor, std_bxor, std_shl, std_shr, std_eq, std_ne, std_lt, std_le, std_conv, std_not, std_beq, std_bne, std_ite, std_want, std_and2, std_sadd, std_seq, std_sne, std_slt, std_sle, std_sgt, std_sge, std_slen, std_sget, std_scut, std_ofNat, std_toNat, std_nsub, std_nadd, std_lenOf, std_nz, std_nneg, std_inb, std_upto, std_slt63, std_grow, std_imp, std_impN, std_tr, std_tb, std_ti, std_ts, std_tn, std_tp, std_nmin, std_makes, std_room, std_zeros, std_nilq, std_notq, std_eqi, std_eqn, std_eqb, std_eqs, std_eqv, std_cat, std_lst, std_rset, std_rcopy, std_shift, std_eqr, std_strOf, std_bytesOf, std_isB, std_zOf, zOf_int, std_isI, isI_int, strOf_lit, lstOf_lit inj_eB, lstOf_lit inj_eZ, lstOf_lit inj_eBs, lstOf_lit inj_eS, isRow_lit, isB_lit, isRow_nil, lstOf_nil inj_eB, lstOf_nil inj_eZ, lstOf_nil inj_eBs, lstOf_nil inj_eS] at *)
  all_goals (have p1 : IntKind.u8.wrap (IntKind.i64.wrap ((L.length : Int) / 256)) = ((UInt8.ofNat (L.length / 256)).toNat : Int) := by rw [w64 (by omega), wU8 _ (by omega)]; rfl)
  all_goals (have p2 : IntKind.u8.wrap ((L.length : Int).tmod 256) = ((UInt8.ofNat L.length).toNat : Int) := by rw [Int.tmod_eq_emod_of_nonneg (by omega), wU8 _ (by omega), UInt8.toNat_ofNat', UInt8.toNat_ofNat']; omega)
  all_goals first
    | omega
    | (constructor <;> omega)
    | (simp [fPutL]; omega)
    | exact eqr_of (Reps.catE (Reps.lst (l := [[_], [_]]) (L := [UInt8.ofNat (L.length / 256), UInt8.ofNat L.length]) ⟨cell_eB p1, cell_eB p2, trivial⟩) (Reps.lit L) rfl) (by simp [fPutL]; omega) rfl
    | trace_state
theorem put_row {L : List UInt8} {n m : Nat} {z0 z1 : Int} (hL : L.length ≤ 1000000) (hm : m = L.length) (hn : n = L.length + 2) (h0 : z0 = ((UInt8.ofNat (L.length / 256)).toNat : Int)) (h1 : z1 = ((UInt8.ofNat L.length).toNat : Int)) :
    eqrS n 1 (rcopyS (rsetS (rsetS (fun _ => getAt [SV.int IntKind.u8 0]) 0 0 [SV.int IntKind.u8 z0]) 1 0 [SV.int IntKind.u8 z1]) 2 m (rowF eB 0 std fun _ => L)) (rowF eB 0 std fun _ => fPutL L) := by
  subst hm hn
  have F := Reps.fill (enc := eB) (d := 0) (k := 1) (n := L.length + 2) (g := fun _ => getAt [SV.int IntKind.u8 0]) (x := 0) (cell_eB (by simp)) (fun i => rfl)
  have R := ((F.rset' (i := 0) (by omega) (UInt8.ofNat (L.length / 256)) rfl (cell_eB h0)).rset' (i := 1) (by omega) (UInt8.ofNat L.length) rfl (cell_eB h1)).rcopy (.lit L) 2 (by omega)
  refine (R.congr rfl ?_).eqr
  simp [List.replicate_succ, fPutL]
  omega
theorem min_two (n : Nat) : (((2 + (n : Int)).toNat - 2).min n) = n := by
  have h : (2 + (n : Int)).toNat - 2 = n := by omega
  rw [h]
  exact Nat.min_self _
theorem good_fPut (L : List UInt8) (hL : L.length ≤ 1000000) : GoodP Try.prog gl0 8 [rowS eB 0 1 std fun _ => L] (.tup [rowS eB 0 1 std fun _ => if L.length = 0 then [] else if 2048 < L.length then [] else fPutL L, .int .i64 (std.ti fun _ => if L.length = 0 then 2 else if 2048 < L.length then 4 else 0)]) := by
  refine fn_sound' (T := seatT) (G := gf1) (X := noX) seatT_ok gf1_ok noX_ok noI_ok mixed Try.func8 (.none) (fun A => [rowS eB 0 1 A fun _ => L]) (fun A => .tup [rowS eB 0 1 A fun _ => if L.length = 0 then [] else if 2048 < L.length then [] else fPutL L, .int .i64 (A.ti fun _ => if L.length = 0 then 2 else if 2048 < L.length then 4 else 0)]) fun A hA => ?_
  cbv
  repeat' (first | with_reducible exact True.intro | with_reducible exact dr_ok hA (by kernel_rfl) | with_reducible refine And.intro ?_ ?_ | (intro hc; cbv))
  all_goals (subst hA; simp [-List.getD_eq_getElem?_getD, std_add, std_sub, std_mul, std_quo, std_rem, std_band, std_bor, std_bxor, std_shl, std_shr, std_eq, std_ne, std_lt, std_le, std_conv, std_not, std_beq, std_bne, std_ite, std_want, std_and2, std_sadd, std_seq, std_sne, std_slt, std_sle, std_sgt, std_sge, std_slen, std_sget, std_scut, std_ofNat, std_toNat, std_nsub, std_nadd, std_lenOf, std_nz, std_nneg, std_inb, std_upto, std_slt63, std_grow, std_imp, std_impN, std_tr, std_tb, std_ti, std_ts, std_tn, std_tp, std_nmin, std_makes, std_room, std_zeros, std_nilq, std_notq, std_eqi, std_eqn, std_eqb, std_eqs, std_eqv, std_cat, std_lst, std_rset, std_rcopy, std_shift, std_eqr, std_strOf, std_bytesOf, std_isB, std_zOf, zOf_int, std_isI, isI_int, strOf_lit, lstOf_lit inj_eB, lstOf_lit inj_eZ, lstOf_lit inj_eBs, lstOf_lit inj_eS, isRow_lit, isB_lit, isRow_nil, lstOf_nil inj_eB, lstOf_nil inj_eZ, lstOf_nil inj_eBs, lstOf_nil inj_eS] at *)
  all_goals first
    | exact fun h => absurd hc h
    | (rw [if_pos hc]; rfl)
    | (have h0 : ¬L = [] := by assumption
       have w1 : IntKind.i64.wrap (2 + (L.length : Int)) = 2 + (L.length : Int) := w64 (by omega)
       first
         | (rw [if_neg h0, if_pos (by omega)]; done)
         | (rw [if_neg h0, if_pos (by omega)]; rfl)
         | (rw [if_neg h0, if_neg (by omega)]; done)
         | (rw [w1]; omega)
         | (rw [if_neg h0, if_neg (by omega), w1]; (simp [fPutL]; omega))
         | (rw [if_neg h0, if_neg (by omega), w1]; (exact put_row hL (min_two _) (by simp [fPutL]) (by rw [show (2 : Int) ^ min 8 IntKind.i64.bits = 256 from rfl, Int.fdiv_eq_ediv_of_nonneg _ (by omega), wU8 _ (by omega)]; rfl) (by rw [wU8 _ (by omega)]; rfl)))
         | trace_state)
    | trace_state
theorem good_fSame (br bs : Bool) (L M : List UInt8) : GoodP Try.prog gl0 14 [sR std (fun _ => L) br, sR std (fun _ => M) bs] (.bool (std.tb fun _ => decide (br = bs ∧ L = M))) := by
  refine fn_sound' (T := seatT) (G := gf1) (X := noX) seatT_ok gf1_ok noX_ok noI_ok mixed Try.func14 (.one) (fun A => [sR A (fun _ => L) br, sR A (fun _ => M) bs]) (fun A => .bool (A.tb fun _ => decide (br = bs ∧ L = M))) fun A hA => ?_
  cbv
  repeat' (first | with_reducible exact True.intro | with_reducible exact dr_ok hA (by kernel_rfl) | with_reducible refine And.intro ?_ ?_ | (intro hc; cbv))
  all_goals (subst hA; simp [-List.getD_eq_getElem?_getD, std_add, std_sub, std_mul, std_quo, std_rem, std_band, std_bor, std_bxor, std_shl, std_shr, std_eq, std_ne, std_lt, std_le, std_conv, std_not, std_beq, std_bne, std_ite, std_want, std_and2, std_sadd, std_seq, std_sne, std_slt, std_sle, std_sgt, std_sge, std_slen, std_sget, std_scut, std_ofNat, std_toNat, std_nsub, std_nadd, std_lenOf, std_nz, std_nneg, std_inb, std_upto, std_slt63, std_grow, std_imp, std_impN, std_tr, std_tb, std_ti, std_ts, std_tn, std_tp, std_nmin, std_makes, std_room, std_zeros, std_nilq, std_notq, std_eqi, std_eqn, std_eqb, std_eqs, std_eqv, std_cat, std_lst, std_rset, std_rcopy, std_shift, std_eqr, std_strOf, std_bytesOf, std_isB, std_zOf, zOf_int, std_isI, isI_int, strOf_lit, lstOf_lit inj_eB, lstOf_lit inj_eZ, lstOf_lit inj_eBs, lstOf_lit inj_eS, isRow_lit, isB_lit, isRow_nil, lstOf_nil inj_eB, lstOf_nil inj_eZ, lstOf_nil inj_eBs, lstOf_nil inj_eS] at *)
  rw [Bool.eq_iff_iff]; simp
end Go.Vd
