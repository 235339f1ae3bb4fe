/- The fields' functions: Read, of the program. -/
import Derived.Test.YtdipfibiajkedaaDoorVdH5
set_option linter.unusedVariables false
set_option linter.unusedSimpArgs false
set_option maxRecDepth 100000
set_option maxHeartbeats 4000000
namespace Go.Vd
open Go.Proofs
def fZ (n : Int) (B : List UInt8) : Nat := if dKd n < 3 then (dSz n).toNat else gVal (B.take (fAh (dKd n)))
def fRd (n : Int) (B : List UInt8) : List UInt8 × Nat × Int :=
  if dOk n = false then ([], 0, 5)
  else if B.length < fAh (dKd n) then ([], 0, 2)
  else if 3 ≤ dKd n ∧ (¬gErr (B.take (fAh (dKd n))) = 0 ∨ gVal (B.take (fAh (dKd n))) = 0) then ([], 0, 3)
  else if dSz n < (fZ n B : Int) then ([], 0, 4)
  else if B.length < fAh (dKd n) + fZ n B then ([], 0, 2)
  else if signs (dKd n) ((B.drop (fAh (dKd n))).take (fZ n B)) = true then ((B.drop (fAh (dKd n))).take (fZ n B), fAh (dKd n) + fZ n B, 0)
  else ([], 0, 3)
theorem rd_no {n : Int} {B : List UInt8} (h : dOk n = false) : fRd n B = ([], 0, 5) := if_pos h
theorem rd_s1 {n : Int} {B : List UInt8} (h : dOk n = true) (h1 : B.length < fAh (dKd n)) : fRd n B = ([], 0, 2) := by
  unfold fRd; rw [if_neg (by rw [h]; simp), if_pos h1]
theorem rd_f1 {n : Int} {B : List UInt8} (h : dOk n = true) (h1 : ¬B.length < fAh (dKd n)) (hk : 3 ≤ dKd n) (h2 : ¬gErr (B.take (fAh (dKd n))) = 0 ∨ gVal (B.take (fAh (dKd n))) = 0) : fRd n B = ([], 0, 3) := by
  unfold fRd; rw [if_neg (by rw [h]; simp), if_neg h1, if_pos ⟨hk, h2⟩]
theorem rd_go {n : Int} {B : List UInt8} (h : dOk n = true) (h1 : ¬B.length < fAh (dKd n)) (h2 : 3 ≤ dKd n → gErr (B.take (fAh (dKd n))) = 0 ∧ ¬gVal (B.take (fAh (dKd n))) = 0) : fRd n B = if dSz n < (fZ n B : Int) then ([], 0, 4)
  else if B.length < fAh (dKd n) + fZ n B then ([], 0, 2)
  else if signs (dKd n) ((B.drop (fAh (dKd n))).take (fZ n B)) = true then ((B.drop (fAh (dKd n))).take (fZ n B), fAh (dKd n) + fZ n B, 0)
  else ([], 0, 3) := by
  unfold fRd
  rw [if_neg (by rw [h]; simp), if_neg h1, if_neg (fun e => by have := h2 e.1; rcases e.2 with e | e; exact e this.1; exact this.2 e)]
theorem cutS (B : List UInt8) {k : Nat} (h : k ≤ B.length) : strOfS k (rowF eB 0 std fun _ => B) = B.take k := strOf_row (Reps.cut B k h)
theorem isB_any (B : List UInt8) (k : Nat) : isBS k (rowF eB 0 std fun _ => B) := fun i _ => ⟨_, rfl⟩
theorem isB_any' (B : List UInt8) (k a : Nat) : isBS k (fun i => rowF eB 0 std (fun _ => B) (a + i)) := fun i _ => ⟨_, rfl⟩
theorem cutS' (B : List UInt8) {a z : Nat} (h : a + z ≤ B.length) : strOfS z (fun i => rowF eB 0 std (fun _ => B) (a + i)) = (B.drop a).take z :=
  strOf_row (((Reps.lit (enc := eB) (d := 0) (k := 1) B).shift' a (by omega)).take z (by omega))
theorem gErr_03 {L : List UInt8} (h : ¬L = []) (h1 : L.length ≤ 19) : gErr L = 0 ∨ gErr L = 3 := by
  unfold gErr; rw [if_neg h, if_neg (by omega)]; split
  · exact .inl rfl
  · exact .inr rfl
def lnE (d : Nat) (z : Int) (B : List UInt8) : Int := if B.length < d then 2 else if ¬gErr (B.take d) = 0 then gErr (B.take d) else if gVal (B.take d) = 0 then 3 else if z < (gVal (B.take d) : Int) then 4 else 0
def lnV (d : Nat) (z : Int) (B : List UInt8) : Nat := if lnE d z B = 0 then gVal (B.take d) else 0
theorem ln_1 {d : Nat} {z : Int} {B : List UInt8} (h : B.length < d) : lnE d z B = 2 ∧ lnV d z B = 0 := by
  have e : lnE d z B = 2 := if_pos h
  exact ⟨e, by unfold lnV; rw [e]; rfl⟩
theorem ln_2 {d : Nat} {z : Int} {B : List UInt8} (h : ¬B.length < d) (h1 : ¬gErr (B.take d) = 0) : lnE d z B = gErr (B.take d) ∧ lnV d z B = 0 := by
  have e : lnE d z B = gErr (B.take d) := by unfold lnE; rw [if_neg h, if_pos h1]
  exact ⟨e, by unfold lnV; rw [e, if_neg h1]⟩
theorem ln_3 {d : Nat} {z : Int} {B : List UInt8} (h : ¬B.length < d) (h1 : gErr (B.take d) = 0) (h2 : gVal (B.take d) = 0) : lnE d z B = 3 ∧ lnV d z B = 0 := by
  have e : lnE d z B = 3 := by unfold lnE; rw [if_neg h, if_neg (fun e => e h1), if_pos h2]
  exact ⟨e, by unfold lnV; rw [e]; rfl⟩
theorem ln_4 {d : Nat} {z : Int} {B : List UInt8} (h : ¬B.length < d) (h1 : gErr (B.take d) = 0) (h2 : ¬gVal (B.take d) = 0) (h3 : z < (gVal (B.take d) : Int)) : lnE d z B = 4 ∧ lnV d z B = 0 := by
  have e : lnE d z B = 4 := by unfold lnE; rw [if_neg h, if_neg (fun e => e h1), if_neg h2, if_pos h3]
  exact ⟨e, by unfold lnV; rw [e]; rfl⟩
theorem ln_5 {d : Nat} {z : Int} {B : List UInt8} (h : ¬B.length < d) (h1 : gErr (B.take d) = 0) (h2 : ¬gVal (B.take d) = 0) (h3 : ¬z < (gVal (B.take d) : Int)) : lnE d z B = 0 ∧ lnV d z B = gVal (B.take d) := by
  have e : lnE d z B = 0 := by unfold lnE; rw [if_neg h, if_neg (fun e => e h1), if_neg h2, if_neg h3]
  exact ⟨e, by unfold lnV; rw [e]; rfl⟩
theorem wz {z : Int} (hz : 1 ≤ z ∧ z ≤ 999) : IntKind.u64.wrap z = z := wU64' (by omega)
theorem wv {z : Int} (hz : 1 ≤ z ∧ z ≤ 999) {v : Nat} (h : (v : Int) ≤ z) : IntKind.i64.wrap (v : Int) = (v : Int) := w64 (by omega)
theorem good_fxD (z : Int) (L : List UInt8) (hL : L.length ≤ 1000000) : GoodP Tryd.prog gl0 107 [.agg [.int .i64 z, .clo 17 []], .str L] (.bool (std.tb fun _ => decide ((L.length : Int) = z) && isD L)) := by
  refine fn_sound' (T := seatT) (G := gh4) (X := noX) seatT_ok gh4_ok noX_ok noI_ok mixed Tryd.func107 (.one) (fun A => [.agg [.int .i64 z, .clo 17 []], .str L]) (fun A => .bool (A.tb fun _ => decide ((L.length : Int) = z) && isD L)) fun A hA => ?_
  cbv
  repeat' (first | with_reducible exact True.intro | with_reducible exact dr_ok hA (by kernel_rfl) | with_reducible refine And.intro ?_ ?_ | (intro hc; cbv))
  all_goals (subst hA; simp [std_add, std_sub, std_mul, std_quo, std_rem, std_band, std_bor, std_bxor, std_shl, std_shr, std_eq, std_ne, std_lt, std_le, std_conv, std_not, std_beq, std_bne, std_ite, std_want, std_and2, std_sadd, std_seq, std_sne, std_slt, std_sle, std_sgt, std_sge, std_slen, std_sget, std_scut, std_ofNat, std_toNat, std_nsub, std_nadd, std_lenOf, std_nz, std_nneg, std_inb, std_upto, std_slt63, std_grow, std_imp, std_impN, std_tr, std_tb, std_ti, std_ts, std_tn, std_tp, std_nmin, std_makes, std_room, std_zeros, std_nilq, std_notq, std_eqi, std_eqn, std_eqb, std_eqs, std_eqv, std_cat, std_lst, std_rset, std_rcopy, std_shift, std_eqr, std_strOf, std_bytesOf, std_isB, std_zOf, zOf_int, std_isI, isI_int, std_getL, std_nmul, std_sOf, sOf_str, std_isS, isS_str] at *)
  all_goals first
    | assumption
    | omega
    | (simp [*]; done)
    | (intro h; exact ⟨h, hL⟩)
    | trace_state
theorem good_fxT (z : Int) (L : List UInt8) (hL : L.length ≤ 1000000) : GoodP Tryd.prog gl0 107 [.agg [.int .i64 z, .clo 61 []], .str L] (.bool (std.tb fun _ => decide ((L.length : Int) = z) && isT L)) := by
  refine fn_sound' (T := seatT) (G := gh4) (X := noX) seatT_ok gh4_ok noX_ok noI_ok mixed Tryd.func107 (.one) (fun A => [.agg [.int .i64 z, .clo 61 []], .str L]) (fun A => .bool (A.tb fun _ => decide ((L.length : Int) = z) && isT L)) fun A hA => ?_
  cbv
  repeat' (first | with_reducible exact True.intro | with_reducible exact dr_ok hA (by kernel_rfl) | with_reducible refine And.intro ?_ ?_ | (intro hc; cbv))
  all_goals (subst hA; simp [std_add, std_sub, std_mul, std_quo, std_rem, std_band, std_bor, std_bxor, std_shl, std_shr, std_eq, std_ne, std_lt, std_le, std_conv, std_not, std_beq, std_bne, std_ite, std_want, std_and2, std_sadd, std_seq, std_sne, std_slt, std_sle, std_sgt, std_sge, std_slen, std_sget, std_scut, std_ofNat, std_toNat, std_nsub, std_nadd, std_lenOf, std_nz, std_nneg, std_inb, std_upto, std_slt63, std_grow, std_imp, std_impN, std_tr, std_tb, std_ti, std_ts, std_tn, std_tp, std_nmin, std_makes, std_room, std_zeros, std_nilq, std_notq, std_eqi, std_eqn, std_eqb, std_eqs, std_eqv, std_cat, std_lst, std_rset, std_rcopy, std_shift, std_eqr, std_strOf, std_bytesOf, std_isB, std_zOf, zOf_int, std_isI, isI_int, std_getL, std_nmul, std_sOf, sOf_str, std_isS, isS_str] at *)
  all_goals first
    | assumption
    | omega
    | (simp [*]; done)
    | (intro h; exact ⟨h, hL⟩)
    | trace_state
theorem good_lgD (z d : Int) (L : List UInt8) (hL : L.length ≤ 1000000) : GoodP Tryd.prog gl0 109 [.agg [.int .i64 z, .int .i64 d, .clo 17 []], .str L] (.bool (std.tb fun _ => (decide (1 ≤ (L.length : Int)) && decide ((L.length : Int) ≤ z)) && isD L)) := by
  refine fn_sound' (T := seatT) (G := gh4) (X := noX) seatT_ok gh4_ok noX_ok noI_ok mixed Tryd.func109 (.one) (fun A => [.agg [.int .i64 z, .int .i64 d, .clo 17 []], .str L]) (fun A => .bool (A.tb fun _ => (decide (1 ≤ (L.length : Int)) && decide ((L.length : Int) ≤ z)) && isD L)) fun A hA => ?_
  cbv
  repeat' (first | with_reducible exact True.intro | with_reducible exact dr_ok hA (by kernel_rfl) | with_reducible refine And.intro ?_ ?_ | (intro hc; cbv))
  all_goals (subst hA; simp [std_add, std_sub, std_mul, std_quo, std_rem, std_band, std_bor, std_bxor, std_shl, std_shr, std_eq, std_ne, std_lt, std_le, std_conv, std_not, std_beq, std_bne, std_ite, std_want, std_and2, std_sadd, std_seq, std_sne, std_slt, std_sle, std_sgt, std_sge, std_slen, std_sget, std_scut, std_ofNat, std_toNat, std_nsub, std_nadd, std_lenOf, std_nz, std_nneg, std_inb, std_upto, std_slt63, std_grow, std_imp, std_impN, std_tr, std_tb, std_ti, std_ts, std_tn, std_tp, std_nmin, std_makes, std_room, std_zeros, std_nilq, std_notq, std_eqi, std_eqn, std_eqb, std_eqs, std_eqv, std_cat, std_lst, std_rset, std_rcopy, std_shift, std_eqr, std_strOf, std_bytesOf, std_isB, std_zOf, zOf_int, std_isI, isI_int, std_getL, std_nmul, std_sOf, sOf_str, std_isS, isS_str] at *)
  all_goals first
    | assumption
    | omega
    | (simp [*]; done)
    | (intros; first | exact hL | (constructor <;> first | assumption | omega))
    | (intro h1 h2; exact absurd (hc h1) (Int.not_lt.2 h2))
    | trace_state
theorem good_lgT (z d : Int) (L : List UInt8) (hL : L.length ≤ 1000000) : GoodP Tryd.prog gl0 109 [.agg [.int .i64 z, .int .i64 d, .clo 61 []], .str L] (.bool (std.tb fun _ => (decide (1 ≤ (L.length : Int)) && decide ((L.length : Int) ≤ z)) && isT L)) := by
  refine fn_sound' (T := seatT) (G := gh4) (X := noX) seatT_ok gh4_ok noX_ok noI_ok mixed Tryd.func109 (.one) (fun A => [.agg [.int .i64 z, .int .i64 d, .clo 61 []], .str L]) (fun A => .bool (A.tb fun _ => (decide (1 ≤ (L.length : Int)) && decide ((L.length : Int) ≤ z)) && isT L)) fun A hA => ?_
  cbv
  repeat' (first | with_reducible exact True.intro | with_reducible exact dr_ok hA (by kernel_rfl) | with_reducible refine And.intro ?_ ?_ | (intro hc; cbv))
  all_goals (subst hA; simp [std_add, std_sub, std_mul, std_quo, std_rem, std_band, std_bor, std_bxor, std_shl, std_shr, std_eq, std_ne, std_lt, std_le, std_conv, std_not, std_beq, std_bne, std_ite, std_want, std_and2, std_sadd, std_seq, std_sne, std_slt, std_sle, std_sgt, std_sge, std_slen, std_sget, std_scut, std_ofNat, std_toNat, std_nsub, std_nadd, std_lenOf, std_nz, std_nneg, std_inb, std_upto, std_slt63, std_grow, std_imp, std_impN, std_tr, std_tb, std_ti, std_ts, std_tn, std_tp, std_nmin, std_makes, std_room, std_zeros, std_nilq, std_notq, std_eqi, std_eqn, std_eqb, std_eqs, std_eqv, std_cat, std_lst, std_rset, std_rcopy, std_shift, std_eqr, std_strOf, std_bytesOf, std_isB, std_zOf, zOf_int, std_isI, isI_int, std_getL, std_nmul, std_sOf, sOf_str, std_isS, isS_str] at *)
  all_goals first
    | assumption
    | omega
    | (simp [*]; done)
    | (intros; first | exact hL | (constructor <;> first | assumption | omega))
    | (intro h1 h2; exact absurd (hc h1) (Int.not_lt.2 h2))
    | trace_state
theorem good_lenF (a b z z' : Int) (c : Nat) (B : List UInt8) (hB : B.length ≤ 1000000) : GoodP Tryd.prog gl0 45 [.agg [.int .i64 a, .int .i64 b, .int .i64 z], .ifc 100 (.agg [.int .i64 z', .clo c []]), rowS eB 0 1 std fun _ => B] (.tup [.int .i64 z, .int .i64 0]) := by
  refine fn_sound' (T := seatT) (G := gh4) (X := xF) seatT_ok gh4_ok xF_ok iF_ok mixed Tryd.func45 (.one) (fun A => [.agg [.int .i64 a, .int .i64 b, .int .i64 z], .ifc 100 (.agg [.int .i64 z', .clo c []]), rowS eB 0 1 A fun _ => B]) (fun A => .tup [.int .i64 z, .int .i64 0]) fun A hA => ?_
  cbv
  repeat' (first | with_reducible exact True.intro | with_reducible exact dr_ok hA (by kernel_rfl) | with_reducible refine And.intro ?_ ?_ | (intro hc; cbv))
  all_goals (subst hA; simp [std_add, std_sub, std_mul, std_quo, std_rem, std_band, std_bor, std_bxor, std_shl, std_shr, std_eq, std_ne, std_lt, std_le, std_conv, std_not, std_beq, std_bne, std_ite, std_want, std_and2, std_sadd, std_seq, std_sne, std_slt, std_sle, std_sgt, std_sge, std_slen, std_sget, std_scut, std_ofNat, std_toNat, std_nsub, std_nadd, std_lenOf, std_nz, std_nneg, std_inb, std_upto, std_slt63, std_grow, std_imp, std_impN, std_tr, std_tb, std_ti, std_ts, std_tn, std_tp, std_nmin, std_makes, std_room, std_zeros, std_nilq, std_notq, std_eqi, std_eqn, std_eqb, std_eqs, std_eqv, std_cat, std_lst, std_rset, std_rcopy, std_shift, std_eqr, std_strOf, std_bytesOf, std_isB, std_zOf, zOf_int, std_isI, isI_int, std_getL, std_nmul, std_sOf, sOf_str, std_isS, isS_str] at *)
theorem good_lenL (a b z z' : Int) (d c : Nat) (B : List UInt8) (hd : d = 2 ∨ d = 3) (hz : 1 ≤ z ∧ z ≤ 999) (hB : B.length ≤ 1000000) : GoodP Tryd.prog gl0 45 [.agg [.int .i64 a, .int .i64 b, .int .i64 z], .ifc 102 (.agg [.int .i64 z', .int .i64 (d : Nat), .clo c []]), rowS eB 0 1 std fun _ => B] (.tup [.int .i64 (std.ti fun _ => (lnV d z B : Int)), .int .i64 (std.ti fun _ => lnE d z B)]) := by
  refine fn_sound' (T := seatT) (G := gh4) (X := xF) seatT_ok gh4_ok xF_ok iF_ok mixed Tryd.func45 (.one) (fun A => [.agg [.int .i64 a, .int .i64 b, .int .i64 z], .ifc 102 (.agg [.int .i64 z', .int .i64 (d : Nat), .clo c []]), rowS eB 0 1 A fun _ => B]) (fun A => .tup [.int .i64 (A.ti fun _ => (lnV d z B : Int)), .int .i64 (A.ti fun _ => lnE d z B)]) fun A hA => ?_
  cbv
  repeat' (first | with_reducible exact True.intro | with_reducible exact dr_ok hA (by kernel_rfl) | with_reducible refine And.intro ?_ ?_ | (intro hc; cbv))
  all_goals (subst hA; simp [-List.getD_eq_getElem?_getD, std_add, std_sub, std_mul, std_quo, std_rem, std_band, std_bor, std_bxor, std_shl, std_shr, std_eq, std_ne, std_lt, std_le, std_conv, std_not, std_beq, std_bne, std_ite, std_want, std_and2, std_sadd, std_seq, std_sne, std_slt, std_sle, std_sgt, std_sge, std_slen, std_sget, std_scut, std_ofNat, std_toNat, std_nsub, std_nadd, std_lenOf, std_nz, std_nneg, std_inb, std_upto, std_slt63, std_grow, std_imp, std_impN, std_tr, std_tb, std_ti, std_ts, std_tn, std_tp, std_nmin, std_makes, std_room, std_zeros, std_nilq, std_notq, std_eqi, std_eqn, std_eqb, std_eqs, std_eqv, std_cat, std_lst, std_rset, std_rcopy, std_shift, std_eqr, std_strOf, std_bytesOf, std_isB, std_zOf, zOf_int, std_isI, isI_int, std_getL, std_nmul, std_sOf, sOf_str, std_isS, isS_str, strOf_lit, lstOf_lit inj_eB, lstOf_lit inj_eZ, lstOf_lit inj_eBs, lstOf_lit inj_eS, isB_any, isB_any', wz hz] at *)
  all_goals first
    | omega
    | (exfalso; omega)
    | exact (ln_1 hc).1.symm
    | (rw [(ln_1 hc).2]; rfl)
    | (have hB2 : d ≤ B.length := by omega
       simp only [cutS B hB2] at *
       have hn : ¬B.length < d := by omega
       first
         | exact (ln_2 hn (by assumption)).1.symm
         | (rw [(ln_2 hn (by assumption)).2]; rfl)
         | exact (ln_3 hn (by assumption) (by assumption)).1.symm
         | (rw [(ln_3 hn (by assumption) (by assumption)).2]; rfl)
         | exact (ln_4 hn (by assumption) (by assumption) (by assumption)).1.symm
         | (rw [(ln_4 hn (by assumption) (by assumption) (by assumption)).2]; rfl)
         | exact (ln_5 hn (by assumption) (by assumption) (Int.not_lt.2 hc)).1.symm
         | (rw [(ln_5 hn (by assumption) (by assumption) (Int.not_lt.2 hc)).2]; exact wv hz hc))
    | trace_state
end Go.Vd
