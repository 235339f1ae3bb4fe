/- The core's laws: what the reference says of deals, entries and events. -/
import Derived.Test.YtcjogfdlpoablaaDoorVdC7
set_option linter.unusedVariables false
set_option linter.unusedSimpArgs false
set_option maxRecDepth 100000
set_option maxHeartbeats 8000000
namespace Go.Vd
open Go.Proofs
theorem good_rRight (n : Int) (s : List UInt8) (hs : s.length ≤ 1000000) : GoodP Tryd.prog gl0 62 [.int .i64 n, .str s] (.bool (std.tb fun _ => rr n s)) := by
  refine fn_sound' (T := seatT) (G := gc8) (X := noX) seatT_ok gc8_ok noX_ok noI_ok mixed Tryd.func62 (.one) (fun A => [.int .i64 n, .str s]) (fun A => .bool (A.tb fun _ => rr n s)) fun A hA => ?_
  cbv
  repeat' (first | with_reducible exact True.intro | with_reducible exact dr_ok hA (by kernel_rfl) | with_reducible refine And.intro ?_ ?_ | (intro hc; cbv))
  all_goals (subst hA; simp [std_add, std_sub, std_mul, std_quo, std_rem, std_band, std_bor, std_bxor, std_shl, std_shr, std_eq, std_ne, std_lt, std_le, std_conv, std_not, std_beq, std_bne, std_ite, std_want, std_and2, std_sadd, std_seq, std_sne, std_slt, std_sle, std_sgt, std_sge, std_slen, std_sget, std_scut, std_ofNat, std_toNat, std_nsub, std_nadd, std_lenOf, std_nz, std_nneg, std_inb, std_upto, std_slt63, std_grow, std_imp, std_impN, std_tr, std_tb, std_ti, std_ts, std_tn, std_tp, std_nmin, std_makes, std_room, std_zeros, std_nilq, std_notq, std_eqi, std_eqn, std_eqb, std_eqs, std_eqv, std_cat, std_lst, std_rset, std_rcopy, std_shift, std_eqr, std_strOf, std_bytesOf, std_isB, std_zOf, zOf_int, std_isI, isI_int, std_getL, std_nmul, std_sOf, sOf_str, std_isS, isS_str] at *)
  all_goals first
    | omega
    | exact hs
    | exact fun h1 h2 h3 => ⟨⟨⟨h1, h2⟩, h3⟩, fun h => ⟨⟨⟨h1, h2⟩, h3⟩, h⟩⟩
    | (rw [rr, if_pos ⟨hc.1.1.1, hc.1.1.2, hc.1.2, hc.2⟩]; done)
    | (rw [rr, if_neg (fun h => by rcases hc with ((hc | hc) | hc) | hc; (rw [hc] at h; exact Bool.noConfusion h.1); (exact h.2.1 hc); (have := h.2.2.1; omega); (have := h.2.2.2 hc.1; omega))]; done)
    | trace_state
noncomputable def c_rRight : Ct := fun A args => match args with
  | [.int .i64 n, .str r] => some (some (A.tp fun _ => r.length ≤ 1000000), .bool (A.tb fun _ => rr n r))
  | _ => none
noncomputable def gd1 : Ar → Pu := addC 62 c_rRight (gc8)
theorem gd1_ok : PuOk Tryd.prog gl0 (gd1 std) := by
  refine addC_ok (gc8_ok) ⟨_, Tryd.func62, rfl, by decide⟩ ?_
  · intro args p r h hp
    unfold c_rRight at h
    split at h <;> cases h
    exact good_rRight _ _ hp
theorem signs2 (s : List UInt8) : signs 2 s = s.all okB := rfl
theorem rr_37 (s : List UInt8) : rr 37 s = (decide (s.length = 12) && s.all okB) := by
  have h : dFind FL 37 = some (2, 12) := rfl
  have e1 : dOk 37 = true := by simp [dOk, h]
  have e2 : dKd 37 = 2 := by simp [dKd, h]
  have e3 : dSz 37 = 12 := by simp [dSz, h]
  unfold rr
  rw [e1, e2, e3, signs2]
  by_cases h : s.length = 12
  · have hne : ¬s = [] := fun e => by rw [e] at h; simp at h
    rw [if_pos ⟨rfl, hne, by omega, fun _ => by omega⟩]
    simp [h]
  · rw [if_neg (fun h' => h (by have := h'.2.2.1; have := h'.2.2.2 (by omega); omega))]
    simp [h]
theorem good_rkRight (s : Int) (r : List UInt8) (hr : r.length ≤ 1000000) : GoodP Tryd.prog gl0 104 [sKey std s r] (.bool (std.tb fun _ => keyOk s r)) := by
  refine fn_sound' (T := seatT) (G := gd1) (X := noX) seatT_ok gd1_ok noX_ok noI_ok mixed Tryd.func104 (.one) (fun A => [sKey A s r]) (fun A => .bool (A.tb fun _ => keyOk s r)) fun A hA => ?_
  cbv
  repeat' (first | with_reducible exact True.intro | with_reducible exact dr_ok hA (by kernel_rfl) | with_reducible refine And.intro ?_ ?_ | (intro hc; cbv))
  all_goals (subst hA; simp [std_add, std_sub, std_mul, std_quo, std_rem, std_band, std_bor, std_bxor, std_shl, std_shr, std_eq, std_ne, std_lt, std_le, std_conv, std_not, std_beq, std_bne, std_ite, std_want, std_and2, std_sadd, std_seq, std_sne, std_slt, std_sle, std_sgt, std_sge, std_slen, std_sget, std_scut, std_ofNat, std_toNat, std_nsub, std_nadd, std_lenOf, std_nz, std_nneg, std_inb, std_upto, std_slt63, std_grow, std_imp, std_impN, std_tr, std_tb, std_ti, std_ts, std_tn, std_tp, std_nmin, std_makes, std_room, std_zeros, std_nilq, std_notq, std_eqi, std_eqn, std_eqb, std_eqs, std_eqv, std_cat, std_lst, std_rset, std_rcopy, std_shift, std_eqr, std_strOf, std_bytesOf, std_isB, std_zOf, zOf_int, std_isI, isI_int, std_getL, std_nmul, std_sOf, sOf_str, std_isS, isS_str] at *)
  all_goals first
    | exact fun h => ⟨h, hr⟩
    | exact hr
    | (rw [rr_37]; unfold keyOk; (first | rfl | (rw [Bool.eq_iff_iff]; simp; done)))
    | trace_state
noncomputable def c_rkRight : Ct := fun A args => match args with
  | [.agg [.int .u32 s, .str r]] => some (some (A.tp fun _ => r.length ≤ 1000000), .bool (A.tb fun _ => keyOk s r))
  | _ => none
theorem good_rAsks (k : Int) : GoodP Tryd.prog gl0 35 [.int .i64 k] (.bool (std.tb fun _ => dAsks k)) := by
  refine fn_sound' (T := seatT) (G := noC) (X := noX) seatT_ok noC_ok noX_ok noI_ok mixed Tryd.func35 (.one) (fun A => [.int .i64 k]) (fun A => .bool (A.tb fun _ => dAsks k)) fun A hA => ?_
  cbv
  repeat' (first | with_reducible exact True.intro | with_reducible exact dr_ok hA (by kernel_rfl) | with_reducible refine And.intro ?_ ?_ | (intro hc; cbv))
  all_goals (subst hA; simp [std_add, std_sub, std_mul, std_quo, std_rem, std_band, std_bor, std_bxor, std_shl, std_shr, std_eq, std_ne, std_lt, std_le, std_conv, std_not, std_beq, std_bne, std_ite, std_want, std_and2, std_sadd, std_seq, std_sne, std_slt, std_sle, std_sgt, std_sge, std_slen, std_sget, std_scut, std_ofNat, std_toNat, std_nsub, std_nadd, std_lenOf, std_nz, std_nneg, std_inb, std_upto, std_slt63, std_grow, std_imp, std_impN, std_tr, std_tb, std_ti, std_ts, std_tn, std_tp, std_nmin, std_makes, std_room, std_zeros, std_nilq, std_notq, std_eqi, std_eqn, std_eqb, std_eqs, std_eqv, std_cat, std_lst, std_rset, std_rcopy, std_shift, std_eqr, std_strOf, std_bytesOf, std_isB, std_zOf, zOf_int, std_isI, isI_int, std_getL, std_nmul, std_sOf, sOf_str, std_isS, isS_str] at *)
  all_goals first
    | (unfold dAsks; rw [Bool.eq_iff_iff]; simp; done)
    | (unfold dAsks; rw [Bool.eq_iff_iff]; simp; omega)
    | trace_state
noncomputable def c_rAsks : Ct := fun A args => match args with
  | [.int .i64 k] => some (none, .bool (A.tb fun _ => dAsks k))
  | _ => none
noncomputable def gd2 : Ar → Pu := addC 104 c_rkRight (addC 35 c_rAsks (gd1))
theorem gd2_ok : PuOk Tryd.prog gl0 (gd2 std) := by
  refine addC_ok (addC_ok (gd1_ok) ⟨_, Tryd.func35, rfl, by decide⟩ ?_) ⟨_, Tryd.func104, rfl, by decide⟩ ?_
  · intro args p r h hp
    unfold c_rAsks at h
    split at h <;> cases h
    exact good_rAsks _
  · intro args p r h hp
    unfold c_rkRight at h
    split at h <;> cases h
    exact good_rkRight _ _ hp
theorem io1 {a b : Prop} : (a → ¬b) → ¬a ∨ ¬b := fun h => by
  by_cases ha : a
  · exact .inr (h ha)
  · exact .inl ha
theorem io2 {a b c d : Prop} : (a → ¬b) → (c → ¬d) → (¬a ∨ ¬b) ∧ (¬c ∨ ¬d) := fun h h' => ⟨io1 h, io1 h'⟩
theorem io3 {a b c d e f : Prop} : (a → ¬b) → (c → ¬d) → (e → ¬f) → ((¬a ∨ ¬b) ∧ (¬c ∨ ¬d)) ∧ (¬e ∨ ¬f) := fun h h' h2 => ⟨⟨io1 h, io1 h'⟩, io1 h2⟩
theorem good_r6Right (k a s : Int) (p r c : List UInt8) (hp : p.length ≤ 100000) (hr : r.length ≤ 1000000) (hcc : c.length ≤ 1000000) : GoodP Tryd.prog gl0 28 [.agg [.int .i64 k, .str p, .int .u64 a, .int .u32 s, .str r, .str c]] (.bool (std.tb fun _ => dR k a s p r c)) := by
  refine fn_sound' (T := seatT) (G := gd2) (X := noX) seatT_ok gd2_ok noX_ok noI_ok mixed Tryd.func28 (.one) (fun A => [.agg [.int .i64 k, .str p, .int .u64 a, .int .u32 s, .str r, .str c]]) (fun A => .bool (A.tb fun _ => dR k a s p r c)) fun A hA => ?_
  cbv
  repeat' (first | with_reducible exact True.intro | with_reducible exact dr_ok hA (by kernel_rfl) | with_reducible refine And.intro ?_ ?_ | (intro hc; cbv))
  all_goals (subst hA; try simp [-List.getD_eq_getElem?_getD, std_add, std_sub, std_mul, std_quo, std_rem, std_band, std_bor, std_bxor, std_shl, std_shr, std_eq, std_ne, std_lt, std_le, std_conv, std_not, std_beq, std_bne, std_ite, std_want, std_and2, std_sadd, std_seq, std_sne, std_slt, std_sle, std_sgt, std_sge, std_slen, std_sget, std_scut, std_ofNat, std_toNat, std_nsub, std_nadd, std_lenOf, std_nz, std_nneg, std_inb, std_upto, std_slt63, std_grow, std_imp, std_impN, std_tr, std_tb, std_ti, std_ts, std_tn, std_tp, std_nmin, std_makes, std_room, std_zeros, std_nilq, std_notq, std_eqi, std_eqn, std_eqb, std_eqs, std_eqv, std_cat, std_lst, std_rset, std_rcopy, std_shift, std_eqr, std_strOf, std_bytesOf, std_isB, std_zOf, zOf_int, std_isI, isI_int, std_getL, std_nmul, std_sOf, sOf_str, std_isS, isS_str] at *)
  all_goals first
    | omega
    | (intro h1 h2 h3; exact ⟨⟨⟨h1, h2⟩, h3⟩, hr⟩)
    | (unfold dR
       rcases hc with (hc | hc) | hc
       · rw [decide_eq_false (p := 1 ≤ k ∧ k ≤ 7) (by omega)]; rfl
       · rw [decide_eq_false (p := s ≤ 999999) (by omega)]; simp
       · rw [hc]; simp)
    | (have hd : dAsks k = true := by assumption
       have h20 : decide ((p.length : Int) < 20) = decide ((p.length : Int) ≤ 19) := by rw [Bool.eq_iff_iff]; simp; omega
       rw [h20]
       unfold dR
       rw [decide_eq_true hc.1.1, decide_eq_true hc.1.2, hc.2, if_pos hd]
       simp only [Bool.true_and, Bool.and_assoc]
       cases c <;> rfl)
    | (have hd : dAsks k = false := by assumption
       unfold dR
       rw [decide_eq_true hc.1.1, decide_eq_true hc.1.2, hc.2, if_neg (by rw [hd]; simp)]
       simp only [Bool.true_and, Bool.and_assoc]
       cases p <;> rfl)
    | trace_state
theorem good_r10Re (s st am tr ca : Int) (r pan code : List UInt8) (hr : r.length ≤ 1000000) (hp : pan.length ≤ 100000) (hcc : code.length ≤ 1000000) : GoodP Tryd.prog gl0 50 [.agg [.int .u32 s, .str r, .int .i64 st, .str pan, .int .u64 am, .str code, .int .i64 tr, .int .i64 ca]] (.bool (std.tb fun _ => eR ⟨s, r, st, pan, am, code, tr, ca⟩)) := by
  refine fn_sound' (T := seatT) (G := gd2) (X := noX) seatT_ok gd2_ok noX_ok noI_ok mixed Tryd.func50 (.one) (fun A => [.agg [.int .u32 s, .str r, .int .i64 st, .str pan, .int .u64 am, .str code, .int .i64 tr, .int .i64 ca]]) (fun A => .bool (A.tb fun _ => eR ⟨s, r, st, pan, am, code, tr, ca⟩)) fun A hA => ?_
  cbv
  repeat' (first | with_reducible exact True.intro | with_reducible exact dr_ok hA (by kernel_rfl) | with_reducible refine And.intro ?_ ?_ | (intro hc; cbv))
  all_goals (subst hA; try simp [-List.getD_eq_getElem?_getD, std_add, std_sub, std_mul, std_quo, std_rem, std_band, std_bor, std_bxor, std_shl, std_shr, std_eq, std_ne, std_lt, std_le, std_conv, std_not, std_beq, std_bne, std_ite, std_want, std_and2, std_sadd, std_seq, std_sne, std_slt, std_sle, std_sgt, std_sge, std_slen, std_sget, std_scut, std_ofNat, std_toNat, std_nsub, std_nadd, std_lenOf, std_nz, std_nneg, std_inb, std_upto, std_slt63, std_grow, std_imp, std_impN, std_tr, std_tb, std_ti, std_ts, std_tn, std_tp, std_nmin, std_makes, std_room, std_zeros, std_nilq, std_notq, std_eqi, std_eqn, std_eqb, std_eqs, std_eqv, std_cat, std_lst, std_rset, std_rcopy, std_shift, std_eqr, std_strOf, std_bytesOf, std_isB, std_zOf, zOf_int, std_isI, isI_int, std_getL, std_nmul, std_sOf, sOf_str, std_isS, isS_str] at *)
  all_goals first
    | exact hr
    | exact io1
    | exact io2
    | exact io3
    | (exact eR_no (by rcases hc with ((hc | hc) | hc) | hc; exact .inl (.inl (.inl hc)); exact .inl (.inr hc); exact .inl (.inl (.inr hc)); exact .inr hc))
    | (have h3 : (st = 1 ∨ st = 2) ∨ st = 3 := by assumption
       have h4 : ¬tr = 0 ∨ ¬ca = 0 := hc
       rw [Bool.eq_false_iff]
       intro h
       have h5 := eSt_cases (eR_P h).2.2
       simp only at h5
       rcases h5 with h5 | h5 | h5 | h5
       · omega
       · omega
       · omega
       · omega)
    | (have h3 : (st = 1 ∨ st = 2) ∨ st = 3 := by assumption
       have hq : ((keyOk s r = true ∧ lFine pan = true) ∧ (pan.length : Int) ≤ 19) ∧ am < 1000000000000 := by assumption
       rw [eR_st (e := ⟨s, r, st, pan, am, code, tr, ca⟩) ⟨⟨⟨hq.1.1.1, hq.1.2⟩, hq.1.1.2⟩, hq.2⟩, hc.1, hc.2]
       rcases h3 with (rfl | rfl) | rfl
       · cases code <;> simp [eSt, unT]
       · rw [Bool.eq_iff_iff]; simp [eSt, unT]
       · rw [Bool.eq_iff_iff]; simp [eSt, unT])
    | (have hq : ((keyOk s r = true ∧ lFine pan = true) ∧ (pan.length : Int) ≤ 19) ∧ am < 1000000000000 := by assumption
       rw [eR_st (e := ⟨s, r, st, pan, am, code, tr, ca⟩) ⟨⟨⟨hq.1.1.1, hq.1.2⟩, hq.1.1.2⟩, hq.2⟩]
       unfold eSt
       rw [if_neg hc.1.1, if_neg hc.1.2, if_neg hc.2]
       by_cases h3 : st = 4 ∨ st = 5 ∨ st = 6
       · rw [if_pos h3, decide_eq_true (p := 3 < st) (by omega), decide_eq_true (p := st < 7) (by omega)]
         cases rr 39 code
         · rfl
         · rw [Bool.eq_iff_iff]
           simp [tuR]
           omega
       · rw [if_neg h3, Bool.eq_false_iff]
         intro h
         simp only [Bool.and_eq_true, decide_eq_true_eq] at h
         have h4 := h.1.1.1.1.1
         omega)
    | ((repeat' (first | assumption | (intro _) | (refine And.intro ?_ ?_))) <;> done)
    | trace_state
noncomputable def c_r6Right : Ct := fun A args => match args with
  | [.agg [.int .i64 k, .str p, .int .u64 a, .int .u32 s, .str r, .str c]] => some (some (A.tp fun _ => p.length ≤ 100000 ∧ r.length ≤ 1000000 ∧ c.length ≤ 1000000), .bool (A.tb fun _ => dR k a s p r c))
  | _ => none
noncomputable def c_r10Re : Ct := fun A args => match args with
  | [.agg [.int .u32 s, .str r, .int .i64 st, .str pan, .int .u64 am, .str code, .int .i64 tr, .int .i64 ca]] => some (some (A.tp fun _ => r.length ≤ 1000000 ∧ pan.length ≤ 100000 ∧ code.length ≤ 1000000), .bool (A.tb fun _ => eR ⟨s, r, st, pan, am, code, tr, ca⟩))
  | _ => none
noncomputable def gd3 : Ar → Pu := addC 28 c_r6Right (addC 50 c_r10Re (gd2))
theorem gd3_ok : PuOk Tryd.prog gl0 (gd3 std) := by
  refine addC_ok (addC_ok (gd2_ok) ⟨_, Tryd.func50, rfl, by decide⟩ ?_) ⟨_, Tryd.func28, rfl, by decide⟩ ?_
  · intro args p r h hp
    unfold c_r10Re at h
    split at h <;> cases h
    exact good_r10Re _ _ _ _ _ _ _ _ hp.1 hp.2.1 hp.2.2
  · intro args p r h hp
    unfold c_r6Right at h
    split at h <;> cases h
    exact good_r6Right _ _ _ _ _ _ hp.1 hp.2.1 hp.2.2
theorem good_r12Key (v k dam ds : Int) (dpan dr dcode : List UInt8) : GoodP Tryd.prog gl0 109 [.agg [.int .i64 v, .int .i64 k, .str dpan, .int .u64 dam, .int .u32 ds, .str dr, .str dcode]] (.agg [.int .u32 ds, .str dr]) := by
  refine fn_sound' (T := seatT) (G := noC) (X := noX) seatT_ok noC_ok noX_ok noI_ok mixed Tryd.func109 (.one) (fun A => [.agg [.int .i64 v, .int .i64 k, .str dpan, .int .u64 dam, .int .u32 ds, .str dr, .str dcode]]) (fun A => .agg [.int .u32 ds, .str dr]) fun A hA => ?_
  cbv
  repeat' (first | with_reducible exact True.intro | with_reducible exact dr_ok hA (by kernel_rfl) | with_reducible refine And.intro ?_ ?_ | (intro hc; cbv))
  all_goals (subst hA; try simp [std_add, std_sub, std_mul, std_quo, std_rem, std_band, std_bor, std_bxor, std_shl, std_shr, std_eq, std_ne, std_lt, std_le, std_conv, std_not, std_beq, std_bne, std_ite, std_want, std_and2, std_sadd, std_seq, std_sne, std_slt, std_sle, std_sgt, std_sge, std_slen, std_sget, std_scut, std_ofNat, std_toNat, std_nsub, std_nadd, std_lenOf, std_nz, std_nneg, std_inb, std_upto, std_slt63, std_grow, std_imp, std_impN, std_tr, std_tb, std_ti, std_ts, std_tn, std_tp, std_nmin, std_makes, std_room, std_zeros, std_nilq, std_notq, std_eqi, std_eqn, std_eqb, std_eqs, std_eqv, std_cat, std_lst, std_rset, std_rcopy, std_shift, std_eqr, std_strOf, std_bytesOf, std_isB, std_zOf, zOf_int, std_isI, isI_int, std_getL, std_nmul, std_sOf, sOf_str, std_isS, isS_str] at *)
noncomputable def c_r12Key : Ct := fun A args => match args with
  | [.agg [.int .i64 v, .int .i64 k, .str dpan, .int .u64 dam, .int .u32 ds, .str dr, .str dcode]] => some (none, .agg [.int .u32 ds, .str dr])
  | _ => none
noncomputable def gd4 : Ar → Pu := addC 109 c_r12Key (gd3)
theorem gd4_ok : PuOk Tryd.prog gl0 (gd4 std) := by
  refine addC_ok (gd3_ok) ⟨_, Tryd.func109, rfl, by decide⟩ ?_
  · intro args p r h hp
    unfold c_r12Key at h
    split at h <;> cases h
    exact good_r12Key _ _ _ _ _ _ _
theorem good_r12Right (v k dam ds : Int) (dpan dr dcode : List UInt8) (hdp : dpan.length ≤ 100000) (hdr : dr.length ≤ 1000000) (hdc : dcode.length ≤ 1000000) : GoodP Tryd.prog gl0 57 [.agg [.int .i64 v, .int .i64 k, .str dpan, .int .u64 dam, .int .u32 ds, .str dr, .str dcode]] (.bool (std.tb fun _ => vR v ⟨k, dpan, dam, ds, dr, dcode⟩)) := by
  refine fn_sound' (T := seatT) (G := gd4) (X := noX) seatT_ok gd4_ok noX_ok noI_ok mixed Tryd.func57 (.one) (fun A => [.agg [.int .i64 v, .int .i64 k, .str dpan, .int .u64 dam, .int .u32 ds, .str dr, .str dcode]]) (fun A => .bool (A.tb fun _ => vR v ⟨k, dpan, dam, ds, dr, dcode⟩)) fun A hA => ?_
  cbv
  repeat' (first | with_reducible exact True.intro | with_reducible exact dr_ok hA (by kernel_rfl) | with_reducible refine And.intro ?_ ?_ | (intro hc; cbv))
  all_goals (subst hA; try simp [-List.getD_eq_getElem?_getD, std_add, std_sub, std_mul, std_quo, std_rem, std_band, std_bor, std_bxor, std_shl, std_shr, std_eq, std_ne, std_lt, std_le, std_conv, std_not, std_beq, std_bne, std_ite, std_want, std_and2, std_sadd, std_seq, std_sne, std_slt, std_sle, std_sgt, std_sge, std_slen, std_sget, std_scut, std_ofNat, std_toNat, std_nsub, std_nadd, std_lenOf, std_nz, std_nneg, std_inb, std_upto, std_slt63, std_grow, std_imp, std_impN, std_tr, std_tb, std_ti, std_ts, std_tn, std_tp, std_nmin, std_makes, std_room, std_zeros, std_nilq, std_notq, std_eqi, std_eqn, std_eqb, std_eqs, std_eqv, std_cat, std_lst, std_rset, std_rcopy, std_shift, std_eqr, std_strOf, std_bytesOf, std_isB, std_zOf, zOf_int, std_isI, isI_int, std_getL, std_nmul, std_sOf, sOf_str, std_isS, isS_str] at *)
  all_goals first
    | exact fun h => ⟨h, hdp, hdr, hdc⟩
    | exact fun h1 h2 h3 h4 => ⟨⟨⟨⟨h1, h2⟩, h3⟩, h4⟩, hdr⟩
    | (rw [Bool.eq_false_iff]; intro h; have := vR_five h; omega)
    | (subst hc; rw [Bool.eq_iff_iff]; simp [vR, evO, evK, dRR, and_assoc]; done)
    | trace_state
end Go.Vd
