/- The core's laws: what the reference says of deals, entries and events. -/
import Derived.Test.YtcjogfdlpoablaaDoorVdC7
set_option linter.unusedVariables false
set_option linter.unusedSimpArgs false
set_option maxRecDepth 100000
set_option maxHeartbeats 8000000
namespace Go.Vd
open Go.Proofs
theorem good_rRight (n : Int) (s : List UInt8) (hs : s.length ≤ 1000000) : GoodP Tryd.prog gl0 62 [.int .i64 n, .str s] (.bool (std.tb fun _ => rr n s)) := by
  refine fn_sound' (T := seatT) (G := gc8) (X := noX) seatT_ok gc8_ok noX_ok noI_ok mixed Tryd.func62 (.one) (fun A => [.int .i64 n, .str s]) (fun A => .bool (A.tb fun _ => rr n s)) fun A hA => ?_
  cbv
  repeat' (first | with_reducible exact True.intro | with_reducible exact dr_ok hA (by kernel_rfl) | with_reducible refine And.intro ?_ ?_ | (intro hc; cbv))
  all_goals (subst hA; simp [std_add, std_sub, std_mul, std_quo, std_rem, std_band, std_bor, std_bxor, std_shl, std_shr, std_eq, std_ne, std_lt, std_le, std_conv, std_not, std_beq, std_bne, std_ite, std_want, std_and2, std_sadd, std_seq, std_sne, std_slt, std_sle, std_sgt, std_sge, std_slen, std_sget, std_scut, std_ofNat, std_toNat, std_nsub, std_nadd, std_lenOf, std_nz, std_nneg, std_inb, std_upto, std_slt63, std_grow, std_imp, std_impN, std_tr, std_tb, std_ti, std_ts, std_tn, std_tp, std_nmin, std_makes, std_room, std_zeros, std_nilq, std_notq, std_eqi, std_eqn, std_eqb, std_eqs, std_eqv, std_cat, std_lst, std_rset, std_rcopy, std_shift, std_eqr, std_strOf, std_bytesOf, std_isB, std_zOf, zOf_int, std_isI, isI_int, std_getL, std_nmul, std_sOf, sOf_str, std_isS, isS_str] at *)
  all_goals first
    | omega
    | exact hs
    | exact fun h1 h2 h3 => ⟨⟨⟨h1, h2⟩, h3⟩, fun h => ⟨⟨⟨h1, h2⟩, h3⟩, h⟩⟩
    | (rw [rr, if_pos ⟨hc.1.1.1, hc.1.1.2, hc.1.2, hc.2⟩]; done)
    | (rw [rr, if_neg (fun h => by rcases hc with ((hc | hc) | hc) | hc; (rw [hc] at h; exact Bool.noConfusion h.1); (exact h.2.1 hc); (have := h.2.2.1; omega); (have := h.2.2.2 hc.1; omega))]; done)
    | trace_state
noncomputable def c_rRight : Ct := fun A args => match args with
  | [.int .i64 n, .str r] => some (some (A.tp fun _ => r.length ≤ 1000000), .bool (A.tb fun _ => rr n r))
  | _ => none
noncomputable def gd1 : Ar → Pu := addC 62 c_rRight (gc8)
theorem gd1_ok : PuOk Tryd.prog gl0 (gd1 std) := by
  refine addC_ok (gc8_ok) ⟨_, Tryd.func62, rfl, by decide⟩ ?_
  · intro args p r h hp
    unfold c_rRight at h
    split at h <;> cases h
    exact good_rRight _ _ hp
theorem signs2 (s : List UInt8) : signs 2 s = s.all okB := rfl
theorem rr_37 (s : List UInt8) : rr 37 s = (decide (s.length = 12) && s.all okB) := by
  have h : dFind FL 37 = some (2, 12) := rfl
  have e1 : dOk 37 = true := by simp [dOk, h]
  have e2 : dKd 37 = 2 := by simp [dKd, h]
  have e3 : dSz 37 = 12 := by simp [dSz, h]
  unfold rr
  rw [e1, e2, e3, signs2]
  by_cases h : s.length = 12
  · have hne : ¬s = [] := fun e => by rw [e] at h; simp at h
    rw [if_pos ⟨rfl, hne, by omega, fun _ => by omega⟩]
    simp [h]
  · rw [if_neg (fun h' => h (by have := h'.2.2.1; have := h'.2.2.2 (by omega); omega))]
    simp [h]
theorem good_rkRight (s : Int) (r : List UInt8) (hr : r.length ≤ 1000000) : GoodP Tryd.prog gl0 104 [sKey std s r] (.bool (std.tb fun _ => keyOk s r)) := by
  refine fn_sound' (T := seatT) (G := gd1) (X := noX) seatT_ok gd1_ok noX_ok noI_ok mixed Tryd.func104 (.one) (fun A => [sKey A s r]) (fun A => .bool (A.tb fun _ => keyOk s r)) fun A hA => ?_
  cbv
  repeat' (first | with_reducible exact True.intro | with_reducible exact dr_ok hA (by kernel_rfl) | with_reducible refine And.intro ?_ ?_ | (intro hc; cbv))
  all_goals (subst hA; simp [std_add, std_sub, std_mul, std_quo, std_rem, std_band, std_bor, std_bxor, std_shl, std_shr, std_eq, std_ne, std_lt, std_le, std_conv, std_not, std_beq, std_bne, std_ite, std_want, std_and2, std_sadd, std_seq, std_sne, std_slt, std_sle, std_sgt, std_sge, std_slen, std_sget, std_scut, std_ofNat, std_toNat, std_nsub, std_nadd, std_lenOf, std_nz, std_nneg, std_inb, std_upto, std_slt63, std_grow, std_imp, std_impN, std_tr, std_tb, std_ti, std_ts, std_tn, std_tp, std_nmin, std_makes, std_room, std_zeros, std_nilq, std_notq, std_eqi, std_eqn, std_eqb, std_eqs, std_eqv, std_cat, std_lst, std_rset, std_rcopy, std_shift, std_eqr, std_strOf, std_bytesOf, std_isB, std_zOf, zOf_int, std_isI, isI_int, std_getL, std_nmul, std_sOf, sOf_str, std_isS, isS_str] at *)
  all_goals first
    | exact fun h => ⟨h, hr⟩
    | exact hr
    | (rw [rr_37]; unfold keyOk; (first | rfl | (rw [Bool.eq_iff_iff]; simp; done)))
    | trace_state
noncomputable def c_rkRight : Ct := fun A args => match args with
  | [.agg [.int .u32 s, .str r]] => some (some (A.tp fun _ => r.length ≤ 1000000), .bool (A.tb fun _ => keyOk s r))
  | _ => none
theorem good_rAsks (k : Int) : GoodP Tryd.prog gl0 35 [.int .i64 k] (.bool (std.tb fun _ => dAsks k)) := by
  refine fn_sound' (T := seatT) (G := noC) (X := noX) seatT_ok noC_ok noX_ok noI_ok mixed Tryd.func35 (.one) (fun A => [.int .i64 k]) (fun A => .bool (A.tb fun _ => dAsks k)) fun A hA => ?_
  cbv
  repeat' (first | with_reducible exact True.intro | with_reducible exact dr_ok hA (by kernel_rfl) | with_reducible refine And.intro ?_ ?_ | (intro hc; cbv))
  all_goals (subst hA; simp [std_add, std_sub, std_mul, std_quo, std_rem, std_band, std_bor, std_bxor, std_shl, std_shr, std_eq, std_ne, std_lt, std_le, std_conv, std_not, std_beq, std_bne, std_ite, std_want, std_and2, std_sadd, std_seq, std_sne, std_slt, std_sle, std_sgt, std_sge, std_slen, std_sget, std_scut, std_ofNat, std_toNat, std_nsub, std_nadd, std_lenOf, std_nz, std_nneg, std_inb, std_upto, std_slt63, std_grow, std_imp, std_impN, std_tr, std_tb, std_ti, std_ts, std_tn, std_tp, std_nmin, std_makes, std_room, std_zeros, std_nilq, std_notq, std_eqi, std_eqn, std_eqb, std_eqs, std_eqv, std_cat, std_lst, std_rset, std_rcopy, std_shift, std_eqr, std_strOf, std_bytesOf, std_isB, std_zOf, zOf_int, std_isI, isI_int, std_getL, std_nmul, std_sOf, sOf_str, std_isS, isS_str] at *)
  all_goals first
    | (unfold dAsks; rw [Bool.eq_iff_iff]; simp; done)
    | (unfold dAsks; rw [Bool.eq_iff_iff]; simp; omega)
    | trace_state
noncomputable def c_rAsks : Ct := fun A args => match args with
  | [.int .i64 k] => some (none, .bool (A.tb fun _ => dAsks k))
  | _ => none
noncomputable def gd2 : Ar → Pu := addC 104 c_rkRight (addC 35 c_rAsks (gd1))
theorem gd2_ok : PuOk Tryd.prog gl0 (gd2 std) := by
  refine addC_ok (addC_ok (gd1_ok) ⟨_, Tryd.func35, rfl, by decide⟩ ?_) ⟨_, Tryd.func104, rfl, by decide⟩ ?_
  · intro args p r h hp
    unfold c_rAsks at h
    split at h <;> cases h
    exact good_rAsks _
  · intro args p r h hp
    unfold c_rkRight at h
    split at h <;> cases h
    exact good_rkRight _ _ hp
theorem io1 {a b : Prop} : (a → ¬b) → ¬a ∨ ¬b := fun h => by
  by_cases ha : a
  · exact .inr (h ha)
  · exact .inl ha
theorem io2 {a b c d : Prop} : (a → ¬b) → (c → ¬d) → (¬a ∨ ¬b) ∧ (¬c ∨ ¬d) := fun h h' => ⟨io1 h, io1 h'⟩
theorem io3 {a b c d e f : Prop} : (a → ¬b) → (c → ¬d) → (e → ¬f) → ((¬a ∨ ¬b) ∧ (¬c ∨ ¬d)) ∧ (¬e ∨ ¬f) := fun h h' h2 => ⟨⟨io1 h, io1 h'⟩, io1 h2⟩
theorem good_r6Right (k a s : Int) (p r c : List UInt8) (hp : p.length ≤ 100000) (hr : r.length ≤ 1000000) (hcc : c.length ≤ 1000000) : GoodP Tryd.prog gl0 28 [.agg [.int .i64 k, .str p, .int .u64 a, .int .u32 s, .str r, .str c]] (.bool (std.tb fun _ => dR k a s p r c)) := by
  refine fn_sound' (T := seatT) (G := gd2) (X := noX) seatT_ok gd2_ok noX_ok noI_ok mixed Tryd.func28 (.one) (fun A => [.agg [.int .i64 k, .str p, .int .u64 a, .int .u32 s, .str r, .str c]]) (fun A => .bool (A.tb fun _ => dR k a s p r c)) fun A hA => ?_
  cbv
  repeat' (first | with_reducible exact True.intro | with_reducible exact dr_ok hA (by kernel_rfl) | with_reducible refine And.intro ?_ ?_ | (intro hc; cbv))
  all_goals (subst hA; try simp [-List.getD_eq_getElem?_getD, std_add, std_sub, std_mul, std_quo, std_rem, std_band, std_bor, std_bxor, std_shl, std_shr, std_eq, std_ne, std_lt, std_le, std_conv, std_not, std_beq, std_bne, std_ite, std_want, std_and2, std_sadd, std_seq, std_sne, std_slt, std_sle, std_sgt, std_sge, std_slen, std_sget, std_scut, std_ofNat, std_toNat, std_nsub, std_nadd, std_lenOf, std_nz, std_nneg, std_inb, std_upto, std_slt63, std_grow, std_imp, std_impN, std_tr, std_tb, std_ti, std_ts, std_tn, std_tp, std_nmin, std_makes, std_room, std_zeros, std_nilq, std_notq, std_eqi, std_eqn, std_eqb, std_eqs, std_eqv, std_cat, std_lst, std_rset, std_rcopy, std_shift, std_eqr, std_strOf, std_bytesOf, std_isB, std_zOf, zOf_int, std_isI, isI_int, std_getL, std_nmul, std_sOf, sOf_str, std_isS, isS_str] at *)
  all_goals first
    | omega
    | (intro h1 h2 h3; exact ⟨⟨⟨h1, h2⟩, h3⟩, hr⟩)
    | (unfold dR
       rcases hc with (hc | hc) | hc
       · rw [decide_eq_false (p := 1 ≤ k ∧ k ≤ 7) (by omega)]; rfl
       · rw [decide_eq_false (p := s ≤ 999999) (by omega)]; simp
       · rw [hc]; simp)
    | (have hd : dAsks k = true := by assumption
       have h20 : decide ((p.length : Int) < 20) = decide ((p.length : Int) ≤ 19) := by rw [Bool.eq_iff_iff]; simp; omega
       rw [h20]
       unfold dR
       rw [decide_eq_true hc.1.1, decide_eq_true hc.1.2, hc.2, if_pos hd]
       simp only [Bool.true_and, Bool.and_assoc]
       cases c <;> rfl)
    | (have hd : dAsks k = false := by assumption
       unfold dR
       rw [decide_eq_true hc.1.1, decide_eq_true hc.1.2, hc.2, if_neg (by rw [hd]; simp)]
       simp only [Bool.true_and, Bool.and_assoc]
       cases p <;> rfl)
    | trace_state
theorem good_r10Re (s st am tr ca : Int) (r pan code : List UInt8) (hr : r.length ≤ 1000000) (hp : pan.length ≤ 100000) (hcc : code.length ≤ 1000000) : GoodP Tryd.prog gl0 50 [.agg [.int .u32 s, .str r, .int .i64 st, .str pan, .int .u64 am, .str code, .int .i64 tr, .int .i64 ca]] (.bool (std.tb fun _ => eR ⟨s, r, st, pan, am, code, tr, ca⟩)) := by
  refine fn_sound' (T := seatT) (G := gd2) (X := noX) seatT_ok gd2_ok noX_ok noI_ok mixed Tryd.func50 (.one) (fun A => [.agg [.int .u32 s, .str r, .int .i64 st, .str pan, .int .u64 am, .str code, .int .i64 tr, .int .i64 ca]]) (fun A => .bool (A.tb fun _ => eR ⟨s, r, st, pan, am, code, tr, ca⟩)) fun A hA => ?_
  cbv
  repeat' (first | with_reducible exact True.intro | with_reducible exact dr_ok hA (by kernel_rfl) | with_reducible refine And.intro ?_ ?_ | (intro hc; cbv))
  all_goals (subst hA; try simp [-List.getD_eq_getElem?_getD, std_add, std_sub, std_mul, std_quo, std_rem, std_band, std_bor, std_bxor, std_shl, std_shr, std_eq, std_ne, std_lt, std_le, std_conv, std_not, std_beq, std_bne, std_ite, std_want, std_and2, std_sadd, std_seq, std_sne, std_slt, std_sle, std_sgt, std_sge, std_slen, std_sget, std_scut, std_ofNat, std_toNat, std_nsub, std_nadd, std_lenOf, std_nz, std_nneg, std_inb, std_upto, std_slt63, std_grow, std_imp, std_impN, std_tr, std_tb, std_ti, std_ts, std_tn, std_tp, std_nmin, std_makes, std_room, std_zeros, std_nilq, std_notq, std_eqi, std_eqn, std_eqb, std_eqs, std_eqv, std_cat, std_lst, std_rset, std_rcopy, std_shift, std_eqr, std_strOf, std_bytesOf, std_isB, std_zOf, zOf_int, std_isI, isI_int, std_getL, std_nmul, std_sOf, sOf_str, std_isS, isS_str] at *)
  all_goals first
    | exact hr
    | exact io1
    | exact io2
    | exact io3
    | (exact eR_no (by rcases hc with ((hc | hc) | hc) | hc; exact .inl (.inl (.inl hc)); exact .inl (.inr hc); exact .inl (.inl (.inr hc)); exact .inr hc))
    | (have h3 : (st = 1 ∨ st = 2) ∨ st = 3 := by assumption
       have h4 : ¬tr = 0 ∨ ¬ca = 0 := hc
       rw [Bool.eq_false_iff]
       intro h
       have h5 := eSt_cases (eR_P h).2.2
       simp only at h5
       rcases h5 with h5 | h5 | h5 | h5
       · omega
       · omega
       · omega
       · omega)
    | (have h3 : (st = 1 ∨ st = 2) ∨ st = 3 := by assumption
       have hq : ((keyOk s r = true ∧ lFine pan = true) ∧ (pan.length : Int) ≤ 19) ∧ am < 1000000000000 := by assumption
       rw [eR_st (e := ⟨s, r, st, pan, am, code, tr, ca⟩) ⟨⟨⟨hq.1.1.1, hq.1.2⟩, hq.1.1.2⟩, hq.2⟩, hc.1, hc.2]
       rcases h3 with (rfl | rfl) | rfl
       · cases code <;> simp [eSt, unT]
       · rw [Bool.eq_iff_iff]; simp [eSt, unT]
       · rw [Bool.eq_iff_iff]; simp [eSt, unT])
    | (have hq : ((keyOk s r = true ∧ lFine pan = true) ∧ (pan.length : Int) ≤ 19) ∧ am < 1000000000000 := by assumption
       rw [eR_st (e := ⟨s, r, st, pan, am, code, tr, ca⟩) ⟨⟨⟨hq.1.1.1, hq.1.2⟩, hq.1.1.2⟩, hq.2⟩]
       unfold eSt
       rw [if_neg hc.1.1, if_neg hc.1.2, if_neg hc.2]
       by_cases h3 : st = 4 ∨ st = 5 ∨ st = 6
       · rw [if_pos h3, decide_eq_true (p := 3 < st) (by omega), decide_eq_true (p := st < 7) (by omega)]
         cases rr 39 code
         · rfl
         · rw [Bool.eq_iff_iff]
           simp [tuR]
           omega
       · rw [if_neg h3, Bool.eq_false_iff]
         intro h
         simp only [Bool.and_eq_true, decide_eq_true_eq] at h
         have h4 := h.1.1.1.1.1
         omega)
    | ((repeat' (first | assumption | (intro _) | (refine And.intro ?_ ?_))) <;> done)
    | trace_state
noncomputable def c_r6Right : Ct := fun A args => match args with
  | [.agg [.int .i64 k, .str p, .int .u64 a, .int .u32 s, .str r, .str c]] => some (some (A.tp fun _ => p.length ≤ 100000 ∧ r.length ≤ 1000000 ∧ c.length ≤ 1000000), .bool (A.tb fun _ => dR k a s p r c))
  | _ => none
noncomputable def c_r10Re : Ct := fun A args => match args with
  | [.agg [.int .u32 s, .str r, .int .i64 st, .str pan, .int .u64 am, .str code, .int .i64 tr, .int .i64 ca]] => some (some (A.tp fun _ => r.length ≤ 1000000 ∧ pan.length ≤ 100000 ∧ code.length ≤ 1000000), .bool (A.tb fun _ => eR ⟨s, r, st, pan, am, code, tr, ca⟩))
  | _ => none
noncomputable def gd3 : Ar → Pu := addC 28 c_r6Right (addC 50 c_r10Re (gd2))
theorem gd3_ok : PuOk Tryd.prog gl0 (gd3 std) := by
  refine addC_ok (addC_ok (gd2_ok) ⟨_, Tryd.func50, rfl, by decide⟩ ?_) ⟨_, Tryd.func28, rfl, by decide⟩ ?_
  · intro args p r h hp
    unfold c_r10Re at h
    split at h <;> cases h
    exact good_r10Re _ _ _ _ _ _ _ _ hp.1 hp.2.1 hp.2.2
  · intro args p r h hp
    unfold c_r6Right at h
    split at h <;> cases h
    exact good_r6Right _ _ _ _ _ _ hp.1 hp.2.1 hp.2.2
theorem good_r12Key (v k dam ds : Int) (dpan dr dcode : List UInt8) : GoodP Tryd.prog gl0 109 [.agg [.int .i64 v, .int .i64 k, .str dpan, .int .u64 dam, .int .u32 ds, .str dr, .str dcode]] (.agg [.int .u32 ds, .str dr]) := by
  refine fn_sound' (T := seatT) (G := noC) (X := noX) seatT_ok noC_ok noX_ok noI_ok mixed Tryd.func109 (.one) (fun A => [.agg [.int .i64 v, .int .i64 k, .str dpan, .int .u64 dam, .int .u32 ds, .str dr, .str dcode]]) (fun A => .agg [.int .u32 ds, .str dr]) fun A hA => ?_
  cbv
  repeat' (first | with_reducible exact True.intro | with_reducible exact dr_ok hA (by kernel_rfl) | with_reducible refine And.intro ?_ ?_ | (intro hc; cbv))
  all_goals (subst hA; try simp [std_add, std_sub, std_mul, std_quo, std_rem, std_band, std_bor, std_bxor, std_shl, std_shr, std_eq, std_ne, std_lt, std_le, std_conv, std_not, std_beq, std_bne, std_ite, std_want, std_and2, std_sadd, std_seq, std_sne, std_slt, std_sle, std_sgt, std_sge, std_slen, std_sget, std_scut, std_ofNat, std_toNat, std_nsub, std_nadd, std_lenOf, std_nz, std_nneg, std_inb, std_upto, std_slt63, std_grow, std_imp, std_impN, std_tr, std_tb, std_ti, std_ts, std_tn, std_tp, std_nmin, std_makes, std_room, std_zeros, std_nilq, std_notq, std_eqi, std_eqn, std_eqb, std_eqs, std_eqv, std_cat, std_lst, std_rset, std_rcopy, std_shift, std_eqr, std_strOf, std_bytesOf, std_isB, std_zOf, zOf_int, std_isI, isI_int, std_getL, std_nmul, std_sOf, sOf_str, std_isS, isS_str] at *)
noncomputable def c_r12Key : Ct := fun A args => match args with
  | [.agg [.int .i64 v, .int .i64 k, .str dpan, .int .u64 dam, .int .u32 ds, .str dr, .str dcode]] => some (none, .agg [.int .u32 ds, .str dr])
  | _ => none
noncomputable def gd4 : Ar → Pu := addC 109 c_r12Key (gd3)
theorem gd4_ok : PuOk Tryd.prog gl0 (gd4 std) := by
  refine addC_ok (gd3_ok) ⟨_, Tryd.func109, rfl, by decide⟩ ?_
  · intro args p r h hp
    unfold c_r12Key at h
    split at h <;> cases h
    exact good_r12Key _ _ _ _ _ _ _
theorem good_r12Right (v k dam ds : Int) (dpan dr dcode : List UInt8) (hdp : dpan.length ≤ 100000) (hdr : dr.length ≤ 1000000) (hdc : dcode.length ≤ 1000000) : GoodP Tryd.prog gl0 57 [.agg [.int .i64 v, .int .i64 k, .str dpan, .int .u64 dam, .int .u32 ds, .str dr, .str dcode]] (.bool (std.tb fun _ => vR v ⟨k, dpan, dam, ds, dr, dcode⟩)) := by
  refine fn_sound' (T := seatT) (G := gd4) (X := noX) seatT_ok gd4_ok noX_ok noI_ok mixed Tryd.func57 (.one) (fun A => [.agg [.int .i64 v, .int .i64 k, .str dpan, .int .u64 dam, .int .u32 ds, .str dr, .str dcode]]) (fun A => .bool (A.tb fun _ => vR v ⟨k, dpan, dam, ds, dr, dcode⟩)) fun A hA => ?_
  cbv
  repeat' (first | with_reducible exact True.intro | with_reducible exact dr_ok hA (by kernel_rfl) | with_reducible refine And.intro ?_ ?_ | (intro hc; cbv))
  all_goals (subst hA; try simp [-List.getD_eq_getElem?_getD, std_add, std_sub, std_mul, std_quo, std_rem, std_band, std_bor, std_bxor, std_shl, std_shr, std_eq, std_ne, std_lt, std_le, std_conv, std_not, std_beq, std_bne, std_ite, std_want, std_and2, std_sadd, std_seq, std_sne, std_slt, std_sle, std_sgt, std_sge, std_slen, std_sget, std_scut, std_ofNat, std_toNat, std_nsub, std_nadd, std_lenOf, std_nz, std_nneg, std_inb, std_upto, std_slt63, std_grow, std_imp, std_impN, std_tr, std_tb, std_ti, std_ts, std_tn, std_tp, std_nmin, std_makes, std_room, std_zeros, std_nilq, std_notq, std_eqi, std_eqn, std_eqb, std_eqs, std_eqv, std_cat, std_lst, std_rset, std_rcopy, std_shift, std_eqr, std_strOf, std_bytesOf, std_isB, std_zOf, zOf_int, std_isI, isI_int, std_getL, std_nmul, std_sOf, sOf_str, std_isS, isS_str] at *)
  all_goals first
    | exact fun h => ⟨h, hdp, hdr, hdc⟩
    | exact fun h1 h2 h3 h4 => ⟨⟨⟨⟨h1, h2⟩, h3⟩, h4⟩, hdr⟩
    | (rw [Bool.eq_false_iff]; intro h; have := vR_five h; omega)
    | (subst hc; rw [Bool.eq_iff_iff]; simp [vR, evO, evK, dRR, and_assoc]; done)
    | trace_state
end Go.Vd

/- The core's laws: the reference's step. -/
set_option linter.unusedVariables false
set_option linter.unusedSimpArgs false
set_option maxRecDepth 100000
set_option maxHeartbeats 8000000
namespace Go.Vd
open Go.Proofs
noncomputable def c_r12Right : Ct := fun A args => match args with
  | [.agg [.int .i64 v, .int .i64 k, .str dpan, .int .u64 dam, .int .u32 ds, .str dr, .str dcode]] => some (some (A.tp fun _ => dpan.length ≤ 100000 ∧ dr.length ≤ 1000000 ∧ dcode.length ≤ 1000000), .bool (A.tb fun _ => vR v ⟨k, dpan, dam, ds, dr, dcode⟩))
  | _ => none
theorem good_rTold (v k dam ds kd : Int) (dpan dr dcode c : List UInt8) : GoodP Tryd.prog gl0 111 [.agg [.int .i64 v, .int .i64 k, .str dpan, .int .u64 dam, .int .u32 ds, .str dr, .str dcode], .int .i64 kd, .str c] (.agg [.int .i64 kd, .str [], .int .u64 0, .int .u32 ds, .str dr, .str c]) := by
  refine fn_sound' (T := seatT) (G := noC) (X := noX) seatT_ok noC_ok noX_ok noI_ok mixed Tryd.func111 (.one) (fun A => [.agg [.int .i64 v, .int .i64 k, .str dpan, .int .u64 dam, .int .u32 ds, .str dr, .str dcode], .int .i64 kd, .str c]) (fun A => .agg [.int .i64 kd, .str [], .int .u64 0, .int .u32 ds, .str dr, .str c]) fun A hA => ?_
  cbv
  repeat' (first | with_reducible exact True.intro | with_reducible exact dr_ok hA (by kernel_rfl) | with_reducible refine And.intro ?_ ?_ | (intro hc; cbv))
  all_goals (subst hA; try simp [std_add, std_sub, std_mul, std_quo, std_rem, std_band, std_bor, std_bxor, std_shl, std_shr, std_eq, std_ne, std_lt, std_le, std_conv, std_not, std_beq, std_bne, std_ite, std_want, std_and2, std_sadd, std_seq, std_sne, std_slt, std_sle, std_sgt, std_sge, std_slen, std_sget, std_scut, std_ofNat, std_toNat, std_nsub, std_nadd, std_lenOf, std_nz, std_nneg, std_inb, std_upto, std_slt63, std_grow, std_imp, std_impN, std_tr, std_tb, std_ti, std_ts, std_tn, std_tp, std_nmin, std_makes, std_room, std_zeros, std_nilq, std_notq, std_eqi, std_eqn, std_eqb, std_eqs, std_eqv, std_cat, std_lst, std_rset, std_rcopy, std_shift, std_eqr, std_strOf, std_bytesOf, std_isB, std_zOf, zOf_int, std_isI, isI_int, std_getL, std_nmul, std_sOf, sOf_str, std_isS, isS_str] at *)
theorem good_rAsked (s st am tr ca kd : Int) (r pan code : List UInt8) : GoodP Tryd.prog gl0 110 [.agg [.int .u32 s, .str r, .int .i64 st, .str pan, .int .u64 am, .str code, .int .i64 tr, .int .i64 ca], .int .i64 kd] (.agg [.int .i64 kd, .str pan, .int .u64 am, .int .u32 s, .str r, .str []]) := by
  refine fn_sound' (T := seatT) (G := noC) (X := noX) seatT_ok noC_ok noX_ok noI_ok mixed Tryd.func110 (.one) (fun A => [.agg [.int .u32 s, .str r, .int .i64 st, .str pan, .int .u64 am, .str code, .int .i64 tr, .int .i64 ca], .int .i64 kd]) (fun A => .agg [.int .i64 kd, .str pan, .int .u64 am, .int .u32 s, .str r, .str []]) fun A hA => ?_
  cbv
  repeat' (first | with_reducible exact True.intro | with_reducible exact dr_ok hA (by kernel_rfl) | with_reducible refine And.intro ?_ ?_ | (intro hc; cbv))
  all_goals (subst hA; try simp [std_add, std_sub, std_mul, std_quo, std_rem, std_band, std_bor, std_bxor, std_shl, std_shr, std_eq, std_ne, std_lt, std_le, std_conv, std_not, std_beq, std_bne, std_ite, std_want, std_and2, std_sadd, std_seq, std_sne, std_slt, std_sle, std_sgt, std_sge, std_slen, std_sget, std_scut, std_ofNat, std_toNat, std_nsub, std_nadd, std_lenOf, std_nz, std_nneg, std_inb, std_upto, std_slt63, std_grow, std_imp, std_impN, std_tr, std_tb, std_ti, std_ts, std_tn, std_tp, std_nmin, std_makes, std_room, std_zeros, std_nilq, std_notq, std_eqi, std_eqn, std_eqb, std_eqs, std_eqv, std_cat, std_lst, std_rset, std_rcopy, std_shift, std_eqr, std_strOf, std_bytesOf, std_isB, std_zOf, zOf_int, std_isI, isI_int, std_getL, std_nmul, std_sOf, sOf_str, std_isS, isS_str] at *)
theorem good_rRev (s st am tr ca z : Int) (r pan code c : List UInt8) : GoodP Tryd.prog gl0 112 [.agg [.int .u32 s, .str r, .int .i64 st, .str pan, .int .u64 am, .str code, .int .i64 tr, .int .i64 ca], .str c, .int .i64 z] (.agg [.int .u32 s, .str r, .int .i64 4, .str pan, .int .u64 am, .str c, .int .i64 tr, .int .i64 z]) := by
  refine fn_sound' (T := seatT) (G := noC) (X := noX) seatT_ok noC_ok noX_ok noI_ok mixed Tryd.func112 (.one) (fun A => [.agg [.int .u32 s, .str r, .int .i64 st, .str pan, .int .u64 am, .str code, .int .i64 tr, .int .i64 ca], .str c, .int .i64 z]) (fun A => .agg [.int .u32 s, .str r, .int .i64 4, .str pan, .int .u64 am, .str c, .int .i64 tr, .int .i64 z]) fun A hA => ?_
  cbv
  repeat' (first | with_reducible exact True.intro | with_reducible exact dr_ok hA (by kernel_rfl) | with_reducible refine And.intro ?_ ?_ | (intro hc; cbv))
  all_goals (subst hA; try simp [std_add, std_sub, std_mul, std_quo, std_rem, std_band, std_bor, std_bxor, std_shl, std_shr, std_eq, std_ne, std_lt, std_le, std_conv, std_not, std_beq, std_bne, std_ite, std_want, std_and2, std_sadd, std_seq, std_sne, std_slt, std_sle, std_sgt, std_sge, std_slen, std_sget, std_scut, std_ofNat, std_toNat, std_nsub, std_nadd, std_lenOf, std_nz, std_nneg, std_inb, std_upto, std_slt63, std_grow, std_imp, std_impN, std_tr, std_tb, std_ti, std_ts, std_tn, std_tp, std_nmin, std_makes, std_room, std_zeros, std_nilq, std_notq, std_eqi, std_eqn, std_eqb, std_eqs, std_eqv, std_cat, std_lst, std_rset, std_rcopy, std_shift, std_eqr, std_strOf, std_bytesOf, std_isB, std_zOf, zOf_int, std_isI, isI_int, std_getL, std_nmul, std_sOf, sOf_str, std_isS, isS_str] at *)
noncomputable def c_rTold : Ct := fun A args => match args with
  | [.agg [.int .i64 v, .int .i64 k, .str dpan, .int .u64 dam, .int .u32 ds, .str dr, .str dcode], .int .i64 kd, .str c] => some (none, .agg [.int .i64 kd, .str [], .int .u64 0, .int .u32 ds, .str dr, .str c])
  | _ => none
noncomputable def c_rAsked : Ct := fun A args => match args with
  | [.agg [.int .u32 s, .str r, .int .i64 st, .str pan, .int .u64 am, .str code, .int .i64 tr, .int .i64 ca], .int .i64 kd] => some (none, .agg [.int .i64 kd, .str pan, .int .u64 am, .int .u32 s, .str r, .str []])
  | _ => none
noncomputable def c_rRev : Ct := fun A args => match args with
  | [.agg [.int .u32 s, .str r, .int .i64 st, .str pan, .int .u64 am, .str code, .int .i64 tr, .int .i64 ca], .str c, .int .i64 z] => some (none, .agg [.int .u32 s, .str r, .int .i64 4, .str pan, .int .u64 am, .str c, .int .i64 tr, .int .i64 z])
  | _ => none
noncomputable def gd5 : Ar → Pu := addC 57 c_r12Right (addC 111 c_rTold (addC 110 c_rAsked (addC 112 c_rRev (gd4))))
theorem gd5_ok : PuOk Tryd.prog gl0 (gd5 std) := by
  refine addC_ok (addC_ok (addC_ok (addC_ok (gd4_ok) ⟨_, Tryd.func112, rfl, by decide⟩ ?_) ⟨_, Tryd.func110, rfl, by decide⟩ ?_) ⟨_, Tryd.func111, rfl, by decide⟩ ?_) ⟨_, Tryd.func57, rfl, by decide⟩ ?_
  · intro args p r h hp
    unfold c_rRev at h
    split at h <;> cases h
    exact good_rRev _ _ _ _ _ _ _ _ _ _
  · intro args p r h hp
    unfold c_rAsked at h
    split at h <;> cases h
    exact good_rAsked _ _ _ _ _ _ _ _ _
  · intro args p r h hp
    unfold c_rTold at h
    split at h <;> cases h
    exact good_rTold _ _ _ _ _ _ _ _ _
  · intro args p r h hp
    unfold c_r12Right at h
    split at h <;> cases h
    exact good_r12Right _ _ _ _ _ _ _ hp.1 hp.2.1 hp.2.2
theorem rd_yes {s st am tr ca v ds n : Int} {d : Dl} {r pan code dr : List UInt8} (hs : d.s = ds) (hr : d.r = dr) (h : ((vR v d = true ∧ 0 ≤ n) ∧ n ≤ 16) ∧ (¬s = 0 ∨ ¬r = [] ∨ ¬st = 0 ∨ ¬pan = [] ∨ ¬am = 0 ∨ ¬code = [] ∨ ¬tr = 0 ∨ ¬ca = 0 → eR ⟨s, r, st, pan, am, code, tr, ca⟩ = true ∧ s = ds ∧ r = dr)) : ((vR v d = true ∧ rF ⟨s, r, st, pan, am, code, tr, ca⟩ d.s d.r = true) ∧ 0 ≤ n) ∧ n ≤ 16 := by
  refine ⟨⟨⟨h.1.1.1, ?_⟩, h.1.1.2⟩, h.1.2⟩
  unfold rF
  by_cases hE : (⟨s, r, st, pan, am, code, tr, ca⟩ : Ent) = E0
  · rw [decide_eq_true hE]; rfl
  · have h2 := h.2 (not8 fun a b c d e f g hh => hE (eE0 ⟨a, b, c, d, e, f, g, hh⟩))
    rw [h2.1]
    subst hs hr
    simp only at *
    rw [decide_eq_true h2.2.1, decide_eq_true h2.2.2]
    simp
theorem rd_no {s st am tr ca v ds n : Int} {d : Dl} {r pan code dr : List UInt8} (hs : d.s = ds) (hr : d.r = dr) (h : ((vR v d = false ∨ n < 0) ∨ 16 < n) ∨ (¬s = 0 ∨ ¬r = [] ∨ ¬st = 0 ∨ ¬pan = [] ∨ ¬am = 0 ∨ ¬code = [] ∨ ¬tr = 0 ∨ ¬ca = 0) ∧ (eR ⟨s, r, st, pan, am, code, tr, ca⟩ = false ∨ ¬s = ds ∨ ¬r = dr)) : stp ⟨s, r, st, pan, am, code, tr, ca⟩ v d n = S0 ∧ stpOk ⟨s, r, st, pan, am, code, tr, ca⟩ v d n = false := by
  have hk : ¬stpOk ⟨s, r, st, pan, am, code, tr, ca⟩ v d n = true := by
    intro hk
    unfold stpOk at hk
    simp only [Bool.and_eq_true, decide_eq_true_eq] at hk
    rcases h with ((h | h) | h) | ⟨h1, h2⟩
    · rw [h] at hk; cases hk.1
    · omega
    · omega
    · have h3 := hk.2.1
      unfold rF at h3
      simp only [Bool.or_eq_true, Bool.and_eq_true, decide_eq_true_eq] at h3
      rcases h3 with h3 | h3
      · exact n8 h1 (e8 h3)
      · rcases h2 with h2 | h2 | h2
        · rw [h3.1] at h2; cases h2
        · exact h2 (h3.2.1.trans hs)
        · exact h2 (h3.2.2.trans hr)
  exact ⟨if_neg hk, by cases hh : stpOk ⟨s, r, st, pan, am, code, tr, ca⟩ v d n; rfl; exact absurd hh hk⟩
theorem rd_ok {e : Ent} {v n : Int} {d : Dl} (h : ((vR v d = true ∧ rF e d.s d.r = true) ∧ 0 ≤ n) ∧ n ≤ 16) : stpOk e v d n = true := by unfold stpOk; rw [h.1.1.1, h.1.1.2, decide_eq_true h.1.2, decide_eq_true h.2]; rfl
theorem rd_five {v : Int} {d : Dl} (h : vR v d = true) (h1 : ¬v = 1) (h2 : ¬v = 2) (h3 : ¬v = 3) (h4 : ¬v = 4) (h5 : ¬v = 5) : False := by
  have := vR_five h
  omega
theorem eq2L {L : List Dl} {k am s k' am' s' : Int} {pan r code pan' r' code' : List UInt8} (h : L = [⟨k, pan, am, s, r, code⟩, ⟨k', pan', am', s', r', code'⟩]) :
    eqrS L.length 6 (lstS [[SV.int IntKind.i64 k, SV.str pan, SV.int IntKind.u64 am, SV.int IntKind.u32 s, SV.str r, SV.str code], [SV.int IntKind.i64 k', SV.str pan', SV.int IntKind.u64 am', SV.int IntKind.u32 s', SV.str r', SV.str code']]) (rowF eD ⟨0, [], 0, 0, [], []⟩ std fun _ => L) := by
  subst h
  exact (Reps.lst (enc := eD) (d := (⟨0, [], 0, 0, [], []⟩ : Dl)) (k := 6) (l := [[SV.int IntKind.i64 k, SV.str pan, SV.int IntKind.u64 am, SV.int IntKind.u32 s, SV.str r, SV.str code], [SV.int IntKind.i64 k', SV.str pan', SV.int IntKind.u64 am', SV.int IntKind.u32 s', SV.str r', SV.str code']]) (L := ([⟨k, pan, am, s, r, code⟩, ⟨k', pan', am', s', r', code'⟩] : List Dl)) ⟨cell_eD ⟨k, pan, am, s, r, code⟩, cell_eD ⟨k', pan', am', s', r', code'⟩, trivial⟩).eqr
/-- Where there is an entry: it is of the event's key, and such. -/
theorem rd_in {s st am tr ca ds : Int} {r pan code dr : List UInt8} (h : ¬s = 0 ∨ ¬r = [] ∨ ¬st = 0 ∨ ¬pan = [] ∨ ¬am = 0 ∨ ¬code = [] ∨ ¬tr = 0 ∨ ¬ca = 0 → eR ⟨s, r, st, pan, am, code, tr, ca⟩ = true ∧ s = ds ∧ r = dr) (hn : ¬st = 0 ∨ (s = 0 → r = [] → st = 0 → pan = [] → am = 0 → code = [] → tr = 0 → ¬ca = 0)) : (s = ds ∧ r = dr) ∧ 1 ≤ st ∧ st ≤ 6 ∧ (st = 2 → code = [48, 48]) ∧ (st = 4 → 0 ≤ tr ∧ tr ≤ 16) := by
  have hx : ¬s = 0 ∨ ¬r = [] ∨ ¬st = 0 ∨ ¬pan = [] ∨ ¬am = 0 ∨ ¬code = [] ∨ ¬tr = 0 ∨ ¬ca = 0 := by
    rcases hn with hn | hn
    · exact .inr (.inr (.inl hn))
    · exact not8 hn
  obtain ⟨h1, h2, h3⟩ := h hx
  have hC := eSt_cases (eR_P h1).2.2
  simp only at hC
  refine ⟨⟨h2, h3⟩, by omega, by omega, fun h => ?_, fun h => by omega⟩
  rcases hC with h' | h' | h' | h'
  · omega
  · exact h'.2.1
  · omega
  · omega
theorem good_rDo (s st am tr ca v k dam ds n : Int) (r pan code dpan dr dcode : List UInt8) (hr : r.length ≤ 1000000) (hp : pan.length ≤ 100000) (hcc : code.length ≤ 1000000) (hdp : dpan.length ≤ 100000) (hdr : dr.length ≤ 1000000) (hdc : dcode.length ≤ 1000000) : GoodP Tryd.prog gl0 55 [.agg [.int .u32 s, .str r, .int .i64 st, .str pan, .int .u64 am, .str code, .int .i64 tr, .int .i64 ca], .agg [.int .i64 v, .int .i64 k, .str dpan, .int .u64 dam, .int .u32 ds, .str dr, .str dcode], .int .i64 n] (.tup [stepS std fun _ => stp ⟨s, r, st, pan, am, code, tr, ca⟩ v ⟨k, dpan, dam, ds, dr, dcode⟩ n, .bool (std.tb fun _ => stpOk ⟨s, r, st, pan, am, code, tr, ca⟩ v ⟨k, dpan, dam, ds, dr, dcode⟩ n)]) := by
  refine fn_sound' (T := seatT) (G := gd5) (X := noX) seatT_ok gd5_ok noX_ok noI_ok mixed Tryd.func55 (.none) (fun A => [.agg [.int .u32 s, .str r, .int .i64 st, .str pan, .int .u64 am, .str code, .int .i64 tr, .int .i64 ca], .agg [.int .i64 v, .int .i64 k, .str dpan, .int .u64 dam, .int .u32 ds, .str dr, .str dcode], .int .i64 n]) (fun A => .tup [stepS A fun _ => stp ⟨s, r, st, pan, am, code, tr, ca⟩ v ⟨k, dpan, dam, ds, dr, dcode⟩ n, .bool (A.tb fun _ => stpOk ⟨s, r, st, pan, am, code, tr, ca⟩ v ⟨k, dpan, dam, ds, dr, dcode⟩ n)]) fun A hA => ?_
  cbv
  repeat' (first | with_reducible exact True.intro | with_reducible exact dr_ok hA (by kernel_rfl) | with_reducible refine And.intro ?_ ?_ | (intro hc; cbv))
  all_goals (subst hA; try simp [std_add, std_sub, std_mul, std_quo, std_rem, std_band, std_bor, std_bxor, std_shl, std_shr, std_eq, std_ne, std_lt, std_le, std_conv, std_not, std_beq, std_bne, std_ite, std_want, std_and2, std_sadd, std_seq, std_sne, std_slt, std_sle, std_sgt, std_sge, std_slen, std_sget, std_scut, std_ofNat, std_toNat, std_nsub, std_nadd, std_lenOf, std_nz, std_nneg, std_inb, std_upto, std_slt63, std_grow, std_imp, std_impN, std_tr, std_tb, std_ti, std_ts, std_tn, std_tp, std_nmin, std_makes, std_room, std_zeros, std_nilq, std_notq, std_eqi, std_eqn, std_eqb, std_eqs, std_eqv, std_cat, std_lst, std_rset, std_rcopy, std_shift, std_eqr, std_strOf, std_bytesOf, std_isB, std_zOf, zOf_int, std_isI, isI_int, std_getL, std_nmul, std_sOf, sOf_str, std_isS, isS_str] at *)
  all_goals first
    | exact ⟨hdp, hdr, hdc⟩
    | (exfalso; omega)
    | (have hq : ((vR v ⟨k, dpan, dam, ds, dr, dcode⟩ = false ∨ n < 0) ∨ 16 < n) ∨ (¬s = 0 ∨ ¬r = [] ∨ ¬st = 0 ∨ ¬pan = [] ∨ ¬am = 0 ∨ ¬code = [] ∨ ¬tr = 0 ∨ ¬ca = 0) ∧ (eR ⟨s, r, st, pan, am, code, tr, ca⟩ = false ∨ ¬s = ds ∨ ¬r = dr) := by assumption
       have h1 := (rd_no (d := ⟨k, dpan, dam, ds, dr, dcode⟩) rfl rfl hq).1
       have h2 := (rd_no (d := ⟨k, dpan, dam, ds, dr, dcode⟩) rfl rfl hq).2
       first
         | exact h2
         | exact h2.symm
         | (rw [h1]; first | done | rfl))
    | (have hq0 : ((vR v ⟨k, dpan, dam, ds, dr, dcode⟩ = true ∧ 0 ≤ n) ∧ n ≤ 16) ∧ (¬s = 0 ∨ ¬r = [] ∨ ¬st = 0 ∨ ¬pan = [] ∨ ¬am = 0 ∨ ¬code = [] ∨ ¬tr = 0 ∨ ¬ca = 0 → eR ⟨s, r, st, pan, am, code, tr, ca⟩ = true ∧ s = ds ∧ r = dr) := by assumption
       have hq := rd_yes (d := ⟨k, dpan, dam, ds, dr, dcode⟩) rfl rfl hq0
       have h1 := (stp_yes (e := ⟨s, r, st, pan, am, code, tr, ca⟩) (d := ⟨k, dpan, dam, ds, dr, dcode⟩) (v := v) (n := n) hq).1
       first
         | exact rd_ok hq
         | exact (rd_ok hq).symm
         | exact (rd_five hq.1.1.1 (by assumption) (by assumption) (by assumption) (by assumption) (by assumption)).elim
         | (rw [h1]
            clear h1 hp hcc hdp hdr hdc hr hq
            try (have h0 : s = 0 → r = [] → st = 0 → pan = [] → am = 0 → code = [] → tr = 0 → ¬ca = 0 := by assumption
                 have hd := rd_in hq0.2 (.inr h0)
                 have hd1 := hd.1.1
                 have hd2 := hd.1.2
                 have hd3 := hd.2.2.2.1
                 have hd5 := hd.2.1
                 clear hd)
            try (have h0 : st = 1 := by assumption
                 have hd := rd_in hq0.2 (.inl (by omega))
                 have hd1 := hd.1.1
                 have hd2 := hd.1.2
                 clear hd)
            try (have h0 : st = 4 ∧ tr < n := by assumption
                 have hd := rd_in hq0.2 (.inl (by omega))
                 have hd1 := hd.1.1
                 have hd2 := hd.1.2
                 have hd4 := hd.2.2.2.2 h0.1
                 have h01 := h0.1
                 have h02 := h0.2
                 have hw : IntKind.i64.wrap (tr + 1) = tr + 1 := w64 (by omega)
                 clear hd h0)
            try (have h0 : st = 4 ∧ n ≤ tr := by assumption
                 have hd := rd_in hq0.2 (.inl (by omega))
                 have h01 := h0.1
                 have h02 : ¬tr < n := by omega
                 clear hd h0)
            try (have h0 : 1 < st := by assumption
                 have h01 : ¬st = 1 := by omega)
            try (have h0 : st ≤ 1 := by assumption
                 have h01 : st = 1 := by omega)
            try (have h0 : st = 4 → n ≤ tr := by assumption
                 have h3 : st = 4 → tr < n := by assumption
                 have h01 : ¬st = 4 := fun h => by have := h0 h; have := h3 h; omega
                 clear h0 h3)
            try (have h0 : ¬pan = dpan ∨ ¬am = dam := by assumption
                 have ho : oddE ⟨s, r, st, pan, am, code, tr, ca⟩ ⟨k, dpan, dam, ds, dr, dcode⟩ = true := by unfold oddE; rcases h0 with h0 | h0 <;> simp [Ne.symm h0, fun e => h0 (Eq.symm e)])
            try (have h0 : pan = dpan ∧ am = dam := by assumption
                 have ho : ¬oddE ⟨s, r, st, pan, am, code, tr, ca⟩ ⟨k, dpan, dam, ds, dr, dcode⟩ = true := by unfold oddE; simp [h0.1, h0.2])
            try (have h0 : s = 0 ∧ r = [] ∧ st = 0 ∧ pan = [] ∧ am = 0 ∧ code = [] ∧ tr = 0 ∧ ca = 0 := by assumption
                 have hI : ∀ (a b : Stp), (if (⟨s, r, st, pan, am, code, tr, ca⟩ : Ent) = E0 then a else b) = a := fun a b => if_pos (eE0 h0)
                 simp only [stpK, stAsk, stUndo, hI]
                 clear hI)
            try (have h0 : s = 0 → r = [] → st = 0 → pan = [] → am = 0 → code = [] → tr = 0 → ¬ca = 0 := by assumption
                 have hI : ∀ (a b : Stp), (if (⟨s, r, st, pan, am, code, tr, ca⟩ : Ent) = E0 then a else b) = b := fun a b => if_neg (eE1 h0)
                 simp only [stpK, stAsk, stUndo, hI]
                 clear hI h0)
            try (have ho : oddE ⟨s, r, st, pan, am, code, tr, ca⟩ ⟨k, dpan, dam, ds, dr, dcode⟩ = true := by assumption
                 simp only [if_pos ho]
                 clear ho)
            try (have ho : ¬oddE ⟨s, r, st, pan, am, code, tr, ca⟩ ⟨k, dpan, dam, ds, dr, dcode⟩ = true := by assumption
                 simp only [if_neg ho]
                 clear ho)
            clear hq0
            first
              | (simp [stpK, stAsk, stAns, stUndo, stTime, stAck, tA, tU, tI, rev, *]; done)
              | (apply eq1D; simp [stpK, stAsk, stAns, stUndo, stTime, stAck, tA, tU, tI, rev, *]; done)
              | (apply eq2L; simp [stpK, stAsk, stAns, stUndo, stTime, stAck, tA, tU, tI, rev, *]; done)
              | trace_state))
    | ((repeat' (first | assumption | (intro _) | (refine And.intro ?_ ?_))) <;> done)
    | trace_state
noncomputable def c_rDo : Ct := fun A args => match args with
  | [.agg [.int .u32 s, .str r, .int .i64 st, .str pan, .int .u64 am, .str code, .int .i64 tr, .int .i64 ca], .agg [.int .i64 v, .int .i64 k, .str dpan, .int .u64 dam, .int .u32 ds, .str dr, .str dcode], .int .i64 n] => some (some (A.tp fun _ => (r.length ≤ 1000000 ∧ pan.length ≤ 100000 ∧ code.length ≤ 1000000) ∧ dpan.length ≤ 100000 ∧ dr.length ≤ 1000000 ∧ dcode.length ≤ 1000000), .tup [stepS A fun _ => stp ⟨s, r, st, pan, am, code, tr, ca⟩ v ⟨k, dpan, dam, ds, dr, dcode⟩ n, .bool (A.tb fun _ => stpOk ⟨s, r, st, pan, am, code, tr, ca⟩ v ⟨k, dpan, dam, ds, dr, dcode⟩ n)])
  | _ => none
noncomputable def c_sSS : Ct := fun A args => match args with
  | [.agg [.int .u32 s, .str r, .int .i64 st, .str pan, .int .u64 am, .str code, .int .i64 tr, .int .i64 ca, .slc n 6 f, .slc n' 6 f', .int .i64 t, .bool rc], .agg [.int .u32 s2, .str r2, .int .i64 st2, .str pan2, .int .u64 am2, .str code2, .int .i64 tr2, .int .i64 ca2, .slc m 6 g, .slc m' 6 g', .int .i64 t2, .bool rc2]] =>
    some (some (A.tp fun _ => ((isRow eD ⟨0, [], 0, 0, [], []⟩ 6 n f ∧ isRow eD ⟨0, [], 0, 0, [], []⟩ 6 n' f') ∧ n ≤ 1000000 ∧ n' ≤ 1000000) ∧ isRow eD ⟨0, [], 0, 0, [], []⟩ 6 m g ∧ isRow eD ⟨0, [], 0, 0, [], []⟩ 6 m' g'), .bool (A.tb fun _ => decide ((⟨⟨s, r, st, pan, am, code, tr, ca⟩, lstOf eD ⟨0, [], 0, 0, [], []⟩ 6 n f, lstOf eD ⟨0, [], 0, 0, [], []⟩ 6 n' f', t, rc⟩ : Stp) = ⟨⟨s2, r2, st2, pan2, am2, code2, tr2, ca2⟩, lstOf eD ⟨0, [], 0, 0, [], []⟩ 6 m g, lstOf eD ⟨0, [], 0, 0, [], []⟩ 6 m' g', t2, rc2⟩)))
  | _ => none
theorem c_sSS_ok : ∀ args p r, c_sSS std args = some (p, r) → holds p → GoodP Tryd.prog gl0 59 args r := by
  intro args p r h hp
  unfold c_sSS at h
  split at h <;> cases h
  obtain ⟨⟨⟨h1, h2⟩, h3, h4⟩, h5, h6⟩ := hp
  refine good_sv (good_sSame ⟨⟨_, _, _, _, _, _, _, _⟩, _, _, _, _⟩ ⟨⟨_, _, _, _, _, _, _, _⟩, _, _, _, _⟩ (by rw [lstOf_length h1]; exact h3) (by rw [lstOf_length h2]; exact h4)) ?_
  exact ⟨⟨_, rfl, rfl, rfl, rfl, rfl, rfl, rfl, rfl, rfl, h1.sv, h2.sv, rfl, rfl, trivial⟩, ⟨_, rfl, rfl, rfl, rfl, rfl, rfl, rfl, rfl, rfl, h5.sv, h6.sv, rfl, rfl, trivial⟩, trivial⟩
noncomputable def gd6 : Ar → Pu := addC 55 c_rDo (gd5)
theorem gd6_ok : PuOk Tryd.prog gl0 (gd6 std) := by
  refine addC_ok (gd5_ok) ⟨_, Tryd.func55, rfl, by decide⟩ ?_
  · intro args p r h hp
    unfold c_rDo at h
    split at h <;> cases h
    exact good_rDo _ _ _ _ _ _ _ _ _ _ _ _ _ _ _ _ hp.1.1 hp.1.2.1 hp.1.2.2 hp.2.1 hp.2.2.1 hp.2.2.2
noncomputable def gd7 : Ar → Pu := addC 59 c_sSS gd6
theorem gd7_ok : PuOk Tryd.prog gl0 (gd7 std) := addC_ok gd6_ok ⟨_, Tryd.func59, rfl, by decide⟩ c_sSS_ok
end Go.Vd
