/- The fields' functions: Read, both. -/
import Derived.Test.YtdipfibiajkedaaDoorVdH6
set_option linter.unusedVariables false
set_option linter.unusedSimpArgs false
set_option maxRecDepth 100000
set_option maxHeartbeats 4000000
namespace Go.Vd
open Go.Proofs
/-- One contract, or another. -/
def orC (c1 c2 : Ct) : Ct := fun A args => match c1 A args with
  | some x => some x
  | none => c2 A args
theorem orC_ok {P : Program} {gl : Nat → SV} {f : Nat} {c1 c2 : Ct} (h1 : ∀ args p r, c1 std args = some (p, r) → holds p → GoodP P gl f args r) (h2 : ∀ args p r, c2 std args = some (p, r) → holds p → GoodP P gl f args r) :
    ∀ args p r, orC c1 c2 std args = some (p, r) → holds p → GoodP P gl f args r := by
  intro args p r h hp
  unfold orC at h
  split at h
  · rename_i x hx
    cases h
    exact h1 _ _ _ hx hp
  · exact h2 _ _ _ h hp
theorem good_lenL' {a b z z' d : Int} {c m : Nat} {f : Nat → Nat → SV} (hp : ((d = 2 ∨ d = 3) ∧ (1 ≤ z ∧ z ≤ 999)) ∧ isRow eB 0 1 m f ∧ m ≤ 1000000) : GoodP Tryd.prog gl0 45 [.agg [.int .i64 a, .int .i64 b, .int .i64 z], .ifc 102 (.agg [.int .i64 z', .int .i64 d, .clo c []]), .slc m 1 f] (.tup [.int .i64 (std.ti fun _ => (lnV d.toNat z (lstOf eB 0 1 m f) : Int)), .int .i64 (std.ti fun _ => lnE d.toNat z (lstOf eB 0 1 m f))]) := by
  obtain ⟨D, rfl⟩ : ∃ D : Nat, d = D := ⟨d.toNat, by omega⟩
  exact good_sv (good_lenL a b z z' D c (lstOf eB 0 1 m f) (by omega) hp.1.2 (by rw [lstOf_length hp.2.1]; exact hp.2.2)) ⟨⟨_, rfl, rfl, rfl, rfl, trivial⟩, rfl, hp.2.1.sv, trivial⟩
noncomputable def c_fxD : Ct := fun A args => match args with
  | [.agg [.int .i64 z, .clo 17 []], .str L] => some (some (A.tp fun _ => L.length ≤ 1000000), .bool (A.tb fun _ => decide ((L.length : Int) = z) && isD L))
  | _ => none
theorem c_fxD_ok : ∀ args p r, c_fxD std args = some (p, r) → holds p → GoodP Tryd.prog gl0 107 args r := by
  intro args p r h hp
  unfold c_fxD at h
  split at h <;> cases h
  exact good_fxD _ _ hp
noncomputable def c_fxT : Ct := fun A args => match args with
  | [.agg [.int .i64 z, .clo 61 []], .str L] => some (some (A.tp fun _ => L.length ≤ 1000000), .bool (A.tb fun _ => decide ((L.length : Int) = z) && isT L))
  | _ => none
theorem c_fxT_ok : ∀ args p r, c_fxT std args = some (p, r) → holds p → GoodP Tryd.prog gl0 107 args r := by
  intro args p r h hp
  unfold c_fxT at h
  split at h <;> cases h
  exact good_fxT _ _ hp
noncomputable def c_lgD : Ct := fun A args => match args with
  | [.agg [.int .i64 z, .int .i64 d, .clo 17 []], .str L] => some (some (A.tp fun _ => L.length ≤ 1000000), .bool (A.tb fun _ => (decide (1 ≤ (L.length : Int)) && decide ((L.length : Int) ≤ z)) && isD L))
  | _ => none
theorem c_lgD_ok : ∀ args p r, c_lgD std args = some (p, r) → holds p → GoodP Tryd.prog gl0 109 args r := by
  intro args p r h hp
  unfold c_lgD at h
  split at h <;> cases h
  exact good_lgD _ _ _ hp
noncomputable def c_lgT : Ct := fun A args => match args with
  | [.agg [.int .i64 z, .int .i64 d, .clo 61 []], .str L] => some (some (A.tp fun _ => L.length ≤ 1000000), .bool (A.tb fun _ => (decide (1 ≤ (L.length : Int)) && decide ((L.length : Int) ≤ z)) && isT L))
  | _ => none
theorem c_lgT_ok : ∀ args p r, c_lgT std args = some (p, r) → holds p → GoodP Tryd.prog gl0 109 args r := by
  intro args p r h hp
  unfold c_lgT at h
  split at h <;> cases h
  exact good_lgT _ _ _ hp
noncomputable def c_lenF : Ct := fun A args => match args with
  | [.agg [.int .i64 a, .int .i64 b, .int .i64 z], .ifc 100 (.agg [.int .i64 z', .clo c []]), .slc m 1 f] => some (some (A.tp fun _ => isRow eB 0 1 m f ∧ m ≤ 1000000), .tup [.int .i64 z, .int .i64 0])
  | _ => none
theorem c_lenF_ok : ∀ args p r, c_lenF std args = some (p, r) → holds p → GoodP Tryd.prog gl0 45 args r := by
  intro args p r h hp
  unfold c_lenF at h
  split at h <;> cases h
  exact good_sv (good_lenF _ _ _ _ _ _ (by rw [lstOf_length hp.1]; exact hp.2)) ⟨⟨_, rfl, rfl, rfl, rfl, trivial⟩, rfl, hp.1.sv, trivial⟩
noncomputable def c_lenL : Ct := fun A args => match args with
  | [.agg [.int .i64 a, .int .i64 b, .int .i64 z], .ifc 102 (.agg [.int .i64 z', .int .i64 d, .clo c []]), .slc m 1 f] => some (some (A.tp fun _ => ((d = 2 ∨ d = 3) ∧ (1 ≤ z ∧ z ≤ 999)) ∧ isRow eB 0 1 m f ∧ m ≤ 1000000), .tup [.int .i64 (A.ti fun _ => (lnV d.toNat z (lstOf eB 0 1 m f) : Int)), .int .i64 (A.ti fun _ => lnE d.toNat z (lstOf eB 0 1 m f))])
  | _ => none
theorem c_lenL_ok : ∀ args p r, c_lenL std args = some (p, r) → holds p → GoodP Tryd.prog gl0 45 args r := by
  intro args p r h hp
  unfold c_lenL at h
  split at h <;> cases h
  exact good_lenL' hp
noncomputable def gh5 : Ar → Pu := addC 107 (orC c_fxD c_fxT) (addC 109 (orC c_lgD c_lgT) (addC 45 (orC c_lenF c_lenL) gh4))
theorem gh5_ok : PuOk Tryd.prog gl0 (gh5 std) := addC_ok (addC_ok (addC_ok gh4_ok ⟨_, Tryd.func45, rfl, by decide⟩ (orC_ok c_lenF_ok c_lenL_ok)) ⟨_, Tryd.func109, rfl, by decide⟩ (orC_ok c_lgD_ok c_lgT_ok)) ⟨_, Tryd.func107, rfl, by decide⟩ (orC_ok c_fxD_ok c_fxT_ok)
theorem rd_fix {n : Int} {B : List UInt8} (h : dOk n = true) (hk : dKd n < 3) : fRd n B = if B.length < (dSz n).toNat then ([], 0, 2) else if rr n (B.take (dSz n).toNat) = true then (B.take (dSz n).toNat, (dSz n).toNat, 0) else ([], 0, 3) := by
  have hb := dOk_b h
  have ha : fAh (dKd n) = 0 := fAh_0.2 hk
  have hz : fZ n B = (dSz n).toNat := if_pos hk
  rw [rd_go h (by omega) (fun e => by omega), hz, ha, if_neg (by omega), Nat.zero_add, List.drop_zero]
  by_cases hl : B.length < (dSz n).toNat
  · rw [if_pos hl, if_pos hl]
  · rw [if_neg hl, if_neg hl, rr_fix h hk]
    have : ((B.take (dSz n).toNat).length : Int) = dSz n := by rw [List.length_take]; omega
    rw [decide_eq_true this, Bool.true_and]
theorem rd_long {n : Int} {B : List UInt8} (h : dOk n = true) (hk : 3 ≤ dKd n) : fRd n B = if ¬lnE (fAh (dKd n)) (dSz n) B = 0 then ([], 0, lnE (fAh (dKd n)) (dSz n) B) else if B.length < fAh (dKd n) + lnV (fAh (dKd n)) (dSz n) B then ([], 0, 2)
    else if rr n ((B.drop (fAh (dKd n))).take (lnV (fAh (dKd n)) (dSz n) B)) = true then ((B.drop (fAh (dKd n))).take (lnV (fAh (dKd n)) (dSz n) B), fAh (dKd n) + lnV (fAh (dKd n)) (dSz n) B, 0) else ([], 0, 3) := by
  have hb := dOk_b h
  have ha : fAh (dKd n) = 2 ∨ fAh (dKd n) = 3 := by unfold fAh; rw [if_neg (by omega)]; split; exact .inr rfl; exact .inl rfl
  have hz : fZ n B = gVal (B.take (fAh (dKd n))) := if_neg (by omega)
  have hfd : fRd n B = if B.length < fAh (dKd n) then ([], 0, 2) else if ¬gErr (B.take (fAh (dKd n))) = 0 ∨ gVal (B.take (fAh (dKd n))) = 0 then ([], 0, 3) else if dSz n < (fZ n B : Int) then ([], 0, 4) else if B.length < fAh (dKd n) + fZ n B then ([], 0, 2) else if signs (dKd n) ((B.drop (fAh (dKd n))).take (fZ n B)) = true then ((B.drop (fAh (dKd n))).take (fZ n B), fAh (dKd n) + fZ n B, 0) else ([], 0, 3) := by
    unfold fRd; rw [if_neg (by rw [h]; simp)]; simp only [hk, true_and]
  generalize fAh (dKd n) = d at *
  have hrd : fRd n B = if B.length < d then ([], 0, 2) else if ¬gErr (B.take d) = 0 ∨ gVal (B.take d) = 0 then ([], 0, 3) else if dSz n < (fZ n B : Int) then ([], 0, 4) else if B.length < d + fZ n B then ([], 0, 2) else if signs (dKd n) ((B.drop d).take (fZ n B)) = true then ((B.drop d).take (fZ n B), d + fZ n B, 0) else ([], 0, 3) := hfd
  rw [hrd, hz]
  by_cases h1 : B.length < d
  · rw [if_pos h1, (ln_1 h1).1, if_pos (by decide)]
  · rw [if_neg h1]
    have hl : (B.take d).length = d := by rw [List.length_take]; omega
    by_cases h2 : gErr (B.take d) = 0
    · by_cases h3 : gVal (B.take d) = 0
      · rw [if_pos (.inr h3), (ln_3 h1 h2 h3).1, if_pos (by decide)]
      · rw [if_neg (fun e => e.elim (fun e => e h2) h3)]
        by_cases h4 : dSz n < (gVal (B.take d) : Int)
        · rw [if_pos h4, (ln_4 h1 h2 h3 h4).1, if_pos (by decide)]
        · have h5 := ln_5 h1 h2 h3 h4
          rw [if_neg h4, h5.1, h5.2, if_neg (show ¬¬(0 : Int) = 0 from fun e => e rfl)]
          by_cases h6 : B.length < d + gVal (B.take d)
          · rw [if_pos h6, if_pos h6]
          · rw [if_neg h6, if_neg h6, rr_long h (by omega)]
            have hq : ((B.drop d).take (gVal (B.take d))).length = gVal (B.take d) := by rw [List.length_take, List.length_drop]; omega
            rw [hq]
            have e1 : decide (1 ≤ ((gVal (B.take d) : Nat) : Int)) = true := by simp; omega
            have e2 : decide (((gVal (B.take d) : Nat) : Int) ≤ dSz n) = true := by simp; omega
            rw [e1, e2, Bool.true_and, Bool.true_and]
    · have h03 := gErr_03 (L := B.take d) (fun e => by rw [e] at hl; simp at hl; omega) (by omega)
      rw [if_pos (.inl h2), (ln_2 h1 h2).1, if_pos h2]
      rcases h03 with h03 | h03
      · exact absurd h03 h2
      · rw [h03]
noncomputable def iF2 : Nat → Option Func := addI 41 Tryd.f41 (addI 106 Tryd.f106 (addI 108 Tryd.f108 noI))
theorem iF2_ok : InOk Tryd.prog iF2 := addI_ok (addI_ok (addI_ok noI_ok Tryd.func108 (by kernel_rfl)) Tryd.func106 (by kernel_rfl)) Tryd.func41 (by kernel_rfl)
theorem lnV_le {d : Nat} {z : Int} {B : List UInt8} (hz : 0 ≤ z) : (lnV d z B : Int) ≤ z := by
  unfold lnV
  split
  · rename_i h
    unfold lnE at h
    split at h
    · cases h
    · split at h
      · rename_i h2; exact absurd h h2
      · split at h
        · cases h
        · split at h
          · cases h
          · omega
  · exact hz
theorem rdF {n : Int} {B : List UInt8} (h : dOk n = true) (hk : dKd n < 3) : ((B.length : Int) < IntKind.i64.wrap (dSz n) → fRd n B = ([], 0, 2)) ∧ (IntKind.i64.wrap (dSz n) ≤ (B.length : Int) → strOfS (IntKind.i64.wrap (dSz n)).toNat (fun i => rowF eB 0 std (fun _ => B) i) = B.take (dSz n).toNat ∧ IntKind.i64.wrap (dSz n) = (((dSz n).toNat : Nat) : Int) ∧
    (rr n (B.take (dSz n).toNat) = true → fRd n B = (B.take (dSz n).toNat, (dSz n).toNat, 0)) ∧ (rr n (B.take (dSz n).toNat) = false → fRd n B = ([], 0, 3)) ∧ (dSz n).toNat ≤ B.length) := by
  have hb := dOk_b h
  have hw : IntKind.i64.wrap (dSz n) = dSz n := w64 (by omega)
  rw [hw, rd_fix h hk]
  refine ⟨fun hl => by rw [if_pos (by omega)], fun hl => ⟨cutS B (by omega), by omega, fun hr => ?_, fun hr => ?_, by omega⟩⟩
  · rw [if_neg (by omega), if_pos hr]
  · rw [if_neg (by omega), if_neg (by rw [hr]; simp)]
theorem rdL {n : Int} {B : List UInt8} {d : Nat} {D : Int} (hD : D = (d : Int)) (hd : fAh (dKd n) = d) (h : dOk n = true) (hk : 3 ≤ dKd n) : (¬lnE d (dSz n) B = 0 → fRd n B = ([], 0, lnE d (dSz n) B)) ∧ (lnE d (dSz n) B = 0 → (B.length : Int) < IntKind.i64.wrap (D + (lnV d (dSz n) B : Int)) → fRd n B = ([], 0, 2)) ∧
    (lnE d (dSz n) B = 0 → IntKind.i64.wrap (D + (lnV d (dSz n) B : Int)) ≤ (B.length : Int) → strOfS ((IntKind.i64.wrap (D + (lnV d (dSz n) B : Int))).toNat - d) (fun i => rowF eB 0 std (fun _ => B) (d + i)) = (B.drop d).take (lnV d (dSz n) B) ∧ IntKind.i64.wrap (D + (lnV d (dSz n) B : Int)) = ((d + lnV d (dSz n) B : Nat) : Int) ∧
    (rr n ((B.drop d).take (lnV d (dSz n) B)) = true → fRd n B = ((B.drop d).take (lnV d (dSz n) B), d + lnV d (dSz n) B, 0)) ∧ (rr n ((B.drop d).take (lnV d (dSz n) B)) = false → fRd n B = ([], 0, 3)) ∧ d + lnV d (dSz n) B ≤ B.length) := by
  have hb := dOk_b h
  have hv := lnV_le (d := d) (z := dSz n) (B := B) (by omega)
  have hd3 := fAh_le (dKd n)
  have hw : IntKind.i64.wrap (D + (lnV d (dSz n) B : Int)) = ((d + lnV d (dSz n) B : Nat) : Int) := (w64 (by omega)).trans (by omega)
  rw [hw, rd_long h hk, hd]
  refine ⟨fun he => by rw [if_pos he], fun he hl => ?_, fun he hl => ⟨?_, rfl, fun hr => ?_, fun hr => ?_, by omega⟩⟩
  · rw [if_neg (fun e => e he), if_pos (by omega)]
  · rw [show ((d + lnV d (dSz n) B : Nat) : Int).toNat - d = lnV d (dSz n) B by omega]
    exact cutS' B (by omega)
  · rw [if_neg (fun e => e he), if_neg (by omega), if_pos hr]
  · rw [if_neg (fun e => e he), if_neg (by omega), if_neg (by rw [hr]; simp)]
theorem len_cut {B : List UInt8} {a z : Nat} (h : B.length ≤ 1000000) : ((B.drop a).take z).length ≤ 1000000 := by rw [List.length_take, List.length_drop]; omega
theorem len_cut0 {B : List UInt8} {z : Nat} (h : B.length ≤ 1000000) : (B.take z).length ≤ 1000000 := by rw [List.length_take]; omega
theorem good_gRead (n : Int) (B : List UInt8) (hB : B.length ≤ 1000000) : GoodP Tryd.prog gl0 28 [.int .i64 n, rowS eB 0 1 std fun _ => B] (.tup [.str (std.ts fun _ => (fRd n B).1), .int .i64 (std.ti fun _ => ((fRd n B).2.1 : Int)), .int .i64 (std.ti fun _ => (fRd n B).2.2)]) := by
  refine fn_sound' (T := seatT) (G := gh5) (X := xF) seatT_ok gh5_ok xF_ok iF2_ok mixed Tryd.func28 (.one) (fun A => [.int .i64 n, rowS eB 0 1 A fun _ => B]) (fun A => .tup [.str (A.ts fun _ => (fRd n B).1), .int .i64 (A.ti fun _ => ((fRd n B).2.1 : Int)), .int .i64 (A.ti fun _ => (fRd n B).2.2)]) fun A hA => ?_
  cbv
  repeat' (first | with_reducible exact True.intro | with_reducible exact dr_ok hA (by kernel_rfl) | with_reducible refine And.intro ?_ ?_ | (intro hc; cbv))
  all_goals (subst hA; simp [-List.getD_eq_getElem?_getD, std_add, std_sub, std_mul, std_quo, std_rem, std_band, std_bor, std_bxor, std_shl, std_shr, std_eq, std_ne, std_lt, std_le, std_conv, std_not, std_beq, std_bne, std_ite, std_want, std_and2, std_sadd, std_seq, std_sne, std_slt, std_sle, std_sgt, std_sge, std_slen, std_sget, std_scut, std_ofNat, std_toNat, std_nsub, std_nadd, std_lenOf, std_nz, std_nneg, std_inb, std_upto, std_slt63, std_grow, std_imp, std_impN, std_tr, std_tb, std_ti, std_ts, std_tn, std_tp, std_nmin, std_makes, std_room, std_zeros, std_nilq, std_notq, std_eqi, std_eqn, std_eqb, std_eqs, std_eqv, std_cat, std_lst, std_rset, std_rcopy, std_shift, std_eqr, std_strOf, std_bytesOf, std_isB, std_zOf, zOf_int, std_isI, isI_int, std_getL, std_nmul, std_sOf, sOf_str, std_isS, isS_str, strOf_lit, lstOf_lit inj_eB, lstOf_lit inj_eZ, lstOf_lit inj_eBs, lstOf_lit inj_eS, isRow_lit, isB_lit, isRow_nil, lstOf_nil inj_eB, lstOf_nil inj_eZ, lstOf_nil inj_eBs, lstOf_nil inj_eS, isB_any, isB_any'] at *)
  all_goals first
    | assumption
    | (rw [rd_no (by assumption)]; done)
    | (rw [rd_no (by assumption)]; rfl)
    | (have h : dOk n = true := by assumption
       have hb := dOk_b h
       have hk : dKd n < 3 := by omega
       have hL := rdF (B := B) h hk
       first
         | (rw [hL.1 hc]; done)
         | (rw [hL.1 hc]; rfl)
         | (obtain ⟨c1, c2, c3, c4, c5⟩ := hL.2 (by assumption)
            first
              | (rw [c2]; constructor <;> omega)
              | (rw [c2]; omega)
              | (rw [c1]; exact len_cut0 hB)
              | (simp only [c1] at hc
                 have hr : rr n (B.take (dSz n).toNat) = false := by first | exact rr_f1 h (by omega) (by assumption) | exact rr_f2 h (by omega) (by assumption)
                 rw [c4 hr]
                 first | done | rfl)
              | (simp only [c1] at hc
                 have hr : rr n (B.take (dSz n).toNat) = true := by first | exact (rr_of1 h (by omega)).2 (by assumption) | exact (rr_of2 h (by omega)).2 (by assumption)
                 rw [c3 hr]
                 first | done | rfl | exact c1 | exact c2)))
    | (have h : dOk n = true := by assumption
       have hb := dOk_b h
       have hk : 3 ≤ dKd n := by omega
       have hd : fAh (dKd n) = 2 := by unfold fAh; rw [if_neg (by omega), if_neg (by omega)]
       have hL := rdL (B := B) (d := 2) (D := 2) rfl hd h hk
       first
         | (rw [hL.1 hc]; done)
         | (rw [hL.1 hc]; rfl)
         | (rw [hL.2.1 (by assumption) hc]; done)
         | (rw [hL.2.1 (by assumption) hc]; rfl)
         | exact ⟨⟨hb.2.2.1, hb.2.2.2.1⟩, hB⟩
         | (obtain ⟨c1, c2, c3, c4, c5⟩ := hL.2.2 (by assumption) (by assumption)
            first
              | (rw [c2]; constructor <;> omega)
              | (rw [c2]; omega)
              | (rw [c1]; exact len_cut hB)
              | (simp only [c1] at hc
                 have hr : rr n ((B.drop 2).take (lnV 2 (dSz n) B)) = false := by first | exact rr_f3 h (by omega) (by assumption) | exact rr_f4 h (by omega) (by assumption)
                 rw [c4 hr]
                 first | done | rfl)
              | (simp only [c1] at hc
                 have hr : rr n ((B.drop 2).take (lnV 2 (dSz n) B)) = true := by first | exact (rr_of3 h (by omega)).2 (by assumption) | exact (rr_of4 h (by omega)).2 (by assumption)
                 rw [c3 hr]
                 first | done | rfl | exact c1 | exact c2)))
    | (have h : dOk n = true := by assumption
       have hb := dOk_b h
       have hk : 3 ≤ dKd n := by omega
       have hd : fAh (dKd n) = 3 := by unfold fAh; rw [if_neg (by omega), if_pos (by omega)]
       have hL := rdL (B := B) (d := 3) (D := 3) rfl hd h hk
       first
         | (rw [hL.1 hc]; done)
         | (rw [hL.1 hc]; rfl)
         | (rw [hL.2.1 (by assumption) hc]; done)
         | (rw [hL.2.1 (by assumption) hc]; rfl)
         | exact ⟨⟨hb.2.2.1, hb.2.2.2.1⟩, hB⟩
         | (obtain ⟨c1, c2, c3, c4, c5⟩ := hL.2.2 (by assumption) (by assumption)
            first
              | (rw [c2]; constructor <;> omega)
              | (rw [c2]; omega)
              | (rw [c1]; exact len_cut hB)
              | (simp only [c1] at hc
                 have hr : rr n ((B.drop 3).take (lnV 3 (dSz n) B)) = false := by first | exact rr_f3 h (by omega) (by assumption) | exact rr_f4 h (by omega) (by assumption)
                 rw [c4 hr]
                 first | done | rfl)
              | (simp only [c1] at hc
                 have hr : rr n ((B.drop 3).take (lnV 3 (dSz n) B)) = true := by first | exact (rr_of3 h (by omega)).2 (by assumption) | exact (rr_of4 h (by omega)).2 (by assumption)
                 rw [c3 hr]
                 first | done | rfl | exact c1 | exact c2)))
    | trace_state
end Go.Vd
