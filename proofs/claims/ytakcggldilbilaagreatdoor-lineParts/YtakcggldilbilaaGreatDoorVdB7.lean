/- DigitBack's answer. -/
import Derived.Test.YtakcggldilbilaaGreatDoorVdH7
import Derived.Test.YtakcggldilbilaaGreatDoorVdG4
import Derived.Test.YtakcggldilbilaaGreatDoorVdEnc
import Derived.Test.YtakcggldilbilaaGreatDoorVdSimp
set_option linter.unusedVariables false
set_option linter.unusedSimpArgs false
set_option maxRecDepth 100000
set_option maxHeartbeats 2000000
namespace Go.Vd
open Go.Proofs
def kOf (n : Int) : Nat := n.toNat % 19 + 1
theorem kOf_eq {n : Int} (h : 0 ≤ n ∧ n < 256) : IntKind.i64.wrap ((IntKind.i64.wrap n).tmod 19 + 1) = (kOf n : Int) := by
  rw [w64 (n := n) (by omega), Int.tmod_eq_emod_of_nonneg h.1, w64 (by omega)]
  unfold kOf
  omega
theorem kOf_le (n : Int) : 1 ≤ kOf n ∧ kOf n ≤ 19 := by unfold kOf; omega
theorem p19' {k : Nat} (h : k ≤ 19) : 10 ^ k ≤ 10000000000000000000 := p19 h
theorem pu_ok {v : Int} {k : Nat} (hv : 0 ≤ v) (hk : 1 ≤ k ∧ k ≤ 19) (h : puE v k = 0) : puS v k = decs k v.toNat ∧ v.toNat < 10 ^ k := by
  have h1 : ¬((k : Int) < 1 ∨ 19 < (k : Int)) := by omega
  by_cases h2 : 10 ^ (k : Int).toNat ≤ v.toNat
  · rw [(pu2 h1 h2).2] at h; omega
  · rw [(pu3 h1 h2).1, Int.toNat_natCast]
    rw [Int.toNat_natCast] at h2
    exact ⟨rfl, by omega⟩
theorem get_decs {k V : Nat} (hk : 1 ≤ k ∧ k ≤ 19) (h : V < 10 ^ k) : gErr (decs k V) = 0 ∧ gVal (decs k V) = V := by
  have h1 := gE3 (L := decs k V) (by rw [decs_len]; omega) (decs_is hk.1)
  rw [h1.2, dVal_decs, Nat.mod_eq_of_lt h]
  exact ⟨h1.1, rfl⟩
theorem get_no {L : List UInt8} (h : ¬gErr L = 0) : gVal L = 0 := by
  by_cases h0 : L = []
  · exact (gE0 h0).2
  · by_cases h1 : 19 < L.length
    · exact (gE1 h0 h1).2
    · cases h2 : isD L
      · exact (gE2 h0 h1 h2).2
      · exact absurd (gE3 h1 h2).1 h
theorem get_yes {L : List UInt8} (h : gErr L = 0) : isD L = true ∧ 1 ≤ L.length ∧ L.length ≤ 19 ∧ gVal L = dVal L ∧ dVal L < 10 ^ L.length := by
  by_cases h0 : L = []
  · rw [(gE0 h0).1] at h; omega
  · by_cases h1 : 19 < L.length
    · rw [(gE1 h0 h1).1] at h; omega
    · cases h2 : isD L
      · rw [(gE2 h0 h1 h2).1] at h; omega
      · have := List.length_pos_iff.2 h0
        exact ⟨rfl, this, by omega, (gE3 h1 h2).2, dVal_lt L (isD_iff.1 h2).2⟩
theorem get_put {L : List UInt8} (h : gErr L = 0) : puE (gVal L : Int) (L.length : Int) = 0 ∧ puS (gVal L : Int) (L.length : Int) = L := by
  obtain ⟨h1, h2, h3, h4, h5⟩ := get_yes h
  have h6 := pu3 (v := (gVal L : Int)) (n := (L.length : Int)) (by omega) (by rw [Int.toNat_natCast, Int.toNat_natCast, h4]; omega)
  rw [h6.1, h6.2, Int.toNat_natCast, Int.toNat_natCast, h4, decs_dVal L (isD_iff.1 h1).2]
  exact ⟨rfl, rfl⟩
theorem get_lt (L : List UInt8) : gVal L < 18446744073709551616 := by
  by_cases h : gErr L = 0
  · obtain ⟨h1, h2, h3, h4, h5⟩ := get_yes h
    have := p19 h3
    omega
  · rw [get_no h]; omega
theorem get_put_pre {L : List UInt8} (h : gErr L = 0) : ((gVal L : Nat) : Int) < 18446744073709551616 ∧ ((L.length : Nat) : Int) < 9223372036854775808 := by
  have h1 := get_lt L
  have h2 := get_yes h
  exact ⟨by omega, by omega⟩
theorem put_lt {v w : Int} (hv : 0 ≤ v) (hw : 0 ≤ w) {k : Nat} (hk : 1 ≤ k ∧ k ≤ 19) (h : puE v k = 0) (h' : puE w k = 0) : Op.bytesLess (puS v k) (puS w k) = decide (v < w) := by
  obtain ⟨e1, l1⟩ := pu_ok hv hk h
  obtain ⟨e2, l2⟩ := pu_ok hw hk h'
  rw [bytesLess_eq, e1, e2, decide_eq_decide, decs_lt l1 l2]
  omega
theorem pu_all {v : Int} {k : Nat} (hv : 0 ≤ v) (hk : 1 ≤ k ∧ k ≤ 19) (h : puE v k = 0) : gErr (puS v k) = 0 ∧ ((gVal (puS v k) : Nat) : Int) = v ∧ (puS v k).length = k ∧ isD (puS v k) = true := by
  obtain ⟨e1, l1⟩ := pu_ok hv hk h
  obtain ⟨h1, h2⟩ := get_decs hk l1
  rw [e1, h1, h2, decs_len]
  exact ⟨rfl, by omega, rfl, decs_is hk.1⟩
end Go.Vd

set_option linter.unusedVariables false
set_option linter.unusedSimpArgs false
set_option maxRecDepth 100000
set_option maxHeartbeats 4000000
namespace Go.Vd
open Go.Proofs
theorem mx {a b : Nat} : (a : Int) < max (((a + b : Nat) : Int)) 0 + 1 := by omega
theorem mx0 {a z : Nat} (h : a = 0) : (a : Int) < max ((z : Nat) : Int) 0 + 1 := by omega
theorem gv_le {a : Nat} {B : List UInt8} (ha : a ≤ 3) : gVal (B.take a) ≤ 999 := by
  by_cases h : gErr (B.take a) = 0
  · obtain ⟨h1, h2, h3, h4, h5⟩ := get_yes h
    have hl : (B.take a).length ≤ 3 := by rw [List.length_take]; omega
    have := Nat.pow_le_pow_right (n := 10) (by omega) hl
    omega
  · rw [get_no h]; omega
theorem rdR {n : Int} {B : List UInt8} (h : dOk n = true) (hk : 3 ≤ dKd n) (hB : B.length ≤ 1000000) (hle : fAh (dKd n) ≤ B.length) :
    strOfS (fAh (dKd n)) (rowF eB 0 std fun _ => B) = B.take (fAh (dKd n)) ∧ IntKind.i64.wrap (gVal (B.take (fAh (dKd n))) : Int) = (gVal (B.take (fAh (dKd n))) : Int) ∧
    (¬gErr (B.take (fAh (dKd n))) = 0 ∨ gVal (B.take (fAh (dKd n))) = 0 → fRd n B = ([], 0, 3)) ∧
    (gErr (B.take (fAh (dKd n))) = 0 ∧ ¬gVal (B.take (fAh (dKd n))) = 0 → dSz n < (gVal (B.take (fAh (dKd n))) : Int) → fRd n B = ([], 0, 4)) ∧
    (gErr (B.take (fAh (dKd n))) = 0 ∧ ¬gVal (B.take (fAh (dKd n))) = 0 → (gVal (B.take (fAh (dKd n))) : Int) ≤ dSz n → IntKind.i64.wrap ((B.length : Int) - (fAh (dKd n) : Int)) < (gVal (B.take (fAh (dKd n))) : Int) → fRd n B = ([], 0, 2)) ∧
    (gErr (B.take (fAh (dKd n))) = 0 ∧ ¬gVal (B.take (fAh (dKd n))) = 0 → (gVal (B.take (fAh (dKd n))) : Int) ≤ dSz n → (gVal (B.take (fAh (dKd n))) : Int) ≤ IntKind.i64.wrap ((B.length : Int) - (fAh (dKd n) : Int)) →
      IntKind.i64.wrap ((fAh (dKd n) : Int) + (gVal (B.take (fAh (dKd n))) : Int)) = ((fAh (dKd n) + gVal (B.take (fAh (dKd n))) : Nat) : Int) ∧
      strOfS ((IntKind.i64.wrap ((fAh (dKd n) : Int) + (gVal (B.take (fAh (dKd n))) : Int))).toNat - fAh (dKd n)) (fun i => rowF eB 0 std (fun _ => B) (fAh (dKd n) + i)) = (B.drop (fAh (dKd n))).take (gVal (B.take (fAh (dKd n)))) ∧
      (signs (dKd n) ((B.drop (fAh (dKd n))).take (gVal (B.take (fAh (dKd n))))) = false → fRd n B = ([], 0, 3)) ∧
      (signs (dKd n) ((B.drop (fAh (dKd n))).take (gVal (B.take (fAh (dKd n))))) = true → fRd n B = ((B.drop (fAh (dKd n))).take (gVal (B.take (fAh (dKd n)))), fAh (dKd n) + gVal (B.take (fAh (dKd n))), 0)) ∧ fAh (dKd n) + gVal (B.take (fAh (dKd n))) ≤ B.length) := by
  have ha := fAh_le (dKd n)
  have hv := gv_le (B := B) ha
  have hz : fZ n B = gVal (B.take (fAh (dKd n))) := if_neg (by omega)
  have hw : IntKind.i64.wrap ((B.length : Int) - (fAh (dKd n) : Int)) = (B.length : Int) - (fAh (dKd n) : Int) := w64 (by omega)
  have hw2 : IntKind.i64.wrap ((fAh (dKd n) : Int) + (gVal (B.take (fAh (dKd n))) : Int)) = ((fAh (dKd n) + gVal (B.take (fAh (dKd n))) : Nat) : Int) := (w64 (by omega)).trans (by omega)
  rw [hw, hw2]
  have hgo : gErr (B.take (fAh (dKd n))) = 0 ∧ ¬gVal (B.take (fAh (dKd n))) = 0 → _ := fun hp => rd_go (B := B) h (by omega) (fun _ => hp)
  rw [hz] at hgo
  refine ⟨cutS B hle, w64 (by omega), fun hb => rd_f1 h (by omega) hk hb, fun hp hl => ?_, fun hp hl hs => ?_, fun hp hl hs => ⟨rfl, ?_, fun hs => ?_, fun hs => ?_, by omega⟩⟩
  · rw [hgo hp, if_pos hl]
  · rw [hgo hp, if_neg (by omega), if_pos (by omega)]
  · rw [show ((fAh (dKd n) + gVal (B.take (fAh (dKd n))) : Nat) : Int).toNat - fAh (dKd n) = gVal (B.take (fAh (dKd n))) by omega]
    exact cutS' B (by omega)
  · rw [hgo hp, if_neg (by omega), if_neg (by omega), if_neg (by rw [hs]; simp)]
  · rw [hgo hp, if_neg (by omega), if_neg (by omega), if_pos hs]
theorem rdR0 {n : Int} {B : List UInt8} (h : dOk n = true) (hk : dKd n < 3) (hB : B.length ≤ 1000000) :
    (IntKind.i64.wrap ((B.length : Int) - (fAh (dKd n) : Int)) < dSz n → fRd n B = ([], 0, 2)) ∧
    (dSz n ≤ IntKind.i64.wrap ((B.length : Int) - (fAh (dKd n) : Int)) →
      IntKind.i64.wrap ((fAh (dKd n) : Int) + dSz n) = (((dSz n).toNat : Nat) : Int) ∧
      strOfS ((IntKind.i64.wrap ((fAh (dKd n) : Int) + dSz n)).toNat - fAh (dKd n)) (fun i => rowF eB 0 std (fun _ => B) (fAh (dKd n) + i)) = B.take (dSz n).toNat ∧
      (signs (dKd n) (B.take (dSz n).toNat) = false → fRd n B = ([], 0, 3)) ∧
      (signs (dKd n) (B.take (dSz n).toNat) = true → fRd n B = (B.take (dSz n).toNat, (dSz n).toNat, 0)) ∧ (dSz n).toNat ≤ B.length) := by
  have ha : fAh (dKd n) = 0 := fAh_0.2 hk
  have hb := dOk_b h
  rw [ha]
  have hw : IntKind.i64.wrap ((B.length : Int) - ((0 : Nat) : Int)) = (B.length : Int) := (w64 (by omega)).trans (by omega)
  have hw2 : IntKind.i64.wrap (((0 : Nat) : Int) + dSz n) = (((dSz n).toNat : Nat) : Int) := (w64 (by omega)).trans (by omega)
  rw [hw, hw2, rd_fix h hk]
  refine ⟨fun hl => by rw [if_pos (by omega)], fun hl => ?_⟩
  have hlen : ((B.take (dSz n).toNat).length : Int) = dSz n := by rw [List.length_take]; omega
  rw [if_neg (by omega), rr_fix h hk, decide_eq_true hlen, Bool.true_and]
  refine ⟨rfl, ?_, fun hs => by rw [if_neg (by rw [hs]; simp)], fun hs => by rw [if_pos hs], by omega⟩
  rw [Int.toNat_natCast, Nat.sub_zero]
  have := cutS' B (a := 0) (z := (dSz n).toNat) (by omega)
  rw [List.drop_zero] at this
  exact this
theorem good_rRead (n : Int) (B : List UInt8) (hB : B.length ≤ 1000000) : GoodP Tryz.prog gl0 96 [.int .i64 n, rowS eB 0 1 std fun _ => B] (.tup [.str (std.ts fun _ => (fRd n B).1), .int .i64 (std.ti fun _ => ((fRd n B).2.1 : Int)), .int .i64 (std.ti fun _ => (fRd n B).2.2)]) := by
  refine fn_sound' (T := seatT) (G := gh4) (X := noX) seatT_ok gh4_ok noX_ok noI_ok mixed Tryz.func96 (.one) (fun A => [.int .i64 n, rowS eB 0 1 A fun _ => B]) (fun A => .tup [.str (A.ts fun _ => (fRd n B).1), .int .i64 (A.ti fun _ => ((fRd n B).2.1 : Int)), .int .i64 (A.ti fun _ => (fRd n B).2.2)]) fun A hA => ?_
  cbv
  repeat' (first | with_reducible exact True.intro | with_reducible exact dr_ok hA (by kernel_rfl) | with_reducible refine And.intro ?_ ?_ | (intro hc; cbv))
  all_goals (subst hA; simp [-List.getD_eq_getElem?_getD, std_add, std_sub, std_mul, std_quo, std_rem, std_band, std_bor, std_bxor, std_shl, std_shr, std_eq, std_ne, std_lt, std_le, std_conv, std_not, std_beq, std_bne, std_ite, std_want, std_and2, std_sadd, std_seq, std_sne, std_slt, std_sle, std_sgt, std_sge, std_slen, std_sget, std_scut, std_ofNat, std_toNat, std_nsub, std_nadd, std_lenOf, std_nz, std_nneg, std_inb, std_upto, std_slt63, std_grow, std_imp, std_impN, std_tr, std_tb, std_ti, std_ts, std_tn, std_tp, std_nmin, std_makes, std_room, std_zeros, std_nilq, std_notq, std_eqi, std_eqn, std_eqb, std_eqs, std_eqv, std_cat, std_lst, std_rset, std_rcopy, std_shift, std_eqr, std_strOf, std_bytesOf, std_isB, std_zOf, zOf_int, std_isI, isI_int, std_getL, std_nmul, std_sOf, sOf_str, std_isS, isS_str, strOf_lit, lstOf_lit inj_eB, lstOf_lit inj_eZ, lstOf_lit inj_eBs, lstOf_lit inj_eS, isRow_lit, isB_lit, isRow_nil, lstOf_nil inj_eB, lstOf_nil inj_eZ, lstOf_nil inj_eBs, lstOf_nil inj_eS, isB_any, isB_any'] at *)
  all_goals first
    | assumption
    | (rw [rd_no (by assumption)]; done)
    | (rw [rd_no (by assumption)]; rfl)
    | (have h : dOk n = true := by assumption
       have hk0 : ¬fAh (dKd n) = 0 := by omega
       have hk : 3 ≤ dKd n := by rw [fAh_0] at hk0; omega
       first
         | (rw [rd_s1 h (by assumption)]; done)
         | (rw [rd_s1 h (by assumption)]; rfl)
         | exact Int.ofNat_lt.2 (Nat.lt_succ_of_le (by assumption))
         | (obtain ⟨c1, c2, c3, c4, c5, c6⟩ := rdR h hk hB (by assumption)
            simp only [c1, c2] at *
            first
              | (rw [c3 (by assumption)]; done)
              | (rw [c3 (by assumption)]; rfl)
              | (rw [c4 (by assumption) (by assumption)]; done)
              | (rw [c4 (by assumption) (by assumption)]; rfl)
              | (rw [c5 (by assumption) (by assumption) (by assumption)]; done)
              | (rw [c5 (by assumption) (by assumption) (by assumption)]; rfl)
              | (obtain ⟨q1, q2, q3, q4, q5⟩ := c6 (by assumption) (by assumption) (by assumption)
                 first
                   | (rw [q1]; constructor <;> omega)
                   | (rw [q1]; exact mx)
                   | (rw [q1]; omega)
                   | (rw [q2]; exact len_cut hB)
                   | (simp only [q2] at hc
                      rw [q3 hc]
                      first | done | rfl)
                   | (simp only [q2] at hc
                      rw [q4 hc]
                      first | done | rfl | exact q2 | exact q1))))
    | (have h : dOk n = true := by assumption
       have hk : dKd n < 3 := fAh_0.1 (by assumption)
       have hL := rdR0 (B := B) h hk hB
       first
         | (rw [hL.1 (by assumption)]; done)
         | (rw [hL.1 (by assumption)]; rfl)
         | (obtain ⟨q1, q2, q3, q4, q5⟩ := hL.2 (by assumption)
            first
              | (rw [q1]; constructor <;> omega)
              | (rw [q1]; exact mx0 (fAh_0.2 hk))
              | (rw [q1]; omega)
              | (rw [q2]; exact len_cut0 hB)
              | (simp only [q2] at hc
                 rw [q3 hc]
                 first | done | rfl)
              | (simp only [q2] at hc
                 rw [q4 hc]
                 first | done | rfl | exact q2 | exact q1)))
    | trace_state
end Go.Vd

set_option linter.unusedVariables false
set_option linter.unusedSimpArgs false
set_option maxRecDepth 100000
set_option maxHeartbeats 4000000
namespace Go.Vd
open Go.Proofs
theorem fWr_fWx {n : Int} {L : List UInt8} (hr : rr n L = true) : fWr n L = fWx n L := by
  by_cases hk : dKd n < 3
  · rw [(we_fix hr hk).2]; unfold fWx; rw [if_pos hk]
  · rw [(we_long hr (by omega)).2, ← (pu_len hr (by omega)).2]; unfold fWx; rw [if_neg hk]
theorem fAh_long {k : Int} (h : 3 ≤ k) : fAh k = 2 ∨ fAh k = 3 := by unfold fAh; rw [if_neg (by omega)]; split; exact .inr rfl; exact .inl rfl
/-- A value that is written, as what is read. -/
theorem w_fix {n : Int} {s : List UInt8} (hr : rr n s = true) (hk : dKd n < 3) : s.length = (dSz n).toNat ∧ 1 ≤ s.length := by
  obtain ⟨h1, h2, h3, h4, h5⟩ := rr_ok hr
  have := h4 hk
  have := dOk_b h1
  omega
theorem w_long {n : Int} {s : List UInt8} (hr : rr n s = true) (hk : 3 ≤ dKd n) : 1 ≤ s.length ∧ s.length < 10 ^ fAh (dKd n) ∧ (s.length : Int) ≤ dSz n := by
  obtain ⟨h1, h2, h3, h4, h5⟩ := rr_ok hr
  have hb := dOk_b h1
  have := List.length_pos_iff.2 h2
  refine ⟨this, ?_, h3⟩
  unfold fAh
  rw [if_neg (by omega)]
  split
  · omega
  · have := hb.2.2.2.2.2.2 (by omega); omega
theorem ln_put {d : Nat} {z : Int} {V : Nat} {C : List UInt8} (hd : d = 2 ∨ d = 3) (h1 : 1 ≤ V) (h2 : V < 10 ^ d) (h3 : (V : Int) ≤ z) : lnE d z (decs d V ++ C) = 0 ∧ lnV d z (decs d V ++ C) = V := by
  have ht : (decs d V ++ C).take d = decs d V := by rw [List.take_append_of_le_length (by rw [decs_len]; omega), List.take_of_length_le (by rw [decs_len]; omega)]
  have hg := get_decs (k := d) (V := V) (by omega) h2
  have := ln_5 (d := d) (z := z) (B := decs d V ++ C) (by rw [List.length_append, decs_len]; omega) (by rw [ht]; exact hg.1) (by rw [ht, hg.2]; omega) (by rw [ht, hg.2]; omega)
  rw [ht, hg.2] at this
  exact this
theorem fR_back {n : Int} {s : List UInt8} (hr : rr n s = true) (B : List UInt8) : fRd n (fWr n s ++ B) = (s, (fWr n s).length, 0) := by
  have h := (rr_ok hr).1
  by_cases hk : dKd n < 3
  · have hw := w_fix hr hk
    rw [(we_fix hr hk).2, rd_fix h hk, if_neg (by rw [List.length_append]; omega)]
    have ht : (s ++ B).take (dSz n).toNat = s := by rw [List.take_append_of_le_length (by omega), List.take_of_length_le (by omega)]
    rw [ht, if_pos hr, hw.1]
  · have hk : 3 ≤ dKd n := by omega
    have hw := w_long hr hk
    have hd := fAh_long hk
    rw [(we_long hr hk).2, rd_long h hk, List.append_assoc]
    obtain ⟨e1, e2⟩ := ln_put (d := fAh (dKd n)) (C := s ++ B) hd hw.1 hw.2.1 hw.2.2
    rw [e1, e2, if_neg (show ¬¬(0 : Int) = 0 from fun e => e rfl), if_neg (by simp [decs_len])]
    have ht : ((decs (fAh (dKd n)) s.length ++ (s ++ B)).drop (fAh (dKd n))).take s.length = s := by
      rw [List.drop_append_of_le_length (by rw [decs_len]; omega), List.drop_of_length_le (by rw [decs_len]; omega), List.nil_append, List.take_append_of_le_length (by omega), List.take_of_length_le (by omega)]
    rw [ht, if_pos hr, List.length_append, decs_len]
theorem fR_cut {n : Int} {s : List UInt8} (hr : rr n s = true) {c : Nat} (hc : c < (fWr n s).length) : (fRd n ((fWr n s).take c)).2.2 = 2 := by
  have h := (rr_ok hr).1
  have hl : ((fWr n s).take c).length = c := by rw [List.length_take]; omega
  by_cases hk : dKd n < 3
  · have hw := w_fix hr hk
    rw [(we_fix hr hk).2] at hc hl ⊢
    rw [rd_fix h hk, if_pos (by omega)]
  · have hk : 3 ≤ dKd n := by omega
    have hw := w_long hr hk
    have hd := fAh_long hk
    rw [rd_long h hk]
    by_cases h1 : c < fAh (dKd n)
    · rw [(ln_1 (by rw [hl]; exact h1)).1, if_pos (by decide)]
    · rw [(we_long hr hk).2] at hc hl ⊢
      have ht : (decs (fAh (dKd n)) s.length ++ s).take c = decs (fAh (dKd n)) s.length ++ s.take (c - fAh (dKd n)) := by
        rw [List.take_append, List.take_of_length_le (by rw [decs_len]; omega), decs_len]
      rw [ht] at hl ⊢
      obtain ⟨e1, e2⟩ := ln_put (d := fAh (dKd n)) (C := s.take (c - fAh (dKd n))) hd hw.1 hw.2.1 hw.2.2
      rw [List.length_append, decs_len] at hc
      rw [e1, e2, if_neg (show ¬¬(0 : Int) = 0 from fun e => e rfl), if_pos (by omega)]
theorem fR_bad {n : Int} {B : List UInt8} (h : ¬(fRd n B).2.2 = 0) : (fRd n B).1 = [] ∧ (fRd n B).2.1 = 0 := by
  unfold fRd at h ⊢
  repeat' split at h
  all_goals (first | exact absurd rfl h | skip)
  all_goals simp [*]
theorem fR_good {n : Int} {B : List UInt8} (h : (fRd n B).2.2 = 0) : rr n (fRd n B).1 = true ∧ (fRd n B).2.1 ≤ B.length ∧ 0 < (fRd n B).2.1 ∧ fWr n (fRd n B).1 = B.take (fRd n B).2.1 := by
  cases ho : dOk n
  · rw [rd_no ho] at h; cases h
  · have hb := dOk_b ho
    by_cases hk : dKd n < 3
    · rw [rd_fix ho hk] at h ⊢
      split at h
      · cases h
      · rename_i h1
        rw [if_neg h1]
        split at h
        · rename_i hr
          rw [if_pos hr]
          exact ⟨hr, by simp only; omega, by simp only; omega, (we_fix hr hk).2⟩
        · cases h
    · have hk : 3 ≤ dKd n := by omega
      have hd := fAh_long hk
      rw [rd_long ho hk] at h ⊢
      by_cases he : lnE (fAh (dKd n)) (dSz n) B = 0
      · rw [if_neg (fun e => e he)] at h ⊢
        split at h
        · cases h
        · rename_i h1
          rw [if_neg h1]
          split at h
          · rename_i hr
            rw [if_pos hr]
            refine ⟨hr, by simp only; omega, by simp only; omega, ?_⟩
            simp only
            have hV : lnV (fAh (dKd n)) (dSz n) B = gVal (B.take (fAh (dKd n))) := by unfold lnV; rw [if_pos he]
            have hg : gErr (B.take (fAh (dKd n))) = 0 := by
              unfold lnE at he
              split at he
              · cases he
              · split at he
                · rename_i h2; exact absurd he h2
                · rename_i h2; exact Classical.not_not.1 h2
            obtain ⟨g1, g2, g3, g4, g5⟩ := get_yes hg
            have hla : (B.take (fAh (dKd n))).length = fAh (dKd n) := by rw [List.length_take]; omega
            have hls : ((B.drop (fAh (dKd n))).take (lnV (fAh (dKd n)) (dSz n) B)).length = lnV (fAh (dKd n)) (dSz n) B := by rw [List.length_take, List.length_drop]; omega
            rw [(we_long hr hk).2, hls]
            have hdd : decs (fAh (dKd n)) (lnV (fAh (dKd n)) (dSz n) B) = B.take (fAh (dKd n)) := by
              have := decs_dVal (B.take (fAh (dKd n))) (isD_iff.1 g1).2
              rw [hla] at this
              rw [hV, g4, this]
            rw [hdd, List.take_add]
          · cases h
      · rw [if_pos he] at h
        exact absurd h he
noncomputable def c_gWrite : Ct := fun A args => match args with
  | [.int .i64 n, .str L] => some (some (A.tp fun _ => L.length ≤ 1000000), .tup [rowS eB 0 1 A fun _ => fWr n L, .int .i64 (A.ti fun _ => fWe n L)])
  | _ => none
noncomputable def c_rWrite : Ct := fun A args => match args with
  | [.int .i64 n, .str L] => some (some (A.tp fun _ => L.length ≤ 1000000), rowS eB 0 1 A fun _ => fWx n L)
  | _ => none
noncomputable def c_gRead : Ct := fun A args => match args with
  | [.int .i64 n, .slc m 1 f] => some (some (A.tp fun _ => isRow eB 0 1 m f ∧ m ≤ 1000000), .tup [.str (A.ts fun _ => (fRd n (lstOf eB 0 1 m f)).1), .int .i64 (A.ti fun _ => ((fRd n (lstOf eB 0 1 m f)).2.1 : Int)), .int .i64 (A.ti fun _ => (fRd n (lstOf eB 0 1 m f)).2.2)])
  | _ => none
noncomputable def c_rRead : Ct := fun A args => match args with
  | [.int .i64 n, .slc m 1 f] => some (some (A.tp fun _ => isRow eB 0 1 m f ∧ m ≤ 1000000), .tup [.str (A.ts fun _ => (fRd n (lstOf eB 0 1 m f)).1), .int .i64 (A.ti fun _ => ((fRd n (lstOf eB 0 1 m f)).2.1 : Int)), .int .i64 (A.ti fun _ => (fRd n (lstOf eB 0 1 m f)).2.2)])
  | _ => none
noncomputable def gh6 : Ar → Pu := addC 56 c_gWrite (addC 118 c_rWrite (addC 132 c_gRead (addC 96 c_rRead (gh4))))
theorem gh6_ok : PuOk Tryz.prog gl0 (gh6 std) := by
  refine addC_ok (addC_ok (addC_ok (addC_ok (gh4_ok) ⟨_, Tryz.func96, rfl, by decide⟩ ?_) ⟨_, Tryz.func132, rfl, by decide⟩ ?_) ⟨_, Tryz.func118, rfl, by decide⟩ ?_) ⟨_, Tryz.func56, rfl, by decide⟩ ?_
  · intro args p r h hp
    unfold c_rRead at h
    split at h <;> cases h
    exact good_sv (good_rRead _ _ (by rw [lstOf_length hp.1]; exact hp.2)) ⟨rfl, hp.1.sv, trivial⟩
  · intro args p r h hp
    unfold c_gRead at h
    split at h <;> cases h
    exact good_sv (good_gRead _ _ (by rw [lstOf_length hp.1]; exact hp.2)) ⟨rfl, hp.1.sv, trivial⟩
  · intro args p r h hp
    unfold c_rWrite at h
    split at h <;> cases h
    exact good_rWrite _ _ hp
  · intro args p r h hp
    unfold c_gWrite at h
    split at h <;> cases h
    exact good_gWrite _ _ hp
theorem fa1 : fWr 2 [52, 49] = [48, 50, 52, 49] ∧ fWe 2 [52, 49] = 0 ∧ fWe 11 [49, 50, 51, 52, 53] = 1 := by decide +kernel
theorem fa2 : fRd 2 [48, 50, 52, 49, 57] = ([52, 49], 4, 0) := by decide +kernel
theorem fa3 : dOk 48 = true ∧ dKd 48 = 5 ∧ dSz 48 = 999 ∧ rr 39 [48, 48] = true := by decide +kernel
theorem fq5 : Reps eB 0 1 5 (lstS [[SV.int .u8 48], [SV.int .u8 50], [SV.int .u8 52], [SV.int .u8 49], [SV.int .u8 57]]) [48, 50, 52, 49, 57] :=
  Reps.lst (l := [[SV.int .u8 48], [SV.int .u8 50], [SV.int .u8 52], [SV.int .u8 49], [SV.int .u8 57]]) ⟨cell_eB rfl, cell_eB rfl, cell_eB rfl, cell_eB rfl, cell_eB rfl, trivial⟩
theorem fl5 : lstOf eB 0 1 5 (lstS [[SV.int .u8 48], [SV.int .u8 50], [SV.int .u8 52], [SV.int .u8 49], [SV.int .u8 57]]) = [48, 50, 52, 49, 57] := lstOf_eq inj_eB fq5
theorem fr5 : isRow eB 0 1 5 (lstS [[SV.int .u8 48], [SV.int .u8 50], [SV.int .u8 52], [SV.int .u8 49], [SV.int .u8 57]]) := ⟨_, fq5⟩
theorem fs4 : strOfS 4 (rowF eB 0 std fun _ => [48, 50, 52, 49]) = [48, 50, 52, 49] := strOf_lit [48, 50, 52, 49]
noncomputable def gh7 : Ar → Pu := gh6
theorem gh7_ok : PuOk Tryz.prog gl0 (gh7 std) := by
  refine gh6_ok
end Go.Vd

set_option linter.unusedVariables false
set_option linter.unusedSimpArgs false
set_option maxRecDepth 100000
set_option maxHeartbeats 4000000
namespace Go.Vd
open Go.Proofs
abbrev It := Int × List UInt8
def eI : En It := fun A x => [.int .i64 (A.ti fun _ => (x ()).1), .str (A.ts fun _ => (x ()).2)]
theorem inj_eI : Inj eI 2 := fun x y h => by
  obtain ⟨s, h1, h2⟩ := h 0 (by omega)
  obtain ⟨t, h3, h4⟩ := h 1 (by omega)
  have h1 : Ceq s (.int .i64 x.1) := h1
  have h2 : Ceq s (.int .i64 y.1) := h2
  have h3 : Ceq t (.str x.2) := h3
  have h4 : Ceq t (.str y.2) := h4
  rw [Ceq.int] at h1 h2
  rw [Ceq.str] at h3 h4
  subst h1 h3
  injection h2 with _ h2
  injection h4 with h4
  exact Prod.ext h2 h4
theorem cell_eI (z : Int) (s : List UInt8) : ∀ j, j < 2 → Ceq (getAt [SV.int .i64 z, SV.str s] j) (getAt (eI std fun _ => (z, s)) j) := by
  intro j hj
  rcases (show j = 0 ∨ j = 1 by omega) with rfl | rfl
  · exact .refl _
  · exact .refl _
def mT (s : List UInt8) : Bool := [[48, 49, 48, 48], [48, 49, 49, 48], [48, 52, 48, 48], [48, 52, 49, 48], [48, 52, 50, 48], [48, 52, 50, 49], [48, 52, 51, 48]].contains s
def mOk (L : List It) (i : Nat) : Bool := (i == 0 || decide ((L.getD (i - 1) (0, [])).1 < (L.getD i (0, [])).1)) && rr (L.getD i (0, [])).1 (L.getD i (0, [])).2
def mUp (L : List It) (k : Nat) : Bool := (List.range k).all (mOk L)
def mR (T : List UInt8) (L : List It) : Bool := mT T && (!L.isEmpty && mUp L L.length)
theorem mUp_succ (L : List It) (k : Nat) : mUp L (k + 1) = (mUp L k && mOk L k) := by
  unfold mUp; rw [List.range_succ, List.all_append]; simp
theorem mUp_false {L : List It} {i : Nat} (hi : i < L.length) (h : mOk L i = false) : mUp L L.length = false := by
  unfold mUp
  rw [List.all_eq_false]
  exact ⟨i, List.mem_range.2 hi, by rw [h]; simp⟩
theorem mR_false {T : List UInt8} {L : List It} {i : Nat} (hi : i < L.length) (h : mOk L i = false) : mR T L = false := by
  unfold mR; rw [mUp_false hi h]; simp
theorem mR_head {T : List UInt8} {L : List It} (h : mT T = false ∨ L = []) : mR T L = false := by
  unfold mR
  rcases h with h | h
  · rw [h]; rfl
  · subst h; simp
theorem mOk_lo {L : List It} {i : Nat} (h0 : 0 < i) (h : (L.getD i (0, [])).1 ≤ (L.getD (i - 1) (0, [])).1) : mOk L i = false := by
  unfold mOk
  rw [decide_eq_false (by omega), show (i == 0) = false by (rw [beq_eq_false_iff_ne]; omega)]
  rfl
theorem mOk_rr {L : List It} {i : Nat} (h : rr (L.getD i (0, [])).1 (L.getD i (0, [])).2 = false) : mOk L i = false := by
  unfold mOk; rw [h]; simp
theorem mOk_yes {L : List It} {i : Nat} (h0 : 0 < i → (L.getD (i - 1) (0, [])).1 < (L.getD i (0, [])).1) (h : rr (L.getD i (0, [])).1 (L.getD i (0, [])).2 = true) : mOk L i = true := by
  unfold mOk
  rw [h]
  rcases Nat.eq_zero_or_pos i with h1 | h1
  · subst h1; rfl
  · rw [decide_eq_true (h0 h1)]; simp
theorem wm1 {i : Nat} (h : 0 < i) (h1 : i ≤ 1000000) : IntKind.i64.wrap ((i : Int) - 1) = ((i - 1 : Nat) : Int) := (w64 (by omega)).trans (by omega)
theorem mR_true {T : List UInt8} {L : List It} (h1 : mT T = true) (h2 : ¬L = []) (h3 : mUp L L.length = true) : mR T L = true := by
  unfold mR; rw [h1, h3]; cases L with
  | nil => exact absurd rfl h2
  | cons a l => rfl
theorem good_mIsT (s : List UInt8) : GoodP Tryz.prog gl0 83 [.str s] (.bool (std.tb fun _ => mT s)) := by
  refine fn_sound' (T := seatT) (G := noC) (X := noX) seatT_ok noC_ok noX_ok noI_ok mixed Tryz.func83 (.one) (fun A => [.str s]) (fun A => .bool (A.tb fun _ => mT s)) fun A hA => ?_
  cbv
  repeat' (first | with_reducible exact True.intro | with_reducible exact dr_ok hA (by kernel_rfl) | with_reducible refine And.intro ?_ ?_ | (intro hc; cbv))
  all_goals (subst hA; simp [std_add, std_sub, std_mul, std_quo, std_rem, std_band, std_bor, std_bxor, std_shl, std_shr, std_eq, std_ne, std_lt, std_le, std_conv, std_not, std_beq, std_bne, std_ite, std_want, std_and2, std_sadd, std_seq, std_sne, std_slt, std_sle, std_sgt, std_sge, std_slen, std_sget, std_scut, std_ofNat, std_toNat, std_nsub, std_nadd, std_lenOf, std_nz, std_nneg, std_inb, std_upto, std_slt63, std_grow, std_imp, std_impN, std_tr, std_tb, std_ti, std_ts, std_tn, std_tp, std_nmin, std_makes, std_room, std_zeros, std_nilq, std_notq, std_eqi, std_eqn, std_eqb, std_eqs, std_eqv, std_cat, std_lst, std_rset, std_rcopy, std_shift, std_eqr, std_strOf, std_bytesOf, std_isB, std_zOf, zOf_int, std_isI, isI_int, std_getL, std_nmul, std_sOf, sOf_str, std_isS, isS_str] at *)
  all_goals first | contradiction | (simp [mT, *]; done) | (subst_vars; decide)
noncomputable def c_mIsT : Ct := fun A args => match args with
  | [.str s] => some (none, .bool (A.tb fun _ => mT s))
  | _ => none
noncomputable def c_mgRight : Ct := fun A args => match args with
  | [.int .i64 n, .str r] => some (some (A.tp fun _ => r.length ≤ 1000000), .bool (A.tb fun _ => rr n r))
  | _ => none
noncomputable def gm0 : Ar → Pu := addC 83 c_mIsT (addC 106 c_mgRight (gh2))
theorem gm0_ok : PuOk Tryz.prog gl0 (gm0 std) := by
  refine addC_ok (addC_ok (gh2_ok) ⟨_, Tryz.func106, rfl, by decide⟩ ?_) ⟨_, Tryz.func83, rfl, by decide⟩ ?_
  · intro args p r h hp
    unfold c_mgRight at h
    split at h <;> cases h
    exact good_gRight _ _ hp
  · intro args p r h hp
    unfold c_mIsT at h
    split at h <;> cases h
    exact good_mIsT _
theorem good_mRight (T : List UInt8) (L : List It) (hL : L.length ≤ 1000000) (hS : ∀ i, (L.getD i (0, [])).2.length ≤ 1000000) : GoodP Tryz.prog gl0 55 [.agg [.str T, rowS eI (0, []) 2 std fun _ => L]] (.bool (std.tb fun _ => mR T L)) := by
  refine fn_sound' (T := seatT) (G := gm0) (X := noX) seatT_ok gm0_ok noX_ok noI_ok mixed Tryz.func55 (.one) (fun A => [.agg [.str T, rowS eI (0, []) 2 A fun _ => L]]) (fun A => .bool (A.tb fun _ => mR T L)) fun A hA => ?_
  cbv
  repeat' (first | with_reducible exact True.intro | with_reducible exact dr_ok hA (by kernel_rfl) | with_reducible refine And.intro ?_ ?_ | (intro hc; cbv))
  rotate_right
  all_goals first
    | (fail_if_success (refine Exists.intro ?_ ?_)
       subst hA
       simp [std_add, std_sub, std_mul, std_quo, std_rem, std_band, std_bor, std_bxor, std_shl, std_shr, std_eq, std_ne, std_lt, std_le, std_conv, std_not, std_beq, std_bne, std_ite, std_want, std_and2, std_sadd, std_seq, std_sne, std_slt, std_sle, std_sgt, std_sge, std_slen, std_sget, std_scut, std_ofNat, std_toNat, std_nsub, std_nadd, std_lenOf, std_nz, std_nneg, std_inb, std_upto, std_slt63, std_grow, std_imp, std_impN, std_tr, std_tb, std_ti, std_ts, std_tn, std_tp, std_nmin, std_makes, std_room, std_zeros, std_nilq, std_notq, std_eqi, std_eqn, std_eqb, std_eqs, std_eqv, std_cat, std_lst, std_rset, std_rcopy, std_shift, std_eqr, std_strOf, std_bytesOf, std_isB, std_zOf, zOf_int, std_isI, isI_int, std_getL, std_nmul, std_sOf, sOf_str, std_isS, isS_str] at *
       done)
    | (fail_if_success (refine Exists.intro ?_ ?_)
       subst hA
       simp [std_add, std_sub, std_mul, std_quo, std_rem, std_band, std_bor, std_bxor, std_shl, std_shr, std_eq, std_ne, std_lt, std_le, std_conv, std_not, std_beq, std_bne, std_ite, std_want, std_and2, std_sadd, std_seq, std_sne, std_slt, std_sle, std_sgt, std_sge, std_slen, std_sget, std_scut, std_ofNat, std_toNat, std_nsub, std_nadd, std_lenOf, std_nz, std_nneg, std_inb, std_upto, std_slt63, std_grow, std_imp, std_impN, std_tr, std_tb, std_ti, std_ts, std_tn, std_tp, std_nmin, std_makes, std_room, std_zeros, std_nilq, std_notq, std_eqi, std_eqn, std_eqb, std_eqs, std_eqv, std_cat, std_lst, std_rset, std_rcopy, std_shift, std_eqr, std_strOf, std_bytesOf, std_isB, std_zOf, zOf_int, std_isI, isI_int, std_getL, std_nmul, std_sOf, sOf_str, std_isS, isS_str] at *
       first
         | omega
         | exact (mR_head (by first | assumption | exact .inl (by assumption) | exact .inr (by assumption))).symm
         | exact mR_head (by first | assumption | exact .inl (by assumption) | exact .inr (by assumption))
         | trace_state)
    | skip
  have h0 : mT T = true ∧ ¬L = [] := by
    subst hA
    simp [std_add, std_sub, std_mul, std_quo, std_rem, std_band, std_bor, std_bxor, std_shl, std_shr, std_eq, std_ne, std_lt, std_le, std_conv, std_not, std_beq, std_bne, std_ite, std_want, std_and2, std_sadd, std_seq, std_sne, std_slt, std_sle, std_sgt, std_sge, std_slen, std_sget, std_scut, std_ofNat, std_toNat, std_nsub, std_nadd, std_lenOf, std_nz, std_nneg, std_inb, std_upto, std_slt63, std_grow, std_imp, std_impN, std_tr, std_tb, std_ti, std_ts, std_tn, std_tp, std_nmin, std_makes, std_room, std_zeros, std_nilq, std_notq, std_eqi, std_eqn, std_eqb, std_eqs, std_eqv, std_cat, std_lst, std_rset, std_rcopy, std_shift, std_eqr, std_strOf, std_bytesOf, std_isB, std_zOf, zOf_int, std_isI, isI_int, std_getL, std_nmul, std_sOf, sOf_str, std_isS, isS_str] at hc
    exact hc
  refine ⟨⟨{i : Nat // i ≤ L.length ∧ mUp L i = true}, fun b i => [(18, .int .i64 (i.1 : Nat))], fun b i => [], fun i => L.length - i.1, true⟩, ⟨⟨0, by omega, rfl⟩, ?_⟩, ?_⟩
  · cbv
    subst hA
    simp [-List.getD_eq_getElem?_getD, std_add, std_sub, std_mul, std_quo, std_rem, std_band, std_bor, std_bxor, std_shl, std_shr, std_eq, std_ne, std_lt, std_le, std_conv, std_not, std_beq, std_bne, std_ite, std_want, std_and2, std_sadd, std_seq, std_sne, std_slt, std_sle, std_sgt, std_sge, std_slen, std_sget, std_scut, std_ofNat, std_toNat, std_nsub, std_nadd, std_lenOf, std_nz, std_nneg, std_inb, std_upto, std_slt63, std_grow, std_imp, std_impN, std_tr, std_tb, std_ti, std_ts, std_tn, std_tp, std_nmin, std_makes, std_room, std_zeros, std_nilq, std_notq, std_eqi, std_eqn, std_eqb, std_eqs, std_eqv, std_cat, std_lst, std_rset, std_rcopy, std_shift, std_eqr, std_strOf, std_bytesOf, std_isB, std_zOf, zOf_int, std_isI, isI_int, std_getL, std_nmul, std_sOf, sOf_str, std_isS, isS_str]
  · rintro ⟨i, hi, hz⟩
    cbv
    repeat' (first | with_reducible exact True.intro | with_reducible exact dr_ok hA (by kernel_rfl) | with_reducible refine And.intro ?_ ?_ | (intro hc; cbv))
    all_goals first
      | (fail_if_success (refine Exists.intro ?_ ?_)
         subst hA
         simp [-List.getD_eq_getElem?_getD, std_add, std_sub, std_mul, std_quo, std_rem, std_band, std_bor, std_bxor, std_shl, std_shr, std_eq, std_ne, std_lt, std_le, std_conv, std_not, std_beq, std_bne, std_ite, std_want, std_and2, std_sadd, std_seq, std_sne, std_slt, std_sle, std_sgt, std_sge, std_slen, std_sget, std_scut, std_ofNat, std_toNat, std_nsub, std_nadd, std_lenOf, std_nz, std_nneg, std_inb, std_upto, std_slt63, std_grow, std_imp, std_impN, std_tr, std_tb, std_ti, std_ts, std_tn, std_tp, std_nmin, std_makes, std_room, std_zeros, std_nilq, std_notq, std_eqi, std_eqn, std_eqb, std_eqs, std_eqv, std_cat, std_lst, std_rset, std_rcopy, std_shift, std_eqr, std_strOf, std_bytesOf, std_isB, std_zOf, zOf_int, std_isI, isI_int, std_getL, std_nmul, std_sOf, sOf_str, std_isS, isS_str] at *
         done)
      | (fail_if_success (refine Exists.intro ?_ ?_)
         clear hz
         subst hA
         simp [-List.getD_eq_getElem?_getD, std_add, std_sub, std_mul, std_quo, std_rem, std_band, std_bor, std_bxor, std_shl, std_shr, std_eq, std_ne, std_lt, std_le, std_conv, std_not, std_beq, std_bne, std_ite, std_want, std_and2, std_sadd, std_seq, std_sne, std_slt, std_sle, std_sgt, std_sge, std_slen, std_sget, std_scut, std_ofNat, std_toNat, std_nsub, std_nadd, std_lenOf, std_nz, std_nneg, std_inb, std_upto, std_slt63, std_grow, std_imp, std_impN, std_tr, std_tb, std_ti, std_ts, std_tn, std_tp, std_nmin, std_makes, std_room, std_zeros, std_nilq, std_notq, std_eqi, std_eqn, std_eqb, std_eqs, std_eqv, std_cat, std_lst, std_rset, std_rcopy, std_shift, std_eqr, std_strOf, std_bytesOf, std_isB, std_zOf, zOf_int, std_isI, isI_int, std_getL, std_nmul, std_sOf, sOf_str, std_isS, isS_str] at *
         first
           | omega
           | exact hS _
           | (intro h1; rw [wm1 h1 (by omega)]; omega)
           | exact mR_false (by assumption) (mOk_rr (by assumption))
           | (have h1 : 0 < i := hc.1
              rw [wm1 h1 (by omega), Int.toNat_natCast] at hc
              exact mR_false (by assumption) (mOk_lo h1 hc.2))
           | (exfalso; omega))
      | (fail_if_success (refine Exists.intro ?_ ?_)
         have hie : i = L.length := by (clear hz; subst hA; simp [std_add, std_sub, std_mul, std_quo, std_rem, std_band, std_bor, std_bxor, std_shl, std_shr, std_eq, std_ne, std_lt, std_le, std_conv, std_not, std_beq, std_bne, std_ite, std_want, std_and2, std_sadd, std_seq, std_sne, std_slt, std_sle, std_sgt, std_sge, std_slen, std_sget, std_scut, std_ofNat, std_toNat, std_nsub, std_nadd, std_lenOf, std_nz, std_nneg, std_inb, std_upto, std_slt63, std_grow, std_imp, std_impN, std_tr, std_tb, std_ti, std_ts, std_tn, std_tp, std_nmin, std_makes, std_room, std_zeros, std_nilq, std_notq, std_eqi, std_eqn, std_eqb, std_eqs, std_eqv, std_cat, std_lst, std_rset, std_rcopy, std_shift, std_eqr, std_strOf, std_bytesOf, std_isB, std_zOf, zOf_int, std_isI, isI_int, std_getL, std_nmul, std_sOf, sOf_str, std_isS, isS_str] at * <;> omega)
         rw [hie] at hz
         have hm := mR_true h0.1 h0.2 hz
         subst hA
         simp [std_add, std_sub, std_mul, std_quo, std_rem, std_band, std_bor, std_bxor, std_shl, std_shr, std_eq, std_ne, std_lt, std_le, std_conv, std_not, std_beq, std_bne, std_ite, std_want, std_and2, std_sadd, std_seq, std_sne, std_slt, std_sle, std_sgt, std_sge, std_slen, std_sget, std_scut, std_ofNat, std_toNat, std_nsub, std_nadd, std_lenOf, std_nz, std_nneg, std_inb, std_upto, std_slt63, std_grow, std_imp, std_impN, std_tr, std_tb, std_ti, std_ts, std_tn, std_tp, std_nmin, std_makes, std_room, std_zeros, std_nilq, std_notq, std_eqi, std_eqn, std_eqb, std_eqs, std_eqv, std_cat, std_lst, std_rset, std_rcopy, std_shift, std_eqr, std_strOf, std_bytesOf, std_isB, std_zOf, zOf_int, std_isI, isI_int, std_getL, std_nmul, std_sOf, sOf_str, std_isS, isS_str, hm]; done)
      | (have hlt : i < L.length := by (clear hz; subst hA; simp [std_add, std_sub, std_mul, std_quo, std_rem, std_band, std_bor, std_bxor, std_shl, std_shr, std_eq, std_ne, std_lt, std_le, std_conv, std_not, std_beq, std_bne, std_ite, std_want, std_and2, std_sadd, std_seq, std_sne, std_slt, std_sle, std_sgt, std_sge, std_slen, std_sget, std_scut, std_ofNat, std_toNat, std_nsub, std_nadd, std_lenOf, std_nz, std_nneg, std_inb, std_upto, std_slt63, std_grow, std_imp, std_impN, std_tr, std_tb, std_ti, std_ts, std_tn, std_tp, std_nmin, std_makes, std_room, std_zeros, std_nilq, std_notq, std_eqi, std_eqn, std_eqb, std_eqs, std_eqv, std_cat, std_lst, std_rset, std_rcopy, std_shift, std_eqr, std_strOf, std_bytesOf, std_isB, std_zOf, zOf_int, std_isI, isI_int, std_getL, std_nmul, std_sOf, sOf_str, std_isS, isS_str] at * <;> omega)
         have hok : mOk L i = true := by
           clear hz
           subst hA
           simp [-List.getD_eq_getElem?_getD, std_add, std_sub, std_mul, std_quo, std_rem, std_band, std_bor, std_bxor, std_shl, std_shr, std_eq, std_ne, std_lt, std_le, std_conv, std_not, std_beq, std_bne, std_ite, std_want, std_and2, std_sadd, std_seq, std_sne, std_slt, std_sle, std_sgt, std_sge, std_slen, std_sget, std_scut, std_ofNat, std_toNat, std_nsub, std_nadd, std_lenOf, std_nz, std_nneg, std_inb, std_upto, std_slt63, std_grow, std_imp, std_impN, std_tr, std_tb, std_ti, std_ts, std_tn, std_tp, std_nmin, std_makes, std_room, std_zeros, std_nilq, std_notq, std_eqi, std_eqn, std_eqb, std_eqs, std_eqv, std_cat, std_lst, std_rset, std_rcopy, std_shift, std_eqr, std_strOf, std_bytesOf, std_isB, std_zOf, zOf_int, std_isI, isI_int, std_getL, std_nmul, std_sOf, sOf_str, std_isS, isS_str] at *
           refine mOk_yes (fun h1 => ?_) (by assumption)
           have h2 := (by assumption : 0 < i → _) h1
           rw [wm1 h1 (by omega), Int.toNat_natCast] at h2
           exact h2
         obtain ⟨i', hi'⟩ : ∃ i', i' = i + 1 := ⟨_, rfl⟩
         refine ⟨⟨i', by omega, by rw [hi', mUp_succ, hz, hok]; rfl⟩, ?_, show L.length - i' < L.length - i by omega⟩
         cbv
         subst hA
         simp [std_add, std_sub, std_mul, std_quo, std_rem, std_band, std_bor, std_bxor, std_shl, std_shr, std_eq, std_ne, std_lt, std_le, std_conv, std_not, std_beq, std_bne, std_ite, std_want, std_and2, std_sadd, std_seq, std_sne, std_slt, std_sle, std_sgt, std_sge, std_slen, std_sget, std_scut, std_ofNat, std_toNat, std_nsub, std_nadd, std_lenOf, std_nz, std_nneg, std_inb, std_upto, std_slt63, std_grow, std_imp, std_impN, std_tr, std_tb, std_ti, std_ts, std_tn, std_tp, std_nmin, std_makes, std_room, std_zeros, std_nilq, std_notq, std_eqi, std_eqn, std_eqb, std_eqs, std_eqv, std_cat, std_lst, std_rset, std_rcopy, std_shift, std_eqr, std_strOf, std_bytesOf, std_isB, std_zOf, zOf_int, std_isI, isI_int, std_getL, std_nmul, std_sOf, sOf_str, std_isS, isS_str]
         exact (w64 (by omega)).trans (by omega))
      | trace_state
theorem good_mRight' {T : List UInt8} {n : Nat} {f : Nat → Nat → SV} (hp : isRow eI (0, []) 2 n f ∧ n ≤ 1000000 ∧ ∀ i, ((lstOf eI (0, []) 2 n f).getD i (0, [])).2.length ≤ 1000000) :
    GoodP Tryz.prog gl0 55 [.agg [.str T, .slc n 2 f]] (.bool (std.tb fun _ => mR T (lstOf eI (0, []) 2 n f))) :=
  good_sv (good_mRight T (lstOf eI (0, []) 2 n f) (by rw [lstOf_length hp.1]; exact hp.2.1) hp.2.2) ⟨⟨_, rfl, rfl, hp.1.sv, trivial⟩, trivial⟩
noncomputable def c_mRight : Ct := fun A args => match args with
  | [.agg [.str T, .slc n 2 f]] => some (some (A.tp fun _ => isRow eI (0, []) 2 n f ∧ n ≤ 1000000 ∧ ∀ i, ((lstOf eI (0, []) 2 n f).getD i (0, [])).2.length ≤ 1000000), .bool (A.tb fun _ => mR T (lstOf eI (0, []) 2 n f)))
  | _ => none
noncomputable def gm1 : Ar → Pu := addC 55 c_mRight (gm0)
theorem gm1_ok : PuOk Tryz.prog gl0 (gm1 std) := by
  refine addC_ok (gm0_ok) ⟨_, Tryz.func55, rfl, by decide⟩ ?_
  · intro args p r h hp
    unfold c_mRight at h
    split at h <;> cases h
    exact good_mRight' hp
def dAsks (k : Int) : Bool := decide (k = 1) || (decide (k = 3) || (decide (k = 5) || decide (k = 6)))
theorem good_dIsKind (k : Int) : GoodP Tryz.prog gl0 58 [.int .i64 k] (.bool (std.tb fun _ => decide (1 ≤ k ∧ k ≤ 7))) := by
  refine fn_sound' (T := seatT) (G := noC) (X := noX) seatT_ok noC_ok noX_ok noI_ok mixed Tryz.func58 (.one) (fun A => [.int .i64 k]) (fun A => .bool (A.tb fun _ => decide (1 ≤ k ∧ k ≤ 7))) fun A hA => ?_
  cbv
  repeat' (first | with_reducible exact True.intro | with_reducible exact dr_ok hA (by kernel_rfl) | with_reducible refine And.intro ?_ ?_ | (intro hc; cbv))
  all_goals (subst hA; simp [std_add, std_sub, std_mul, std_quo, std_rem, std_band, std_bor, std_bxor, std_shl, std_shr, std_eq, std_ne, std_lt, std_le, std_conv, std_not, std_beq, std_bne, std_ite, std_want, std_and2, std_sadd, std_seq, std_sne, std_slt, std_sle, std_sgt, std_sge, std_slen, std_sget, std_scut, std_ofNat, std_toNat, std_nsub, std_nadd, std_lenOf, std_nz, std_nneg, std_inb, std_upto, std_slt63, std_grow, std_imp, std_impN, std_tr, std_tb, std_ti, std_ts, std_tn, std_tp, std_nmin, std_makes, std_room, std_zeros, std_nilq, std_notq, std_eqi, std_eqn, std_eqb, std_eqs, std_eqv, std_cat, std_lst, std_rset, std_rcopy, std_shift, std_eqr, std_strOf, std_bytesOf, std_isB, std_zOf, zOf_int, std_isI, isI_int, std_getL, std_nmul, std_sOf, sOf_str, std_isS, isS_str] at *)
  all_goals first
    | (rw [Bool.eq_iff_iff]; simp; done)
    | trace_state
theorem good_dTells (k : Int) : GoodP Tryz.prog gl0 91 [.int .i64 k] (.bool (std.tb fun _ => decide (k = 5) || decide (k = 6))) := by
  refine fn_sound' (T := seatT) (G := noC) (X := noX) seatT_ok noC_ok noX_ok noI_ok mixed Tryz.func91 (.one) (fun A => [.int .i64 k]) (fun A => .bool (A.tb fun _ => decide (k = 5) || decide (k = 6))) fun A hA => ?_
  cbv
  repeat' (first | with_reducible exact True.intro | with_reducible exact dr_ok hA (by kernel_rfl) | with_reducible refine And.intro ?_ ?_ | (intro hc; cbv))
  all_goals (subst hA; simp [std_add, std_sub, std_mul, std_quo, std_rem, std_band, std_bor, std_bxor, std_shl, std_shr, std_eq, std_ne, std_lt, std_le, std_conv, std_not, std_beq, std_bne, std_ite, std_want, std_and2, std_sadd, std_seq, std_sne, std_slt, std_sle, std_sgt, std_sge, std_slen, std_sget, std_scut, std_ofNat, std_toNat, std_nsub, std_nadd, std_lenOf, std_nz, std_nneg, std_inb, std_upto, std_slt63, std_grow, std_imp, std_impN, std_tr, std_tb, std_ti, std_ts, std_tn, std_tp, std_nmin, std_makes, std_room, std_zeros, std_nilq, std_notq, std_eqi, std_eqn, std_eqb, std_eqs, std_eqv, std_cat, std_lst, std_rset, std_rcopy, std_shift, std_eqr, std_strOf, std_bytesOf, std_isB, std_zOf, zOf_int, std_isI, isI_int, std_getL, std_nmul, std_sOf, sOf_str, std_isS, isS_str] at *)
  all_goals first
    | (rw [Bool.eq_iff_iff]; simp; done)
    | (rw [Bool.eq_iff_iff]; simp; omega)
    | trace_state
noncomputable def c_dTells : Ct := fun A args => match args with
  | [.int .i64 k] => some (none, .bool (A.tb fun _ => decide (k = 5) || decide (k = 6)))
  | _ => none
noncomputable def gm2 : Ar → Pu := addC 91 c_dTells (gm1)
theorem gm2_ok : PuOk Tryz.prog gl0 (gm2 std) := by
  refine addC_ok (gm1_ok) ⟨_, Tryz.func91, rfl, by decide⟩ ?_
  · intro args p r h hp
    unfold c_dTells at h
    split at h <;> cases h
    exact good_dTells _
theorem good_dAsks (k : Int) : GoodP Tryz.prog gl0 60 [.int .i64 k] (.bool (std.tb fun _ => dAsks k)) := by
  refine fn_sound' (T := seatT) (G := gm2) (X := noX) seatT_ok gm2_ok noX_ok noI_ok mixed Tryz.func60 (.one) (fun A => [.int .i64 k]) (fun A => .bool (A.tb fun _ => dAsks k)) fun A hA => ?_
  cbv
  repeat' (first | with_reducible exact True.intro | with_reducible exact dr_ok hA (by kernel_rfl) | with_reducible refine And.intro ?_ ?_ | (intro hc; cbv))
  all_goals (subst hA; simp [std_add, std_sub, std_mul, std_quo, std_rem, std_band, std_bor, std_bxor, std_shl, std_shr, std_eq, std_ne, std_lt, std_le, std_conv, std_not, std_beq, std_bne, std_ite, std_want, std_and2, std_sadd, std_seq, std_sne, std_slt, std_sle, std_sgt, std_sge, std_slen, std_sget, std_scut, std_ofNat, std_toNat, std_nsub, std_nadd, std_lenOf, std_nz, std_nneg, std_inb, std_upto, std_slt63, std_grow, std_imp, std_impN, std_tr, std_tb, std_ti, std_ts, std_tn, std_tp, std_nmin, std_makes, std_room, std_zeros, std_nilq, std_notq, std_eqi, std_eqn, std_eqb, std_eqs, std_eqv, std_cat, std_lst, std_rset, std_rcopy, std_shift, std_eqr, std_strOf, std_bytesOf, std_isB, std_zOf, zOf_int, std_isI, isI_int, std_getL, std_nmul, std_sOf, sOf_str, std_isS, isS_str] at *)
  all_goals first
    | (unfold dAsks; rw [Bool.eq_iff_iff]; simp; done)
    | (unfold dAsks; rw [Bool.eq_iff_iff]; simp; omega)
    | trace_state
theorem i1r (n : Int) (s : List UInt8) : Reps eI (0, []) 2 1 (lstS [[SV.int .i64 n, SV.str s]]) [(n, s)] := Reps.one (cell_eI n s)
theorem i1l (n : Int) (s : List UInt8) : lstOf eI (0, []) 2 1 (lstS [[SV.int .i64 n, SV.str s]]) = [(n, s)] := lstOf_eq inj_eI (i1r n s)
theorem i1w (n : Int) (s : List UInt8) : isRow eI (0, []) 2 1 (lstS [[SV.int .i64 n, SV.str s]]) := ⟨_, i1r n s⟩
theorem i1s (n : Int) {s : List UInt8} (h : s.length ≤ 1000000) : ∀ i, (([(n, s)] : List It).getD i (0, [])).2.length ≤ 1000000
  | 0 => h
  | _ + 1 => show ([] : List UInt8).length ≤ 1000000 from Nat.zero_le _
theorem mR_one (n : Int) (s : List UInt8) : mR [48, 49, 48, 48] [(n, s)] = rr n s := by
  unfold mR mUp
  simp [mT, mOk]
theorem good_dFits (n : Int) (s : List UInt8) (hs : s.length ≤ 1000000) : GoodP Tryz.prog gl0 59 [.int .i64 n, .str s] (.bool (std.tb fun _ => rr n s)) := by
  refine fn_sound' (T := seatT) (G := gm2) (X := noX) seatT_ok gm2_ok noX_ok noI_ok mixed Tryz.func59 (.one) (fun A => [.int .i64 n, .str s]) (fun A => .bool (A.tb fun _ => rr n s)) fun A hA => ?_
  cbv
  repeat' (first | with_reducible exact True.intro | with_reducible exact dr_ok hA (by kernel_rfl) | with_reducible refine And.intro ?_ ?_ | (intro hc; cbv))
  all_goals (subst hA; try simp [-List.getD_eq_getElem?_getD, std_add, std_sub, std_mul, std_quo, std_rem, std_band, std_bor, std_bxor, std_shl, std_shr, std_eq, std_ne, std_lt, std_le, std_conv, std_not, std_beq, std_bne, std_ite, std_want, std_and2, std_sadd, std_seq, std_sne, std_slt, std_sle, std_sgt, std_sge, std_slen, std_sget, std_scut, std_ofNat, std_toNat, std_nsub, std_nadd, std_lenOf, std_nz, std_nneg, std_inb, std_upto, std_slt63, std_grow, std_imp, std_impN, std_tr, std_tb, std_ti, std_ts, std_tn, std_tp, std_nmin, std_makes, std_room, std_zeros, std_nilq, std_notq, std_eqi, std_eqn, std_eqb, std_eqs, std_eqv, std_cat, std_lst, std_rset, std_rcopy, std_shift, std_eqr, std_strOf, std_bytesOf, std_isB, std_zOf, zOf_int, std_isI, isI_int, std_getL, std_nmul, std_sOf, sOf_str, std_isS, isS_str, i1l, i1w, mR_one] at *)
  all_goals first
    | exact i1s n hs
    | trace_state
noncomputable def c_dIsKind : Ct := fun A args => match args with
  | [.int .i64 k] => some (none, .bool (A.tb fun _ => decide (1 ≤ k ∧ k ≤ 7)))
  | _ => none
noncomputable def c_dAsks : Ct := fun A args => match args with
  | [.int .i64 k] => some (none, .bool (A.tb fun _ => dAsks k))
  | _ => none
noncomputable def c_dFits : Ct := fun A args => match args with
  | [.int .i64 n, .str s] => some (some (A.tp fun _ => s.length ≤ 1000000), .bool (A.tb fun _ => rr n s))
  | _ => none
noncomputable def gm3 : Ar → Pu := addC 58 c_dIsKind (addC 60 c_dAsks (addC 59 c_dFits (gm2)))
theorem gm3_ok : PuOk Tryz.prog gl0 (gm3 std) := by
  refine addC_ok (addC_ok (addC_ok (gm2_ok) ⟨_, Tryz.func59, rfl, by decide⟩ ?_) ⟨_, Tryz.func60, rfl, by decide⟩ ?_) ⟨_, Tryz.func58, rfl, by decide⟩ ?_
  · intro args p r h hp
    unfold c_dFits at h
    split at h <;> cases h
    exact good_dFits _ _ hp
  · intro args p r h hp
    unfold c_dAsks at h
    split at h <;> cases h
    exact good_dAsks _
  · intro args p r h hp
    unfold c_dIsKind at h
    split at h <;> cases h
    exact good_dIsKind _
def dR (k a s : Int) (p r c : List UInt8) : Bool :=
  decide (1 ≤ k ∧ k ≤ 7) && (decide (s ≤ 999999) && (rr 37 r && (if dAsks k = true then lFine p && (decide ((p.length : Int) ≤ 19) && (decide (a < 1000000000000) && c == [])) else rr 39 c && (p == [] && decide (a = 0)))))
theorem good_dRight (k a s : Int) (p r c : List UInt8) (hp : p.length ≤ 100000) (hr : r.length ≤ 1000000) (hcc : c.length ≤ 1000000) : GoodP Tryz.prog gl0 21 [.agg [.int .i64 k, .str p, .int .u64 a, .int .u32 s, .str r, .str c]] (.bool (std.tb fun _ => dR k a s p r c)) := by
  refine fn_sound' (T := seatT) (G := gm3) (X := noX) seatT_ok gm3_ok noX_ok noI_ok mixed Tryz.func21 (.one) (fun A => [.agg [.int .i64 k, .str p, .int .u64 a, .int .u32 s, .str r, .str c]]) (fun A => .bool (A.tb fun _ => dR k a s p r c)) fun A hA => ?_
  cbv
  repeat' (first | with_reducible exact True.intro | with_reducible exact dr_ok hA (by kernel_rfl) | with_reducible refine And.intro ?_ ?_ | (intro hc; cbv))
  all_goals (subst hA; simp [-List.getD_eq_getElem?_getD, std_add, std_sub, std_mul, std_quo, std_rem, std_band, std_bor, std_bxor, std_shl, std_shr, std_eq, std_ne, std_lt, std_le, std_conv, std_not, std_beq, std_bne, std_ite, std_want, std_and2, std_sadd, std_seq, std_sne, std_slt, std_sle, std_sgt, std_sge, std_slen, std_sget, std_scut, std_ofNat, std_toNat, std_nsub, std_nadd, std_lenOf, std_nz, std_nneg, std_inb, std_upto, std_slt63, std_grow, std_imp, std_impN, std_tr, std_tb, std_ti, std_ts, std_tn, std_tp, std_nmin, std_makes, std_room, std_zeros, std_nilq, std_notq, std_eqi, std_eqn, std_eqb, std_eqs, std_eqv, std_cat, std_lst, std_rset, std_rcopy, std_shift, std_eqr, std_strOf, std_bytesOf, std_isB, std_zOf, zOf_int, std_isI, isI_int, std_getL, std_nmul, std_sOf, sOf_str, std_isS, isS_str] at *)
  all_goals first
    | omega
    | (unfold dR
       rcases hc with (hc | hc) | hc
       · rw [decide_eq_false (p := 1 ≤ k ∧ k ≤ 7) (by omega)]; rfl
       · rw [decide_eq_false (p := s ≤ 999999) (by omega)]; simp
       · rw [hc]; simp)
    | (have hd : dAsks k = true := by assumption
       unfold dR
       rw [decide_eq_true hc.1.1, decide_eq_true hc.1.2, hc.2, if_pos hd]
       simp only [Bool.true_and, Bool.and_assoc]
       cases c <;> rfl)
    | (have hd : dAsks k = false := by assumption
       unfold dR
       rw [decide_eq_true hc.1.1, decide_eq_true hc.1.2, hc.2, if_neg (by rw [hd]; simp)]
       simp only [Bool.true_and, Bool.and_assoc]
       cases p <;> rfl)
    | trace_state
end Go.Vd

set_option linter.unusedVariables false
set_option linter.unusedSimpArgs false
set_option maxRecDepth 100000
namespace Go.Vd
open Go.Proofs

def bfield (n : Int) : Bool := decide (2 ≤ n) && decide (n ≤ 128) && !(n == 65)
def bhi (n : Int) : Nat := if n ≤ 64 then 2 ^ (64 - n).toNat else 0
def blo (n : Int) : Nat := if n ≤ 64 then 0 else 2 ^ (128 - n).toNat
def bright (h l : Nat) : Bool := !l.testBit 63 && (h.testBit 63 == decide (l ≠ 0))
def bhas (h l : Nat) (n : Int) : Bool := bfield n && (if n ≤ 64 then h.testBit (64 - n).toNat else l.testBit (128 - n).toNat)
/-- A field more. -/
def bput (h l : Nat) (n : Int) : Nat × Nat :=
  if bright h l && bfield n then (if l ||| blo n ≠ 0 then (h ||| bhi n) ||| 9223372036854775808 else h ||| bhi n, l ||| blo n) else (h, l)
def berr (h l : Nat) (n : Int) : Int := if bright h l && bfield n then 0 else 1

theorem bfield_iff {n : Int} : bfield n = true ↔ 2 ≤ n ∧ n ≤ 128 ∧ n ≠ 65 := by simp [bfield, and_assoc]
theorem bhi_lt (n : Int) (h : 2 ≤ n) : bhi n < 18446744073709551616 := by
  unfold bhi; split
  · exact pow_lt64 (by omega)
  · decide
theorem blo_lt (n : Int) (h : n ≤ 128) : blo n < 18446744073709551616 := by
  unfold blo; split
  · decide
  · exact pow_lt64 (by omega)
theorem or_lt64 {a b : Nat} (ha : a < 18446744073709551616) (hb : b < 18446744073709551616) : a ||| b < 18446744073709551616 := Nat.or_lt_two_pow (n := 64) ha hb
theorem bput_lt {h l : Nat} (n : Int) (hh : h < 18446744073709551616) (hl : l < 18446744073709551616) : (bput h l n).1 < 18446744073709551616 ∧ (bput h l n).2 < 18446744073709551616 := by
  unfold bput
  split
  · rename_i hb
    simp only [Bool.and_eq_true] at hb
    have hf := bfield_iff.1 hb.2
    refine ⟨?_, or_lt64 hl (blo_lt n hf.2.1)⟩
    simp only
    split
    · exact or_lt64 (or_lt64 hh (bhi_lt n hf.1)) (by decide)
    · exact or_lt64 hh (bhi_lt n hf.1)
  · exact ⟨hh, hl⟩
theorem band0 (l : Nat) (hl : l < 18446744073709551616) : (bits .and .u64 (l : Int) 9223372036854775808 == 0) = !l.testBit 63 := by
  have := bits_and_u64_nat l 9223372036854775808 hl (by decide)
  have e : ((9223372036854775808 : Nat) : Int) = 9223372036854775808 := rfl
  rw [e] at this
  rw [this]
  have h2 := band_top (h := l)
  cases hb : l.testBit 63
  · rw [h2.2 hb]; rfl
  · have h3 : ¬ (l &&& 9223372036854775808 = 0) := fun e => by rw [h2.1 e] at hb; cases hb
    simp only [Bool.not_true, beq_eq_false_iff_ne]; omega

def r22 (A : Ar) (n : Int) : SV := .bool (A.tb fun _ => bfield n)
theorem good22 (n : Int) : GoodP Tryz.prog gl0 157 [.int .i64 n] (r22 std n) := by
  refine fn_sound' (T := seatT) (G := noC) (X := noX) seatT_ok noC_ok noX_ok noI_ok mixed Tryz.func157 .one (fun A => [.int .i64 n]) (fun A => r22 A n) fun A hA => ?_
  cbv
  repeat with_reducible refine And.intro (dr_ok hA (by kernel_rfl)) ?_
  subst hA
  simp [std_add, std_sub, std_mul, std_quo, std_rem, std_band, std_bor, std_bxor, std_shl, std_shr, std_eq, std_ne, std_lt, std_le, std_conv, std_not, std_beq, std_bne, std_ite, std_want, std_and2, std_sadd, std_seq, std_sne, std_slt, std_sle, std_sgt, std_sge, std_slen, std_sget, std_scut, std_ofNat, std_toNat, std_nsub, std_nadd, std_lenOf, std_nz, std_nneg, std_inb, std_upto, std_slt63, std_grow, std_imp, std_impN, std_tr, std_tb, std_ti, std_ts, std_tn, std_tp, std_nmin, std_makes, std_room, std_zeros, std_nilq, std_notq, std_eqi, std_eqn, std_eqb, std_eqs, std_eqv, std_cat, std_lst, std_rset, std_rcopy, std_shift, std_eqr, std_strOf, std_bytesOf, std_isB, std_zOf, zOf_int, std_isI, isI_int, std_getL, std_nmul, std_sOf, sOf_str, std_isS, isS_str, bfield, bne]
def r23 (A : Ar) (n : Int) : SV := .agg [.int .u64 (A.ti fun _ => bhi n), .int .u64 (A.ti fun _ => blo n)]
theorem good23 (n : Int) (h1 : 2 ≤ n) (h2 : n ≤ 128) : GoodP Tryz.prog gl0 159 [.int .i64 n] (r23 std n) := by
  refine fn_sound' (T := seatT) (G := noC) (X := noX) seatT_ok noC_ok noX_ok noI_ok mixed Tryz.func159 .one (fun A => [.int .i64 n]) (fun A => r23 A n) fun A hA => ?_
  cbv
  refine ⟨fun hc => ?_, fun hc => ?_⟩ <;> cbv <;> subst hA <;> simp [std_add, std_sub, std_mul, std_quo, std_rem, std_band, std_bor, std_bxor, std_shl, std_shr, std_eq, std_ne, std_lt, std_le, std_conv, std_not, std_beq, std_bne, std_ite, std_want, std_and2, std_sadd, std_seq, std_sne, std_slt, std_sle, std_sgt, std_sge, std_slen, std_sget, std_scut, std_ofNat, std_toNat, std_nsub, std_nadd, std_lenOf, std_nz, std_nneg, std_inb, std_upto, std_slt63, std_grow, std_imp, std_impN, std_tr, std_tb, std_ti, std_ts, std_tn, std_tp, std_nmin, std_makes, std_room, std_zeros, std_nilq, std_notq, std_eqi, std_eqn, std_eqb, std_eqs, std_eqv, std_cat, std_lst, std_rset, std_rcopy, std_shift, std_eqr, std_strOf, std_bytesOf, std_isB, std_zOf, zOf_int, std_isI, isI_int, std_getL, std_nmul, std_sOf, sOf_str, std_isS, isS_str] at hc ⊢
  · rw [w64 (by omega)]
    refine ⟨by omega, ?_, ?_⟩
    · rw [show min (64 - n).toNat IntKind.u64.bits = (64 - n).toNat by simp [IntKind.bits]; omega]
      have := shl1 (k := (64 - n).toNat) (by omega)
      simpa [bhi, hc] using this
    · simp [blo, hc]
  · rw [w64 (by omega)]
    refine ⟨by omega, ?_, ?_⟩
    · rw [show bhi n = 0 by unfold bhi; rw [if_neg (by omega)]]; rfl
    · rw [show min (128 - n).toNat IntKind.u64.bits = (128 - n).toNat by simp [IntKind.bits]; omega]
      have := shl1 (k := (128 - n).toNat) (by omega)
      rw [show blo n = 2 ^ (128 - n).toNat by unfold blo; rw [if_neg (by omega)]]
      simpa using this
def r27 (A : Ar) (h : Int) : SV := .bool (A.tb fun _ => h.toNat.testBit 63)
theorem good27 {h : Int} (l : Int) (hh : r64 h) : GoodP Tryz.prog gl0 130 [.agg [.int .u64 h, .int .u64 l]] (r27 std h) := by
  obtain ⟨h, rfl, lh⟩ := r64_nat hh
  refine fn_sound' (T := seatT) (G := noC) (X := noX) seatT_ok noC_ok noX_ok noI_ok mixed Tryz.func130 .one (fun A => [.agg [.int .u64 h, .int .u64 l]]) (fun A => r27 A h) fun A hA => ?_
  cbv
  repeat with_reducible refine And.intro (dr_ok hA (by kernel_rfl)) ?_
  subst hA
  have := band0 h lh
  simp only [std_add, std_sub, std_mul, std_quo, std_rem, std_band, std_bor, std_bxor, std_shl, std_shr, std_eq, std_ne, std_lt, std_le, std_conv, std_not, std_beq, std_bne, std_ite, std_want, std_and2, std_sadd, std_seq, std_sne, std_slt, std_sle, std_sgt, std_sge, std_slen, std_sget, std_scut, std_ofNat, std_toNat, std_nsub, std_nadd, std_lenOf, std_nz, std_nneg, std_inb, std_upto, std_slt63, std_grow, std_imp, std_impN, std_tr, std_tb, std_ti, std_ts, std_tn, std_tp, std_nmin, std_makes, std_room, std_zeros, std_nilq, std_notq, std_eqi, std_eqn, std_eqb, std_eqs, std_eqv, std_cat, std_lst, std_rset, std_rcopy, std_shift, std_eqr, std_strOf, std_bytesOf, std_isB, std_zOf, zOf_int, std_isI, isI_int, std_getL, std_nmul, std_sOf, sOf_str, std_isS, isS_str, bne, Int.ofNat_eq_natCast, Int.toNat_natCast]
  rw [this]
  simp
def r28 (A : Ar) (a b c d : Int) : SV := .agg [.int .u64 (A.ti fun _ => (a.toNat &&& c.toNat : Nat)), .int .u64 (A.ti fun _ => (b.toNat &&& d.toNat : Nat))]
theorem good28 {a b c d : Int} (ha : r64 a) (hb : r64 b) (hc : r64 c) (hd : r64 d) : GoodP Tryz.prog gl0 158 [.agg [.int .u64 a, .int .u64 b], .agg [.int .u64 c, .int .u64 d]] (r28 std a b c d) := by
  obtain ⟨a, rfl, la⟩ := r64_nat ha
  obtain ⟨b, rfl, lb⟩ := r64_nat hb
  obtain ⟨c, rfl, lc⟩ := r64_nat hc
  obtain ⟨d, rfl, ld⟩ := r64_nat hd
  refine fn_sound' (T := seatT) (G := noC) (X := noX) seatT_ok noC_ok noX_ok noI_ok mixed Tryz.func158 .one (fun A => [.agg [.int .u64 a, .int .u64 b], .agg [.int .u64 c, .int .u64 d]]) (fun A => r28 A a b c d) fun A hA => ?_
  cbv
  repeat with_reducible refine And.intro (dr_ok hA (by kernel_rfl)) ?_
  subst hA
  simp [std_add, std_sub, std_mul, std_quo, std_rem, std_band, std_bor, std_bxor, std_shl, std_shr, std_eq, std_ne, std_lt, std_le, std_conv, std_not, std_beq, std_bne, std_ite, std_want, std_and2, std_sadd, std_seq, std_sne, std_slt, std_sle, std_sgt, std_sge, std_slen, std_sget, std_scut, std_ofNat, std_toNat, std_nsub, std_nadd, std_lenOf, std_nz, std_nneg, std_inb, std_upto, std_slt63, std_grow, std_imp, std_impN, std_tr, std_tb, std_ti, std_ts, std_tn, std_tp, std_nmin, std_makes, std_room, std_zeros, std_nilq, std_notq, std_eqi, std_eqn, std_eqb, std_eqs, std_eqv, std_cat, std_lst, std_rset, std_rcopy, std_shift, std_eqr, std_strOf, std_bytesOf, std_isB, std_zOf, zOf_int, std_isI, isI_int, std_getL, std_nmul, std_sOf, sOf_str, std_isS, isS_str, bits_and_u64_nat, la, lb, lc, ld]

/-! ### Their contracts -/
noncomputable def c22 : Ct := fun A args => match args with
  | [.int .i64 n] => some (none, r22 A n)
  | _ => none
noncomputable def c23 : Ct := fun A args => match args with
  | [.int .i64 n] => some (some (A.tp fun _ => 2 ≤ n ∧ n ≤ 128), r23 A n)
  | _ => none
noncomputable def c27 : Ct := fun A args => match args with
  | [.agg [.int .u64 h, .int .u64 l]] => some (some (A.tp fun _ => r64 h), r27 A h)
  | _ => none
noncomputable def c28 : Ct := fun A args => match args with
  | [.agg [.int .u64 a, .int .u64 b], .agg [.int .u64 c, .int .u64 d]] => some (some (A.tp fun _ => r64 a ∧ r64 b ∧ r64 c ∧ r64 d), r28 A a b c d)
  | _ => none
noncomputable def g1 : Ar → Pu := addC 157 c22 (addC 159 c23 (addC 130 c27 (addC 158 c28 noC)))
theorem g1_ok : PuOk Tryz.prog gl0 (g1 std) := by
  refine addC_ok (addC_ok (addC_ok (addC_ok noC_ok ⟨_, Tryz.func158, rfl, by decide⟩ ?_) ⟨_, Tryz.func130, rfl, by decide⟩ ?_) ⟨_, Tryz.func159, rfl, by decide⟩ ?_) ⟨_, Tryz.func157, rfl, by decide⟩ ?_
  · intro args p r h hp
    unfold c28 at h
    split at h <;> cases h
    exact good28 hp.1 hp.2.1 hp.2.2.1 hp.2.2.2
  · intro args p r h hp
    unfold c27 at h
    split at h <;> cases h
    exact good27 _ hp
  · intro args p r h hp
    unfold c23 at h
    split at h <;> cases h
    exact good23 _ hp.1 hp.2
  · intro args p r h hp
    unfold c22 at h
    split at h <;> cases h
    exact good22 _
def r11 (A : Ar) (h l : Int) : SV := .bool (A.tb fun _ => bright h.toNat l.toNat)
theorem good11 {h l : Int} (hh : r64 h) (hl : r64 l) : GoodP Tryz.prog gl0 131 [.agg [.int .u64 h, .int .u64 l]] (r11 std h l) := by
  obtain ⟨h, rfl, lh⟩ := r64_nat hh
  obtain ⟨l, rfl, ll⟩ := r64_nat hl
  refine fn_sound' (T := seatT) (G := g1) (X := noX) seatT_ok g1_ok noX_ok noI_ok mixed Tryz.func131 .one (fun A => [.agg [.int .u64 h, .int .u64 l]]) (fun A => r11 A h l) fun A hA => ?_
  cbv
  repeat with_reducible refine And.intro (dr_ok hA (by kernel_rfl)) ?_
  subst hA
  have e0 : (Int.ofNat l : Int) = (l : Int) := rfl
  simp only [std_add, std_sub, std_mul, std_quo, std_rem, std_band, std_bor, std_bxor, std_shl, std_shr, std_eq, std_ne, std_lt, std_le, std_conv, std_not, std_beq, std_bne, std_ite, std_want, std_and2, std_sadd, std_seq, std_sne, std_slt, std_sle, std_sgt, std_sge, std_slen, std_sget, std_scut, std_ofNat, std_toNat, std_nsub, std_nadd, std_lenOf, std_nz, std_nneg, std_inb, std_upto, std_slt63, std_grow, std_imp, std_impN, std_tr, std_tb, std_ti, std_ts, std_tn, std_tp, std_nmin, std_makes, std_room, std_zeros, std_nilq, std_notq, std_eqi, std_eqn, std_eqb, std_eqs, std_eqv, std_cat, std_lst, std_rset, std_rcopy, std_shift, std_eqr, std_strOf, std_bytesOf, std_isB, std_zOf, zOf_int, std_isI, isI_int, std_getL, std_nmul, std_sOf, sOf_str, std_isS, isS_str, e0, band0 l ll]
  simp [hh, hl, bright]
  cases hb : l.testBit 63 <;> simp [bne, Bool.beq_eq_decide_eq]
def r13 (A : Ar) (h l n : Int) : SV := .bool (A.tb fun _ => bhas h.toNat l.toNat n)
theorem good13 {h l : Int} (n : Int) (hh : r64 h) (hl : r64 l) : GoodP Tryz.prog gl0 133 [.agg [.int .u64 h, .int .u64 l], .int .i64 n] (r13 std h l n) := by
  obtain ⟨h, rfl, lh⟩ := r64_nat hh
  obtain ⟨l, rfl, ll⟩ := r64_nat hl
  refine fn_sound' (T := seatT) (G := g1) (X := noX) seatT_ok g1_ok noX_ok noI_ok mixed Tryz.func133 .one (fun A => [.agg [.int .u64 h, .int .u64 l], .int .i64 n]) (fun A => r13 A h l n) fun A hA => ?_
  cbv
  repeat with_reducible refine And.intro (dr_ok hA (by kernel_rfl)) ?_
  subst hA
  simp [std_add, std_sub, std_mul, std_quo, std_rem, std_band, std_bor, std_bxor, std_shl, std_shr, std_eq, std_ne, std_lt, std_le, std_conv, std_not, std_beq, std_bne, std_ite, std_want, std_and2, std_sadd, std_seq, std_sne, std_slt, std_sle, std_sgt, std_sge, std_slen, std_sget, std_scut, std_ofNat, std_toNat, std_nsub, std_nadd, std_lenOf, std_nz, std_nneg, std_inb, std_upto, std_slt63, std_grow, std_imp, std_impN, std_tr, std_tb, std_ti, std_ts, std_tn, std_tp, std_nmin, std_makes, std_room, std_zeros, std_nilq, std_notq, std_eqi, std_eqn, std_eqb, std_eqs, std_eqv, std_cat, std_lst, std_rset, std_rcopy, std_shift, std_eqr, std_strOf, std_bytesOf, std_isB, std_zOf, zOf_int, std_isI, isI_int, std_getL, std_nmul, std_sOf, sOf_str, std_isS, isS_str]
  cases hf : bfield n
  · simp [bhas, hf]
  · have hf' := bfield_iff.1 hf
    have h1 := bhi_lt n hf'.1
    have h2 := blo_lt n hf'.2.1
    simp [hh, hl, r64_of h1, r64_of h2, hf'.1, hf'.2.1, bhas, hf]
    by_cases hn : n ≤ 64
    · simp only [bhi, blo, hn, if_true]
      have := band_pow (h := h) (k := (64 - n).toNat)
      cases hb : h.testBit (64 - n).toNat
      · simp [this.2 hb]
      · have h3 : ¬ (h &&& 2 ^ (64 - n).toNat = 0) := fun e => by rw [this.1 e] at hb; cases hb
        simp [h3]
    · simp only [bhi, blo, hn, if_false]
      have := band_pow (h := l) (k := (128 - n).toNat)
      cases hb : l.testBit (128 - n).toNat
      · simp [this.2 hb]
      · have h3 : ¬ (l &&& 2 ^ (128 - n).toNat = 0) := fun e => by rw [this.1 e] at hb; cases hb
        simp [h3]
noncomputable def c11 : Ct := fun A args => match args with
  | [.agg [.int .u64 h, .int .u64 l]] => some (some (A.tp fun _ => r64 h ∧ r64 l), r11 A h l)
  | _ => none
noncomputable def c13 : Ct := fun A args => match args with
  | [.agg [.int .u64 h, .int .u64 l], .int .i64 n] => some (some (A.tp fun _ => r64 h ∧ r64 l), r13 A h l n)
  | _ => none
noncomputable def g2 : Ar → Pu := addC 131 c11 (addC 133 c13 g1)
theorem g2_ok : PuOk Tryz.prog gl0 (g2 std) := by
  refine addC_ok (addC_ok g1_ok ⟨_, Tryz.func133, rfl, by decide⟩ ?_) ⟨_, Tryz.func131, rfl, by decide⟩ ?_
  · intro args p r h hp
    unfold c13 at h
    split at h <;> cases h
    exact good13 _ hp.1 hp.2
  · intro args p r h hp
    unfold c11 at h
    split at h <;> cases h
    exact good11 hp.1 hp.2
def r7 (A : Ar) (h l n : Int) : SV := .tup [.agg [.int .u64 (A.ti fun _ => (bput h.toNat l.toNat n).1), .int .u64 (A.ti fun _ => (bput h.toNat l.toNat n).2)], .int .i64 (A.ti fun _ => berr h.toNat l.toNat n)]
theorem good7 {h l : Int} (n : Int) (hh : r64 h) (hl : r64 l) : GoodP Tryz.prog gl0 147 [.agg [.int .u64 h, .int .u64 l], .int .i64 n] (r7 std h l n) := by
  obtain ⟨h, rfl, lh⟩ := r64_nat hh
  obtain ⟨l, rfl, ll⟩ := r64_nat hl
  refine fn_sound' (T := seatT) (G := g2) (X := noX) seatT_ok g2_ok noX_ok noI_ok mixed Tryz.func147 .one (fun A => [.agg [.int .u64 h, .int .u64 l], .int .i64 n]) (fun A => r7 A h l n) fun A hA => ?_
  cbv
  repeat' (first | with_reducible exact True.intro | with_reducible exact dr_ok hA (by kernel_rfl) | with_reducible refine And.intro ?_ ?_ | (intro hc; cbv))
  all_goals (subst hA; simp [std_add, std_sub, std_mul, std_quo, std_rem, std_band, std_bor, std_bxor, std_shl, std_shr, std_eq, std_ne, std_lt, std_le, std_conv, std_not, std_beq, std_bne, std_ite, std_want, std_and2, std_sadd, std_seq, std_sne, std_slt, std_sle, std_sgt, std_sge, std_slen, std_sget, std_scut, std_ofNat, std_toNat, std_nsub, std_nadd, std_lenOf, std_nz, std_nneg, std_inb, std_upto, std_slt63, std_grow, std_imp, std_impN, std_tr, std_tb, std_ti, std_ts, std_tn, std_tp, std_nmin, std_makes, std_room, std_zeros, std_nilq, std_notq, std_eqi, std_eqn, std_eqb, std_eqs, std_eqv, std_cat, std_lst, std_rset, std_rcopy, std_shift, std_eqr, std_strOf, std_bytesOf, std_isB, std_zOf, zOf_int, std_isI, isI_int, std_getL, std_nmul, std_sOf, sOf_str, std_isS, isS_str] at *)
  all_goals first
    | exact ⟨hh, hl⟩
    | skip
  all_goals first
    | (have : (bright h l && bfield n) = false := by rcases hc with hc | hc <;> simp [hc]
       simp [bput, berr, this]; done)
    | (have := bfield_iff.1 hc.2; exact ⟨this.1, this.2.1⟩)
    | (rename_i hc1
       have hf := bfield_iff.1 hc1.2
       have e1 := bits_or_u64_nat h (bhi n) lh (bhi_lt n hf.1)
       have e2 := bits_or_u64_nat l (blo n) ll (blo_lt n hf.2.1)
       have e3 := bits_or_u64_nat (h ||| bhi n) 9223372036854775808 (or_lt64 lh (bhi_lt n hf.1)) (by decide)
       rw [e2] at hc
       have e4 : ((9223372036854775808 : Nat) : Int) = 9223372036854775808 := rfl
       rw [e4] at e3
       by_cases hne : l ||| blo n = 0
       · first
           | (exact absurd (by rw [hne]; rfl) hc)
           | (simp only [bput, berr, hc1.1, hc1.2, Bool.and_self, if_true, hne, ne_eq, not_true_eq_false, if_false, e1, e2]; done)
           | (simp only [bput, berr, hc1.1, hc1.2, Bool.and_self, if_true, hne, ne_eq, not_true_eq_false, if_false, e1, e2]; rfl)
       · first
           | (simp only [bput, berr, hc1.1, hc1.2, Bool.and_self, if_true, hne, ne_eq, not_false_eq_true, e1, e2, e3]; done)
           | (exact absurd (by exact_mod_cast hc) hne))
noncomputable def c7 : Ct := fun A args => match args with
  | [.agg [.int .u64 h, .int .u64 l], .int .i64 n] => some (some (A.tp fun _ => r64 h ∧ r64 l), r7 A h l n)
  | _ => none
noncomputable def g3 : Ar → Pu := addC 147 c7 g2
theorem g3_ok : PuOk Tryz.prog gl0 (g3 std) := by
  refine addC_ok g2_ok ⟨_, Tryz.func147, rfl, by decide⟩ ?_
  intro args p r h hp
  unfold c7 at h
  split at h <;> cases h
  exact good7 _ hp.1 hp.2
end Go.Vd

set_option linter.unusedVariables false
set_option linter.unusedSimpArgs false
set_option maxRecDepth 100000
set_option maxHeartbeats 1000000
namespace Go.Vd
open Go.Proofs
/-- The number of the first bytes. -/
def numTo (L : List UInt8) (k : Nat) : Nat := (L.take k).foldl (fun a b => a * 256 + b.toNat) 0
theorem numTo_succ (L : List UInt8) (k : Nat) (h : k < L.length) : numTo L (k + 1) = numTo L k * 256 + (L.getD k 0).toNat := by
  unfold numTo
  rw [List.take_succ_eq_append_getElem h, List.foldl_append]
  simp [List.getD_eq_getElem?_getD, h]
theorem numTo_lt (L : List UInt8) : ∀ k, k ≤ L.length → numTo L k < 256 ^ k
  | 0, _ => by simp [numTo]
  | k + 1, h => by
    have h1 := numTo_lt L k (by omega)
    rw [numTo_succ L k (by omega), Nat.pow_succ]
    have := UInt8.toNat_lt (L.getD k 0)
    omega
theorem shl_or (a b : Nat) (hb : b < 256) : a * 256 ||| b = a * 256 + b := by
  have := Nat.shiftLeft_add_eq_or_of_lt (b := b) (i := 8) hb a
  rw [Nat.shiftLeft_eq] at this
  exact this.symm
def r31 (A : Ar) (L : Unit → List UInt8) : SV := .int .u64 (A.ti fun _ => numTo (L ()) 8)
theorem good31 (L : List UInt8) (hn : 8 ≤ L.length) : GoodP Tryz.prog gl0 129 [rowS eB 0 1 std fun _ => L] (r31 std fun _ => L) := by
  refine fn_sound' (T := seatT) (G := noC) (X := noX) seatT_ok noC_ok noX_ok noI_ok mixed Tryz.func129 .one (fun A => [rowS eB 0 1 A fun _ => L]) (fun A => r31 A fun _ => L) fun A hA => ?_
  cbv
  refine ⟨⟨{k : Nat // k ≤ 8}, fun _ k => [(3, .int .u64 (A.ti fun _ => numTo L k.1)), (5, .int .i64 (k.1 : Nat))], fun _ _ => [], fun k => 8 - k.1, true⟩, ⟨⟨0, by omega⟩, ?_⟩, ?_⟩
  · cbv
    subst hA
    simp [sS, numTo]
  · rintro ⟨k, hk⟩
    cbv
    repeat' (first | with_reducible exact True.intro | with_reducible exact dr_ok hA (by kernel_rfl) | with_reducible refine And.intro ?_ ?_ | (intro hc; cbv))
    · subst hA; simp [sS]
    · subst hA; simp [sS] at hc ⊢; omega
    · have hlt : k < 8 := by subst hA; simp [sS] at hc; omega
      refine ⟨⟨k + 1, by omega⟩, ?_, show 8 - (k + 1) < 8 - k by omega⟩
      cbv
      repeat' (first | with_reducible exact True.intro | with_reducible exact dr_ok hA (by kernel_rfl) | with_reducible refine And.intro ?_ ?_ | (intro hc; cbv))
      all_goals (subst hA; simp [sS])
      · have h1 := numTo_lt L k (by omega)
        have h3 : 256 ^ k * 256 ≤ 256 ^ 8 := by rw [← Nat.pow_succ]; exact Nat.pow_le_pow_right (by decide) hlt
        have hs := numTo_succ L k (by omega)
        rw [List.getD_eq_getElem?_getD] at hs
        have hb := UInt8.toNat_lt (L[k]?.getD 0)
        generalize (L[k]?.getD 0).toNat = b at hs hb
        rw [show min 8 IntKind.u64.bits = 8 from rfl, wu64 (n := (b : Int)) ⟨by omega, by omega⟩]
        have e1 : IntKind.u64.wrap ((numTo L k : Int) * 2 ^ 8) = ((numTo L k * 256 : Nat) : Int) := by
          rw [wu64 ⟨by omega, by omega⟩]; simp
        rw [e1, bits_or_u64_nat _ _ (by omega) (by omega), shl_or _ _ (by omega), hs]
      · rw [w64 (by omega)]
    · have : k = 8 := by subst hA; simp [sS] at hc; omega
      subst hA this
      simp [sS]

/-! ### Fields -/
def bfieldsTo (h l n : Nat) : List Int := ((List.range' 2 (n - 2)).map Int.ofNat).filter (bhas h l)
theorem bfieldsTo_succ (h l n : Nat) (hn : 2 ≤ n) : bfieldsTo h l (n + 1) = if bhas h l n then bfieldsTo h l n ++ [(n : Int)] else bfieldsTo h l n := by
  unfold bfieldsTo
  rw [show n + 1 - 2 = (n - 2) + 1 by omega, List.range'_concat, List.map_append, List.filter_append]
  simp only [List.map_cons, List.map_nil, Nat.one_mul, List.filter_cons, List.filter_nil]
  rw [show 2 + (n - 2) = n by omega]
  cases hb : bhas h l n <;> simp [hb]
theorem bfieldsTo_len (h l n : Nat) : (bfieldsTo h l n).length ≤ n := by
  unfold bfieldsTo
  refine Nat.le_trans (List.length_filter_le _ _) ?_
  simp
def bfields (h l : Nat) : List Int := bfieldsTo h l 129
def r16 (A : Ar) (h l : Int) : SV := rowS eZ 0 1 A fun _ => bfields h.toNat l.toNat
theorem good16 {h l : Int} (hh : r64 h) (hl : r64 l) : GoodP Tryz.prog gl0 86 [.agg [.int .u64 h, .int .u64 l]] (r16 std h l) := by
  obtain ⟨h, rfl, lh⟩ := r64_nat hh
  obtain ⟨l, rfl, ll⟩ := r64_nat hl
  refine fn_sound' (T := seatT) (G := g2) (X := noX) seatT_ok g2_ok noX_ok noI_ok mixed Tryz.func86 .none (fun A => [.agg [.int .u64 h, .int .u64 l]]) (fun A => r16 A h l) fun A hA => ?_
  cbv
  refine ⟨⟨{n : Nat // 2 ≤ n ∧ n ≤ 129}, fun b n => [(3, .own b), (4, .int .i64 (n.1 : Nat))], fun b n => [(b, .row 3 1 (A.tn fun _ => (bfieldsTo h l n.1).length) (rowF eZ 0 A fun _ => bfieldsTo h l n.1))], fun n => 129 - n.1, true⟩, ⟨⟨2, by omega⟩, ?_⟩, ?_⟩
  · cbv
    subst hA
    simp [sS, bfieldsTo]
  · rintro ⟨n, hn1, hn2⟩
    cbv
    repeat' (first | with_reducible exact True.intro | with_reducible exact dr_ok hA (by kernel_rfl) | with_reducible refine And.intro ?_ ?_ | (intro hc; cbv))
    · have : n = 129 := by subst hA; simp [sS] at hc; omega
      subst hA this
      simp [sS, bfields]
    · have : n = 129 := by subst hA; simp [sS] at hc; omega
      subst hA this
      simp [sS, bfields]
    · subst hA; exact ⟨hh, hl⟩
    · have := bfieldsTo_len h l n
      subst hA
      simp [sS]; omega
    · rename_i hc1
      have hlt : n < 129 := by subst hA; simp [sS] at hc1; omega
      have hb : bhas h l n = true := by subst hA; simpa [sS] using hc
      refine ⟨⟨n + 1, by omega, by omega⟩, ?_, show 129 - (n + 1) < 129 - n by omega⟩
      have hs := bfieldsTo_succ h l n hn1
      rw [hb, if_pos rfl] at hs
      cbv
      repeat' (first | with_reducible exact True.intro | with_reducible exact dr_ok hA (by kernel_rfl) | with_reducible refine And.intro ?_ ?_ | (intro hc; cbv))
      all_goals (subst hA; simp [sS, hs])
      · rw [w64 (by omega)]
      · exact snoc_row rfl (cell_eZ _) rfl rfl
    · rename_i hc1
      have hlt : n < 129 := by subst hA; simp [sS] at hc1; omega
      have hb : bhas h l n = false := by subst hA; simpa [sS] using hc
      refine ⟨⟨n + 1, by omega, by omega⟩, ?_, show 129 - (n + 1) < 129 - n by omega⟩
      have hs := bfieldsTo_succ h l n hn1
      rw [hb, if_neg (by simp)] at hs
      cbv
      repeat' (first | with_reducible exact True.intro | with_reducible exact dr_ok hA (by kernel_rfl) | with_reducible refine And.intro ?_ ?_ | (intro hc; cbv))
      all_goals (subst hA; simp [sS, hs])
      · rw [w64 (by omega)]

/-! ### Of -/
/-- The bitmap of fields, or none. -/
def bofS (L : List Int) : Option (Nat × Nat) := L.foldl (fun o n => o.bind fun m => if bright m.1 m.2 && bfield n then some (bput m.1 m.2 n) else none) (some (0, 0))
def bof (L : List Int) : Nat × Nat := (bofS L).getD (0, 0)
def boferr (L : List Int) : Int := if (bofS L).isSome then 0 else 1
theorem bofS_none (f : Nat × Nat → Int → Option (Nat × Nat)) : ∀ L : List Int, L.foldl (fun o n => o.bind fun m => f m n) none = none
  | [] => rfl
  | _ :: L => by simpa using bofS_none f L
def bofTo (L : List Int) (k : Nat) : Option (Nat × Nat) := bofS (L.take k)
theorem bofTo_succ (L : List Int) (k : Nat) (h : k < L.length) : bofTo L (k + 1) = (bofTo L k).bind fun m => if bright m.1 m.2 && bfield (L.getD k 0) then some (bput m.1 m.2 (L.getD k 0)) else none := by
  unfold bofTo bofS
  rw [List.take_succ_eq_append_getElem h, List.foldl_append]
  simp [List.getD_eq_getElem?_getD, h]
theorem bofTo_stop (L : List Int) : ∀ k j, k ≤ j → bofTo L k = none → bofTo L j = none := by
  intro k j hkj hk
  obtain ⟨d, rfl⟩ := Nat.le.dest hkj
  unfold bofTo bofS at *
  rw [List.take_add, List.foldl_append, hk]
  exact bofS_none (fun m n => if bright m.1 m.2 && bfield n then some (bput m.1 m.2 n) else none) _
theorem bofTo_all (L : List Int) : bofTo L L.length = bofS L := by unfold bofTo; rw [List.take_length]
def r9 (A : Ar) (L : Unit → List Int) : SV := .tup [.agg [.int .u64 (A.ti fun _ => (bof (L ())).1), .int .u64 (A.ti fun _ => (bof (L ())).2)], .int .i64 (A.ti fun _ => boferr (L ()))]
theorem good9 (L : List Int) (hL : L.length ≤ 9223372036854775807) : GoodP Tryz.prog gl0 110 [rowS eZ 0 1 std fun _ => L] (r9 std fun _ => L) := by
  refine fn_sound' (T := seatT) (G := g3) (X := noX) seatT_ok g3_ok noX_ok noI_ok mixed Tryz.func110 .one (fun A => [rowS eZ 0 1 A fun _ => L]) (fun A => r9 A fun _ => L) fun A hA => ?_
  cbv
  refine ⟨⟨{p : Nat × Nat × Nat // p.1 ≤ L.length ∧ bofTo L p.1 = some p.2}, fun _ p => [(5, .int .i64 (p.1.1 : Nat))], fun _ p => [(2, .box 127 [.int .u64 (p.1.2.1 : Nat), .int .u64 (p.1.2.2 : Nat)])], fun p => L.length - p.1.1, true⟩, ⟨⟨(0, 0, 0), by omega, rfl⟩, ?_⟩, ?_⟩
  · cbv
    subst hA
    simp [sS]
  · rintro ⟨⟨k, h, l⟩, hk, hm⟩
    simp only at hk hm
    cbv
    have hb : (k : Nat) < L.length → (berr h l (L.getD k 0) = 0 ↔ bofTo L (k + 1) = some (bput h l (L.getD k 0))) ∧ (berr h l (L.getD k 0) ≠ 0 → berr h l (L.getD k 0) = 1 ∧ bofTo L (k + 1) = none) := by
      intro hlt
      have hs := bofTo_succ L k hlt
      rw [hm] at hs
      simp only [Option.bind_some] at hs
      unfold berr
      cases hq : (bright h l && bfield (L.getD k 0))
      · rw [hq] at hs; simp [hs]
      · rw [hq] at hs; simp [hs]
    have hr : r64 (h : Nat) ∧ r64 (l : Nat) := by
      have : ∀ k m, bofTo L k = some m → k ≤ L.length → m.1 < 18446744073709551616 ∧ m.2 < 18446744073709551616 := by
        intro k
        induction k with
        | zero => intro m hm _; simp [bofTo, bofS] at hm; subst hm; decide
        | succ k ih =>
          intro m hm hk
          rw [bofTo_succ L k (by omega)] at hm
          cases hq : bofTo L k with
          | none => rw [hq] at hm; cases hm
          | some m' =>
            rw [hq] at hm
            simp only [Option.bind_some] at hm
            split at hm
            · cases hm
              have := ih m' hq (by omega)
              exact bput_lt _ this.1 this.2
            · cases hm
      have := this k _ hm hk
      exact ⟨r64_of this.1, r64_of this.2⟩
    repeat' (first | with_reducible exact True.intro | with_reducible exact dr_ok hA (by kernel_rfl) | with_reducible refine And.intro ?_ ?_ | (intro hc; cbv))
    · have : k = L.length := by subst hA; simp [sS] at hc; omega
      subst this
      rw [bofTo_all] at hm
      subst hA; simp [sS, bof, hm]
    · have : k = L.length := by subst hA; simp [sS] at hc; omega
      subst this
      rw [bofTo_all] at hm
      subst hA; simp [sS, bof, hm]
    · have : k = L.length := by subst hA; simp [sS] at hc; omega
      subst this
      rw [bofTo_all] at hm
      subst hA; simp [sS, boferr, hm]
    · subst hA; simp [sS] at hc ⊢; omega
    · subst hA; exact hr
    · rename_i hc1
      have hlt : k < L.length := by subst hA; simp [sS] at hc1; omega
      have h2 : berr h l (L.getD k 0) ≠ 0 := by subst hA; simp [sS] at hc ⊢; exact hc
      have h3 := bofTo_stop L (k + 1) L.length hlt ((hb hlt).2 h2).2
      rw [bofTo_all] at h3
      subst hA; simp [sS, bof, h3]
    · rename_i hc1
      have hlt : k < L.length := by subst hA; simp [sS] at hc1; omega
      have h2 : berr h l (L.getD k 0) ≠ 0 := by subst hA; simp [sS] at hc ⊢; exact hc
      have h3 := bofTo_stop L (k + 1) L.length hlt ((hb hlt).2 h2).2
      rw [bofTo_all] at h3
      subst hA; simp [sS, bof, h3]
    · rename_i hc1
      have hlt : k < L.length := by subst hA; simp [sS] at hc1; omega
      have h2 : berr h l (L.getD k 0) ≠ 0 := by subst hA; simp [sS] at hc ⊢; exact hc
      have h3 := bofTo_stop L (k + 1) L.length hlt ((hb hlt).2 h2).2
      rw [bofTo_all] at h3
      have h4 := ((hb hlt).2 h2).1
      subst hA; simp [sS, boferr, h3] at h4 ⊢; exact h4
    · rename_i hc1
      have hlt : k < L.length := by subst hA; simp [sS] at hc1; omega
      have h2 : berr h l (L.getD k 0) = 0 := by subst hA; simp [sS] at hc ⊢; exact hc
      have hx := (hb hlt).1.1 h2
      clear hb
      obtain ⟨b, hbq⟩ : ∃ b, b = bput h l (L.getD k 0) := ⟨_, rfl⟩
      have hx' : k + 1 ≤ L.length ∧ bofTo L (k + 1) = some b := ⟨hlt, by rw [hbq]; exact hx⟩
      refine ⟨⟨(k + 1, b), hx'⟩, ?_, ?_⟩
      rotate_left
      · show L.length - (k + 1) < L.length - k
        omega
      cbv
      repeat' (first | with_reducible exact True.intro | with_reducible exact dr_ok hA (by kernel_rfl) | with_reducible refine And.intro ?_ ?_ | (intro hc; cbv))
      all_goals (subst hA; simp [sS])
      · rw [w64 (by omega)]
      · rw [hbq, List.getD_eq_getElem?_getD]
      · rw [hbq, List.getD_eq_getElem?_getD]
noncomputable def c31 : Ct := fun A args => match args with
  | [.slc n 1 f] => some (some (A.tp fun _ => isRow eB 0 1 n f ∧ 8 ≤ n), r31 A fun _ => lstOf eB 0 1 n f)
  | _ => none
noncomputable def c16 : Ct := fun A args => match args with
  | [.agg [.int .u64 h, .int .u64 l]] => some (some (A.tp fun _ => r64 h ∧ r64 l), r16 A h l)
  | _ => none
noncomputable def c9 : Ct := fun A args => match args with
  | [.slc n 1 f] => some (some (A.tp fun _ => isRow eZ 0 1 n f ∧ n ≤ 9223372036854775807), r9 A fun _ => lstOf eZ 0 1 n f)
  | _ => none
noncomputable def g4 : Ar → Pu := addC 129 c31 (addC 86 c16 (addC 110 c9 g3))
theorem g4_ok : PuOk Tryz.prog gl0 (g4 std) := by
  refine addC_ok (addC_ok (addC_ok g3_ok ⟨_, Tryz.func110, rfl, by decide⟩ ?_) ⟨_, Tryz.func86, rfl, by decide⟩ ?_) ⟨_, Tryz.func129, rfl, by decide⟩ ?_
  · intro args p r h hp
    unfold c9 at h
    split at h <;> cases h
    exact good_sv (good9 _ (by rw [lstOf_length hp.1]; exact hp.2)) ⟨hp.1.sv, trivial⟩
  · intro args p r h hp
    unfold c16 at h
    split at h <;> cases h
    exact good16 hp.1 hp.2
  · intro args p r h hp
    unfold c31 at h
    split at h <;> cases h
    exact good_sv (good31 _ (by rw [lstOf_length hp.1]; exact hp.2)) ⟨hp.1.sv, trivial⟩
end Go.Vd

set_option linter.unusedVariables false
set_option linter.unusedSimpArgs false
set_option maxRecDepth 100000
set_option maxHeartbeats 1000000
namespace Go.Vd
open Go.Proofs
/-- The byte of a number, the highest first. -/
def byteAt (v i : Nat) : UInt8 := UInt8.ofNat (v / 256 ^ (7 - i))
def be8 (v : Nat) : List UInt8 := (List.range 8).map (byteAt v)
def beTo (v k : Nat) : List UInt8 := (List.range k).map (byteAt v)
theorem beTo_succ (v k : Nat) : beTo v (k + 1) = beTo v k ++ [byteAt v k] := by simp [beTo, List.range_succ]
theorem beTo_len (v k : Nat) : (beTo v k).length = k := by simp [beTo]
def bbytes (h l : Nat) : List UInt8 := if bright h l then (if h.testBit 63 then be8 h ++ be8 l else be8 h) else []
def bbErr (h l : Nat) : Int := if bright h l then 0 else 1
theorem wu8 (n : Nat) : IntKind.u8.wrap (n : Int) = ((n % 256 : Nat) : Int) := by
  simp only [IntKind.wrap, IntKind.signed, IntKind.bits, Bool.false_and, Bool.false_eq_true, if_false]
  omega
theorem byte_conv (v k : Nat) (hk : k < 8) :
    IntKind.u8.wrap ((v : Int).fdiv (2 ^ min (IntKind.i64.wrap (64 - IntKind.i64.wrap (8 * IntKind.i64.wrap (k + 1)))).toNat IntKind.u64.bits)) = ((byteAt v k).toNat : Int) := by
  rw [w64 (n := (k : Int) + 1) (by omega), w64 (n := 8 * ((k : Int) + 1)) (by omega), w64 (by omega)]
  have e : min (64 - 8 * ((k : Int) + 1)).toNat IntKind.u64.bits = 8 * (7 - k) := by simp only [IntKind.bits]; omega
  have e2 : (2 ^ (8 * (7 - k)) : Int) = ((256 ^ (7 - k) : Nat) : Int) := by rw [Int.pow_mul, Int.natCast_pow]; rfl
  rw [e, e2, Int.fdiv_eq_ediv_of_nonneg _ (Int.natCast_nonneg _), ← Int.natCast_ediv, wu8]
  simp [byteAt]
noncomputable def i18 : Nat → Option Func := addI 148 Tryz.f148 noI
theorem i18_ok : InOk Tryz.prog i18 := addI_ok noI_ok Tryz.func148 (by decide)
def r18 (A : Ar) (h l : Int) : SV := .tup [.frs 5 1 (A.tn fun _ => (bbytes h.toNat l.toNat).length) (rowF eB 0 A fun _ => bbytes h.toNat l.toNat), .int .i64 (A.ti fun _ => bbErr h.toNat l.toNat)]
theorem good18 {h l : Int} (hh : r64 h) (hl : r64 l) : GoodP Tryz.prog gl0 111 [.agg [.int .u64 h, .int .u64 l]] (r18 std h l) := by
  obtain ⟨h, rfl, lh⟩ := r64_nat hh
  obtain ⟨l, rfl, ll⟩ := r64_nat hl
  refine fn_sound' (T := seatT) (G := g4) (X := noX) seatT_ok g4_ok noX_ok i18_ok mixed Tryz.func111 (.fresh 5 1) (fun A => [.agg [.int .u64 h, .int .u64 l]]) (fun A => r18 A h l) fun A hA => ?_
  cbv
  repeat' (first | with_reducible exact True.intro | with_reducible exact dr_ok hA (by kernel_rfl) | with_reducible refine And.intro ?_ ?_ | (intro hc; cbv))
  · subst hA; exact ⟨hh, hl⟩
  · subst hA; simp [sS] at hc ⊢; simp [bbytes, hc]
  · subst hA; simp [sS] at hc ⊢; simp [bbytes, hc]; exact fun i j hi => absurd hi (by omega)
  · subst hA; simp [sS] at hc ⊢; simp [bbErr, hc]
  · have hb : bright h l = true := by subst hA; simpa [sS] using hc
    refine ⟨⟨{k : Nat // k ≤ 8}, fun b k => [(0, .own b), (6, .int .i64 (k.1 : Nat))], fun b k => [(b, .row 5 1 k.1 (rowF eB 0 A fun _ => beTo h k.1))], fun k => 8 - k.1, true⟩, ⟨⟨0, by omega⟩, ?_⟩, ?_⟩
    · cbv
      subst hA
      simp [sS]
    · rintro ⟨k, hk⟩
      cbv
      repeat' (first | with_reducible exact True.intro | with_reducible exact dr_ok hA (by kernel_rfl) | with_reducible refine And.intro ?_ ?_ | (intro hc; cbv))
      · subst hA; simp [sS] at hc ⊢; rw [w64 (n := (k : Int) + 1) (by omega), w64 (n := 8 * ((k : Int) + 1)) (by omega), w64 (by omega)]; omega
      · subst hA; simp [sS]; omega
      · have hlt : k < 8 := by subst hA; simp [sS] at hc; omega
        refine ⟨⟨k + 1, by omega⟩, ?_, show 8 - (k + 1) < 8 - k by omega⟩
        cbv
        repeat' (first | with_reducible exact True.intro | with_reducible exact dr_ok hA (by kernel_rfl) | with_reducible refine And.intro ?_ ?_ | (intro hc; cbv))
        all_goals (subst hA; simp [sS])
        · rw [w64 (by omega)]
        · exact snoc_row (by simp [beTo_len]) (cell_eB (byte_conv h k hlt)) (beTo_succ h k).symm (by simp)
      · subst hA; exact hh
      · have hk8 : k = 8 := by subst hA; simp [sS] at *; omega
        have ht : h.testBit 63 = true := by subst hA; simp [sS] at *; assumption
        subst hk8
        refine ⟨⟨{k : Nat // k ≤ 8}, fun b k => [(0, .own 10), (6, .int .i64 (k.1 : Nat))], fun b k => [(10, .row 5 1 (A.tn fun _ => 8 + k.1) (rowF eB 0 A fun _ => be8 h ++ beTo l k.1))], fun k => 8 - k.1, true⟩, ⟨⟨0, by omega⟩, ?_⟩, ?_⟩
        · cbv
          repeat' (first | with_reducible exact True.intro | with_reducible exact dr_ok hA (by kernel_rfl) | with_reducible refine And.intro ?_ ?_ | (intro hc; cbv))
          all_goals (subst hA; simp [sS, beTo, be8])
        · rintro ⟨k, hk⟩
          cbv
          repeat' (first | with_reducible exact True.intro | with_reducible exact dr_ok hA (by kernel_rfl) | with_reducible refine And.intro ?_ ?_ | (intro hc; cbv))
          · subst hA; simp [sS] at hc ⊢; rw [w64 (n := (k : Int) + 1) (by omega), w64 (n := 8 * ((k : Int) + 1)) (by omega), w64 (by omega)]; omega
          · subst hA; simp [sS]; omega
          · have hlt : k < 8 := by subst hA; simp [sS] at hc; omega
            refine ⟨⟨k + 1, by omega⟩, ?_, show 8 - (k + 1) < 8 - k by omega⟩
            cbv
            repeat' (first | with_reducible exact True.intro | with_reducible exact dr_ok hA (by kernel_rfl) | with_reducible refine And.intro ?_ ?_ | (intro hc; cbv))
            all_goals (subst hA; simp [sS])
            · rw [w64 (by omega)]
            · omega
            · exact snoc_row (by simp [beTo_len, be8]) (cell_eB (byte_conv l k hlt)) (by rw [beTo_succ, List.append_assoc]) (by omega)
          · have hk8 : k = 8 := by subst hA; simp [sS] at hc; omega
            subst hA hk8
            simp [sS, bbytes, hb, ht, be8]
          · have hk8 : k = 8 := by subst hA; simp [sS] at hc; omega
            subst hA hk8
            simp [sS, bbytes, hb, ht, be8, beTo]
          · subst hA; simp [sS, bbErr, hb]
      · have hk8 : k = 8 := by subst hA; simp [sS] at *; omega
        have ht : h.testBit 63 = false := by subst hA; simp [sS] at *; assumption
        subst hA hk8
        simp [sS, bbytes, hb, ht, be8]
      · have hk8 : k = 8 := by subst hA; simp [sS] at *; omega
        have ht : h.testBit 63 = false := by subst hA; simp [sS] at *; assumption
        subst hA hk8
        simp [sS, bbytes, hb, ht, be8, beTo]
      · subst hA; simp [sS, bbErr, hb]
end Go.Vd

set_option linter.unusedVariables false
set_option linter.unusedSimpArgs false
set_option maxRecDepth 100000
set_option maxHeartbeats 1000000
namespace Go.Vd
open Go.Proofs
noncomputable def c18 : Ct := fun A args => match args with
  | [.agg [.int .u64 h, .int .u64 l]] => some (some (A.tp fun _ => r64 h ∧ r64 l), r18 A h l)
  | _ => none
def brH (L : List UInt8) : Nat := numTo L 8
def brM (L : List UInt8) : Bool := (brH L).testBit 63
def brL (L : List UInt8) : Nat := if brM L then numTo (L.drop 8) 8 else 0
def brE (L : List UInt8) : Int :=
  if L.length < 8 then 2 else if brM L && decide (L.length < 16) then 2 else if bright (brH L) (brL L) then 0 else 3
def brN (L : List UInt8) : Int := if brE L = 0 then (if brM L then 16 else 8) else 0
def br1 (L : List UInt8) : Nat := if brE L = 0 then brH L else 0
def br2 (L : List UInt8) : Nat := if brE L = 0 then brL L else 0
theorem numTo_r (L : List UInt8) (h : 8 ≤ L.length) : r64 (numTo L 8 : Nat) := r64_of (Nat.lt_of_lt_of_le (numTo_lt L 8 h) (by decide))
theorem brL_r (L : List UInt8) (h : brM L = true → 16 ≤ L.length) : r64 (brL L : Nat) := by
  unfold brL
  split
  · rename_i hb
    exact numTo_r _ (by have := h hb; simp; omega)
  · exact r64_of (by decide)
theorem rep_drop (L : List UInt8) (a : Nat) : Reps eB 0 1 (L.length - a) (fun i => rowF eB 0 std (fun _ => L) (a + i)) (L.drop a) := by
  refine ⟨by simp, fun i j hi hj => .of_eq ?_⟩
  simp [rowF, List.getD_eq_getElem?_getD]
theorem lst_drop (L : List UInt8) (a : Nat) : lstOf eB 0 1 (L.length - a) (fun i => rowF eB 0 std (fun _ => L) (a + i)) = L.drop a := lstOf_eq inj_eB (rep_drop L a)
theorem row_drop (L : List UInt8) (a : Nat) : isRow eB 0 1 (L.length - a) (fun i => rowF eB 0 std (fun _ => L) (a + i)) := ⟨_, rep_drop L a⟩
def r20 (A : Ar) (L : Unit → List UInt8) : SV := .tup [.agg [.int .u64 (A.ti fun _ => br1 (L ())), .int .u64 (A.ti fun _ => br2 (L ()))], .int .i64 (A.ti fun _ => brN (L ())), .int .i64 (A.ti fun _ => brE (L ()))]
theorem good20 (L : List UInt8) (hn : L.length ≤ 9223372036854775807) : GoodP Tryz.prog gl0 84 [rowS eB 0 1 std fun _ => L] (r20 std fun _ => L) := by
  refine fn_sound' (T := seatT) (G := g4) (X := noX) seatT_ok g4_ok noX_ok noI_ok mixed Tryz.func84 .one (fun A => [rowS eB 0 1 A fun _ => L]) (fun A => r20 A fun _ => L) fun A hA => ?_
  cbv
  repeat' (first | with_reducible exact True.intro | with_reducible exact dr_ok hA (by kernel_rfl) | with_reducible refine And.intro ?_ ?_ | (intro hc; cbv))
  all_goals (subst hA; simp [std_add, std_sub, std_mul, std_quo, std_rem, std_band, std_bor, std_bxor, std_shl, std_shr, std_eq, std_ne, std_lt, std_le, std_conv, std_not, std_beq, std_bne, std_ite, std_want, std_and2, std_sadd, std_seq, std_sne, std_slt, std_sle, std_sgt, std_sge, std_slen, std_sget, std_scut, std_ofNat, std_toNat, std_nsub, std_nadd, std_lenOf, std_nz, std_nneg, std_inb, std_upto, std_slt63, std_grow, std_imp, std_impN, std_tr, std_tb, std_ti, std_ts, std_tn, std_tp, std_nmin, std_makes, std_room, std_zeros, std_nilq, std_notq, std_eqi, std_eqn, std_eqb, std_eqs, std_eqv, std_cat, std_lst, std_rset, std_rcopy, std_shift, std_eqr, std_strOf, std_bytesOf, std_isB, std_zOf, zOf_int, std_isI, isI_int, std_getL, std_nmul, std_sOf, sOf_str, std_isS, isS_str, strOf_lit, lstOf_lit inj_eB, lstOf_lit inj_eZ, lstOf_lit inj_eBs, lstOf_lit inj_eS, isRow_lit, isB_lit, isRow_nil, lstOf_nil inj_eB, lstOf_nil inj_eZ, lstOf_nil inj_eBs, lstOf_nil inj_eS, lst_drop, row_drop] at *)
  all_goals first
    | omega
    | exact numTo_r _ (by omega)
    | exact ⟨numTo_r _ (by omega), numTo_r _ (by simp; omega)⟩
    | exact ⟨numTo_r _ (by omega), r64_of (by decide)⟩
    | (have e1 : L.length < 8 := by omega
       simp [br1, br2, brN, brE, e1]; done)
    | (have e1 : ¬ L.length < 8 := by omega
       have e2 : L.length < 16 := by omega
       simp [br1, br2, brN, brE, brL, brM, brH, e1, e2, *]; done)
    | (have e1 : ¬ L.length < 8 := by omega
       have e2 : ¬ L.length < 16 := by omega
       simp [br1, br2, brN, brE, brL, brM, brH, e1, e2, *]; done)
    | (have e1 : ¬ L.length < 8 := by omega
       simp [br1, br2, brN, brE, brL, brM, brH, e1, *]; done)
noncomputable def c20 : Ct := fun A args => match args with
  | [.slc n 1 f] => some (some (A.tp fun _ => isRow eB 0 1 n f ∧ n ≤ 9223372036854775807), r20 A fun _ => lstOf eB 0 1 n f)
  | _ => none
theorem c20_ok {n : Nat} {f : Nat → Nat → SV} (hp : isRow eB 0 1 n f ∧ n ≤ 9223372036854775807) : GoodP Tryz.prog gl0 84 [.slc n 1 f] (r20 std fun _ => lstOf eB 0 1 n f) :=
  good_sv (good20 _ (by rw [lstOf_length hp.1]; exact hp.2)) ⟨hp.1.sv, trivial⟩
end Go.Vd

set_option linter.unusedVariables false
set_option linter.unusedSimpArgs false
set_option maxRecDepth 100000
set_option maxHeartbeats 1000000
namespace Go.Vd
open Go.Proofs
theorem bhi_bit (n : Int) (i : Nat) : (bhi n).testBit i = (decide (n ≤ 64) && decide (i = (64 - n).toNat)) := by
  unfold bhi
  split
  · rename_i h
    simp only [h, decide_true, Bool.true_and, Nat.testBit_two_pow, decide_eq_decide]
    omega
  · rename_i h; simp [h]
theorem blo_bit (n : Int) (i : Nat) : (blo n).testBit i = (decide (64 < n) && decide (i = (128 - n).toNat)) := by
  unfold blo
  split
  · rename_i h
    have : ¬ 64 < n := by omega
    simp [this]
  · rename_i h
    have : 64 < n := by omega
    simp only [this, decide_true, Bool.true_and, Nat.testBit_two_pow, decide_eq_decide]
    omega
theorem top_bit (i : Nat) : (9223372036854775808 : Nat).testBit i = decide (i = 63) := by
  rw [show (9223372036854775808 : Nat) = 2 ^ 63 from rfl, Nat.testBit_two_pow, decide_eq_decide]
  omega
theorem or_zero_iff {a b : Nat} : a ||| b = 0 ↔ a = 0 ∧ b = 0 := by
  constructor
  · intro h
    constructor
    · apply Nat.eq_of_testBit_eq; intro i
      have := congrArg (fun x => x.testBit i) h
      simp only [Nat.testBit_or, Nat.zero_testBit, Bool.or_eq_false_iff] at this
      simp [this.1]
    · apply Nat.eq_of_testBit_eq; intro i
      have := congrArg (fun x => x.testBit i) h
      simp only [Nat.testBit_or, Nat.zero_testBit, Bool.or_eq_false_iff] at this
      simp [this.2]
  · rintro ⟨rfl, rfl⟩; rfl
theorem bput_no {h l : Nat} {n : Int} (hq : (bright h l && bfield n) = false) : bput h l n = (h, l) := by simp [bput, hq]
theorem bput_snd {h l : Nat} {n : Int} (hb : bright h l = true) (hf : bfield n = true) : (bput h l n).2 = l ||| blo n := by simp [bput, hb, hf]
theorem bput_fst {h l : Nat} {n : Int} (hb : bright h l = true) (hf : bfield n = true) (i : Nat) : (bput h l n).1.testBit i = (h.testBit i || (bhi n).testBit i || (decide (i = 63) && decide (l ||| blo n ≠ 0))) := by
  simp only [bput, hb, hf, Bool.and_self, if_true]
  split
  · rename_i h0; simp [Nat.testBit_or, top_bit, h0]
  · rename_i h0
    simp only [ne_eq, Decidable.not_not] at h0
    simp [Nat.testBit_or, h0]
theorem bright_iff {h l : Nat} : bright h l = true ↔ l.testBit 63 = false ∧ (h.testBit 63 = decide (l ≠ 0)) := by
  simp [bright]
theorem bput_bright {h l : Nat} {n : Int} (hb : bright h l = true) (hf : bfield n = true) : bright (bput h l n).1 (bput h l n).2 = true := by
  have h0 := bright_iff.1 hb
  have h1 := bfield_iff.1 hf
  refine bright_iff.2 ⟨?_, ?_⟩
  · rw [bput_snd hb hf, Nat.testBit_or, h0.1, blo_bit]
    simp; omega
  · rw [bput_fst hb hf, h0.2, bhi_bit, bput_snd hb hf]
    have : ¬ (63 = (64 - n).toNat) := by omega
    simp only [this, decide_false, Bool.and_false, Bool.or_false, decide_true, Bool.true_and]
    by_cases hl : l = 0
    · simp [hl]
    · have : ¬ (l ||| blo n = 0) := fun e => hl (or_zero_iff.1 e).1
      simp [hl, this]
theorem or_self3 (a b : Nat) : (a ||| b) ||| b = a ||| b := by rw [Nat.or_assoc, Nat.or_self]
theorem bput_again {h l : Nat} {n : Int} (hb : bright h l = true) (hf : bfield n = true) : bput (bput h l n).1 (bput h l n).2 n = bput h l n := by
  have hb' := bput_bright hb hf
  apply Prod.ext
  · apply Nat.eq_of_testBit_eq; intro i
    rw [bput_fst hb' hf, bput_fst hb hf, bput_snd hb hf, or_self3]
    cases h.testBit i <;> cases (bhi n).testBit i <;> simp
  · rw [bput_snd hb' hf, bput_snd hb hf, or_self3]
theorem bput_comm {h l : Nat} {n o : Int} (hb : bright h l = true) (hf : bfield n = true) (hg : bfield o = true) : bput (bput h l n).1 (bput h l n).2 o = bput (bput h l o).1 (bput h l o).2 n := by
  have hb1 := bput_bright hb hf
  have hb2 := bput_bright hb hg
  have hc : l ||| blo n ||| blo o = l ||| blo o ||| blo n := by rw [Nat.or_assoc, Nat.or_comm (blo n), ← Nat.or_assoc]
  apply Prod.ext
  · apply Nat.eq_of_testBit_eq; intro i
    rw [bput_fst hb1 hg, bput_fst hb hf, bput_snd hb hf, bput_fst hb2 hf, bput_fst hb hg, bput_snd hb hg, hc]
    by_cases hi : i = 63
    · subst hi
      by_cases h1 : l ||| blo n = 0
      · by_cases h2 : l ||| blo o = 0
        · simp [h1, h2, Bool.or_comm, Bool.or_left_comm, Bool.or_assoc]
        · have : ¬ (l ||| blo o ||| blo n = 0) := fun e => h2 (or_zero_iff.1 e).1
          simp [this]
      · have : ¬ (l ||| blo o ||| blo n = 0) := fun e => h1 (by rw [← hc] at e; exact (or_zero_iff.1 e).1)
        simp [this]
    · simp [hi, Bool.or_comm, Bool.or_left_comm, Bool.or_assoc]
  · rw [bput_snd hb1 hg, bput_snd hb hf, bput_snd hb2 hf, bput_snd hb hg, hc]
theorem bput_has {h l : Nat} {n : Int} (hb : bright h l = true) (hf : bfield n = true) : bhas (bput h l n).1 (bput h l n).2 n = true := by
  unfold bhas
  rw [hf, bput_fst hb hf, bput_snd hb hf, Nat.testBit_or, bhi_bit, blo_bit]
  by_cases hn : n ≤ 64
  · simp [hn]
  · have : 64 < n := by omega
    simp [hn, this]
theorem bput_other {h l : Nat} {n o : Int} (hb : bright h l = true) (hf : bfield n = true) (hne : o ≠ n) : bhas (bput h l n).1 (bput h l n).2 o = bhas h l o := by
  unfold bhas
  cases hg : bfield o
  · rfl
  · have h1 := bfield_iff.1 hf
    have h2 := bfield_iff.1 hg
    rw [bput_fst hb hf, bput_snd hb hf, Nat.testBit_or, bhi_bit, blo_bit]
    by_cases hn : o ≤ 64
    · have e1 : ¬ ((64 - o).toNat = 63) := by omega
      have e2 : (decide (n ≤ 64) && decide ((64 - o).toNat = (64 - n).toNat)) = false := by simp; omega
      simp only [hn, if_true, e1, e2, decide_false, Bool.false_and, Bool.or_false]
    · have e2 : (decide (64 < n) && decide ((128 - o).toNat = (128 - n).toNat)) = false := by simp; omega
      simp only [hn, if_false, e2, Bool.or_false]
end Go.Vd

