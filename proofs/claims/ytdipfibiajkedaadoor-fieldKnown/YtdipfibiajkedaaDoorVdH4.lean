/- The fields' functions: Write. -/
import Derived.Test.YtdipfibiajkedaaDoorVdH3
set_option linter.unusedVariables false
set_option linter.unusedSimpArgs false
set_option maxRecDepth 100000
set_option maxHeartbeats 4000000
namespace Go.Vd
open Go.Proofs
def fAh (k : Int) : Nat := if k < 3 then 0 else if k = 5 then 3 else 2
def fWr (n : Int) (L : List UInt8) : List UInt8 := if rr n L = true then (if dKd n < 3 then L else decs (fAh (dKd n)) L.length ++ L) else []
def fWe (n : Int) (L : List UInt8) : Int := if dOk n = false then 5 else if rr n L = true then 0 else 1
theorem rr_ok {n : Int} {L : List UInt8} (h : rr n L = true) : dOk n = true ∧ ¬L = [] ∧ (L.length : Int) ≤ dSz n ∧ (dKd n < 3 → dSz n ≤ L.length) ∧ signs (dKd n) L = true := by
  unfold rr at h
  split at h
  · rename_i hc
    exact ⟨hc.1, hc.2.1, hc.2.2.1, hc.2.2.2, h⟩
  · cases h
theorem we_no {n : Int} {L : List UInt8} (h : dOk n = false) : fWe n L = 5 ∧ fWr n L = [] := by
  unfold fWe fWr; rw [if_pos h, rr_no h]; exact ⟨rfl, rfl⟩
theorem we_bad {n : Int} {L : List UInt8} (h : dOk n = true) (hr : rr n L = false) : fWe n L = 1 ∧ fWr n L = [] := by
  simp [fWe, fWr, h, hr]
theorem we_fix {n : Int} {L : List UInt8} (hr : rr n L = true) (hk : dKd n < 3) : fWe n L = 0 ∧ fWr n L = L := by
  simp [fWe, fWr, (rr_ok hr).1, hr, hk]
theorem we_long {n : Int} {L : List UInt8} (hr : rr n L = true) (hk : 3 ≤ dKd n) : fWe n L = 0 ∧ fWr n L = decs (fAh (dKd n)) L.length ++ L := by
  simp [fWe, fWr, (rr_ok hr).1, hr, show ¬dKd n < 3 by omega]
theorem pu_len {n : Int} {L : List UInt8} (hr : rr n L = true) (hk : 3 ≤ dKd n) : puE (L.length : Int) (fAh (dKd n) : Int) = 0 ∧ puS (L.length : Int) (fAh (dKd n) : Int) = decs (fAh (dKd n)) L.length := by
  obtain ⟨h1, h2, h3, h4, h5⟩ := rr_ok hr
  have hb := dOk_b h1
  have ha : fAh (dKd n) = if dKd n = 5 then 3 else 2 := by unfold fAh; rw [if_neg (by omega)]
  have h6 := pu3 (v := (L.length : Int)) (n := (fAh (dKd n) : Int)) (by rw [ha]; split <;> omega) (by
    rw [Int.toNat_natCast, Int.toNat_natCast, ha]
    split
    · have := hb.2.2.2.1; omega
    · have := hb.2.2.2.2.2.2 (by omega); omega)
  rw [Int.toNat_natCast, Int.toNat_natCast] at h6
  exact ⟨h6.2, h6.1⟩
theorem we_2 {n : Int} {L : List UInt8} (hr : rr n L = true) (hk : dKd n = 3 ∨ dKd n = 4) : puE (IntKind.u64.wrap (L.length : Int)) 2 = 0 ∧ puS (IntKind.u64.wrap (L.length : Int)) 2 = decs 2 L.length ∧ fWr n L = decs 2 L.length ++ L ∧ fWe n L = 0 ∧ IntKind.u64.wrap (L.length : Int) = (L.length : Int) := by
  have h1 := rr_ok hr
  have hb := dOk_b h1.1
  have hw := we_long hr (by omega)
  have hp := pu_len hr (by omega)
  have ha : fAh (dKd n) = 2 := by unfold fAh; rw [if_neg (by omega), if_neg (by omega)]
  have hu : IntKind.u64.wrap (L.length : Int) = (L.length : Int) := wU64' (by omega)
  rw [ha] at hw hp
  rw [hu]
  exact ⟨hp.1, hp.2, hw.2, hw.1, rfl⟩
theorem we_3 {n : Int} {L : List UInt8} (hr : rr n L = true) (hk : dKd n = 5) : puE (IntKind.u64.wrap (L.length : Int)) 3 = 0 ∧ puS (IntKind.u64.wrap (L.length : Int)) 3 = decs 3 L.length ∧ fWr n L = decs 3 L.length ++ L ∧ fWe n L = 0 ∧ IntKind.u64.wrap (L.length : Int) = (L.length : Int) := by
  have h1 := rr_ok hr
  have hb := dOk_b h1.1
  have hw := we_long hr (by omega)
  have hp := pu_len hr (by omega)
  have ha : fAh (dKd n) = 3 := by unfold fAh; rw [if_neg (by omega), if_pos hk]
  have hu : IntKind.u64.wrap (L.length : Int) = (L.length : Int) := wU64' (by omega)
  rw [ha] at hw hp
  rw [hu]
  exact ⟨hp.1, hp.2, hw.2, hw.1, rfl⟩
theorem puS_len (v n : Int) : (puS v n).length ≤ 19 := by
  unfold puS
  split
  · simp
  · split
    · simp
    · rw [decs_len]; omega
theorem row_bytes (L : List UInt8) : Reps eB 0 1 L.length (bytesOfS L) L := Reps.bytesOf L _ fun i => rfl
noncomputable def c_gRight : Ct := fun A args => match args with
  | [.int .i64 n, .str r] => some (some (A.tp fun _ => r.length ≤ 1000000), .bool (A.tb fun _ => rr n r))
  | _ => none
noncomputable def gh3 : Ar → Pu := addC 26 c_gRight (gh2)
theorem gh3_ok : PuOk Tryd.prog gl0 (gh3 std) := by
  refine addC_ok (gh2_ok) ⟨_, Tryd.func26, rfl, by decide⟩ ?_
  · intro args p r h hp
    unfold c_gRight at h
    split at h <;> cases h
    exact good_gRight _ _ hp
theorem good_gWrite (n : Int) (L : List UInt8) (hL : L.length ≤ 1000000) : GoodP Tryd.prog gl0 24 [.int .i64 n, .str L] (.tup [rowS eB 0 1 std fun _ => fWr n L, .int .i64 (std.ti fun _ => fWe n L)]) := by
  refine fn_sound' (T := seatT) (G := gh3) (X := xF) seatT_ok gh3_ok xF_ok iF_ok mixed Tryd.func24 (.none) (fun A => [.int .i64 n, .str L]) (fun A => .tup [rowS eB 0 1 A fun _ => fWr n L, .int .i64 (A.ti fun _ => fWe n L)]) fun A hA => ?_
  cbv
  repeat' (first | with_reducible exact True.intro | with_reducible exact dr_ok hA (by kernel_rfl) | with_reducible refine And.intro ?_ ?_ | (intro hc; cbv))
  all_goals (subst hA; simp [std_add, std_sub, std_mul, std_quo, std_rem, std_band, std_bor, std_bxor, std_shl, std_shr, std_eq, std_ne, std_lt, std_le, std_conv, std_not, std_beq, std_bne, std_ite, std_want, std_and2, std_sadd, std_seq, std_sne, std_slt, std_sle, std_sgt, std_sge, std_slen, std_sget, std_scut, std_ofNat, std_toNat, std_nsub, std_nadd, std_lenOf, std_nz, std_nneg, std_inb, std_upto, std_slt63, std_grow, std_imp, std_impN, std_tr, std_tb, std_ti, std_ts, std_tn, std_tp, std_nmin, std_makes, std_room, std_zeros, std_nilq, std_notq, std_eqi, std_eqn, std_eqb, std_eqs, std_eqv, std_cat, std_lst, std_rset, std_rcopy, std_shift, std_eqr, std_strOf, std_bytesOf, std_isB, std_zOf, zOf_int, std_isI, isI_int, std_getL, std_nmul, std_sOf, sOf_str, std_isS, isS_str] at *)
  all_goals first
    | assumption
    | omega
    | (have h : dOk n = false := by assumption
       first
         | exact (we_no h).1.symm
         | (rw [(we_no h).2]; rfl))
    | (have h : dOk n = true := by assumption
       have hb := dOk_b h
       have hr : rr n L = false := by first | exact rr_f h (by omega) (by assumption) | exact rr_l h (by omega) (by assumption) | exact rr_f1 h (by omega) (by assumption) | exact rr_f2 h (by omega) (by assumption) | exact rr_f3 h (by omega) (by assumption) | exact rr_f4 h (by omega) (by assumption)
       first
         | exact (we_bad h hr).1.symm
         | (rw [(we_bad h hr).2]; rfl))
    | (have h : dOk n = true := by assumption
       have hb := dOk_b h
       have hr : rr n L = true := by first | exact (rr_of1 h (by omega)).2 (by assumption) | exact (rr_of2 h (by omega)).2 (by assumption) | exact (rr_of3 h (by omega)).2 (by assumption) | exact (rr_of4 h (by omega)).2 (by assumption)
       have hsz := (rr_ok hr).2.2.1
       first
         | (have hw := we_fix hr (by omega)
            first
              | exact hw.1.symm
              | (rw [hw.2]; done)
              | (rw [hw.2]; exact (row_bytes L).eqr))
         | (have hq := we_2 hr (by omega)
            first
              | exact hq.2.2.2.1.symm
              | exact absurd hq.1 (by assumption)
              | (rw [hq.2.1, hq.2.2.1, List.length_append]; done)
              | (rw [hq.2.1, hq.2.2.1]; exact (row_bytes _).eqr' (by simp))
              | (rw [hq.2.1, decs_len]; omega)
              | (rw [hq.2.2.2.2]; constructor <;> omega))
         | (have hq := we_3 hr (by omega)
            first
              | exact hq.2.2.2.1.symm
              | exact absurd hq.1 (by assumption)
              | (rw [hq.2.1, hq.2.2.1, List.length_append]; done)
              | (rw [hq.2.1, hq.2.2.1]; exact (row_bytes _).eqr' (by simp))
              | (rw [hq.2.1, decs_len]; omega)
              | (rw [hq.2.2.2.2]; constructor <;> omega)))
    | trace_state
end Go.Vd
