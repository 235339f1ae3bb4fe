/- DigitBack's answer. -/
import Derived.Test.YtdipfibiajkedaaDoorVdG7
import Derived.Test.YtdipfibiajkedaaDoorVdKM
set_option linter.unusedVariables false
set_option linter.unusedSimpArgs false
set_option maxRecDepth 100000
set_option maxHeartbeats 2000000
namespace Go.Vd
open Go.Proofs
def kOf (n : Int) : Nat := n.toNat % 19 + 1
theorem kOf_eq {n : Int} (h : 0 ≤ n ∧ n < 256) : IntKind.i64.wrap ((IntKind.i64.wrap n).tmod 19 + 1) = (kOf n : Int) := by
  rw [w64 (n := n) (by omega), Int.tmod_eq_emod_of_nonneg h.1, w64 (by omega)]
  unfold kOf
  omega
theorem kOf_le (n : Int) : 1 ≤ kOf n ∧ kOf n ≤ 19 := by unfold kOf; omega
theorem p19' {k : Nat} (h : k ≤ 19) : 10 ^ k ≤ 10000000000000000000 := p19 h
theorem pu_ok {v : Int} {k : Nat} (hv : 0 ≤ v) (hk : 1 ≤ k ∧ k ≤ 19) (h : puE v k = 0) : puS v k = decs k v.toNat ∧ v.toNat < 10 ^ k := by
  have h1 : ¬((k : Int) < 1 ∨ 19 < (k : Int)) := by omega
  by_cases h2 : 10 ^ (k : Int).toNat ≤ v.toNat
  · rw [(pu2 h1 h2).2] at h; omega
  · rw [(pu3 h1 h2).1, Int.toNat_natCast]
    rw [Int.toNat_natCast] at h2
    exact ⟨rfl, by omega⟩
theorem get_decs {k V : Nat} (hk : 1 ≤ k ∧ k ≤ 19) (h : V < 10 ^ k) : gErr (decs k V) = 0 ∧ gVal (decs k V) = V := by
  have h1 := gE3 (L := decs k V) (by rw [decs_len]; omega) (decs_is hk.1)
  rw [h1.2, dVal_decs, Nat.mod_eq_of_lt h]
  exact ⟨h1.1, rfl⟩
theorem get_no {L : List UInt8} (h : ¬gErr L = 0) : gVal L = 0 := by
  by_cases h0 : L = []
  · exact (gE0 h0).2
  · by_cases h1 : 19 < L.length
    · exact (gE1 h0 h1).2
    · cases h2 : isD L
      · exact (gE2 h0 h1 h2).2
      · exact absurd (gE3 h1 h2).1 h
theorem get_yes {L : List UInt8} (h : gErr L = 0) : isD L = true ∧ 1 ≤ L.length ∧ L.length ≤ 19 ∧ gVal L = dVal L ∧ dVal L < 10 ^ L.length := by
  by_cases h0 : L = []
  · rw [(gE0 h0).1] at h; omega
  · by_cases h1 : 19 < L.length
    · rw [(gE1 h0 h1).1] at h; omega
    · cases h2 : isD L
      · rw [(gE2 h0 h1 h2).1] at h; omega
      · have := List.length_pos_iff.2 h0
        exact ⟨rfl, this, by omega, (gE3 h1 h2).2, dVal_lt L (isD_iff.1 h2).2⟩
theorem get_put {L : List UInt8} (h : gErr L = 0) : puE (gVal L : Int) (L.length : Int) = 0 ∧ puS (gVal L : Int) (L.length : Int) = L := by
  obtain ⟨h1, h2, h3, h4, h5⟩ := get_yes h
  have h6 := pu3 (v := (gVal L : Int)) (n := (L.length : Int)) (by omega) (by rw [Int.toNat_natCast, Int.toNat_natCast, h4]; omega)
  rw [h6.1, h6.2, Int.toNat_natCast, Int.toNat_natCast, h4, decs_dVal L (isD_iff.1 h1).2]
  exact ⟨rfl, rfl⟩
theorem get_lt (L : List UInt8) : gVal L < 18446744073709551616 := by
  by_cases h : gErr L = 0
  · obtain ⟨h1, h2, h3, h4, h5⟩ := get_yes h
    have := p19 h3
    omega
  · rw [get_no h]; omega
theorem get_put_pre {L : List UInt8} (h : gErr L = 0) : ((gVal L : Nat) : Int) < 18446744073709551616 ∧ ((L.length : Nat) : Int) < 9223372036854775808 := by
  have h1 := get_lt L
  have h2 := get_yes h
  exact ⟨by omega, by omega⟩
theorem put_lt {v w : Int} (hv : 0 ≤ v) (hw : 0 ≤ w) {k : Nat} (hk : 1 ≤ k ∧ k ≤ 19) (h : puE v k = 0) (h' : puE w k = 0) : Op.bytesLess (puS v k) (puS w k) = decide (v < w) := by
  obtain ⟨e1, l1⟩ := pu_ok hv hk h
  obtain ⟨e2, l2⟩ := pu_ok hw hk h'
  rw [bytesLess_eq, e1, e2, decide_eq_decide, decs_lt l1 l2]
  omega
theorem pu_all {v : Int} {k : Nat} (hv : 0 ≤ v) (hk : 1 ≤ k ∧ k ≤ 19) (h : puE v k = 0) : gErr (puS v k) = 0 ∧ ((gVal (puS v k) : Nat) : Int) = v ∧ (puS v k).length = k ∧ isD (puS v k) = true := by
  obtain ⟨e1, l1⟩ := pu_ok hv hk h
  obtain ⟨h1, h2⟩ := get_decs hk l1
  rw [e1, h1, h2, decs_len]
  exact ⟨rfl, by omega, rfl, decs_is hk.1⟩
theorem good_DigitBack (v w n : Int) (L : List UInt8) (hv : 0 ≤ v ∧ v < 18446744073709551616) (hw : 0 ≤ w ∧ w < 18446744073709551616) (hn : 0 ≤ n ∧ n < 256) : GoodP Tryd.prog gl0 4 [.int .u64 v, .int .u64 w, .int .u8 n, .str L] (.bool true) := by
  refine fn_sound' (T := seatT) (G := gg5) (X := noX) seatT_ok gg5_ok noX_ok noI_ok mixed Tryd.func4 (.one) (fun A => [.int .u64 v, .int .u64 w, .int .u8 n, .str L]) (fun A => .bool true) fun A hA => ?_
  have hk := kOf_le n
  cbv
  repeat' (first | with_reducible exact True.intro | with_reducible exact dr_ok hA (by kernel_rfl) | with_reducible refine And.intro ?_ ?_ | (intro hc; cbv))
  all_goals (subst hA; simp [std_add, std_sub, std_mul, std_quo, std_rem, std_band, std_bor, std_bxor, std_shl, std_shr, std_eq, std_ne, std_lt, std_le, std_conv, std_not, std_beq, std_bne, std_ite, std_want, std_and2, std_sadd, std_seq, std_sne, std_slt, std_sle, std_sgt, std_sge, std_slen, std_sget, std_scut, std_ofNat, std_toNat, std_nsub, std_nadd, std_lenOf, std_nz, std_nneg, std_inb, std_upto, std_slt63, std_grow, std_imp, std_impN, std_tr, std_tb, std_ti, std_ts, std_tn, std_tp, std_nmin, std_makes, std_room, std_zeros, std_nilq, std_notq, std_eqi, std_eqn, std_eqb, std_eqs, std_eqv, std_cat, std_lst, std_rset, std_rcopy, std_shift, std_eqr, std_strOf, std_bytesOf, std_isB, std_zOf, zOf_int, std_isI, isI_int, std_getL, std_nmul, std_sOf, sOf_str, std_isS, isS_str, kOf_eq hn] at *)
  all_goals first
    | exact ⟨hv, by omega⟩
    | exact ⟨hw, by omega⟩
    | exact get_no hc
    | exact get_put_pre hc
    | exact get_put hc
    | (intro h1 h2 h3; exact ⟨⟨⟨h1, h2⟩, h3⟩, by omega⟩)
    | (intro h1 h2 h3 h4; exact ⟨⟨⟨⟨h1, h2⟩, h3⟩, h4⟩, fun h5 => ⟨⟨⟨⟨h1, h2⟩, h3⟩, h4⟩, h5⟩⟩)
    | (exfalso
       have h0 : puE v (kOf n : Int) = 0 := by assumption
       obtain ⟨h1, h2, h3, h4⟩ := pu_all hv.1 hk h0
       rcases hc with (((hc | hc) | hc) | hc) | hc
       · exact hc h1
       · exact hc h2
       · exact hc (by rw [h3])
       · rw [h4] at hc; cases hc
       · exact hc.2 (put_lt hv.1 hw.1 hk h0 hc.1))
    | trace_state
end Go.Vd
