/- The key's laws at a door: awake, KeyShards. -/
import Derived.Test.YtdipfibiajkedaaDoorVdN1
set_option linter.unusedVariables false
set_option linter.unusedSimpArgs false
set_option maxRecDepth 100000
set_option maxHeartbeats 4000000
namespace Go.Vd
open Go.Proofs
theorem v1 : ordK 1 [82, 82, 78, 48, 48, 48, 48, 48, 48, 48, 48, 50] 2 [82, 82, 78, 48, 48, 48, 48, 48, 48, 48, 48, 49] = -1 := by simp [ordK, ordI]
theorem v2 : ordK 2 [82, 82, 78, 48, 48, 48, 48, 48, 48, 48, 48, 49] 1 [82, 82, 78, 48, 48, 48, 48, 48, 48, 48, 48, 50] = 1 := by simp [ordK, ordI]
theorem v3 : keyOk 1 [82, 82, 78, 48, 48, 48, 48, 48, 48, 48, 48, 50] = true := by decide
theorem v4 : keyOk 0 [] = false := by decide
theorem v5 : shardI 1 [82, 82, 78, 48, 48, 48, 48, 48, 48, 48, 48, 50] 1 = 0 := by
  unfold shardI
  rw [if_pos ⟨v3, by omega, by omega⟩, show (1 : Int).toNat = 1 from rfl, Nat.mod_one]
  rfl
theorem v6 : shardI 1 [82, 82, 78, 48, 48, 48, 48, 48, 48, 48, 48, 50] 0 = -1 := if_neg (fun h => absurd h.2.1 (by omega))
theorem good_kAwake  : GoodP Tryd.prog gl0 30 [] (.bool true) := by
  refine fn_sound' (T := seatT) (G := gk8) (X := noX) seatT_ok gk8_ok noX_ok noI_ok mixed Tryd.func30 (.one) (fun A => []) (fun A => .bool true) fun A hA => ?_
  cbv
  repeat' (first | with_reducible exact True.intro | with_reducible exact dr_ok hA (by kernel_rfl) | with_reducible refine And.intro ?_ ?_ | (intro hc; cbv))
  all_goals (subst hA; simp only [std_add, std_sub, std_mul, std_quo, std_rem, std_band, std_bor, std_bxor, std_shl, std_shr, std_eq, std_ne, std_lt, std_le, std_conv, std_not, std_beq, std_bne, std_ite, std_want, std_and2, std_sadd, std_seq, std_sne, std_slt, std_sle, std_sgt, std_sge, std_slen, std_sget, std_scut, std_ofNat, std_toNat, std_nsub, std_nadd, std_lenOf, std_nz, std_nneg, std_inb, std_upto, std_slt63, std_grow, std_imp, std_impN, std_tr, std_tb, std_ti, std_ts, std_tn, std_tp, std_nmin, std_makes, std_room, std_zeros, std_nilq, std_notq, std_eqi, std_eqn, std_eqb, std_eqs, std_eqv, std_cat, std_lst, std_rset, std_rcopy, std_shift, std_eqr, std_strOf, std_bytesOf, std_isB, std_zOf, zOf_int, std_isI, isI_int, std_getL, std_nmul, std_sOf, sOf_str, std_isS, isS_str, v1, v2, v3, v4, v5, v6])
  all_goals first
    | decide
    | trace_state
noncomputable def c_kAwake : Ct := fun A args => match args with
  | [] => some (none, .bool true)
  | _ => none
noncomputable def gk9 : Ar → Pu := addC 30 c_kAwake (gk8)
theorem gk9_ok : PuOk Tryd.prog gl0 (gk9 std) := by
  refine addC_ok (gk8_ok) ⟨_, Tryd.func30, rfl, by decide⟩ ?_
  · intro args p r h hp
    unfold c_kAwake at h
    split at h <;> cases h
    exact good_kAwake
theorem dR_key {k a s : Int} {p r c : List UInt8} (h : dR k a s p r c = true) : keyOk s r = true := by
  unfold dR at h
  simp only [Bool.and_eq_true, decide_eq_true_eq] at h
  have h37 : dFind FL 37 = some (2, 12) := rfl
  have e1 : dOk 37 = true := by simp [dOk, h37]
  have e2 : dKd 37 = 2 := by simp [dKd, h37]
  have e3 : dSz 37 = 12 := by simp [dSz, h37]
  have h2 := h.2.2.1
  rw [rr_fix e1 (by omega), e2, e3] at h2
  simp only [Bool.and_eq_true, decide_eq_true_eq] at h2
  unfold keyOk
  rw [decide_eq_true h.2.1, decide_eq_true (show r.length = 12 by omega)]
  exact h2.2
theorem sh16 {m : Int} (hm : 0 ≤ m ∧ m < 256) : IntKind.i64.wrap ((IntKind.i64.wrap m).tmod 16 + 1) = m % 16 + 1 := by
  rw [w64 (n := m) (by omega), Int.tmod_eq_emod_of_nonneg hm.1]
  exact w64 (by omega)
theorem shard_in {s M : Int} {r : List UInt8} (hk : keyOk s r = true) (hM : 1 ≤ M ∧ M ≤ 16) : 0 ≤ shardI s r M ∧ shardI s r M < M := by
  unfold shardI
  rw [if_pos ⟨hk, hM⟩]
  have := Nat.mod_lt (fnv (decs 6 s.toNat ++ r)) (show 0 < M.toNat by omega)
  omega
theorem shard_no {s M : Int} {r : List UInt8} (hM : 16 < M) : shardI s r M = -1 := by
  unfold shardI
  rw [if_neg (fun h => by omega)]
theorem ks_end {k a s m : Int} {p r c : List UInt8} (hm : 0 ≤ m ∧ m < 256) (hd : dR k a s p r c = true) : ((keyOk s r = true ∧ 0 ≤ shardI s r (IntKind.i64.wrap ((IntKind.i64.wrap m).tmod 16 + 1))) ∧ shardI s r (IntKind.i64.wrap ((IntKind.i64.wrap m).tmod 16 + 1)) < IntKind.i64.wrap ((IntKind.i64.wrap m).tmod 16 + 1)) ∧
    shardI s r (IntKind.i64.wrap (16 + IntKind.i64.wrap ((IntKind.i64.wrap m).tmod 16 + 1))) = -1 := by
  rw [sh16 hm, w64 (n := 16 + (m % 16 + 1)) (by omega)]
  have h := shard_in (dR_key hd) (M := m % 16 + 1) (by omega)
  exact ⟨⟨⟨dR_key hd, h.1⟩, h.2⟩, shard_no (by omega)⟩
theorem good_KeyShards (k a s m q : Int) (p r c : List UInt8) (hs : 0 ≤ s ∧ s < 4294967296) (hm : 0 ≤ m ∧ m < 256) (hq : 0 ≤ q ∧ q < 256) : GoodP Tryd.prog gl0 9 [.agg [.int .i64 k, .str p, .int .u64 a, .int .u32 s, .str r, .str c], .int .u8 m, .int .u8 q] (.bool true) := by
  refine fn_sound' (T := seatT) (G := gk9) (X := noX) seatT_ok gk9_ok noX_ok noI_ok mixed Tryd.func9 (.one) (fun A => [.agg [.int .i64 k, .str p, .int .u64 a, .int .u32 s, .str r, .str c], .int .u8 m, .int .u8 q]) (fun A => .bool true) fun A hA => ?_
  cbv
  repeat' (first | with_reducible exact True.intro | with_reducible exact dr_ok hA (by kernel_rfl) | with_reducible refine And.intro ?_ ?_ | (intro hc; cbv))
  all_goals (subst hA; try simp [-List.getD_eq_getElem?_getD, std_add, std_sub, std_mul, std_quo, std_rem, std_band, std_bor, std_bxor, std_shl, std_shr, std_eq, std_ne, std_lt, std_le, std_conv, std_not, std_beq, std_bne, std_ite, std_want, std_and2, std_sadd, std_seq, std_sne, std_slt, std_sle, std_sgt, std_sge, std_slen, std_sget, std_scut, std_ofNat, std_toNat, std_nsub, std_nadd, std_lenOf, std_nz, std_nneg, std_inb, std_upto, std_slt63, std_grow, std_imp, std_impN, std_tr, std_tb, std_ti, std_ts, std_tn, std_tp, std_nmin, std_makes, std_room, std_zeros, std_nilq, std_notq, std_eqi, std_eqn, std_eqb, std_eqs, std_eqv, std_cat, std_lst, std_rset, std_rcopy, std_shift, std_eqr, std_strOf, std_bytesOf, std_isB, std_zOf, zOf_int, std_isI, isI_int, std_getL, std_nmul, std_sOf, sOf_str, std_isS, isS_str] at *)
  all_goals first
    | exact hs
    | (intro h1 h2 h3; exact ⟨⟨h1, h2, h3⟩, by omega, by omega, by omega⟩)
    | (intro h1 h2 h3; exact ⟨⟨⟨h1, h2⟩, h3⟩, hs⟩)
    | exact ks_end hm (by exact (by assumption : _ ∧ _).2)
    | trace_state
end Go.Vd
