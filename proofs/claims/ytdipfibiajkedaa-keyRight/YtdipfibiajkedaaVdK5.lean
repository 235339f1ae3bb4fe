/- The key's laws: awake, KeyRight. -/
import Derived.Test.YtdipfibiajkedaaVdK4
set_option linter.unusedVariables false
set_option linter.unusedSimpArgs false
set_option maxRecDepth 100000
set_option maxHeartbeats 2000000
namespace Go.Vd
open Go.Proofs
noncomputable def c_kOrder : Ct := fun A args => match args with
  | [.agg [.int .u32 s, .str r], .agg [.int .u32 t, .str q]] => some (none, .int .i64 (A.ti fun _ => ordK s r t q))
  | _ => none
noncomputable def c_rkOrder : Ct := fun A args => match args with
  | [.agg [.int .u32 s, .str r], .agg [.int .u32 t, .str q]] => some (none, .int .i64 (A.ti fun _ => ordK s r t q))
  | _ => none
noncomputable def c_kOf : Ct := fun A args => match args with
  | [.agg [.int .i64 a, .str p, .int .u64 c, .int .u32 s, .str r, .str e]] => some (none, .agg [.int .u32 s, .str r])
  | _ => none
noncomputable def c_kShort : Ct := fun A args => match args with
  | [.agg [.int .u32 s, .str r]] => some (none, .bool (A.tb fun _ => decide (r.length ≤ 300)))
  | _ => none
noncomputable def c_dShort : Ct := fun A args => match args with
  | [.agg [.int .i64 a, .str p, .int .u64 c, .int .u32 s, .str r, .str e]] => some (none, .bool (A.tb fun _ => decide (p.length ≤ 300 ∧ r.length ≤ 300 ∧ e.length ≤ 300)))
  | _ => none
noncomputable def c_kShard : Ct := fun A args => match args with
  | [.agg [.int .u32 s, .str r], .int .i64 m] => some (some (A.tp fun _ => 0 ≤ s ∧ s < 4294967296), .int .i64 (A.ti fun _ => shardI s r m))
  | _ => none
noncomputable def c_rkShard : Ct := fun A args => match args with
  | [.agg [.int .u32 s, .str r], .int .i64 m] => some (some (A.tp fun _ => (0 ≤ s ∧ s < 4294967296) ∧ r.length ≤ 1000000), .int .i64 (A.ti fun _ => shardI s r m))
  | _ => none
noncomputable def gk8 : Ar → Pu := addC 22 c_kOrder (addC 23 c_rkOrder (addC 19 c_kOf (addC 18 c_kShort (addC 17 c_dShort (addC 24 c_kShard (addC 25 c_rkShard (gk7)))))))
theorem gk8_ok : PuOk Try.prog gl0 (gk8 std) := by
  refine addC_ok (addC_ok (addC_ok (addC_ok (addC_ok (addC_ok (addC_ok (gk7_ok) ⟨_, Try.func25, rfl, by decide⟩ ?_) ⟨_, Try.func24, rfl, by decide⟩ ?_) ⟨_, Try.func17, rfl, by decide⟩ ?_) ⟨_, Try.func18, rfl, by decide⟩ ?_) ⟨_, Try.func19, rfl, by decide⟩ ?_) ⟨_, Try.func23, rfl, by decide⟩ ?_) ⟨_, Try.func22, rfl, by decide⟩ ?_
  · intro args p r h hp
    unfold c_rkShard at h
    split at h <;> cases h
    exact good_rkShard _ _ _ hp.1 hp.2
  · intro args p r h hp
    unfold c_kShard at h
    split at h <;> cases h
    exact good_kShard _ _ _ hp
  · intro args p r h hp
    unfold c_dShort at h
    split at h <;> cases h
    exact good_dShort _ _ _ _ _ _
  · intro args p r h hp
    unfold c_kShort at h
    split at h <;> cases h
    exact good_kShort _ _
  · intro args p r h hp
    unfold c_kOf at h
    split at h <;> cases h
    exact good_kOf _ _ _ _ _ _
  · intro args p r h hp
    unfold c_rkOrder at h
    split at h <;> cases h
    exact good_rkOrder _ _ _ _
  · intro args p r h hp
    unfold c_kOrder at h
    split at h <;> cases h
    exact good_kOrder _ _ _ _
def rA : List UInt8 := [82, 82, 78, 48, 48, 48, 48, 48, 48, 48, 48, 50]
def rB : List UInt8 := [82, 82, 78, 48, 48, 48, 48, 48, 48, 48, 48, 49]
theorem v1 : ordK 1 [82, 82, 78, 48, 48, 48, 48, 48, 48, 48, 48, 50] 2 [82, 82, 78, 48, 48, 48, 48, 48, 48, 48, 48, 49] = -1 := by simp [ordK, ordI]
theorem v2 : ordK 2 [82, 82, 78, 48, 48, 48, 48, 48, 48, 48, 48, 49] 1 [82, 82, 78, 48, 48, 48, 48, 48, 48, 48, 48, 50] = 1 := by simp [ordK, ordI]
theorem v3 : keyOk 1 [82, 82, 78, 48, 48, 48, 48, 48, 48, 48, 48, 50] = true := by decide
theorem v4 : keyOk 0 [] = false := by decide
theorem v5 : shardI 1 [82, 82, 78, 48, 48, 48, 48, 48, 48, 48, 48, 50] 1 = 0 := by
  unfold shardI
  rw [if_pos ⟨v3, by omega, by omega⟩, show (1 : Int).toNat = 1 from rfl, Nat.mod_one]
  rfl
theorem v6 : shardI 1 [82, 82, 78, 48, 48, 48, 48, 48, 48, 48, 48, 50] 0 = -1 := if_neg (fun h => absurd h.2.1 (by omega))
theorem good_kAwake  : GoodP Try.prog gl0 16 [] (.bool true) := by
  refine fn_sound' (T := seatT) (G := gk8) (X := noX) seatT_ok gk8_ok noX_ok noI_ok mixed Try.func16 (.one) (fun A => []) (fun A => .bool true) fun A hA => ?_
  cbv
  repeat' (first | with_reducible exact True.intro | with_reducible exact dr_ok hA (by kernel_rfl) | with_reducible refine And.intro ?_ ?_ | (intro hc; cbv))
  all_goals (subst hA; simp only [std_add, std_sub, std_mul, std_quo, std_rem, std_band, std_bor, std_bxor, std_shl, std_shr, std_eq, std_ne, std_lt, std_le, std_conv, std_not, std_beq, std_bne, std_ite, std_want, std_and2, std_sadd, std_seq, std_sne, std_slt, std_sle, std_sgt, std_sge, std_slen, std_sget, std_scut, std_ofNat, std_toNat, std_nsub, std_nadd, std_lenOf, std_nz, std_nneg, std_inb, std_upto, std_slt63, std_grow, std_imp, std_impN, std_tr, std_tb, std_ti, std_ts, std_tn, std_tp, std_nmin, std_makes, std_room, std_zeros, std_nilq, std_notq, std_eqi, std_eqn, std_eqb, std_eqs, std_eqv, std_cat, std_lst, std_rset, std_rcopy, std_shift, std_eqr, std_strOf, std_bytesOf, std_isB, std_zOf, zOf_int, std_isI, isI_int, v1, v2, v3, v4, v5, v6])
  all_goals first
    | decide
    | trace_state
noncomputable def c_kAwake : Ct := fun A args => match args with
  | [] => some (none, .bool true)
  | _ => none
noncomputable def gk9 : Ar → Pu := addC 16 c_kAwake (gk8)
theorem gk9_ok : PuOk Try.prog gl0 (gk9 std) := by
  refine addC_ok (gk8_ok) ⟨_, Try.func16, rfl, by decide⟩ ?_
  · intro args p r h hp
    unfold c_kAwake at h
    split at h <;> cases h
    exact good_kAwake
theorem good_KeyRight (a c s s1 s2 m : Int) (p r e r1 r2 : List UInt8) (h1 : 0 ≤ s1 ∧ s1 < 4294967296) : GoodP Try.prog gl0 6 [.agg [.int .i64 a, .str p, .int .u64 c, .int .u32 s, .str r, .str e], sKey std s1 r1, sKey std s2 r2, .int .i64 m] (.bool true) := by
  refine fn_sound' (T := seatT) (G := gk9) (X := noX) seatT_ok gk9_ok noX_ok noI_ok mixed Try.func6 (.one) (fun A => [.agg [.int .i64 a, .str p, .int .u64 c, .int .u32 s, .str r, .str e], sKey A s1 r1, sKey A s2 r2, .int .i64 m]) (fun A => .bool true) fun A hA => ?_
  cbv
  repeat' (first | with_reducible exact True.intro | with_reducible exact dr_ok hA (by kernel_rfl) | with_reducible refine And.intro ?_ ?_ | (intro hc; cbv))
  all_goals (subst hA; simp [std_add, std_sub, std_mul, std_quo, std_rem, std_band, std_bor, std_bxor, std_shl, std_shr, std_eq, std_ne, std_lt, std_le, std_conv, std_not, std_beq, std_bne, std_ite, std_want, std_and2, std_sadd, std_seq, std_sne, std_slt, std_sle, std_sgt, std_sge, std_slen, std_sget, std_scut, std_ofNat, std_toNat, std_nsub, std_nadd, std_lenOf, std_nz, std_nneg, std_inb, std_upto, std_slt63, std_grow, std_imp, std_impN, std_tr, std_tb, std_ti, std_ts, std_tn, std_tp, std_nmin, std_makes, std_room, std_zeros, std_nilq, std_notq, std_eqi, std_eqn, std_eqb, std_eqs, std_eqv, std_cat, std_lst, std_rset, std_rcopy, std_shift, std_eqr, std_strOf, std_bytesOf, std_isB, std_zOf, zOf_int, std_isI, isI_int] at *)
  all_goals omega
end Go.Vd
