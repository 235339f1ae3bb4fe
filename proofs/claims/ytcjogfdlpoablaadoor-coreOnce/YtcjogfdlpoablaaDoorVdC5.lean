/- The core's laws: CoreRests. -/
import Derived.Test.YtcjogfdlpoablaaDoorVdC4
set_option linter.unusedVariables false
set_option linter.unusedSimpArgs false
set_option maxRecDepth 100000
set_option maxHeartbeats 8000000
namespace Go.Vd
open Go.Proofs
noncomputable def c_cAwake : Ct := fun A args => match args with
  | [] => some (none, .bool true)
  | _ => none
noncomputable def gc6 : Ar → Pu := addC 53 c_cAwake (gc5)
theorem gc6_ok : PuOk Tryd.prog gl0 (gc6 std) := by
  refine addC_ok (gc5_ok) ⟨_, Tryd.func53, rfl, by decide⟩ ?_
  · intro args p r h hp
    unfold c_cAwake at h
    split at h <;> cases h
    exact good_cAwake
theorem stpE_ok {e : Ent} {v : Int} {d : Dl} {n : Int} (h : stpE e v d n = 0) : stp e v d n = stpK e v d n ∧ vR v d = true ∧ rF e d.s d.r = true ∧ 0 ≤ n ∧ n ≤ 16 := by
  have hk : stpOk e v d n = true := by
    unfold stpE at h
    split at h
    · assumption
    · cases h
  refine ⟨if_pos hk, ?_⟩
  unfold stpOk at hk
  simp only [Bool.and_eq_true, decide_eq_true_eq] at hk
  exact hk
theorem vR_five {v : Int} {d : Dl} (h : vR v d = true) : v = 1 ∨ v = 2 ∨ v = 3 ∨ v = 4 ∨ v = 5 := by
  unfold vR at h
  split at h
  · omega
  · simp only [evO, Bool.and_eq_true, Bool.or_eq_true, decide_eq_true_eq] at h
    omega
theorem core_rests {e : Ent} {v : Int} {d : Dl} {n : Int} (h0 : stpE e v d n = 0) (hf : e.st = 2 ∨ e.st = 3 ∨ e.st = 5 ∨ e.st = 6) (hne : ¬(stp e v d n).e = e) :
    (e.st = 2 → (v = 3 ∧ (stp e v d n).e.st = 4) ∧ (stp e v d n).e.ca = 2) ∧ (¬e.st = 2 → (e.st = 6 ∧ v = 5) ∧ (stp e v d n).e.st = 5) := by
  obtain ⟨h1, h2, h3, h4, h5⟩ := stpE_ok h0
  rw [h1] at hne ⊢
  have hE : ¬e = E0 := fun h => by rw [h] at hf; simp [E0] at hf
  rcases vR_five h2 with rfl | rfl | rfl | rfl | rfl
  · exfalso
    apply hne
    simp only [stpK, stAsk, if_neg hE, if_true]
    split
    · rfl
    · split <;> rfl
  · exfalso
    apply hne
    have : ¬e.st = 1 := by omega
    simp only [stpK, stAns, if_neg this, if_true]
    rfl
  · have h6 : ¬e.st = 1 := by omega
    by_cases ho : oddE e d = true
    · exfalso
      apply hne
      simp [stpK, stUndo, hE, ho]
    · by_cases h7 : e.st = 2
      · refine ⟨fun _ => ?_, fun h => absurd h7 h⟩
        simp [stpK, stUndo, hE, ho, h6, h7, rev]
      · exfalso
        apply hne
        simp [stpK, stUndo, hE, ho, h6, h7]
  · exfalso
    apply hne
    have h6 : ¬e.st = 1 := by omega
    have h7 : ¬e.st = 4 := by omega
    simp [stpK, stTime, h6, h7]
  · have h7 : ¬e.st = 4 := by omega
    by_cases h6 : e.st = 6
    · refine ⟨fun h => by omega, fun _ => ?_⟩
      simp [stpK, stAck, h7, h6]
    · exfalso
      apply hne
      simp [stpK, stAck, h7, h6]
theorem ne8 {S : Ent} {s st am tr ca : Int} {r pan code : List UInt8} (h : S.s = s → S.r = r → S.st = st → S.pan = pan → S.am = am → S.code = code → S.tr = tr → ¬S.ca = ca) : ¬S = ⟨s, r, st, pan, am, code, tr, ca⟩ := by
  rintro rfl
  exact h rfl rfl rfl rfl rfl rfl rfl rfl
theorem good_CoreRests (s st am tr ca v k dam ds n : Int) (r pan code dpan dr dcode : List UInt8) : GoodP Tryd.prog gl0 14 [.agg [.int .u32 s, .str r, .int .i64 st, .str pan, .int .u64 am, .str code, .int .i64 tr, .int .i64 ca], .agg [.int .i64 v, .int .i64 k, .str dpan, .int .u64 dam, .int .u32 ds, .str dr, .str dcode], .int .i64 n] (.bool true) := by
  refine fn_sound' (T := seatT) (G := gc6) (X := noX) seatT_ok gc6_ok noX_ok noI_ok mixed Tryd.func14 (.one) (fun A => [.agg [.int .u32 s, .str r, .int .i64 st, .str pan, .int .u64 am, .str code, .int .i64 tr, .int .i64 ca], .agg [.int .i64 v, .int .i64 k, .str dpan, .int .u64 dam, .int .u32 ds, .str dr, .str dcode], .int .i64 n]) (fun A => .bool true) fun A hA => ?_
  cbv
  repeat' (first | with_reducible exact True.intro | with_reducible exact dr_ok hA (by kernel_rfl) | with_reducible refine And.intro ?_ ?_ | (intro hc; cbv))
  all_goals (subst hA; try simp [std_add, std_sub, std_mul, std_quo, std_rem, std_band, std_bor, std_bxor, std_shl, std_shr, std_eq, std_ne, std_lt, std_le, std_conv, std_not, std_beq, std_bne, std_ite, std_want, std_and2, std_sadd, std_seq, std_sne, std_slt, std_sle, std_sgt, std_sge, std_slen, std_sget, std_scut, std_ofNat, std_toNat, std_nsub, std_nadd, std_lenOf, std_nz, std_nneg, std_inb, std_upto, std_slt63, std_grow, std_imp, std_impN, std_tr, std_tb, std_ti, std_ts, std_tn, std_tp, std_nmin, std_makes, std_room, std_zeros, std_nilq, std_notq, std_eqi, std_eqn, std_eqb, std_eqs, std_eqv, std_cat, std_lst, std_rset, std_rcopy, std_shift, std_eqr, std_strOf, std_bytesOf, std_isB, std_zOf, zOf_int, std_isI, isI_int, std_getL, std_nmul, std_sOf, sOf_str, std_isS, isS_str] at *)
  all_goals first
    | exact ⟨⟨by omega, by omega⟩, by omega, by omega, by omega⟩
    | (intro h1 h2; exact ⟨h1, by omega⟩)
    | (have hq := (by assumption : (stpE _ _ _ _ = 0 ∧ _) ∧ _)
       have hm := core_rests (e := ⟨s, r, st, pan, am, code, tr, ca⟩) hq.1.1 (by have := hq.1.2; simp only; omega) (ne8 hq.2)
       first
         | exact hm.1 (by assumption)
         | exact hm.2 (by assumption))
    | trace_state
end Go.Vd
