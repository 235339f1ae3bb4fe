/- Messages: the laws' own functions; MessageBack, MessageGets. -/
import Derived.Test.YtakcggldilbilaaDoorVdM3
import Derived.Test.YtakcggldilbilaaDoorVdNil
set_option linter.unusedVariables false
set_option linter.unusedSimpArgs false
set_option maxRecDepth 100000
set_option maxHeartbeats 8000000
namespace Go.Vd
open Go.Proofs
/-- Not too much for a look. -/
def mSh (T : List UInt8) (L : List It) : Bool := decide ((T.length : Int) ≤ 300) && (decide ((L.length : Int) ≤ 200) && L.all fun x => decide (x.2.length ≤ 1200))
theorem mSh_iff {T : List UInt8} {L : List It} : mSh T L = true ↔ T.length ≤ 300 ∧ L.length ≤ 200 ∧ ∀ x ∈ L, x.2.length ≤ 1200 := by
  simp only [mSh, Bool.and_eq_true, decide_eq_true_eq, List.all_eq_true]
  constructor
  · rintro ⟨h1, h2, h3⟩; exact ⟨by omega, by omega, h3⟩
  · rintro ⟨h1, h2, h3⟩; exact ⟨by omega, by omega, h3⟩
theorem mSh_getD {T : List UInt8} {L : List It} (h : mSh T L = true) (i : Nat) : (L.getD i (0, [])).2.length ≤ 1200 := by
  rw [List.getD_eq_getElem?_getD]
  rcases Nat.lt_or_ge i L.length with hi | hi
  · rw [List.getElem?_eq_getElem hi]; exact (mSh_iff.1 h).2.2 _ (List.getElem_mem hi)
  · rw [List.getElem?_eq_none hi]; simp
theorem mSh_no {T : List UInt8} {L : List It} {i : Nat} (hi : i < L.length) (h : 1200 < (L.getD i (0, [])).2.length) : mSh T L = false := by
  rw [Bool.eq_false_iff]
  intro e
  have := mSh_getD e i
  omega
theorem mSh_yes {T : List UInt8} {L : List It} {i : Nat} (hi : L.length ≤ i ∨ 200 ≤ i) (h : ∀ j, j < i → (L.getD j (0, [])).2.length ≤ 1200) : mSh T L = (decide ((T.length : Int) ≤ 300) && decide ((L.length : Int) ≤ 200)) := by
  unfold mSh
  by_cases h2 : (L.length : Int) ≤ 200
  · have : L.all (fun x => decide (x.2.length ≤ 1200)) = true := by
      rw [List.all_eq_true]
      intro x hx
      obtain ⟨j, hj, rfl⟩ := List.mem_iff_getElem.1 hx
      have := h j (by omega)
      rw [List.getD_eq_getElem?_getD, List.getElem?_eq_getElem hj] at this
      exact decide_eq_true this
    rw [this, Bool.and_true]
  · rw [decide_eq_false h2]; simp
theorem good_rShort (T : List UInt8) (L : List It) : GoodP Tryd.prog gl0 20 [.agg [.str T, rowS eI (0, []) 2 std fun _ => L]] (.bool (std.tb fun _ => mSh T L)) := by
  refine fn_sound' (T := seatT) (G := noC) (X := noX) seatT_ok noC_ok noX_ok noI_ok mixed Tryd.func20 (.one) (fun A => [.agg [.str T, rowS eI (0, []) 2 A fun _ => L]]) (fun A => .bool (A.tb fun _ => mSh T L)) fun A hA => ?_
  cbv
  repeat' (first | with_reducible exact True.intro | with_reducible exact dr_ok hA (by kernel_rfl) | with_reducible refine And.intro ?_ ?_ | (intro hc; cbv))
  refine ⟨⟨{i : Nat // i ≤ L.length ∧ i ≤ 200 ∧ ∀ j, j < i → (L.getD j (0, [])).2.length ≤ 1200}, fun b i => [(3, .int .i64 (i.1 : Nat))], fun b i => [], fun i => L.length - i.1, true⟩, ⟨⟨0, by omega, by omega, fun j hj => absurd hj (by omega)⟩, ?_⟩, ?_⟩
  · cbv
    subst hA
    simp [-List.getD_eq_getElem?_getD, std_add, std_sub, std_mul, std_quo, std_rem, std_band, std_bor, std_bxor, std_shl, std_shr, std_eq, std_ne, std_lt, std_le, std_conv, std_not, std_beq, std_bne, std_ite, std_want, std_and2, std_sadd, std_seq, std_sne, std_slt, std_sle, std_sgt, std_sge, std_slen, std_sget, std_scut, std_ofNat, std_toNat, std_nsub, std_nadd, std_lenOf, std_nz, std_nneg, std_inb, std_upto, std_slt63, std_grow, std_imp, std_impN, std_tr, std_tb, std_ti, std_ts, std_tn, std_tp, std_nmin, std_makes, std_room, std_zeros, std_nilq, std_notq, std_eqi, std_eqn, std_eqb, std_eqs, std_eqv, std_cat, std_lst, std_rset, std_rcopy, std_shift, std_eqr, std_strOf, std_bytesOf, std_isB, std_zOf, zOf_int, std_isI, isI_int, std_getL, std_nmul, std_sOf, sOf_str, std_isS, isS_str]
  · rintro ⟨i, hi, h2, h0⟩
    cbv
    repeat' (first | with_reducible exact True.intro | with_reducible exact dr_ok hA (by kernel_rfl) | with_reducible refine And.intro ?_ ?_ | (intro hc; cbv))
    all_goals first
      | (fail_if_success (refine Exists.intro ?_ ?_)
         subst hA
         simp [-List.getD_eq_getElem?_getD, std_add, std_sub, std_mul, std_quo, std_rem, std_band, std_bor, std_bxor, std_shl, std_shr, std_eq, std_ne, std_lt, std_le, std_conv, std_not, std_beq, std_bne, std_ite, std_want, std_and2, std_sadd, std_seq, std_sne, std_slt, std_sle, std_sgt, std_sge, std_slen, std_sget, std_scut, std_ofNat, std_toNat, std_nsub, std_nadd, std_lenOf, std_nz, std_nneg, std_inb, std_upto, std_slt63, std_grow, std_imp, std_impN, std_tr, std_tb, std_ti, std_ts, std_tn, std_tp, std_nmin, std_makes, std_room, std_zeros, std_nilq, std_notq, std_eqi, std_eqn, std_eqb, std_eqs, std_eqv, std_cat, std_lst, std_rset, std_rcopy, std_shift, std_eqr, std_strOf, std_bytesOf, std_isB, std_zOf, zOf_int, std_isI, isI_int, std_getL, std_nmul, std_sOf, sOf_str, std_isS, isS_str] at *
         first
           | done
           | omega
           | exact mSh_no (i := i) (by omega) (by omega)
           | exact (mSh_no (i := i) (by omega) (by omega)).symm
           | (rw [mSh_yes (i := i) (by omega) h0]; done)
           | trace_state)
      | (have hlt : i < L.length ∧ i < 200 := by (subst hA; simp [-List.getD_eq_getElem?_getD, std_add, std_sub, std_mul, std_quo, std_rem, std_band, std_bor, std_bxor, std_shl, std_shr, std_eq, std_ne, std_lt, std_le, std_conv, std_not, std_beq, std_bne, std_ite, std_want, std_and2, std_sadd, std_seq, std_sne, std_slt, std_sle, std_sgt, std_sge, std_slen, std_sget, std_scut, std_ofNat, std_toNat, std_nsub, std_nadd, std_lenOf, std_nz, std_nneg, std_inb, std_upto, std_slt63, std_grow, std_imp, std_impN, std_tr, std_tb, std_ti, std_ts, std_tn, std_tp, std_nmin, std_makes, std_room, std_zeros, std_nilq, std_notq, std_eqi, std_eqn, std_eqb, std_eqs, std_eqv, std_cat, std_lst, std_rset, std_rcopy, std_shift, std_eqr, std_strOf, std_bytesOf, std_isB, std_zOf, zOf_int, std_isI, isI_int, std_getL, std_nmul, std_sOf, sOf_str, std_isS, isS_str] at *; omega)
         have hne : (L.getD i (0, [])).2.length ≤ 1200 := by (subst hA; simp [-List.getD_eq_getElem?_getD, std_add, std_sub, std_mul, std_quo, std_rem, std_band, std_bor, std_bxor, std_shl, std_shr, std_eq, std_ne, std_lt, std_le, std_conv, std_not, std_beq, std_bne, std_ite, std_want, std_and2, std_sadd, std_seq, std_sne, std_slt, std_sle, std_sgt, std_sge, std_slen, std_sget, std_scut, std_ofNat, std_toNat, std_nsub, std_nadd, std_lenOf, std_nz, std_nneg, std_inb, std_upto, std_slt63, std_grow, std_imp, std_impN, std_tr, std_tb, std_ti, std_ts, std_tn, std_tp, std_nmin, std_makes, std_room, std_zeros, std_nilq, std_notq, std_eqi, std_eqn, std_eqb, std_eqs, std_eqv, std_cat, std_lst, std_rset, std_rcopy, std_shift, std_eqr, std_strOf, std_bytesOf, std_isB, std_zOf, zOf_int, std_isI, isI_int, std_getL, std_nmul, std_sOf, sOf_str, std_isS, isS_str] at *; omega)
         refine ⟨⟨i + 1, by omega, by omega, fun j hj => ?_⟩, ?_, show L.length - (i + 1) < L.length - i by omega⟩
         · by_cases e : j = i
           · subst e; exact hne
           · exact h0 j (by omega)
         cbv
         subst hA
         simp [std_add, std_sub, std_mul, std_quo, std_rem, std_band, std_bor, std_bxor, std_shl, std_shr, std_eq, std_ne, std_lt, std_le, std_conv, std_not, std_beq, std_bne, std_ite, std_want, std_and2, std_sadd, std_seq, std_sne, std_slt, std_sle, std_sgt, std_sge, std_slen, std_sget, std_scut, std_ofNat, std_toNat, std_nsub, std_nadd, std_lenOf, std_nz, std_nneg, std_inb, std_upto, std_slt63, std_grow, std_imp, std_impN, std_tr, std_tb, std_ti, std_ts, std_tn, std_tp, std_nmin, std_makes, std_room, std_zeros, std_nilq, std_notq, std_eqi, std_eqn, std_eqb, std_eqs, std_eqv, std_cat, std_lst, std_rset, std_rcopy, std_shift, std_eqr, std_strOf, std_bytesOf, std_isB, std_zOf, zOf_int, std_isI, isI_int, std_getL, std_nmul, std_sOf, sOf_str, std_isS, isS_str]
         exact (w64 (by omega)).trans (by omega))
      | trace_state
theorem pair_eq {L M : List It} {i : Nat} : L.getD i (0, []) = M.getD i (0, []) ↔ (L.getD i (0, [])).1 = (M.getD i (0, [])).1 ∧ (L.getD i (0, [])).2 = (M.getD i (0, [])).2 := Prod.ext_iff
theorem good_rSame (T U : List UInt8) (L M : List It) (hL : L.length ≤ 1000000) : GoodP Tryd.prog gl0 29 [.agg [.str T, rowS eI (0, []) 2 std fun _ => L], .agg [.str U, rowS eI (0, []) 2 std fun _ => M]] (.bool (std.tb fun _ => decide (T = U ∧ L = M))) := by
  refine fn_sound' (T := seatT) (G := noC) (X := noX) seatT_ok noC_ok noX_ok noI_ok mixed Tryd.func29 (.one) (fun A => [.agg [.str T, rowS eI (0, []) 2 A fun _ => L], .agg [.str U, rowS eI (0, []) 2 A fun _ => M]]) (fun A => .bool (A.tb fun _ => decide (T = U ∧ L = M))) fun A hA => ?_
  cbv
  repeat' (first | with_reducible exact True.intro | with_reducible exact dr_ok hA (by kernel_rfl) | with_reducible refine And.intro ?_ ?_ | (intro hc; cbv))
  all_goals first
    | (fail_if_success (refine Exists.intro ?_ ?_)
       subst hA
       simp [std_add, std_sub, std_mul, std_quo, std_rem, std_band, std_bor, std_bxor, std_shl, std_shr, std_eq, std_ne, std_lt, std_le, std_conv, std_not, std_beq, std_bne, std_ite, std_want, std_and2, std_sadd, std_seq, std_sne, std_slt, std_sle, std_sgt, std_sge, std_slen, std_sget, std_scut, std_ofNat, std_toNat, std_nsub, std_nadd, std_lenOf, std_nz, std_nneg, std_inb, std_upto, std_slt63, std_grow, std_imp, std_impN, std_tr, std_tb, std_ti, std_ts, std_tn, std_tp, std_nmin, std_makes, std_room, std_zeros, std_nilq, std_notq, std_eqi, std_eqn, std_eqb, std_eqs, std_eqv, std_cat, std_lst, std_rset, std_rcopy, std_shift, std_eqr, std_strOf, std_bytesOf, std_isB, std_zOf, zOf_int, std_isI, isI_int, std_getL, std_nmul, std_sOf, sOf_str, std_isS, isS_str] at *
       first
         | done
         | omega
         | (intro h1 h2; subst h1 h2; rcases hc with hc | hc
            · exact hc rfl
            · exact hc rfl)
         | (intro h1 h2; subst h1 h2; simp at hc)
         | trace_state)
    | skip
  have h0 : T = U ∧ L.length = M.length := by
    subst hA
    simp [std_add, std_sub, std_mul, std_quo, std_rem, std_band, std_bor, std_bxor, std_shl, std_shr, std_eq, std_ne, std_lt, std_le, std_conv, std_not, std_beq, std_bne, std_ite, std_want, std_and2, std_sadd, std_seq, std_sne, std_slt, std_sle, std_sgt, std_sge, std_slen, std_sget, std_scut, std_ofNat, std_toNat, std_nsub, std_nadd, std_lenOf, std_nz, std_nneg, std_inb, std_upto, std_slt63, std_grow, std_imp, std_impN, std_tr, std_tb, std_ti, std_ts, std_tn, std_tp, std_nmin, std_makes, std_room, std_zeros, std_nilq, std_notq, std_eqi, std_eqn, std_eqb, std_eqs, std_eqv, std_cat, std_lst, std_rset, std_rcopy, std_shift, std_eqr, std_strOf, std_bytesOf, std_isB, std_zOf, zOf_int, std_isI, isI_int, std_getL, std_nmul, std_sOf, sOf_str, std_isS, isS_str] at hc
    exact ⟨hc.1, by omega⟩
  obtain ⟨rfl, hl⟩ := h0
  refine ⟨⟨{i : Nat // i ≤ L.length ∧ ∀ j, j < i → L.getD j (0, []) = M.getD j (0, [])}, fun b i => [(5, .int .i64 (i.1 : Nat))], fun b i => [], fun i => L.length - i.1, true⟩, ⟨⟨0, by omega, fun j hj => absurd hj (by omega)⟩, ?_⟩, ?_⟩
  · cbv
    subst hA
    simp [-List.getD_eq_getElem?_getD, std_add, std_sub, std_mul, std_quo, std_rem, std_band, std_bor, std_bxor, std_shl, std_shr, std_eq, std_ne, std_lt, std_le, std_conv, std_not, std_beq, std_bne, std_ite, std_want, std_and2, std_sadd, std_seq, std_sne, std_slt, std_sle, std_sgt, std_sge, std_slen, std_sget, std_scut, std_ofNat, std_toNat, std_nsub, std_nadd, std_lenOf, std_nz, std_nneg, std_inb, std_upto, std_slt63, std_grow, std_imp, std_impN, std_tr, std_tb, std_ti, std_ts, std_tn, std_tp, std_nmin, std_makes, std_room, std_zeros, std_nilq, std_notq, std_eqi, std_eqn, std_eqb, std_eqs, std_eqv, std_cat, std_lst, std_rset, std_rcopy, std_shift, std_eqr, std_strOf, std_bytesOf, std_isB, std_zOf, zOf_int, std_isI, isI_int, std_getL, std_nmul, std_sOf, sOf_str, std_isS, isS_str]
  · rintro ⟨i, hi, h0⟩
    cbv
    repeat' (first | with_reducible exact True.intro | with_reducible exact dr_ok hA (by kernel_rfl) | with_reducible refine And.intro ?_ ?_ | (intro hc; cbv))
    all_goals first
      | (fail_if_success (refine Exists.intro ?_ ?_)
         subst hA
         simp [-List.getD_eq_getElem?_getD, std_add, std_sub, std_mul, std_quo, std_rem, std_band, std_bor, std_bxor, std_shl, std_shr, std_eq, std_ne, std_lt, std_le, std_conv, std_not, std_beq, std_bne, std_ite, std_want, std_and2, std_sadd, std_seq, std_sne, std_slt, std_sle, std_sgt, std_sge, std_slen, std_sget, std_scut, std_ofNat, std_toNat, std_nsub, std_nadd, std_lenOf, std_nz, std_nneg, std_inb, std_upto, std_slt63, std_grow, std_imp, std_impN, std_tr, std_tb, std_ti, std_ts, std_tn, std_tp, std_nmin, std_makes, std_room, std_zeros, std_nilq, std_notq, std_eqi, std_eqn, std_eqb, std_eqs, std_eqv, std_cat, std_lst, std_rset, std_rcopy, std_shift, std_eqr, std_strOf, std_bytesOf, std_isB, std_zOf, zOf_int, std_isI, isI_int, std_getL, std_nmul, std_sOf, sOf_str, std_isS, isS_str] at *
         first
           | done
           | omega
           | (intro e; subst e; simp at hc; done)
           | (have hie : i = L.length := by omega
              apply List.ext_getElem hl
              intro j h1 h2
              have := h0 j (by omega)
              simpa [List.getD_eq_getElem?_getD, h1, h2] using this)
           | trace_state)
      | (have hlt : i < L.length := by (subst hA; simp [-List.getD_eq_getElem?_getD, std_add, std_sub, std_mul, std_quo, std_rem, std_band, std_bor, std_bxor, std_shl, std_shr, std_eq, std_ne, std_lt, std_le, std_conv, std_not, std_beq, std_bne, std_ite, std_want, std_and2, std_sadd, std_seq, std_sne, std_slt, std_sle, std_sgt, std_sge, std_slen, std_sget, std_scut, std_ofNat, std_toNat, std_nsub, std_nadd, std_lenOf, std_nz, std_nneg, std_inb, std_upto, std_slt63, std_grow, std_imp, std_impN, std_tr, std_tb, std_ti, std_ts, std_tn, std_tp, std_nmin, std_makes, std_room, std_zeros, std_nilq, std_notq, std_eqi, std_eqn, std_eqb, std_eqs, std_eqv, std_cat, std_lst, std_rset, std_rcopy, std_shift, std_eqr, std_strOf, std_bytesOf, std_isB, std_zOf, zOf_int, std_isI, isI_int, std_getL, std_nmul, std_sOf, sOf_str, std_isS, isS_str] at *; omega)
         have hne : L.getD i (0, []) = M.getD i (0, []) := by (subst hA; simp [-List.getD_eq_getElem?_getD, std_add, std_sub, std_mul, std_quo, std_rem, std_band, std_bor, std_bxor, std_shl, std_shr, std_eq, std_ne, std_lt, std_le, std_conv, std_not, std_beq, std_bne, std_ite, std_want, std_and2, std_sadd, std_seq, std_sne, std_slt, std_sle, std_sgt, std_sge, std_slen, std_sget, std_scut, std_ofNat, std_toNat, std_nsub, std_nadd, std_lenOf, std_nz, std_nneg, std_inb, std_upto, std_slt63, std_grow, std_imp, std_impN, std_tr, std_tb, std_ti, std_ts, std_tn, std_tp, std_nmin, std_makes, std_room, std_zeros, std_nilq, std_notq, std_eqi, std_eqn, std_eqb, std_eqs, std_eqv, std_cat, std_lst, std_rset, std_rcopy, std_shift, std_eqr, std_strOf, std_bytesOf, std_isB, std_zOf, zOf_int, std_isI, isI_int, std_getL, std_nmul, std_sOf, sOf_str, std_isS, isS_str] at *; exact pair_eq.2 (by assumption))
         refine ⟨⟨i + 1, by omega, fun j hj => ?_⟩, ?_, show L.length - (i + 1) < L.length - i by omega⟩
         · by_cases e : j = i
           · subst e; exact hne
           · exact h0 j (by omega)
         cbv
         subst hA
         simp [std_add, std_sub, std_mul, std_quo, std_rem, std_band, std_bor, std_bxor, std_shl, std_shr, std_eq, std_ne, std_lt, std_le, std_conv, std_not, std_beq, std_bne, std_ite, std_want, std_and2, std_sadd, std_seq, std_sne, std_slt, std_sle, std_sgt, std_sge, std_slen, std_sget, std_scut, std_ofNat, std_toNat, std_nsub, std_nadd, std_lenOf, std_nz, std_nneg, std_inb, std_upto, std_slt63, std_grow, std_imp, std_impN, std_tr, std_tb, std_ti, std_ts, std_tn, std_tp, std_nmin, std_makes, std_room, std_zeros, std_nilq, std_notq, std_eqi, std_eqn, std_eqb, std_eqs, std_eqv, std_cat, std_lst, std_rset, std_rcopy, std_shift, std_eqr, std_strOf, std_bytesOf, std_isB, std_zOf, zOf_int, std_isI, isI_int, std_getL, std_nmul, std_sOf, sOf_str, std_isS, isS_str]
         exact (w64 (by omega)).trans (by omega))
      | trace_state
noncomputable def c_rShort : Ct := fun A args => match args with
  | [.agg [.str T, .slc n 2 f]] => some (some (A.tp fun _ => isRow eI (0, []) 2 n f), .bool (A.tb fun _ => mSh T (lstOf eI (0, []) 2 n f)))
  | _ => none
noncomputable def gM5a : Ar → Pu := addC 20 c_rShort (gM4)
theorem gM5a_ok : PuOk Tryd.prog gl0 (gM5a std) := by
  refine addC_ok (gM4_ok) ⟨_, Tryd.func20, rfl, by decide⟩ ?_
  · intro args p r h hp
    unfold c_rShort at h
    split at h <;> cases h
    exact good_sv (good_rShort _ _) ⟨⟨_, rfl, rfl, hp.sv, trivial⟩, trivial⟩
noncomputable def c_rSame : Ct := fun A args => match args with
  | [.agg [.str T, .slc n 2 f], .agg [.str U, .slc m 2 g]] => some (some (A.tp fun _ => isRow eI (0, []) 2 n f ∧ isRow eI (0, []) 2 m g ∧ n ≤ 1000000), .bool (A.tb fun _ => decide (T = U ∧ lstOf eI (0, []) 2 n f = lstOf eI (0, []) 2 m g)))
  | [.agg [.str T, .slc n 2 f], .agg [.str U, .slc m 1 g]] => some (some (A.tp fun _ => isRow eI (0, []) 2 n f ∧ m = 0 ∧ n ≤ 1000000), .bool (A.tb fun _ => decide (T = U ∧ lstOf eI (0, []) 2 n f = [])))
  | _ => none
noncomputable def gM5 : Ar → Pu := addC 29 c_rSame gM5a
theorem gM5_ok : PuOk Tryd.prog gl0 (gM5 std) := by
  refine addC_ok gM5a_ok ⟨_, Tryd.func29, rfl, by decide⟩ ?_
  intro args p r h hp
  unfold c_rSame at h
  split at h <;> cases h
  · exact good_sv (good_rSame _ _ _ _ (by rw [lstOf_length hp.1]; exact hp.2.2)) ⟨⟨_, rfl, rfl, hp.1.sv, trivial⟩, ⟨_, rfl, rfl, hp.2.1.sv, trivial⟩, trivial⟩
  · exact good_svn (good_rSame _ _ _ [] (by rw [lstOf_length hp.1]; exact hp.2.2)) ⟨⟨_, rfl, rfl, .inl hp.1.sv, trivial⟩, ⟨_, rfl, rfl, .inr ⟨hp.2.1, _, _, rfl⟩, trivial⟩, trivial⟩
theorem app1_reps (L : List UInt8) {z : Int} {x : UInt8} (hz : z = x.toNat) {g : Nat → Nat → SV} : Reps eB 0 1 (0 + L.length + 1) (catS (0 + L.length) (catS 0 g (rowF eB 0 std fun _ => L)) (lstS [[SV.int IntKind.u8 z]])) (L ++ [x]) := by
  have h1 : Reps eB 0 1 (0 + L.length) (catS 0 g (rowF eB 0 std fun _ => L)) L := by
    have := (Reps.nil (enc := eB) (d := 0) (k := 1) (f := g)).cat (Reps.lit L)
    simpa using this
  exact h1.cat (Reps.one (cell_eB hz))
def mT0 : List UInt8 := [48, 52, 51, 48]
def mL0 : List It := [(11, [48, 48, 48, 48, 48, 49]), (39, [48, 48])]
def mB0 : List UInt8 := [48, 52, 51, 48, 0, 32, 0, 0, 2, 0, 0, 0, 48, 48, 48, 48, 48, 49, 48, 48]
theorem mq0 : Reps eI (0, []) 2 2 (lstS [[SV.int IntKind.i64 11, SV.str [48, 48, 48, 48, 48, 49]], [SV.int IntKind.i64 39, SV.str [48, 48]]]) mL0 :=
  Reps.lst (l := [[SV.int .i64 11, SV.str [48, 48, 48, 48, 48, 49]], [SV.int .i64 39, SV.str [48, 48]]]) ⟨cell_eI _ _, cell_eI _ _, trivial⟩
theorem ml0 : lstOf eI (0, []) 2 2 (lstS [[SV.int IntKind.i64 11, SV.str [48, 48, 48, 48, 48, 49]], [SV.int IntKind.i64 39, SV.str [48, 48]]]) = mL0 := lstOf_eq inj_eI mq0
theorem mw0 : mWx [48, 52, 51, 48] mL0 = mB0 ∧ mWe [48, 52, 51, 48] mL0 = 0 ∧ mR [48, 52, 51, 48] mL0 = true := by decide +kernel
theorem mr0 : mRe mB0 = 0 ∧ mRT mB0 = [48, 52, 51, 48] ∧ mRL mB0 = mL0 ∧ mRe (mB0 ++ [48]) = 4 := by decide +kernel
theorem mg0 : mG mL0 39 = [48, 48] ∧ mH mL0 39 = true := by decide +kernel
theorem ma0 : lstOf eB 0 1 (0 + mB0.length + 1) (catS (0 + mB0.length) (catS 0 (fun _ _ => SV.any) (rowF eB 0 std fun _ => mB0)) (lstS [[SV.int IntKind.u8 48]])) = mB0 ++ [48] := lstOf_eq inj_eB (app1_reps mB0 (x := 48) rfl)
theorem ma1 : isRow eB 0 1 (0 + mB0.length + 1) (catS (0 + mB0.length) (catS 0 (fun _ _ => SV.any) (rowF eB 0 std fun _ => mB0)) (lstS [[SV.int IntKind.u8 48]])) := ⟨_, app1_reps mB0 (x := 48) rfl⟩
theorem ms0 : ∀ i, (mL0.getD i (0, [])).2.length ≤ 1000000 := fun i => Nat.le_trans (mSh_getD (T := mT0) (L := mL0) (by decide) i) (by decide)
theorem good_mAwake  : GoodP Tryd.prog gl0 19 [] (.bool true) := by
  refine fn_sound' (T := seatT) (G := gM5) (X := noX) seatT_ok gM5_ok noX_ok noI_ok mixed Tryd.func19 (.one) (fun A => []) (fun A => .bool true) fun A hA => ?_
  cbv
  repeat' (first | with_reducible exact True.intro | with_reducible exact dr_ok hA (by kernel_rfl) | with_reducible refine And.intro ?_ ?_ | (intro hc; cbv))
  all_goals (subst hA; simp only [std_add, std_sub, std_mul, std_quo, std_rem, std_band, std_bor, std_bxor, std_shl, std_shr, std_eq, std_ne, std_lt, std_le, std_conv, std_not, std_beq, std_bne, std_ite, std_want, std_and2, std_sadd, std_seq, std_sne, std_slt, std_sle, std_sgt, std_sge, std_slen, std_sget, std_scut, std_ofNat, std_toNat, std_nsub, std_nadd, std_lenOf, std_nz, std_nneg, std_inb, std_upto, std_slt63, std_grow, std_imp, std_impN, std_tr, std_tb, std_ti, std_ts, std_tn, std_tp, std_nmin, std_makes, std_room, std_zeros, std_nilq, std_notq, std_eqi, std_eqn, std_eqb, std_eqs, std_eqv, std_cat, std_lst, std_rset, std_rcopy, std_shift, std_eqr, std_strOf, std_bytesOf, std_isB, std_zOf, zOf_int, std_isI, isI_int, std_getL, std_nmul, std_sOf, sOf_str, std_isS, isS_str, strOf_lit, lstOf_lit inj_eB, lstOf_lit inj_eZ, lstOf_lit inj_eBs, lstOf_lit inj_eS, ml0, mw0, mr0, mg0, ma0, lstOf_lit inj_eI])
  all_goals first
    | done
    | decide
    | exact ⟨⟨_, mq0⟩, by decide, ms0⟩
    | exact ⟨isRow_lit _, by decide⟩
    | exact ⟨ma1, by decide⟩
    | exact isRow_lit _
    | exact isB_lit _
    | exact fun h => ⟨h, isB_lit _⟩
    | exact fun h => ⟨h, ⟨_, mq0⟩, isRow_lit _, by decide⟩
    | exact fun h => ⟨⟨h, h⟩, ⟨_, mq0⟩, isRow_lit _, by decide⟩
    | exact fun h => ⟨h, isRow_lit _, isRow_lit _, by decide⟩
    | exact fun h => ⟨h, ⟨_, mq0⟩, by decide, ms0⟩
    | (simp [isRow_lit, isB_lit, isRow_nil, lstOf_nil inj_eB, lstOf_nil inj_eZ, lstOf_nil inj_eBs, lstOf_nil inj_eS]; done)
    | trace_state
noncomputable def c_mAwake : Ct := fun A args => match args with
  | [] => some (none, .bool true)
  | _ => none
noncomputable def gM6 : Ar → Pu := addC 19 c_mAwake (gM5)
theorem gM6_ok : PuOk Tryd.prog gl0 (gM6 std) := by
  refine addC_ok (gM5_ok) ⟨_, Tryd.func19, rfl, by decide⟩ ?_
  · intro args p r h hp
    unfold c_mAwake at h
    split at h <;> cases h
    exact good_mAwake
end Go.Vd

/- Messages: the law MessageBack. -/
set_option linter.unusedVariables false
set_option linter.unusedSimpArgs false
set_option maxRecDepth 100000
set_option maxHeartbeats 8000000
namespace Go.Vd
open Go.Proofs
theorem mW_len {T : List UInt8} {L : List It} (h : mR T L = true) : (mW T L).length ≤ 20 + L.length * 1002 := by
  obtain ⟨h1, h2, h3, h4⟩ := mR_iff.1 h
  have hT := mT_len h1
  obtain ⟨b1, b2, b3, b4, b5, b6⟩ := bof_ups h4 (fs_bf h3)
  have hb := bb_len b2
  have := body_len h3
  unfold mW mBits
  rw [List.length_append, List.length_append, hb]
  split <;> omega
theorem mRL_len (B : List UInt8) : (mRL B).length ≤ 129 := by
  unfold mRL
  split
  · exact Nat.le_trans (itF_len _ _).1 (bfields_len _ _)
  · simp
theorem rr_len {n : Int} {s : List UInt8} (h : rr n s = true) : s.length ≤ 999 := by
  have h1 := rr_ok h
  have h2 := dOk_b h1.1
  omega
theorem val_len {T : List UInt8} {L : List It} (h : mR T L = true) (i : Nat) : (L.getD i (0, [])).2.length ≤ 999 := by
  rcases Nat.lt_or_ge i L.length with hi | hi
  · exact rr_len (rr_at (mR_iff.1 h).2.2.1 hi)
  · rw [List.getD_eq_getElem?_getD, List.getElem?_eq_none hi]; simp
theorem lst_cut (L : List UInt8) {k : Nat} (h : k ≤ L.length) : lstOf eB 0 1 k (rowF eB 0 std fun _ => L) = L.take k := lstOf_eq inj_eB (.cut L k h)
theorem row_cut (L : List UInt8) {k : Nat} (h : k ≤ L.length) : isRow eB 0 1 k (rowF eB 0 std fun _ => L) := ⟨_, .cut L k h⟩
theorem app2_reps (L : List UInt8) {z : Int} {x : UInt8} (hz : z = x.toNat) {g : Nat → Nat → SV} : Reps eB 0 1 (L.length + 1) (catS L.length (catS 0 g (rowF eB 0 std fun _ => L)) (lstS [[SV.int IntKind.u8 z]])) (L ++ [x]) := by
  have := app1_reps L hz (g := g)
  simpa using this
theorem mod_cut {c : Int} (hc : 0 ≤ c ∧ c < 65536) {n : Nat} (hn : 0 < n) : ∃ k : Nat, k < n ∧ (IntKind.i64.wrap c).tmod (n : Int) = (k : Int) := by
  rw [w64 (by omega)]
  have t1 := Int.tmod_nonneg (n : Int) hc.1
  have t2 := Int.tmod_lt_of_pos c (show (0 : Int) < n by omega)
  exact ⟨(c.tmod n).toNat, by omega, by omega⟩
/-- What comes of writing. -/
theorem mw_facts {T : List UInt8} {L : List It} (h : mWe T L = 0) : mR T L = true ∧ mRe (mWx T L) = 0 ∧ mRT (mWx T L) = T ∧ mRL (mWx T L) = L ∧ (∀ k, k < (mWx T L).length → mRe ((mWx T L).take k) = 2) ∧ (∀ x, mRe (mWx T L ++ [x]) = 4) ∧ 12 ≤ (mWx T L).length ∧ (mWx T L).length ≤ 20 + L.length * 1002 := by
  have hr : mR T L = true := by
    cases e : mR T L
    · rw [(mw_no e).2] at h; cases h
    · rfl
  have hw := mw_yes hr
  rw [hw.1]
  have hb := mR_back hr
  exact ⟨hr, hb.1, hb.2.1, hb.2.2, fun k hk => mR_cut hr hk, fun x => mR_more hr x, mW_ne hr, mW_len hr⟩
theorem mw_two {T U : List UInt8} {L M : List It} (h : mWe T L = 0) (h' : mWe U M = 0) : mWx T L = mWx U M ↔ T = U ∧ L = M := by
  have a := (mw_facts h).1
  have b := (mw_facts h').1
  rw [(mw_yes a).1, (mw_yes b).1]
  exact mW_inj a b
theorem rd_facts {B : List UInt8} (h : mRe B = 0) : mR (mRT B) (mRL B) = true ∧ mWe (mRT B) (mRL B) = 0 ∧ mWx (mRT B) (mRL B) = B := by
  have := mR_good h
  exact ⟨this.1, (mw_yes this.1).2, (mw_yes this.1).1.trans this.2⟩
theorem good_MessageBack (T U : List UInt8) (L M : List It) (B : List UInt8) (c : Int) (hc0 : 0 ≤ c ∧ c < 65536) : GoodP Tryd.prog gl0 5 [.agg [.str T, rowS eI (0, []) 2 std fun _ => L], .agg [.str U, rowS eI (0, []) 2 std fun _ => M], rowS eB 0 1 std fun _ => B, .int .u16 c] (.bool true) := by
  refine fn_sound' (T := seatT) (G := gM6) (X := noX) seatT_ok gM6_ok noX_ok noI_ok mixed Tryd.func5 (.one) (fun A => [.agg [.str T, rowS eI (0, []) 2 A fun _ => L], .agg [.str U, rowS eI (0, []) 2 A fun _ => M], rowS eB 0 1 A fun _ => B, .int .u16 c]) (fun A => .bool true) fun A hA => ?_
  cbv
  repeat' (first | with_reducible exact True.intro | with_reducible exact dr_ok hA (by kernel_rfl) | with_reducible refine And.intro ?_ ?_ | (intro hc; cbv))
  all_goals (subst hA; simp [-List.getD_eq_getElem?_getD, std_add, std_sub, std_mul, std_quo, std_rem, std_band, std_bor, std_bxor, std_shl, std_shr, std_eq, std_ne, std_lt, std_le, std_conv, std_not, std_beq, std_bne, std_ite, std_want, std_and2, std_sadd, std_seq, std_sne, std_slt, std_sle, std_sgt, std_sge, std_slen, std_sget, std_scut, std_ofNat, std_toNat, std_nsub, std_nadd, std_lenOf, std_nz, std_nneg, std_inb, std_upto, std_slt63, std_grow, std_imp, std_impN, std_tr, std_tb, std_ti, std_ts, std_tn, std_tp, std_nmin, std_makes, std_room, std_zeros, std_nilq, std_notq, std_eqi, std_eqn, std_eqb, std_eqs, std_eqv, std_cat, std_lst, std_rset, std_rcopy, std_shift, std_eqr, std_strOf, std_bytesOf, std_isB, std_zOf, zOf_int, std_isI, isI_int, std_getL, std_nmul, std_sOf, sOf_str, std_isS, isS_str, strOf_lit, lstOf_lit inj_eB, lstOf_lit inj_eZ, lstOf_lit inj_eBs, lstOf_lit inj_eS, isRow_lit, isB_lit, isRow_nil, lstOf_nil inj_eB, lstOf_nil inj_eZ, lstOf_nil inj_eBs, lstOf_nil inj_eS, lstOf_lit inj_eI] at *)
  all_goals (have hsh : (mSh T L = true ∧ mSh U M = true) ∧ (B.length : Int) ≤ 5000 := by assumption)
  all_goals (have h1 := mSh_iff.1 hsh.1.1)
  all_goals (have h2 := mSh_iff.1 hsh.1.2)
  all_goals (have h3 := fun i => Nat.le_trans (mSh_getD hsh.1.1 i) (show 1200 ≤ 1000000 by decide))
  all_goals (have h4 := fun i => Nat.le_trans (mSh_getD hsh.1.2 i) (show 1200 ≤ 1000000 by decide))
  all_goals (have h5 := mRL_len B)
  all_goals first
    | omega
    | exact ⟨by omega, h3⟩
    | exact ⟨by omega, h4⟩
    | (have hb := mR_bad hc
       simp [hb.1, hb.2] at *; done)
    | (have hf := rd_facts hc
       have hv := fun i => Nat.le_trans (val_len hf.1 i) (show 999 ≤ 1000000 by decide)
       first
         | exact ⟨by omega, hv⟩
         | exact fun h => ⟨h, by omega, hv⟩
         | exact ⟨⟨hf.2.1, hf.1⟩, hf.2.2⟩)
    | (have hz : mWe T L = 0 ∧ 0 < (mWx T L).length := by assumption
       obtain ⟨f1, f2, f3, f4, f5, f6, f7, f8⟩ := mw_facts hz.1
       obtain ⟨k, hk, ek⟩ := mod_cut hc0 hz.2
       have f9 := f5 k hk
       have fa := f6 (UInt8.ofNat c.toNat)
       have fb := lst_cut (mWx T L) (Nat.le_of_lt hk)
       have fc := app2_reps (mWx T L) (wU8 c hc0.1) (g := fun _ _ => SV.any)
       have fd := lstOf_eq inj_eB fc
       have fe := fun h => mw_two (U := U) (M := M) hz.1 h
       try simp only [ek, Int.toNat_natCast] at *
       first
         | omega
         | (intro e; rw [e] at f7; simp at f7; done)
         | (constructor <;> omega)
         | exact ⟨row_cut _ (Nat.le_of_lt hk), by omega⟩
         | exact ⟨⟨_, fc⟩, by omega⟩
         | exact fun h => ⟨h, by rw [f4]; omega⟩
         | exact fun h => ⟨h, by omega⟩
         | (simp [f2, f3, f4, fb, fd, f9, fa] at *
            first
              | done
              | (intro h; rw [fe h]; simp; done)
              | exact fun h => ⟨h, by omega⟩
              | (exact hc.2 (by rw [Bool.eq_iff_iff]; simp [fe hc.1]))
              | trace_state))
    | trace_state
end Go.Vd
