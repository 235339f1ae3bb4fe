/- Messages: Get, and what is written. -/
import Derived.Test.YtakcggldilbilaaDoorVdMM
import Derived.Test.YtakcggldilbilaaDoorVdB9
import Derived.Test.YtakcggldilbilaaDoorVdF2
set_option linter.unusedVariables false
set_option linter.unusedSimpArgs false
set_option maxRecDepth 100000
set_option maxHeartbeats 4000000
namespace Go.Vd
open Go.Proofs
noncomputable def iGet : Nat → Option Func := addI 81 Tryd.f81 (addI 82 Tryd.f82 noI)
theorem iGet_ok : InOk Tryd.prog iGet := addI_ok (addI_ok noI_ok Tryd.func82 (by kernel_rfl)) Tryd.func81 (by kernel_rfl)
theorem good_mGet (T : List UInt8) (L : List It) (n : Int) (hL : L.length ≤ 1000000) : GoodP Tryd.prog gl0 24 [.agg [.str T, rowS eI (0, []) 2 std fun _ => L], .int .i64 n] (.tup [.str (std.ts fun _ => mG L n), .bool (std.tb fun _ => mH L n)]) := by
  refine fn_sound' (T := seatT) (G := noC) (X := noX) seatT_ok noC_ok noX_ok iGet_ok mixed Tryd.func24 (.one) (fun A => [.agg [.str T, rowS eI (0, []) 2 A fun _ => L], .int .i64 n]) (fun A => .tup [.str (A.ts fun _ => mG L n), .bool (A.tb fun _ => mH L n)]) fun A hA => ?_
  cbv
  repeat' (first | with_reducible exact True.intro | with_reducible exact dr_ok hA (by kernel_rfl) | with_reducible refine And.intro ?_ ?_ | (intro hc; cbv))
  refine ⟨⟨{i : Nat // i ≤ L.length ∧ ∀ j, j < i → ¬(L.getD j (0, [])).1 = n}, fun b i => [(8, .int .i64 (i.1 : Nat))], fun b i => [], fun i => L.length - i.1, true⟩, ⟨⟨0, by omega, fun j hj => absurd hj (by omega)⟩, ?_⟩, ?_⟩
  · cbv
    subst hA
    simp [-List.getD_eq_getElem?_getD, std_add, std_sub, std_mul, std_quo, std_rem, std_band, std_bor, std_bxor, std_shl, std_shr, std_eq, std_ne, std_lt, std_le, std_conv, std_not, std_beq, std_bne, std_ite, std_want, std_and2, std_sadd, std_seq, std_sne, std_slt, std_sle, std_sgt, std_sge, std_slen, std_sget, std_scut, std_ofNat, std_toNat, std_nsub, std_nadd, std_lenOf, std_nz, std_nneg, std_inb, std_upto, std_slt63, std_grow, std_imp, std_impN, std_tr, std_tb, std_ti, std_ts, std_tn, std_tp, std_nmin, std_makes, std_room, std_zeros, std_nilq, std_notq, std_eqi, std_eqn, std_eqb, std_eqs, std_eqv, std_cat, std_lst, std_rset, std_rcopy, std_shift, std_eqr, std_strOf, std_bytesOf, std_isB, std_zOf, zOf_int, std_isI, isI_int, std_getL, std_nmul, std_sOf, sOf_str, std_isS, isS_str]
  · rintro ⟨i, hi, h0⟩
    cbv
    repeat' (first | with_reducible exact True.intro | with_reducible exact dr_ok hA (by kernel_rfl) | with_reducible refine And.intro ?_ ?_ | (intro hc; cbv))
    all_goals first
      | (fail_if_success (refine Exists.intro ?_ ?_)
         subst hA
         simp [-List.getD_eq_getElem?_getD, std_add, std_sub, std_mul, std_quo, std_rem, std_band, std_bor, std_bxor, std_shl, std_shr, std_eq, std_ne, std_lt, std_le, std_conv, std_not, std_beq, std_bne, std_ite, std_want, std_and2, std_sadd, std_seq, std_sne, std_slt, std_sle, std_sgt, std_sge, std_slen, std_sget, std_scut, std_ofNat, std_toNat, std_nsub, std_nadd, std_lenOf, std_nz, std_nneg, std_inb, std_upto, std_slt63, std_grow, std_imp, std_impN, std_tr, std_tb, std_ti, std_ts, std_tn, std_tp, std_nmin, std_makes, std_room, std_zeros, std_nilq, std_notq, std_eqi, std_eqn, std_eqb, std_eqs, std_eqv, std_cat, std_lst, std_rset, std_rcopy, std_shift, std_eqr, std_strOf, std_bytesOf, std_isB, std_zOf, zOf_int, std_isI, isI_int, std_getL, std_nmul, std_sOf, sOf_str, std_isS, isS_str] at *
         done)
      | (fail_if_success (refine Exists.intro ?_ ?_)
         subst hA
         simp [-List.getD_eq_getElem?_getD, std_add, std_sub, std_mul, std_quo, std_rem, std_band, std_bor, std_bxor, std_shl, std_shr, std_eq, std_ne, std_lt, std_le, std_conv, std_not, std_beq, std_bne, std_ite, std_want, std_and2, std_sadd, std_seq, std_sne, std_slt, std_sle, std_sgt, std_sge, std_slen, std_sget, std_scut, std_ofNat, std_toNat, std_nsub, std_nadd, std_lenOf, std_nz, std_nneg, std_inb, std_upto, std_slt63, std_grow, std_imp, std_impN, std_tr, std_tb, std_ti, std_ts, std_tn, std_tp, std_nmin, std_makes, std_room, std_zeros, std_nilq, std_notq, std_eqi, std_eqn, std_eqb, std_eqs, std_eqv, std_cat, std_lst, std_rset, std_rcopy, std_shift, std_eqr, std_strOf, std_bytesOf, std_isB, std_zOf, zOf_int, std_isI, isI_int, std_getL, std_nmul, std_sOf, sOf_str, std_isS, isS_str] at *
         first
           | omega
           | (have e : (L.getD i (0, [])).1 = n := by assumption
              have := mG_at (by omega) h0 e
              first
                | (rw [this.1]; done)
                | (rw [this.2]; done))
           | (have hie : i = L.length := by omega
              subst hie
              have := mG_none h0
              first
                | (rw [this.1]; done)
                | (rw [this.2]; done))
           | trace_state)
      | (have hlt : i < L.length := by (clear h0; subst hA; simp [-List.getD_eq_getElem?_getD, std_add, std_sub, std_mul, std_quo, std_rem, std_band, std_bor, std_bxor, std_shl, std_shr, std_eq, std_ne, std_lt, std_le, std_conv, std_not, std_beq, std_bne, std_ite, std_want, std_and2, std_sadd, std_seq, std_sne, std_slt, std_sle, std_sgt, std_sge, std_slen, std_sget, std_scut, std_ofNat, std_toNat, std_nsub, std_nadd, std_lenOf, std_nz, std_nneg, std_inb, std_upto, std_slt63, std_grow, std_imp, std_impN, std_tr, std_tb, std_ti, std_ts, std_tn, std_tp, std_nmin, std_makes, std_room, std_zeros, std_nilq, std_notq, std_eqi, std_eqn, std_eqb, std_eqs, std_eqv, std_cat, std_lst, std_rset, std_rcopy, std_shift, std_eqr, std_strOf, std_bytesOf, std_isB, std_zOf, zOf_int, std_isI, isI_int, std_getL, std_nmul, std_sOf, sOf_str, std_isS, isS_str] at *; omega)
         have hne : ¬(L.getD i (0, [])).1 = n := by (clear h0; subst hA; simp [-List.getD_eq_getElem?_getD, std_add, std_sub, std_mul, std_quo, std_rem, std_band, std_bor, std_bxor, std_shl, std_shr, std_eq, std_ne, std_lt, std_le, std_conv, std_not, std_beq, std_bne, std_ite, std_want, std_and2, std_sadd, std_seq, std_sne, std_slt, std_sle, std_sgt, std_sge, std_slen, std_sget, std_scut, std_ofNat, std_toNat, std_nsub, std_nadd, std_lenOf, std_nz, std_nneg, std_inb, std_upto, std_slt63, std_grow, std_imp, std_impN, std_tr, std_tb, std_ti, std_ts, std_tn, std_tp, std_nmin, std_makes, std_room, std_zeros, std_nilq, std_notq, std_eqi, std_eqn, std_eqb, std_eqs, std_eqv, std_cat, std_lst, std_rset, std_rcopy, std_shift, std_eqr, std_strOf, std_bytesOf, std_isB, std_zOf, zOf_int, std_isI, isI_int, std_getL, std_nmul, std_sOf, sOf_str, std_isS, isS_str] at *; assumption)
         refine ⟨⟨i + 1, by omega, fun j hj => ?_⟩, ?_, show L.length - (i + 1) < L.length - i by omega⟩
         · by_cases e : j = i
           · subst e; exact hne
           · exact h0 j (by omega)
         cbv
         subst hA
         simp [std_add, std_sub, std_mul, std_quo, std_rem, std_band, std_bor, std_bxor, std_shl, std_shr, std_eq, std_ne, std_lt, std_le, std_conv, std_not, std_beq, std_bne, std_ite, std_want, std_and2, std_sadd, std_seq, std_sne, std_slt, std_sle, std_sgt, std_sge, std_slen, std_sget, std_scut, std_ofNat, std_toNat, std_nsub, std_nadd, std_lenOf, std_nz, std_nneg, std_inb, std_upto, std_slt63, std_grow, std_imp, std_impN, std_tr, std_tb, std_ti, std_ts, std_tn, std_tp, std_nmin, std_makes, std_room, std_zeros, std_nilq, std_notq, std_eqi, std_eqn, std_eqb, std_eqs, std_eqv, std_cat, std_lst, std_rset, std_rcopy, std_shift, std_eqr, std_strOf, std_bytesOf, std_isB, std_zOf, zOf_int, std_isI, isI_int, std_getL, std_nmul, std_sOf, sOf_str, std_isS, isS_str]
         exact (w64 (by omega)).trans (by omega))
      | trace_state
noncomputable def c_mGet : Ct := fun A args => match args with
  | [.agg [.str T, .slc n 2 f], .int .i64 z] => some (some (A.tp fun _ => isRow eI (0, []) 2 n f ∧ n ≤ 1000000), .tup [.str (A.ts fun _ => mG (lstOf eI (0, []) 2 n f) z), .bool (A.tb fun _ => mH (lstOf eI (0, []) 2 n f) z)])
  | _ => none
noncomputable def c_bOf : Ct := fun A args => match args with
  | [.slc n 1 f] => some (some (A.tp fun _ => isRow eZ 0 1 n f ∧ n ≤ 9223372036854775807), r9 A fun _ => lstOf eZ 0 1 n f)
  | _ => none
noncomputable def c_bFields : Ct := fun A args => match args with
  | [.agg [.int .u64 h, .int .u64 l]] => some (some (A.tp fun _ => r64 h ∧ r64 l), r16 A h l)
  | _ => none
noncomputable def c_bRead : Ct := fun A args => match args with
  | [.slc n 1 f] => some (some (A.tp fun _ => isRow eB 0 1 n f ∧ n ≤ 9223372036854775807), r20 A fun _ => lstOf eB 0 1 n f)
  | _ => none
noncomputable def c_bBytes : Ct := fun A args => match args with
  | [.agg [.int .u64 h, .int .u64 l]] => some (some (A.tp fun _ => r64 h ∧ r64 l), r18 A h l)
  | _ => none
noncomputable def c_Concat : Ct := fun A args => match args with
  | [.slc n 1 f] => some (some (A.tp fun _ => isRow eBs [] 1 n f ∧ bsSmall (lstOf eBs [] 1 n f)), rowS eB 0 1 A fun _ => (lstOf eBs [] 1 n f).flatten)
  | _ => none
noncomputable def c_mIsT2 : Ct := fun A args => match args with
  | [.str s] => some (none, .bool (A.tb fun _ => mT s))
  | _ => none
noncomputable def c_mRight2 : Ct := fun A args => match args with
  | [.agg [.str T, .slc n 2 f]] => some (some (A.tp fun _ => isRow eI (0, []) 2 n f ∧ n ≤ 1000000 ∧ ∀ i, ((lstOf eI (0, []) 2 n f).getD i (0, [])).2.length ≤ 1000000), .bool (A.tb fun _ => mR T (lstOf eI (0, []) 2 n f)))
  | _ => none
noncomputable def gM0 : Ar → Pu := addC 24 c_mGet (addC 133 c_bOf (addC 86 c_bFields (addC 84 c_bRead (addC 134 c_bBytes (addC 77 c_Concat (addC 83 c_mIsT2 (addC 28 c_mRight2 (gh6))))))))
theorem gM0_ok : PuOk Tryd.prog gl0 (gM0 std) := by
  refine addC_ok (addC_ok (addC_ok (addC_ok (addC_ok (addC_ok (addC_ok (addC_ok (gh6_ok) ⟨_, Tryd.func28, rfl, by decide⟩ ?_) ⟨_, Tryd.func83, rfl, by decide⟩ ?_) ⟨_, Tryd.func77, rfl, by decide⟩ ?_) ⟨_, Tryd.func134, rfl, by decide⟩ ?_) ⟨_, Tryd.func84, rfl, by decide⟩ ?_) ⟨_, Tryd.func86, rfl, by decide⟩ ?_) ⟨_, Tryd.func133, rfl, by decide⟩ ?_) ⟨_, Tryd.func24, rfl, by decide⟩ ?_
  · intro args p r h hp
    unfold c_mRight2 at h
    split at h <;> cases h
    exact good_mRight' hp
  · intro args p r h hp
    unfold c_mIsT2 at h
    split at h <;> cases h
    exact good_mIsT _
  · intro args p r h hp
    unfold c_Concat at h
    split at h <;> cases h
    exact good_sv (good_Concat _ hp.2) ⟨hp.1.sv, trivial⟩
  · intro args p r h hp
    unfold c_bBytes at h
    split at h <;> cases h
    exact good18 hp.1 hp.2
  · intro args p r h hp
    unfold c_bRead at h
    split at h <;> cases h
    exact c20_ok hp
  · intro args p r h hp
    unfold c_bFields at h
    split at h <;> cases h
    exact good16 hp.1 hp.2
  · intro args p r h hp
    unfold c_bOf at h
    split at h <;> cases h
    exact good_sv (good9 _ (by rw [lstOf_length hp.1]; exact hp.2)) ⟨hp.1.sv, trivial⟩
  · intro args p r h hp
    unfold c_mGet at h
    split at h <;> cases h
    exact good_sv (good_mGet _ _ _ (by rw [lstOf_length hp.1]; exact hp.2)) ⟨⟨_, rfl, rfl, hp.1.sv, trivial⟩, rfl, trivial⟩
theorem bofS_lt : ∀ (L : List Int) (h l : Nat) (m : Nat × Nat), h < 18446744073709551616 → l < 18446744073709551616 → L.foldl (fun o n => o.bind fun m => if bright m.1 m.2 && bfield n then some (bput m.1 m.2 n) else none) (some (h, l)) = some m → m.1 < 18446744073709551616 ∧ m.2 < 18446744073709551616
  | [], h, l, m, hh, hl, e => by cases e; exact ⟨hh, hl⟩
  | n :: L, h, l, m, hh, hl, e => by
    rw [List.foldl_cons] at e
    simp only [Option.bind_some] at e
    split at e
    · have := bput_lt n hh hl
      exact bofS_lt L _ _ m this.1 this.2 e
    · rw [bofS_none (fun m n => if bright m.1 m.2 && bfield n then some (bput m.1 m.2 n) else none)] at e
      cases e
theorem bof_lt (L : List Int) : (bof L).1 < 18446744073709551616 ∧ (bof L).2 < 18446744073709551616 := by
  unfold bof
  cases e : bofS L with
  | none => exact ⟨by decide, by decide⟩
  | some m => exact bofS_lt L 0 0 m (by decide) (by decide) e
def boB (L : List Int) : List UInt8 := if boferr L = 0 then bbytes (bof L).1 (bof L).2 else []
def boE (L : List Int) : Int := if boferr L = 0 then bbErr (bof L).1 (bof L).2 else boferr L
theorem bo_yes {L : List Int} (h : boferr L = 0) : boB L = bbytes (bof L).1 (bof L).2 ∧ boE L = bbErr (bof L).1 (bof L).2 := ⟨if_pos h, if_pos h⟩
theorem bo_no {L : List Int} (h : ¬boferr L = 0) : boB L = [] ∧ boE L = boferr L := ⟨if_neg h, if_neg h⟩
theorem good_bitsOf (L : List Int) (hL : L.length ≤ 1000000) : GoodP Tryd.prog gl0 76 [rowS eZ 0 1 std fun _ => L] (.tup [.frs 5 1 (std.tn fun _ => (boB L).length) (rowF eB 0 std fun _ => boB L), .int .i64 (std.ti fun _ => boE L)]) := by
  refine fn_sound' (T := seatT) (G := gM0) (X := noX) seatT_ok gM0_ok noX_ok noI_ok mixed Tryd.func76 (.fresh 5 1) (fun A => [rowS eZ 0 1 A fun _ => L]) (fun A => .tup [.frs 5 1 (A.tn fun _ => (boB L).length) (rowF eB 0 A fun _ => boB L), .int .i64 (A.ti fun _ => boE L)]) fun A hA => ?_
  cbv
  repeat' (first | with_reducible exact True.intro | with_reducible exact dr_ok hA (by kernel_rfl) | with_reducible refine And.intro ?_ ?_ | (intro hc; cbv))
  all_goals (have hb := bof_lt L)
  all_goals (subst hA; simp [std_add, std_sub, std_mul, std_quo, std_rem, std_band, std_bor, std_bxor, std_shl, std_shr, std_eq, std_ne, std_lt, std_le, std_conv, std_not, std_beq, std_bne, std_ite, std_want, std_and2, std_sadd, std_seq, std_sne, std_slt, std_sle, std_sgt, std_sge, std_slen, std_sget, std_scut, std_ofNat, std_toNat, std_nsub, std_nadd, std_lenOf, std_nz, std_nneg, std_inb, std_upto, std_slt63, std_grow, std_imp, std_impN, std_tr, std_tb, std_ti, std_ts, std_tn, std_tp, std_nmin, std_makes, std_room, std_zeros, std_nilq, std_notq, std_eqi, std_eqn, std_eqb, std_eqs, std_eqv, std_cat, std_lst, std_rset, std_rcopy, std_shift, std_eqr, std_strOf, std_bytesOf, std_isB, std_zOf, zOf_int, std_isI, isI_int, std_getL, std_nmul, std_sOf, sOf_str, std_isS, isS_str, strOf_lit, lstOf_lit inj_eB, lstOf_lit inj_eZ, lstOf_lit inj_eBs, lstOf_lit inj_eS, isRow_lit, isB_lit, isRow_nil, lstOf_nil inj_eB, lstOf_nil inj_eZ, lstOf_nil inj_eBs, lstOf_nil inj_eS] at *)
  all_goals first
    | omega
    | exact ⟨r64_of hb.1, r64_of hb.2⟩
    | (have hx := bo_no hc
       first
         | (rw [hx.1]; done)
         | (rw [hx.1]; rfl)
         | (rw [hx.2]; done)
         | (rw [hx.1]; exact fun i j hi => absurd hi (by simp)))
    | (have hx := bo_yes hc
       first
         | (rw [hx.1]; done)
         | (rw [hx.2]; done)
         | (rw [hx.1]; exact (Reps.lit _).eqr))
    | trace_state
noncomputable def c_bitsOf : Ct := fun A args => match args with
  | [.slc n 1 f] => some (some (A.tp fun _ => isRow eZ 0 1 n f ∧ n ≤ 1000000), .tup [.frs 5 1 (A.tn fun _ => (boB (lstOf eZ 0 1 n f)).length) (rowF eB 0 A fun _ => boB (lstOf eZ 0 1 n f)), .int .i64 (A.ti fun _ => boE (lstOf eZ 0 1 n f))])
  | _ => none
noncomputable def gM1 : Ar → Pu := addC 76 c_bitsOf (gM0)
theorem gM1_ok : PuOk Tryd.prog gl0 (gM1 std) := by
  refine addC_ok (gM0_ok) ⟨_, Tryd.func76, rfl, by decide⟩ ?_
  · intro args p r h hp
    unfold c_bitsOf at h
    split at h <;> cases h
    exact good_sv (good_bitsOf _ (by rw [lstOf_length hp.1]; exact hp.2)) ⟨hp.1.sv, trivial⟩
theorem fs_take {L : List It} {i : Nat} (h : i < L.length) : fs (L.take (i + 1)) = fs (L.take i) ++ [(L.getD i (0, [])).1] := by
  rw [← take_snoc (d := (0, [])) h]; simp [fs]
theorem body_take {L : List It} {i : Nat} (h : i < L.length) : body (L.take (i + 1)) = body (L.take i) ++ fWr (L.getD i (0, [])).1 (L.getD i (0, [])).2 := by
  rw [← take_snoc (d := (0, [])) h, body_app]; simp [body]
theorem fWr_len {n : Int} {s : List UInt8} (h : rr n s = true) : (fWr n s).length ≤ s.length + 3 := by
  by_cases hk : dKd n < 3
  · rw [(we_fix h hk).2]; omega
  · rw [(we_long h (by omega)).2, List.length_append, decs_len]
    have := fAh_le (dKd n)
    omega
theorem body_len {L : List It} (h : ∀ x ∈ L, rr x.1 x.2 = true) : (body L).length ≤ L.length * 1002 := by
  induction L with
  | nil => simp [body]
  | cons x L ih =>
    rw [body_cons, List.length_append, List.length_cons]
    have h1 := fWr_len (h x (by simp))
    have h2 := rr_ok (h x (by simp))
    have h3 := dOk_b h2.1
    have := ih fun y hy => h y (List.mem_cons_of_mem _ hy)
    omega
def mWx (T : List UInt8) (L : List It) : List UInt8 := if mR T L = true then mW T L else []
def mWe (T : List UInt8) (L : List It) : Int := if mR T L = true then 0 else 1
theorem mw_no {T : List UInt8} {L : List It} (h : mR T L = false) : mWx T L = [] ∧ mWe T L = 1 := by unfold mWx mWe; rw [h]; exact ⟨rfl, rfl⟩
theorem mw_yes {T : List UInt8} {L : List It} (h : mR T L = true) : mWx T L = mW T L ∧ mWe T L = 0 := by unfold mWx mWe; rw [h]; exact ⟨rfl, rfl⟩
theorem rr_at {L : List It} (h : ∀ x ∈ L, rr x.1 x.2 = true) {i : Nat} (hi : i < L.length) : rr (L.getD i (0, [])).1 (L.getD i (0, [])).2 = true := by
  rw [List.getD_eq_getElem?_getD, List.getElem?_eq_getElem hi]
  exact h _ (List.getElem_mem hi)
theorem three_rows {n1 n2 n3 : Nat} {f1 f2 f3 : Nat → Nat → SV} {X Y Z : List UInt8} (h1 : Reps eB 0 1 n1 f1 X) (h2 : Reps eB 0 1 n2 f2 Y) (h3 : Reps eB 0 1 n3 f3 Z) : Reps eBs [] 1 3 (lstS [[.slc n1 1 f1], [.slc n2 1 f2], [.slc n3 1 f3]]) [X, Y, Z] :=
  Reps.lst (l := [[_], [_], [_]]) (L := [X, Y, Z]) ⟨cell_eBs h1, cell_eBs h2, cell_eBs h3, trivial⟩
theorem good_mWrite (T : List UInt8) (L : List It) (hL : L.length ≤ 500) (hS : ∀ i, (L.getD i (0, [])).2.length ≤ 1000000) : GoodP Tryd.prog gl0 22 [.agg [.str T, rowS eI (0, []) 2 std fun _ => L]] (.tup [rowS eB 0 1 std fun _ => mWx T L, .int .i64 (std.ti fun _ => mWe T L)]) := by
  refine fn_sound' (T := seatT) (G := gM1) (X := noX) seatT_ok gM1_ok noX_ok noI_ok mixed Tryd.func22 (.none) (fun A => [.agg [.str T, rowS eI (0, []) 2 A fun _ => L]]) (fun A => .tup [rowS eB 0 1 A fun _ => mWx T L, .int .i64 (A.ti fun _ => mWe T L)]) fun A hA => ?_
  cbv
  repeat' (first | with_reducible exact True.intro | with_reducible exact dr_ok hA (by kernel_rfl) | with_reducible refine And.intro ?_ ?_ | (intro hc; cbv))
  all_goals first
    | (fail_if_success (refine Exists.intro ?_ ?_)
       subst hA
       simp [std_add, std_sub, std_mul, std_quo, std_rem, std_band, std_bor, std_bxor, std_shl, std_shr, std_eq, std_ne, std_lt, std_le, std_conv, std_not, std_beq, std_bne, std_ite, std_want, std_and2, std_sadd, std_seq, std_sne, std_slt, std_sle, std_sgt, std_sge, std_slen, std_sget, std_scut, std_ofNat, std_toNat, std_nsub, std_nadd, std_lenOf, std_nz, std_nneg, std_inb, std_upto, std_slt63, std_grow, std_imp, std_impN, std_tr, std_tb, std_ti, std_ts, std_tn, std_tp, std_nmin, std_makes, std_room, std_zeros, std_nilq, std_notq, std_eqi, std_eqn, std_eqb, std_eqs, std_eqv, std_cat, std_lst, std_rset, std_rcopy, std_shift, std_eqr, std_strOf, std_bytesOf, std_isB, std_zOf, zOf_int, std_isI, isI_int, std_getL, std_nmul, std_sOf, sOf_str, std_isS, isS_str, lstOf_lit inj_eI] at *
       first
         | done
         | exact ⟨isRow_lit _, by omega, hS⟩
         | (rw [(mw_no hc).1]; done)
         | (rw [(mw_no hc).1]; rfl)
         | (rw [(mw_no hc).2]; done)
         | trace_state)
    | skip
  have hr : mR T L = true := by subst hA; simp [std_add, std_sub, std_mul, std_quo, std_rem, std_band, std_bor, std_bxor, std_shl, std_shr, std_eq, std_ne, std_lt, std_le, std_conv, std_not, std_beq, std_bne, std_ite, std_want, std_and2, std_sadd, std_seq, std_sne, std_slt, std_sle, std_sgt, std_sge, std_slen, std_sget, std_scut, std_ofNat, std_toNat, std_nsub, std_nadd, std_lenOf, std_nz, std_nneg, std_inb, std_upto, std_slt63, std_grow, std_imp, std_impN, std_tr, std_tb, std_ti, std_ts, std_tn, std_tp, std_nmin, std_makes, std_room, std_zeros, std_nilq, std_notq, std_eqi, std_eqn, std_eqb, std_eqs, std_eqv, std_cat, std_lst, std_rset, std_rcopy, std_shift, std_eqr, std_strOf, std_bytesOf, std_isB, std_zOf, zOf_int, std_isI, isI_int, std_getL, std_nmul, std_sOf, sOf_str, std_isS, isS_str, lstOf_lit inj_eI] at hc; exact hc
  have hri := mR_iff.1 hr
  clear hc
  refine ⟨⟨{p : Nat × List Int × List UInt8 // p.1 ≤ L.length ∧ p.2.1 = fs (L.take p.1) ∧ p.2.2 = body (L.take p.1)}, fun b p => [(18, .int .i64 (p.1.1 : Nat)), (4, .own b), (5, .own (b + 1))], fun b p => [(b, .row 3 1 (A.tn fun _ => p.1.2.1.length) (rowF eZ 0 A fun _ => p.1.2.1)), (b + 1, .row 5 1 (A.tn fun _ => p.1.2.2.length) (rowF eB 0 A fun _ => p.1.2.2))], fun p => L.length - p.1.1, true⟩, ⟨⟨(0, [], []), by simp [fs, body]⟩, ?_⟩, ?_⟩
  · cbv
    subst hA
    simp [-List.getD_eq_getElem?_getD, std_add, std_sub, std_mul, std_quo, std_rem, std_band, std_bor, std_bxor, std_shl, std_shr, std_eq, std_ne, std_lt, std_le, std_conv, std_not, std_beq, std_bne, std_ite, std_want, std_and2, std_sadd, std_seq, std_sne, std_slt, std_sle, std_sgt, std_sge, std_slen, std_sget, std_scut, std_ofNat, std_toNat, std_nsub, std_nadd, std_lenOf, std_nz, std_nneg, std_inb, std_upto, std_slt63, std_grow, std_imp, std_impN, std_tr, std_tb, std_ti, std_ts, std_tn, std_tp, std_nmin, std_makes, std_room, std_zeros, std_nilq, std_notq, std_eqi, std_eqn, std_eqb, std_eqs, std_eqv, std_cat, std_lst, std_rset, std_rcopy, std_shift, std_eqr, std_strOf, std_bytesOf, std_isB, std_zOf, zOf_int, std_isI, isI_int, std_getL, std_nmul, std_sOf, sOf_str, std_isS, isS_str]
  · rintro ⟨⟨i, F, B⟩, hi, hF, hB⟩
    simp only at hi hF hB
    cbv
    repeat' (first | with_reducible exact True.intro | with_reducible exact dr_ok hA (by kernel_rfl) | with_reducible refine And.intro ?_ ?_ | (intro hc; cbv))
    all_goals first
      | (fail_if_success (refine Exists.intro ?_ ?_)
         have hlt : i < L.length := by (clear hri hr hS; subst hA; simp [std_add, std_sub, std_mul, std_quo, std_rem, std_band, std_bor, std_bxor, std_shl, std_shr, std_eq, std_ne, std_lt, std_le, std_conv, std_not, std_beq, std_bne, std_ite, std_want, std_and2, std_sadd, std_seq, std_sne, std_slt, std_sle, std_sgt, std_sge, std_slen, std_sget, std_scut, std_ofNat, std_toNat, std_nsub, std_nadd, std_lenOf, std_nz, std_nneg, std_inb, std_upto, std_slt63, std_grow, std_imp, std_impN, std_tr, std_tb, std_ti, std_ts, std_tn, std_tp, std_nmin, std_makes, std_room, std_zeros, std_nilq, std_notq, std_eqi, std_eqn, std_eqb, std_eqs, std_eqv, std_cat, std_lst, std_rset, std_rcopy, std_shift, std_eqr, std_strOf, std_bytesOf, std_isB, std_zOf, zOf_int, std_isI, isI_int, std_getL, std_nmul, std_sOf, sOf_str, std_isS, isS_str] at *; omega)
         have hrr := rr_at hri.2.2.1 hlt
         have hwe : fWe (L.getD i (0, [])).1 (L.getD i (0, [])).2 = 0 := by unfold fWe; rw [(rr_ok hrr).1, hrr]; rfl
         have hbl := body_len (L := L.take i) (fun x hx => hri.2.2.1 x (List.mem_of_mem_take hx))
         have hwl := fWr_len hrr
         have hsl := hS i
         have hfl : (fs (L.take i)).length = i := by simp [fs]; omega
         have htl : (L.take i).length = i := by simp; omega
         rw [htl] at hbl
         subst hA
         simp [-List.getD_eq_getElem?_getD, std_add, std_sub, std_mul, std_quo, std_rem, std_band, std_bor, std_bxor, std_shl, std_shr, std_eq, std_ne, std_lt, std_le, std_conv, std_not, std_beq, std_bne, std_ite, std_want, std_and2, std_sadd, std_seq, std_sne, std_slt, std_sle, std_sgt, std_sge, std_slen, std_sget, std_scut, std_ofNat, std_toNat, std_nsub, std_nadd, std_lenOf, std_nz, std_nneg, std_inb, std_upto, std_slt63, std_grow, std_imp, std_impN, std_tr, std_tb, std_ti, std_ts, std_tn, std_tp, std_nmin, std_makes, std_room, std_zeros, std_nilq, std_notq, std_eqi, std_eqn, std_eqb, std_eqs, std_eqv, std_cat, std_lst, std_rset, std_rcopy, std_shift, std_eqr, std_strOf, std_bytesOf, std_isB, std_zOf, zOf_int, std_isI, isI_int, std_getL, std_nmul, std_sOf, sOf_str, std_isS, isS_str, hwe, hF, hB] at *
         first
           | done
           | omega
           | assumption
           | (constructor <;> omega))
      | (have hlt : i < L.length := by (clear hri hr hS; subst hA; simp [std_add, std_sub, std_mul, std_quo, std_rem, std_band, std_bor, std_bxor, std_shl, std_shr, std_eq, std_ne, std_lt, std_le, std_conv, std_not, std_beq, std_bne, std_ite, std_want, std_and2, std_sadd, std_seq, std_sne, std_slt, std_sle, std_sgt, std_sge, std_slen, std_sget, std_scut, std_ofNat, std_toNat, std_nsub, std_nadd, std_lenOf, std_nz, std_nneg, std_inb, std_upto, std_slt63, std_grow, std_imp, std_impN, std_tr, std_tb, std_ti, std_ts, std_tn, std_tp, std_nmin, std_makes, std_room, std_zeros, std_nilq, std_notq, std_eqi, std_eqn, std_eqb, std_eqs, std_eqv, std_cat, std_lst, std_rset, std_rcopy, std_shift, std_eqr, std_strOf, std_bytesOf, std_isB, std_zOf, zOf_int, std_isI, isI_int, std_getL, std_nmul, std_sOf, sOf_str, std_isS, isS_str] at *; omega)
         obtain ⟨i', hi'⟩ : ∃ i', i' = i + 1 := ⟨_, rfl⟩
         obtain ⟨F', hF'⟩ : ∃ F', F' = fs (L.take i') := ⟨_, rfl⟩
         obtain ⟨B', hB'⟩ : ∃ B', B' = body (L.take i') := ⟨_, rfl⟩
         refine ⟨⟨(i', F', B'), by omega, hF', hB'⟩, ?_, show L.length - i' < L.length - i by omega⟩
         rw [hi', fs_take hlt, ← hF] at hF'
         rw [hi', body_take hlt, ← hB] at hB'
         cbv
         subst hA
         simp [-List.getD_eq_getElem?_getD, std_add, std_sub, std_mul, std_quo, std_rem, std_band, std_bor, std_bxor, std_shl, std_shr, std_eq, std_ne, std_lt, std_le, std_conv, std_not, std_beq, std_bne, std_ite, std_want, std_and2, std_sadd, std_seq, std_sne, std_slt, std_sle, std_sgt, std_sge, std_slen, std_sget, std_scut, std_ofNat, std_toNat, std_nsub, std_nadd, std_lenOf, std_nz, std_nneg, std_inb, std_upto, std_slt63, std_grow, std_imp, std_impN, std_tr, std_tb, std_ti, std_ts, std_tn, std_tp, std_nmin, std_makes, std_room, std_zeros, std_nilq, std_notq, std_eqi, std_eqn, std_eqb, std_eqs, std_eqv, std_cat, std_lst, std_rset, std_rcopy, std_shift, std_eqr, std_strOf, std_bytesOf, std_isB, std_zOf, zOf_int, std_isI, isI_int, std_getL, std_nmul, std_sOf, sOf_str, std_isS, isS_str, strOf_lit, lstOf_lit inj_eB, lstOf_lit inj_eZ, lstOf_lit inj_eBs, lstOf_lit inj_eS, isRow_lit, isB_lit, isRow_nil, lstOf_nil inj_eB, lstOf_nil inj_eZ, lstOf_nil inj_eBs, lstOf_nil inj_eS]
         first
           | exact ⟨(w64 (by omega)).trans (by omega), ⟨by rw [hB']; simp, eqr_of (Reps.catE (.lit _) (.lit _) rfl) (by rw [hB']; simp) hB'.symm⟩, by rw [hF']; simp, snoc_row rfl (cell_eZ _) hF'.symm (by rw [hF']; simp)⟩
           | trace_state)
      | skip
    all_goals
      have hie : i = L.length := by (clear hri hr hS; subst hA; simp [std_add, std_sub, std_mul, std_quo, std_rem, std_band, std_bor, std_bxor, std_shl, std_shr, std_eq, std_ne, std_lt, std_le, std_conv, std_not, std_beq, std_bne, std_ite, std_want, std_and2, std_sadd, std_seq, std_sne, std_slt, std_sle, std_sgt, std_sge, std_slen, std_sget, std_scut, std_ofNat, std_toNat, std_nsub, std_nadd, std_lenOf, std_nz, std_nneg, std_inb, std_upto, std_slt63, std_grow, std_imp, std_impN, std_tr, std_tb, std_ti, std_ts, std_tn, std_tp, std_nmin, std_makes, std_room, std_zeros, std_nilq, std_notq, std_eqi, std_eqn, std_eqb, std_eqs, std_eqv, std_cat, std_lst, std_rset, std_rcopy, std_shift, std_eqr, std_strOf, std_bytesOf, std_isB, std_zOf, zOf_int, std_isI, isI_int, std_getL, std_nmul, std_sOf, sOf_str, std_isS, isS_str] at *; omega)
      rw [hie, List.take_length] at hF hB
      obtain ⟨b1, b2, b3, b4, b5, b6⟩ := bof_ups hri.2.2.2 (fs_bf hri.2.2.1)
      have hw := mw_yes hr
      have hbl := body_len (L := L) hri.2.2.1
      have hfl : (fs L).length = L.length := by simp [fs]
      have hbo : boB (fs L) = mBits L ∧ boE (fs L) = 0 := by rw [(bo_yes b6).1, (bo_yes b6).2]; exact ⟨rfl, by unfold bbErr; rw [b2]; rfl⟩
      have hT := mT_len hri.1
      have hbb := bb_len b2
      have h3 := three_rows (row_bytes T) (Reps.lit (enc := eB) (d := 0) (k := 1) (mBits L)) (Reps.lit (enc := eB) (d := 0) (k := 1) (body L))
      have hl3 := lstOf_eq inj_eBs h3
      have hw3 : [T, mBits L, body L].flatten = mW T L := by simp [mW]
      have hsm : bsSmall [T, mBits L, body L] := by
        refine ⟨by simp, ?_⟩
        intro b hb
        simp only [List.mem_cons, List.not_mem_nil, or_false] at hb
        rcases hb with rfl | rfl | rfl
        · omega
        · unfold mBits; rw [hbb]; split <;> omega
        · omega
      subst hA
      simp [-List.getD_eq_getElem?_getD, std_add, std_sub, std_mul, std_quo, std_rem, std_band, std_bor, std_bxor, std_shl, std_shr, std_eq, std_ne, std_lt, std_le, std_conv, std_not, std_beq, std_bne, std_ite, std_want, std_and2, std_sadd, std_seq, std_sne, std_slt, std_sle, std_sgt, std_sge, std_slen, std_sget, std_scut, std_ofNat, std_toNat, std_nsub, std_nadd, std_lenOf, std_nz, std_nneg, std_inb, std_upto, std_slt63, std_grow, std_imp, std_impN, std_tr, std_tb, std_ti, std_ts, std_tn, std_tp, std_nmin, std_makes, std_room, std_zeros, std_nilq, std_notq, std_eqi, std_eqn, std_eqb, std_eqs, std_eqv, std_cat, std_lst, std_rset, std_rcopy, std_shift, std_eqr, std_strOf, std_bytesOf, std_isB, std_zOf, zOf_int, std_isI, isI_int, std_getL, std_nmul, std_sOf, sOf_str, std_isS, isS_str, strOf_lit, lstOf_lit inj_eB, lstOf_lit inj_eZ, lstOf_lit inj_eBs, lstOf_lit inj_eS, isRow_lit, isB_lit, isRow_nil, lstOf_nil inj_eB, lstOf_nil inj_eZ, lstOf_nil inj_eBs, lstOf_nil inj_eS, hF, hB, hbo] at *
      first
        | done
        | omega
        | (rw [hl3]; exact ⟨⟨_, h3⟩, hsm⟩)
        | (rw [hl3, hw.1]; simp [mW]; done)
        | (rw [hl3, hw.1, hw3]; exact (Reps.lit _).eqr)
        | exact hw.2.symm
        | (rw [hw.2]; done)
        | trace_state
noncomputable def c_mWrite : Ct := fun A args => match args with
  | [.agg [.str T, .slc n 2 f]] => some (some (A.tp fun _ => isRow eI (0, []) 2 n f ∧ n ≤ 500 ∧ ∀ i, ((lstOf eI (0, []) 2 n f).getD i (0, [])).2.length ≤ 1000000), .tup [rowS eB 0 1 A fun _ => mWx T (lstOf eI (0, []) 2 n f), .int .i64 (A.ti fun _ => mWe T (lstOf eI (0, []) 2 n f))])
  | _ => none
noncomputable def gM2 : Ar → Pu := addC 22 c_mWrite (gM1)
theorem gM2_ok : PuOk Tryd.prog gl0 (gM2 std) := by
  refine addC_ok (gM1_ok) ⟨_, Tryd.func22, rfl, by decide⟩ ?_
  · intro args p r h hp
    unfold c_mWrite at h
    split at h <;> cases h
    exact good_sv (good_mWrite _ _ (by rw [lstOf_length hp.1]; exact hp.2.1) hp.2.2) ⟨⟨_, rfl, rfl, hp.1.sv, trivial⟩, trivial⟩
end Go.Vd

/- Messages: Read. -/
set_option linter.unusedVariables false
set_option linter.unusedSimpArgs false
set_option maxRecDepth 100000
set_option maxHeartbeats 4000000
namespace Go.Vd
open Go.Proofs
/-- Fields and their bytes, as items. -/
def iE (F : List Int) (B : List UInt8) : Int := if F = [] then 3 else if ¬(itF F B).1 = 0 then (itF F B).1 else if (itF F B).2.2 = [] then 0 else 4
def iL (F : List Int) (B : List UInt8) : List It := if iE F B = 0 then (itF F B).2.1 else []
theorem iE_1 {F : List Int} {B : List UInt8} (h : F = []) : iE F B = 3 ∧ iL F B = [] := by
  have e : iE F B = 3 := if_pos h
  exact ⟨e, by unfold iL; rw [e]; rfl⟩
theorem iE_2 {F : List Int} {B : List UInt8} (h : ¬F = []) (h1 : ¬(itF F B).1 = 0) : iE F B = (itF F B).1 ∧ iL F B = [] := by
  have e : iE F B = (itF F B).1 := by unfold iE; rw [if_neg h, if_pos h1]
  exact ⟨e, by unfold iL; rw [e, if_neg h1]⟩
theorem iE_3 {F : List Int} {B : List UInt8} (h : ¬F = []) (h1 : (itF F B).1 = 0) (h2 : ¬(itF F B).2.2 = []) : iE F B = 4 ∧ iL F B = [] := by
  have e : iE F B = 4 := by unfold iE; rw [if_neg h, if_neg (fun e => e h1), if_neg h2]
  exact ⟨e, by unfold iL; rw [e]; rfl⟩
theorem iE_4 {F : List Int} {B : List UInt8} (h : ¬F = []) (h1 : (itF F B).1 = 0) (h2 : (itF F B).2.2 = []) : iE F B = 0 ∧ iL F B = (itF F B).2.1 := by
  have e : iE F B = 0 := by unfold iE; rw [if_neg h, if_neg (fun e => e h1), if_pos h2]
  exact ⟨e, by unfold iL; rw [if_pos e]⟩
theorem itF_take {F : List Int} {B : List UInt8} {k : Nat} (h : k < F.length) : itF (F.take (k + 1)) B = itStep (itF (F.take k) B) (F.getD k 0) := by
  rw [← take_snoc (d := 0) h, itF_snoc]
theorem itF_stop {F : List Int} {B : List UInt8} {k : Nat} (h : ¬(itF (F.take k) B).1 = 0) : itF F B = itF (F.take k) B := by
  conv => lhs; rw [← List.take_append_drop k F]
  unfold itF at *
  rw [List.foldl_append, it_stop _ _ h]
theorem it_len : ∀ (F : List Int) (o : Int × List It × List UInt8), (F.foldl itStep o).2.1.length ≤ o.2.1.length + F.length ∧ (F.foldl itStep o).2.2.length ≤ o.2.2.length
  | [], o => ⟨by simp, by simp⟩
  | f :: F, o => by
    rw [List.foldl_cons]
    have h1 := it_len F (itStep o f)
    have h2 : (itStep o f).2.1.length ≤ o.2.1.length + 1 ∧ (itStep o f).2.2.length ≤ o.2.2.length := by
      unfold itStep
      split
      · split
        · exact ⟨by simp, by simp⟩
        · exact ⟨by simp, by simp⟩
      · exact ⟨by omega, by omega⟩
    rw [List.length_cons]
    omega
theorem itF_len (F : List Int) (B : List UInt8) : (itF F B).2.1.length ≤ F.length ∧ (itF F B).2.2.length ≤ B.length := by
  have h := it_len F (0, [], B)
  exact ⟨by have := h.1; simp only [List.length_nil, Nat.zero_add] at this; exact this, h.2⟩
theorem rd_le (n : Int) (B : List UInt8) : (fRd n B).2.1 ≤ B.length := by
  by_cases h : (fRd n B).2.2 = 0
  · exact (fR_good h).2.1
  · rw [(fR_bad h).2]; omega
theorem good_items (F : List Int) (B : List UInt8) (hF : F.length ≤ 1000) (hB : B.length ≤ 1000000) : GoodP Tryd.prog gl0 85 [rowS eZ 0 1 std fun _ => F, rowS eB 0 1 std fun _ => B] (.tup [rowS eI (0, []) 2 std fun _ => iL F B, .int .i64 (std.ti fun _ => iE F B)]) := by
  refine fn_sound' (T := seatT) (G := gM2) (X := noX) seatT_ok gM2_ok noX_ok noI_ok mixed Tryd.func85 (.none) (fun A => [rowS eZ 0 1 A fun _ => F, rowS eB 0 1 A fun _ => B]) (fun A => .tup [rowS eI (0, []) 2 A fun _ => iL F B, .int .i64 (A.ti fun _ => iE F B)]) fun A hA => ?_
  cbv
  repeat' (first | with_reducible exact True.intro | with_reducible exact dr_ok hA (by kernel_rfl) | with_reducible refine And.intro ?_ ?_ | (intro hc; cbv))
  all_goals first
    | (fail_if_success (refine Exists.intro ?_ ?_)
       subst hA
       simp [std_add, std_sub, std_mul, std_quo, std_rem, std_band, std_bor, std_bxor, std_shl, std_shr, std_eq, std_ne, std_lt, std_le, std_conv, std_not, std_beq, std_bne, std_ite, std_want, std_and2, std_sadd, std_seq, std_sne, std_slt, std_sle, std_sgt, std_sge, std_slen, std_sget, std_scut, std_ofNat, std_toNat, std_nsub, std_nadd, std_lenOf, std_nz, std_nneg, std_inb, std_upto, std_slt63, std_grow, std_imp, std_impN, std_tr, std_tb, std_ti, std_ts, std_tn, std_tp, std_nmin, std_makes, std_room, std_zeros, std_nilq, std_notq, std_eqi, std_eqn, std_eqb, std_eqs, std_eqv, std_cat, std_lst, std_rset, std_rcopy, std_shift, std_eqr, std_strOf, std_bytesOf, std_isB, std_zOf, zOf_int, std_isI, isI_int, std_getL, std_nmul, std_sOf, sOf_str, std_isS, isS_str] at *
       first
         | (rw [(iE_1 hc).1]; done)
         | (rw [(iE_1 hc).2]; rfl)
         | trace_state)
    | skip
  have hne : ¬F = [] := by subst hA; simp [std_add, std_sub, std_mul, std_quo, std_rem, std_band, std_bor, std_bxor, std_shl, std_shr, std_eq, std_ne, std_lt, std_le, std_conv, std_not, std_beq, std_bne, std_ite, std_want, std_and2, std_sadd, std_seq, std_sne, std_slt, std_sle, std_sgt, std_sge, std_slen, std_sget, std_scut, std_ofNat, std_toNat, std_nsub, std_nadd, std_lenOf, std_nz, std_nneg, std_inb, std_upto, std_slt63, std_grow, std_imp, std_impN, std_tr, std_tb, std_ti, std_ts, std_tn, std_tp, std_nmin, std_makes, std_room, std_zeros, std_nilq, std_notq, std_eqi, std_eqn, std_eqb, std_eqs, std_eqv, std_cat, std_lst, std_rset, std_rcopy, std_shift, std_eqr, std_strOf, std_bytesOf, std_isB, std_zOf, zOf_int, std_isI, isI_int, std_getL, std_nmul, std_sOf, sOf_str, std_isS, isS_str] at hc; exact hc
  clear hc
  refine ⟨⟨{p : Nat × List It × List UInt8 // p.1 ≤ F.length ∧ itF (F.take p.1) B = (0, p.2.1, p.2.2)}, fun b p => [(17, .int .i64 (p.1.1 : Nat)), (6, .own b), (1, rowS eB 0 1 A fun _ => p.1.2.2)], fun b p => [(b, .row 47 2 (A.tn fun _ => p.1.2.1.length) (rowF eI (0, []) A fun _ => p.1.2.1))], fun p => F.length - p.1.1, true⟩, ⟨⟨(0, [], B), by simp [itF]⟩, ?_⟩, ?_⟩
  · cbv
    subst hA
    simp [-List.getD_eq_getElem?_getD, std_add, std_sub, std_mul, std_quo, std_rem, std_band, std_bor, std_bxor, std_shl, std_shr, std_eq, std_ne, std_lt, std_le, std_conv, std_not, std_beq, std_bne, std_ite, std_want, std_and2, std_sadd, std_seq, std_sne, std_slt, std_sle, std_sgt, std_sge, std_slen, std_sget, std_scut, std_ofNat, std_toNat, std_nsub, std_nadd, std_lenOf, std_nz, std_nneg, std_inb, std_upto, std_slt63, std_grow, std_imp, std_impN, std_tr, std_tb, std_ti, std_ts, std_tn, std_tp, std_nmin, std_makes, std_room, std_zeros, std_nilq, std_notq, std_eqi, std_eqn, std_eqb, std_eqs, std_eqv, std_cat, std_lst, std_rset, std_rcopy, std_shift, std_eqr, std_strOf, std_bytesOf, std_isB, std_zOf, zOf_int, std_isI, isI_int, std_getL, std_nmul, std_sOf, sOf_str, std_isS, isS_str]
  · rintro ⟨⟨i, L, C⟩, hi, hL⟩
    simp only at hi hL
    cbv
    repeat' (first | with_reducible exact True.intro | with_reducible exact dr_ok hA (by kernel_rfl) | with_reducible refine And.intro ?_ ?_ | (intro hc; cbv))
    all_goals first
      | (fail_if_success (refine Exists.intro ?_ ?_)
         have hlt : i < F.length := by (subst hA; simp [std_add, std_sub, std_mul, std_quo, std_rem, std_band, std_bor, std_bxor, std_shl, std_shr, std_eq, std_ne, std_lt, std_le, std_conv, std_not, std_beq, std_bne, std_ite, std_want, std_and2, std_sadd, std_seq, std_sne, std_slt, std_sle, std_sgt, std_sge, std_slen, std_sget, std_scut, std_ofNat, std_toNat, std_nsub, std_nadd, std_lenOf, std_nz, std_nneg, std_inb, std_upto, std_slt63, std_grow, std_imp, std_impN, std_tr, std_tb, std_ti, std_ts, std_tn, std_tp, std_nmin, std_makes, std_room, std_zeros, std_nilq, std_notq, std_eqi, std_eqn, std_eqb, std_eqs, std_eqv, std_cat, std_lst, std_rset, std_rcopy, std_shift, std_eqr, std_strOf, std_bytesOf, std_isB, std_zOf, zOf_int, std_isI, isI_int, std_getL, std_nmul, std_sOf, sOf_str, std_isS, isS_str] at *; omega)
         have hst := itF_take (B := B) hlt
         rw [hL] at hst
         have hlen := itF_len (F.take i) B
         rw [hL] at hlen
         simp only [List.length_take] at hlen
         have hrl := rd_le (F.getD i 0) C
         subst hA
         simp [-List.getD_eq_getElem?_getD, std_add, std_sub, std_mul, std_quo, std_rem, std_band, std_bor, std_bxor, std_shl, std_shr, std_eq, std_ne, std_lt, std_le, std_conv, std_not, std_beq, std_bne, std_ite, std_want, std_and2, std_sadd, std_seq, std_sne, std_slt, std_sle, std_sgt, std_sge, std_slen, std_sget, std_scut, std_ofNat, std_toNat, std_nsub, std_nadd, std_lenOf, std_nz, std_nneg, std_inb, std_upto, std_slt63, std_grow, std_imp, std_impN, std_tr, std_tb, std_ti, std_ts, std_tn, std_tp, std_nmin, std_makes, std_room, std_zeros, std_nilq, std_notq, std_eqi, std_eqn, std_eqb, std_eqs, std_eqv, std_cat, std_lst, std_rset, std_rcopy, std_shift, std_eqr, std_strOf, std_bytesOf, std_isB, std_zOf, zOf_int, std_isI, isI_int, std_getL, std_nmul, std_sOf, sOf_str, std_isS, isS_str, strOf_lit, lstOf_lit inj_eB, lstOf_lit inj_eZ, lstOf_lit inj_eBs, lstOf_lit inj_eS, isRow_lit, isB_lit, isRow_nil, lstOf_nil inj_eB, lstOf_nil inj_eZ, lstOf_nil inj_eBs, lstOf_nil inj_eS] at *
         first
           | done
           | omega
           | assumption
           | (constructor <;> omega)
           | exact Int.ofNat_lt.2 (Nat.lt_succ_of_le (rd_le _ _))
           | (rw [it_no hc] at hst
              have h1 := itF_stop (B := B) (F := F) (k := i + 1) (by rw [hst]; exact hc)
              rw [hst] at h1
              have h2 := iE_2 (B := B) hne (by rw [h1]; exact hc)
              rw [h1] at h2
              first
                | (rw [h2.1]; done)
                | (rw [h2.2]; done)
                | (rw [h2.2]; rfl))
           | trace_state)
      | (fail_if_success (refine Exists.intro ?_ ?_)
         have hie : i = F.length := by (subst hA; simp [std_add, std_sub, std_mul, std_quo, std_rem, std_band, std_bor, std_bxor, std_shl, std_shr, std_eq, std_ne, std_lt, std_le, std_conv, std_not, std_beq, std_bne, std_ite, std_want, std_and2, std_sadd, std_seq, std_sne, std_slt, std_sle, std_sgt, std_sge, std_slen, std_sget, std_scut, std_ofNat, std_toNat, std_nsub, std_nadd, std_lenOf, std_nz, std_nneg, std_inb, std_upto, std_slt63, std_grow, std_imp, std_impN, std_tr, std_tb, std_ti, std_ts, std_tn, std_tp, std_nmin, std_makes, std_room, std_zeros, std_nilq, std_notq, std_eqi, std_eqn, std_eqb, std_eqs, std_eqv, std_cat, std_lst, std_rset, std_rcopy, std_shift, std_eqr, std_strOf, std_bytesOf, std_isB, std_zOf, zOf_int, std_isI, isI_int, std_getL, std_nmul, std_sOf, sOf_str, std_isS, isS_str] at *; omega)
         rw [hie, List.take_length] at hL
         subst hA
         simp [-List.getD_eq_getElem?_getD, std_add, std_sub, std_mul, std_quo, std_rem, std_band, std_bor, std_bxor, std_shl, std_shr, std_eq, std_ne, std_lt, std_le, std_conv, std_not, std_beq, std_bne, std_ite, std_want, std_and2, std_sadd, std_seq, std_sne, std_slt, std_sle, std_sgt, std_sge, std_slen, std_sget, std_scut, std_ofNat, std_toNat, std_nsub, std_nadd, std_lenOf, std_nz, std_nneg, std_inb, std_upto, std_slt63, std_grow, std_imp, std_impN, std_tr, std_tb, std_ti, std_ts, std_tn, std_tp, std_nmin, std_makes, std_room, std_zeros, std_nilq, std_notq, std_eqi, std_eqn, std_eqb, std_eqs, std_eqv, std_cat, std_lst, std_rset, std_rcopy, std_shift, std_eqr, std_strOf, std_bytesOf, std_isB, std_zOf, zOf_int, std_isI, isI_int, std_getL, std_nmul, std_sOf, sOf_str, std_isS, isS_str, strOf_lit, lstOf_lit inj_eB, lstOf_lit inj_eZ, lstOf_lit inj_eBs, lstOf_lit inj_eS, isRow_lit, isB_lit, isRow_nil, lstOf_nil inj_eB, lstOf_nil inj_eZ, lstOf_nil inj_eBs, lstOf_nil inj_eS] at *
         first
           | (have hC : C = [] := by assumption
              have h2 := iE_4 (B := B) hne (by rw [hL]) (by rw [hL]; exact hC)
              rw [hL] at h2
              first
                | (rw [h2.1]; done)
                | (rw [h2.2]; done)
                | (rw [h2.2]; exact (Reps.lit _).eqr))
           | (have hC : ¬C = [] := by first | assumption | (intro e; rw [e] at hc; simp at hc)
              have h2 := iE_3 (B := B) hne (by rw [hL]) (by rw [hL]; exact hC)
              first
                | (rw [h2.1]; done)
                | (rw [h2.2]; done)
                | (rw [h2.2]; rfl))
           | trace_state)
      | (have hlt : i < F.length := by (subst hA; simp [std_add, std_sub, std_mul, std_quo, std_rem, std_band, std_bor, std_bxor, std_shl, std_shr, std_eq, std_ne, std_lt, std_le, std_conv, std_not, std_beq, std_bne, std_ite, std_want, std_and2, std_sadd, std_seq, std_sne, std_slt, std_sle, std_sgt, std_sge, std_slen, std_sget, std_scut, std_ofNat, std_toNat, std_nsub, std_nadd, std_lenOf, std_nz, std_nneg, std_inb, std_upto, std_slt63, std_grow, std_imp, std_impN, std_tr, std_tb, std_ti, std_ts, std_tn, std_tp, std_nmin, std_makes, std_room, std_zeros, std_nilq, std_notq, std_eqi, std_eqn, std_eqb, std_eqs, std_eqv, std_cat, std_lst, std_rset, std_rcopy, std_shift, std_eqr, std_strOf, std_bytesOf, std_isB, std_zOf, zOf_int, std_isI, isI_int, std_getL, std_nmul, std_sOf, sOf_str, std_isS, isS_str] at *; omega)
         have hst := itF_take (B := B) hlt
         rw [hL] at hst
         have hz : (fRd (F.getD i 0) C).2.2 = 0 := by (subst hA; simp [-List.getD_eq_getElem?_getD, std_add, std_sub, std_mul, std_quo, std_rem, std_band, std_bor, std_bxor, std_shl, std_shr, std_eq, std_ne, std_lt, std_le, std_conv, std_not, std_beq, std_bne, std_ite, std_want, std_and2, std_sadd, std_seq, std_sne, std_slt, std_sle, std_sgt, std_sge, std_slen, std_sget, std_scut, std_ofNat, std_toNat, std_nsub, std_nadd, std_lenOf, std_nz, std_nneg, std_inb, std_upto, std_slt63, std_grow, std_imp, std_impN, std_tr, std_tb, std_ti, std_ts, std_tn, std_tp, std_nmin, std_makes, std_room, std_zeros, std_nilq, std_notq, std_eqi, std_eqn, std_eqb, std_eqs, std_eqv, std_cat, std_lst, std_rset, std_rcopy, std_shift, std_eqr, std_strOf, std_bytesOf, std_isB, std_zOf, zOf_int, std_isI, isI_int, std_getL, std_nmul, std_sOf, sOf_str, std_isS, isS_str, strOf_lit, lstOf_lit inj_eB, lstOf_lit inj_eZ, lstOf_lit inj_eBs, lstOf_lit inj_eS, isRow_lit, isB_lit, isRow_nil, lstOf_nil inj_eB, lstOf_nil inj_eZ, lstOf_nil inj_eBs, lstOf_nil inj_eS] at *; assumption)
         rw [it_yes hz] at hst
         have hrl := rd_le (F.getD i 0) C
         obtain ⟨i', hi'⟩ : ∃ i', i' = i + 1 := ⟨_, rfl⟩
         obtain ⟨L', hL'⟩ : ∃ L', L' = L ++ [(F.getD i 0, (fRd (F.getD i 0) C).1)] := ⟨_, rfl⟩
         obtain ⟨C', hC'⟩ : ∃ C', C' = C.drop (fRd (F.getD i 0) C).2.1 := ⟨_, rfl⟩
         refine ⟨⟨(i', L', C'), by omega, by rw [hi', hst, hL', hC']⟩, ?_, show F.length - i' < F.length - i by omega⟩
         cbv
         subst hA
         simp [-List.getD_eq_getElem?_getD, std_add, std_sub, std_mul, std_quo, std_rem, std_band, std_bor, std_bxor, std_shl, std_shr, std_eq, std_ne, std_lt, std_le, std_conv, std_not, std_beq, std_bne, std_ite, std_want, std_and2, std_sadd, std_seq, std_sne, std_slt, std_sle, std_sgt, std_sge, std_slen, std_sget, std_scut, std_ofNat, std_toNat, std_nsub, std_nadd, std_lenOf, std_nz, std_nneg, std_inb, std_upto, std_slt63, std_grow, std_imp, std_impN, std_tr, std_tb, std_ti, std_ts, std_tn, std_tp, std_nmin, std_makes, std_room, std_zeros, std_nilq, std_notq, std_eqi, std_eqn, std_eqb, std_eqs, std_eqv, std_cat, std_lst, std_rset, std_rcopy, std_shift, std_eqr, std_strOf, std_bytesOf, std_isB, std_zOf, zOf_int, std_isI, isI_int, std_getL, std_nmul, std_sOf, sOf_str, std_isS, isS_str, strOf_lit, lstOf_lit inj_eB, lstOf_lit inj_eZ, lstOf_lit inj_eBs, lstOf_lit inj_eS, isRow_lit, isB_lit, isRow_nil, lstOf_nil inj_eB, lstOf_nil inj_eZ, lstOf_nil inj_eBs, lstOf_nil inj_eS]
         first
           | exact ⟨⟨⟨by rw [hC']; simp, eqr_of (rep_drop C _) (by rw [hC']; simp) hC'.symm⟩, (w64 (by omega)).trans (by omega)⟩, by rw [hL']; simp, snoc_row rfl (cell_eI _ _) hL'.symm (by rw [hL']; simp)⟩
           | trace_state)
      | trace_state
noncomputable def c_items : Ct := fun A args => match args with
  | [.slc n 1 f, .slc m 1 g] => some (some (A.tp fun _ => isRow eZ 0 1 n f ∧ isRow eB 0 1 m g ∧ n ≤ 1000 ∧ m ≤ 1000000), .tup [rowS eI (0, []) 2 A fun _ => iL (lstOf eZ 0 1 n f) (lstOf eB 0 1 m g), .int .i64 (A.ti fun _ => iE (lstOf eZ 0 1 n f) (lstOf eB 0 1 m g))])
  | _ => none
noncomputable def gM3 : Ar → Pu := addC 85 c_items (gM2)
theorem gM3_ok : PuOk Tryd.prog gl0 (gM3 std) := by
  refine addC_ok (gM2_ok) ⟨_, Tryd.func85, rfl, by decide⟩ ?_
  · intro args p r h hp
    unfold c_items at h
    split at h <;> cases h
    exact good_sv (good_items _ _ (by rw [lstOf_length hp.1]; exact hp.2.2.1) (by rw [lstOf_length hp.2.1]; exact hp.2.2.2)) ⟨hp.1.sv, hp.2.1.sv, trivial⟩
theorem bfields_len (h l : Nat) : (bfields h l).length ≤ 129 := bfieldsTo_len h l 129
theorem brN_le (L : List UInt8) : 0 ≤ brN L ∧ brN L ≤ 16 ∧ (brE L = 0 → brN L ≤ L.length) := by
  refine ⟨?_, ?_, fun h => (read_bytes L h).2.2.2.1⟩
  · unfold brN; split
    · split <;> omega
    · omega
  · unfold brN; split
    · split <;> omega
    · omega
theorem cut4 (B : List UInt8) : List.drop (IntKind.i64.wrap (4 + brN (List.drop 4 B))).toNat B = (mC B).drop (brN (mC B)).toNat := by
  have h := brN_le (List.drop 4 B)
  rw [w64 (by omega)]
  unfold mC
  rw [List.drop_drop]
  congr 1
  omega
theorem mre_it {B : List UInt8} (h : ¬B.length < 4) (h1 : mT (B.take 4) = true) (h2 : brE (mC B) = 0) : mRe B = iE (mFs B) ((mC B).drop (brN (mC B)).toNat) ∧ mRL B = iL (mFs B) ((mC B).drop (brN (mC B)).toNat) := by
  have e : mRe B = iE (mFs B) ((mC B).drop (brN (mC B)).toNat) := by
    unfold iE
    by_cases h3 : mFs B = []
    · rw [mRe_4 h h1 h2 h3, if_pos h3]
    · rw [if_neg h3]
      by_cases h4 : (mIt B).1 = 0
      · rw [mRe_6 h h1 h2 h3 h4]
        have h5 : (itF (mFs B) ((mC B).drop (brN (mC B)).toNat)).1 = 0 := h4
        rw [if_neg (show ¬¬(itF (mFs B) ((mC B).drop (brN (mC B)).toNat)).1 = 0 from fun e => e h5)]
        rfl
      · rw [mRe_5 h h1 h2 h3 h4]
        have h5 : ¬(itF (mFs B) ((mC B).drop (brN (mC B)).toNat)).1 = 0 := h4
        rw [if_pos h5]
        rfl
  refine ⟨e, ?_⟩
  unfold mRL iL
  rw [← e]
  rfl
theorem br_r64 {L : List UInt8} (h : brE L = 0) : r64 (br1 L : Nat) ∧ r64 (br2 L : Nat) := by
  obtain ⟨_, _, _, _, h5, h6⟩ := read_bytes L h
  exact ⟨r64_of h5, r64_of h6⟩
theorem good_mRead (B : List UInt8) (hB : B.length ≤ 1000000) : GoodP Tryd.prog gl0 26 [rowS eB 0 1 std fun _ => B] (.tup [.agg [.str (std.ts fun _ => mRT B), rowS eI (0, []) 2 std fun _ => mRL B], .int .i64 (std.ti fun _ => mRe B)]) := by
  refine fn_sound' (T := seatT) (G := gM3) (X := noX) seatT_ok gM3_ok noX_ok noI_ok mixed Tryd.func26 (.none) (fun A => [rowS eB 0 1 A fun _ => B]) (fun A => .tup [.agg [.str (A.ts fun _ => mRT B), rowS eI (0, []) 2 A fun _ => mRL B], .int .i64 (A.ti fun _ => mRe B)]) fun A hA => ?_
  cbv
  repeat' (first | with_reducible exact True.intro | with_reducible exact dr_ok hA (by kernel_rfl) | with_reducible refine And.intro ?_ ?_ | (intro hc; cbv))
  all_goals (have hN := brN_le (List.drop 4 B))
  all_goals (have hcut := cut4 B)
  all_goals (have hw : IntKind.i64.wrap (4 + brN (List.drop 4 B)) = 4 + brN (List.drop 4 B) := w64 (by omega))
  all_goals (have hfl := bfields_len (br1 (List.drop 4 B)) (br2 (List.drop 4 B)))
  all_goals (subst hA; simp [-List.getD_eq_getElem?_getD, std_add, std_sub, std_mul, std_quo, std_rem, std_band, std_bor, std_bxor, std_shl, std_shr, std_eq, std_ne, std_lt, std_le, std_conv, std_not, std_beq, std_bne, std_ite, std_want, std_and2, std_sadd, std_seq, std_sne, std_slt, std_sle, std_sgt, std_sge, std_slen, std_sget, std_scut, std_ofNat, std_toNat, std_nsub, std_nadd, std_lenOf, std_nz, std_nneg, std_inb, std_upto, std_slt63, std_grow, std_imp, std_impN, std_tr, std_tb, std_ti, std_ts, std_tn, std_tp, std_nmin, std_makes, std_room, std_zeros, std_nilq, std_notq, std_eqi, std_eqn, std_eqb, std_eqs, std_eqv, std_cat, std_lst, std_rset, std_rcopy, std_shift, std_eqr, std_strOf, std_bytesOf, std_isB, std_zOf, zOf_int, std_isI, isI_int, std_getL, std_nmul, std_sOf, sOf_str, std_isS, isS_str, strOf_lit, lstOf_lit inj_eB, lstOf_lit inj_eZ, lstOf_lit inj_eBs, lstOf_lit inj_eS, isRow_lit, isB_lit, isRow_nil, lstOf_nil inj_eB, lstOf_nil inj_eZ, lstOf_nil inj_eBs, lstOf_nil inj_eS, lst_drop, row_drop] at *)
  all_goals first
    | omega
    | exact isB_any B 4
    | (have h4 : B.length < 4 := by omega
       have h := mRe_1 h4
       have hb := mR_bad (B := B) (by rw [h]; decide)
       first
         | (rw [h]; done)
         | (rw [hb.1]; done)
         | (rw [hb.2]; done)
         | (rw [hb.2]; rfl))
    | (have h4 : ¬B.length < 4 := by omega
       have hT : strOfS 4 (rowF eB 0 std fun _ => B) = B.take 4 := cutS B (by omega)
       try simp only [hT] at *
       first
         | (have h1 : mT (B.take 4) = false := by assumption
            have h := mRe_2 h4 h1
            have hb := mR_bad (B := B) (by rw [h]; decide)
            first
              | (rw [h]; done)
              | (rw [hb.1]; done)
              | (rw [hb.2]; done)
              | (rw [hb.2]; rfl))
         | (have h1 : mT (B.take 4) = true := by assumption
            have h2 : ¬brE (mC B) = 0 := by assumption
            have h := mRe_3 h4 h1 h2
            have hb := mR_bad (B := B) (by rw [h]; exact h2)
            first
              | (rw [h]; done)
              | (rw [h]; rfl)
              | (rw [hb.1]; done)
              | (rw [hb.2]; done)
              | (rw [hb.2]; rfl))
         | (have h1 : mT (B.take 4) = true := by assumption
            have h2 : brE (mC B) = 0 := by assumption
            have h := mre_it h4 h1 h2
            have h3 := hN.2.2 h2
            first
              | exact br_r64 h2
              | (rw [hw]; omega)
              | (rw [hw]; constructor <;> omega)
              | (rw [hw]; rw [List.length_drop] at h3; constructor <;> omega)
              | (simp only [hcut] at *
                 first
                   | (have hb := mR_bad (B := B) (by rw [h.1]; assumption)
                      first
                        | (rw [hb.1]; done)
                        | (rw [hb.2]; done)
                        | (rw [hb.2]; rfl)
                        | (rw [h.1]; rfl))
                   | (have h0 : mRe B = 0 := by (rw [h.1]; assumption)
                      first
                        | (rw [h0]; done)
                        | (unfold mRT; rw [if_pos h0]; done)
                        | (rw [h.2]; done)
                        | (rw [h.2]; rfl)
                        | (rw [h.2]; exact (Reps.lit _).eqr))))
         | trace_state)
    | trace_state
noncomputable def c_mRead : Ct := fun A args => match args with
  | [.slc n 1 f] => some (some (A.tp fun _ => isRow eB 0 1 n f ∧ n ≤ 1000000), .tup [.agg [.str (A.ts fun _ => mRT (lstOf eB 0 1 n f)), rowS eI (0, []) 2 A fun _ => mRL (lstOf eB 0 1 n f)], .int .i64 (A.ti fun _ => mRe (lstOf eB 0 1 n f))])
  | _ => none
noncomputable def gM4 : Ar → Pu := addC 26 c_mRead (gM3)
theorem gM4_ok : PuOk Tryd.prog gl0 (gM4 std) := by
  refine addC_ok (gM3_ok) ⟨_, Tryd.func26, rfl, by decide⟩ ?_
  · intro args p r h hp
    unfold c_mRead at h
    split at h <;> cases h
    exact good_sv (good_mRead _ (by rw [lstOf_length hp.1]; exact hp.2)) ⟨hp.1.sv, trivial⟩
end Go.Vd
