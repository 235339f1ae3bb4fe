/- Tables: rows of rows of entries; a new one; how many; whether one is right. -/
import Derived.Test.YtjgfkbmplgiinaaGreatDoorVdS9
import Derived.WalkKit
import Derived.LoopTactic
import Derived.LoopN
import Derived.StillTailTactics
import Derived.Shelf.SlSortCmp.WholeK
import Derived.Test.YtjgfkbmplgiinaaGreatDoorVdM1
import Derived.Test.YtjgfkbmplgiinaaGreatDoorProg
import Derived.Shelf.SlGeneric
import Derived.Ground.SlsfProg
import Derived.Shelf.SlSortCmp.NoneTotal
set_option linter.unusedVariables false
set_option linter.unusedSimpArgs false
set_option maxRecDepth 100000
set_option maxHeartbeats 8000000
namespace Go.Vd
open Go.Proofs
abbrev Tbl := List (List Ent)
def eEs : En (List Ent) := fun A b => [rowS eE E0 8 A b]
theorem inj_eEs : Inj eEs 1 := fun x y h => by
  obtain ⟨s, h1, h2⟩ := h 0 (by omega)
  exact inj_eE.row (d := E0) h1 h2
theorem cell_eEs {n : Nat} {f : Nat → Nat → SV} {x : List Ent} (h : Reps eE E0 8 n f x) : ∀ j, j < 1 → Ceq (getAt [SV.slc n 8 f] j) (getAt (eEs std fun _ => x) j) := by
  intro j hj
  obtain rfl : j = 0 := by omega
  exact h.cell
theorem lstOf_T (T : Tbl) : lstOf eEs [] 1 T.length (rowF eEs [] std fun _ => T) = T := lstOf_lit inj_eEs T
theorem isRow_T (T : Tbl) : isRow eEs [] 1 T.length (rowF eEs [] std fun _ => T) := isRow_lit T
def enQ (e : Ent) : Prop := (0 ≤ e.s ∧ e.s < 4294967296) ∧ e.r.length ≤ 1000000 ∧ e.pan.length ≤ 100000 ∧ e.code.length ≤ 1000000
def enB (e : Ent) : Prop := 0 ≤ e.s ∧ e.s < 4294967296
theorem enB_0 : enB E0 := ⟨by decide, by decide⟩
theorem enQ_S {e : Ent} (h : enQ e) : enS e := ⟨h.2.2.1, h.2.2.2⟩
def tbQ (T : Tbl) : Prop := T.length ≤ 1000000 ∧ (∀ i, (T.getD i []).length ≤ 1000000) ∧ ∀ i j, enQ ((T.getD i []).getD j E0)
def cnt (T : Tbl) : Nat := (T.map List.length).sum
theorem cnt_snoc (T : Tbl) {i : Nat} (hi : i < T.length) : cnt (T.take (i + 1)) = cnt (T.take i) + (T.getD i []).length := by
  unfold cnt
  rw [← take_snoc (d := []) hi, List.map_append, List.sum_append]
  simp
theorem cnt_take (T : Tbl) (i : Nat) : cnt (T.take i) ≤ cnt T := by
  unfold cnt
  conv => rhs; rw [← List.take_append_drop i T]
  rw [List.map_append, List.sum_append]
  omega
def inSh (n i : Nat) (e : Ent) : Bool := decide (shardI e.s e.r (n : Int) = (i : Int))
def shOk (T : Tbl) (i : Nat) : Bool := shR (T.getD i []) && (T.getD i []).all (inSh T.length i)
def szR (m : Int) (n : Int) : Bool := (decide (0 ≤ m) && decide (m ≤ 128)) && (decide (1 ≤ n) && decide (n ≤ 16))
def tbR (m : Int) (T : Tbl) : Bool := szR m (T.length : Int) && ((List.range T.length).all (shOk T) && decide ((cnt T : Int) ≤ m))
theorem all_D {p : Ent → Bool} {L : List Ent} (h : ∀ k, k < L.length → p (L.getD k E0) = true) : L.all p = true := by
  rw [List.all_eq_true]
  intro x hx
  obtain ⟨k, hk, rfl⟩ := List.getElem_of_mem hx
  rw [getD_get hk]
  exact h k hk
theorem all_noD {p : Ent → Bool} {L : List Ent} {k : Nat} (hk : k < L.length) (h : p (L.getD k E0) = false) : L.all p = false := by
  rw [Bool.eq_false_iff]
  intro h2
  rw [List.all_eq_true] at h2
  rw [h2 _ (getD_mem hk)] at h
  cases h
theorem tbR_no {m : Int} {T : Tbl} {i : Nat} (hi : i < T.length) (h : shOk T i = false) : tbR m T = false := by
  have : (List.range T.length).all (shOk T) = false := by
    rw [Bool.eq_false_iff]
    intro h2
    rw [List.all_eq_true] at h2
    rw [h2 i (List.mem_range.2 hi)] at h
    cases h
  unfold tbR
  rw [this]
  simp
theorem tbR_all {T : Tbl} (h : ∀ j, j < T.length → shOk T j = true) : (List.range T.length).all (shOk T) = true := by
  rw [List.all_eq_true]
  intro j hj
  exact h j (List.mem_range.1 hj)
theorem cnt_le {m : Int} {T : Tbl} (h : szR m (T.length : Int) = true) (ha : (List.range T.length).all (shOk T) = true) : cnt T ≤ 2048 := by
  have h1 : T.length ≤ 16 := by simp [szR] at h; omega
  have h2 : ∀ i, i ≤ T.length → cnt (T.take i) ≤ 128 * i := fun i => by
    induction i with
    | zero => intro _; simp [cnt]
    | succ i ih =>
      intro hi
      rw [cnt_snoc T (by omega)]
      have := ih (by omega)
      rw [List.all_eq_true] at ha
      have h3 := ha i (List.mem_range.2 (by omega))
      unfold shOk shR at h3
      simp only [Bool.and_eq_true, decide_eq_true_eq] at h3
      omega
  have := h2 T.length (Nat.le_refl _)
  rw [List.take_length] at this
  omega
attribute [local irreducible] vc
theorem good_tSize (m n : Int) : GoodP Tryz.prog gl0 25 [.int .i64 m, .int .i64 n] (.bool (std.tb fun _ => szR m n)) := by
  refine fn_sound' (T := seatT) (G := noC) (X := noX) seatT_ok noC_ok noX_ok noI_ok mixed Tryz.func25 (.one) (fun A => [.int .i64 m, .int .i64 n]) (fun A => .bool (A.tb fun _ => szR m n)) fun A hA => ?_
  cbv
  repeat' (first | with_reducible exact True.intro | with_reducible exact dr_ok hA (by kernel_rfl) | with_reducible refine And.intro ?_ ?_ | (intro hc; cbv))
  all_goals (subst hA; simp [std_add, std_sub, std_mul, std_quo, std_rem, std_band, std_bor, std_bxor, std_shl, std_shr, std_eq, std_ne, std_lt, std_le, std_conv, std_not, std_beq, std_bne, std_ite, std_want, std_and2, std_sadd, std_seq, std_sne, std_slt, std_sle, std_sgt, std_sge, std_slen, std_sget, std_scut, std_ofNat, std_toNat, std_nsub, std_nadd, std_lenOf, std_nz, std_nneg, std_inb, std_upto, std_slt63, std_grow, std_imp, std_impN, std_tr, std_tb, std_ti, std_ts, std_tn, std_tp, std_nmin, std_nset, std_fset, std_makes, std_room, std_zeros, std_nilq, std_notq, std_eqi, std_eqn, std_eqb, std_eqs, std_eqv, std_cat, std_lst, std_rset, std_rcopy, std_shift, std_eqr, std_strOf, std_bytesOf, std_isB, std_zOf, zOf_int, std_isI, isI_int, std_getL, std_nmul, std_sOf, sOf_str, std_isS, isS_str, std_fadd, std_fsub, std_fav, std_fsv, std_feq, std_fne, std_flt, std_fle, std_fgt, std_fge, std_fOf, std_fTo, std_fTv, szR] at *)
  all_goals first
    | (rw [Bool.eq_iff_iff]; simp; omega)
    | trace_state
noncomputable def c_tSize : Ct := fun A args => match args with
  | [.int .i64 m, .int .i64 n] => some (none, .bool (A.tb fun _ => szR m n))
  | _ => none
theorem good_tCount (m : Int) (T : Tbl) (hT : T.length ≤ 1000000) (hc0 : cnt T ≤ 1000000) : GoodP Tryz.prog gl0 36 [.agg [.int .i64 m, rowS eEs [] 1 std fun _ => T]] (.int .i64 (std.ti fun _ => (cnt T : Int))) := by
  refine fn_sound' (T := seatT) (G := noC) (X := noX) seatT_ok noC_ok noX_ok noI_ok mixed Tryz.func36 (.one) (fun A => [.agg [.int .i64 m, rowS eEs [] 1 A fun _ => T]]) (fun A => .int .i64 (A.ti fun _ => (cnt T : Int))) fun A hA => ?_
  cbv
  repeat' (first | with_reducible exact True.intro | with_reducible exact dr_ok hA (by kernel_rfl) | with_reducible refine And.intro ?_ ?_ | (intro hc; cbv))
  refine ⟨⟨{p : Nat × Nat // p.1 ≤ T.length ∧ p.2 = cnt (T.take p.1)}, fun b p => [(3, .int .i64 (p.1.2 : Nat)), (9, .int .i64 (p.1.1 : Nat))], fun b p => [], fun p => T.length - p.1.1, true⟩, ⟨⟨(0, 0), by omega, rfl⟩, ?_⟩, ?_⟩
  · cbv
    subst hA
    simp [-List.getD_eq_getElem?_getD, std_add, std_sub, std_mul, std_quo, std_rem, std_band, std_bor, std_bxor, std_shl, std_shr, std_eq, std_ne, std_lt, std_le, std_conv, std_not, std_beq, std_bne, std_ite, std_want, std_and2, std_sadd, std_seq, std_sne, std_slt, std_sle, std_sgt, std_sge, std_slen, std_sget, std_scut, std_ofNat, std_toNat, std_nsub, std_nadd, std_lenOf, std_nz, std_nneg, std_inb, std_upto, std_slt63, std_grow, std_imp, std_impN, std_tr, std_tb, std_ti, std_ts, std_tn, std_tp, std_nmin, std_nset, std_fset, std_makes, std_room, std_zeros, std_nilq, std_notq, std_eqi, std_eqn, std_eqb, std_eqs, std_eqv, std_cat, std_lst, std_rset, std_rcopy, std_shift, std_eqr, std_strOf, std_bytesOf, std_isB, std_zOf, zOf_int, std_isI, isI_int, std_getL, std_nmul, std_sOf, sOf_str, std_isS, isS_str, std_fadd, std_fsub, std_fav, std_fsv, std_feq, std_fne, std_flt, std_fle, std_fgt, std_fge, std_fOf, std_fTo, std_fTv]
  · rintro ⟨⟨i, q⟩, hx⟩
    have hi : i ≤ T.length := hx.1
    have hq : q = cnt (T.take i) := hx.2
    rcases Nat.lt_or_ge i T.length with hlt | hge
    · have h1 := cnt_snoc T hlt
      have h2 := cnt_take T (i + 1)
      obtain ⟨i', hi'⟩ : ∃ i', i' = i + 1 := ⟨_, rfl⟩
      obtain ⟨q', hq'⟩ : ∃ q', q' = cnt (T.take i') := ⟨_, rfl⟩
      rw [← hi', ← hq, ← hq'] at h1
      rw [← hi', ← hq'] at h2
      cbv
      repeat' (first | with_reducible exact True.intro | with_reducible exact dr_ok hA (by kernel_rfl) | with_reducible refine And.intro ?_ ?_ | (intro hc; cbv))
      all_goals first
        | (fail_if_success (refine Exists.intro ?_ ?_)
           subst hA
           simp [-List.getD_eq_getElem?_getD, std_add, std_sub, std_mul, std_quo, std_rem, std_band, std_bor, std_bxor, std_shl, std_shr, std_eq, std_ne, std_lt, std_le, std_conv, std_not, std_beq, std_bne, std_ite, std_want, std_and2, std_sadd, std_seq, std_sne, std_slt, std_sle, std_sgt, std_sge, std_slen, std_sget, std_scut, std_ofNat, std_toNat, std_nsub, std_nadd, std_lenOf, std_nz, std_nneg, std_inb, std_upto, std_slt63, std_grow, std_imp, std_impN, std_tr, std_tb, std_ti, std_ts, std_tn, std_tp, std_nmin, std_nset, std_fset, std_makes, std_room, std_zeros, std_nilq, std_notq, std_eqi, std_eqn, std_eqb, std_eqs, std_eqv, std_cat, std_lst, std_rset, std_rcopy, std_shift, std_eqr, std_strOf, std_bytesOf, std_isB, std_zOf, zOf_int, std_isI, isI_int, std_getL, std_nmul, std_sOf, sOf_str, std_isS, isS_str, std_fadd, std_fsub, std_fav, std_fsv, std_feq, std_fne, std_flt, std_fle, std_fgt, std_fge, std_fOf, std_fTo, std_fTv] at *
           first
             | done
             | omega
             | trace_state)
        | (refine ⟨⟨(i', q'), by omega, hq'⟩, ?_, show T.length - i' < T.length - i by omega⟩
           cbv
           subst hA
           simp [-List.getD_eq_getElem?_getD, std_add, std_sub, std_mul, std_quo, std_rem, std_band, std_bor, std_bxor, std_shl, std_shr, std_eq, std_ne, std_lt, std_le, std_conv, std_not, std_beq, std_bne, std_ite, std_want, std_and2, std_sadd, std_seq, std_sne, std_slt, std_sle, std_sgt, std_sge, std_slen, std_sget, std_scut, std_ofNat, std_toNat, std_nsub, std_nadd, std_lenOf, std_nz, std_nneg, std_inb, std_upto, std_slt63, std_grow, std_imp, std_impN, std_tr, std_tb, std_ti, std_ts, std_tn, std_tp, std_nmin, std_nset, std_fset, std_makes, std_room, std_zeros, std_nilq, std_notq, std_eqi, std_eqn, std_eqb, std_eqs, std_eqv, std_cat, std_lst, std_rset, std_rcopy, std_shift, std_eqr, std_strOf, std_bytesOf, std_isB, std_zOf, zOf_int, std_isI, isI_int, std_getL, std_nmul, std_sOf, sOf_str, std_isS, isS_str, std_fadd, std_fsub, std_fav, std_fsv, std_feq, std_fne, std_flt, std_fle, std_fgt, std_fge, std_fOf, std_fTo, std_fTv]
           exact ⟨by rw [w64 (by omega)]; omega, w_succ' hi' (by omega)⟩)
        | trace_state
    · have hie : i = T.length := by omega
      rw [hie, List.take_length] at hq
      cbv
      repeat' (first | with_reducible exact True.intro | with_reducible exact dr_ok hA (by kernel_rfl) | with_reducible refine And.intro ?_ ?_ | (intro hc; cbv))
      all_goals first
        | (exfalso; subst hA; simp [-List.getD_eq_getElem?_getD, std_add, std_sub, std_mul, std_quo, std_rem, std_band, std_bor, std_bxor, std_shl, std_shr, std_eq, std_ne, std_lt, std_le, std_conv, std_not, std_beq, std_bne, std_ite, std_want, std_and2, std_sadd, std_seq, std_sne, std_slt, std_sle, std_sgt, std_sge, std_slen, std_sget, std_scut, std_ofNat, std_toNat, std_nsub, std_nadd, std_lenOf, std_nz, std_nneg, std_inb, std_upto, std_slt63, std_grow, std_imp, std_impN, std_tr, std_tb, std_ti, std_ts, std_tn, std_tp, std_nmin, std_nset, std_fset, std_makes, std_room, std_zeros, std_nilq, std_notq, std_eqi, std_eqn, std_eqb, std_eqs, std_eqv, std_cat, std_lst, std_rset, std_rcopy, std_shift, std_eqr, std_strOf, std_bytesOf, std_isB, std_zOf, zOf_int, std_isI, isI_int, std_getL, std_nmul, std_sOf, sOf_str, std_isS, isS_str, std_fadd, std_fsub, std_fav, std_fsv, std_feq, std_fne, std_flt, std_fle, std_fgt, std_fge, std_fOf, std_fTo, std_fTv] at hc; omega)
        | (exfalso; subst hA; rename_i q; simp [-List.getD_eq_getElem?_getD, std_add, std_sub, std_mul, std_quo, std_rem, std_band, std_bor, std_bxor, std_shl, std_shr, std_eq, std_ne, std_lt, std_le, std_conv, std_not, std_beq, std_bne, std_ite, std_want, std_and2, std_sadd, std_seq, std_sne, std_slt, std_sle, std_sgt, std_sge, std_slen, std_sget, std_scut, std_ofNat, std_toNat, std_nsub, std_nadd, std_lenOf, std_nz, std_nneg, std_inb, std_upto, std_slt63, std_grow, std_imp, std_impN, std_tr, std_tb, std_ti, std_ts, std_tn, std_tp, std_nmin, std_nset, std_fset, std_makes, std_room, std_zeros, std_nilq, std_notq, std_eqi, std_eqn, std_eqb, std_eqs, std_eqv, std_cat, std_lst, std_rset, std_rcopy, std_shift, std_eqr, std_strOf, std_bytesOf, std_isB, std_zOf, zOf_int, std_isI, isI_int, std_getL, std_nmul, std_sOf, sOf_str, std_isS, isS_str, std_fadd, std_fsub, std_fav, std_fsv, std_feq, std_fne, std_flt, std_fle, std_fgt, std_fge, std_fOf, std_fTo, std_fTv] at q; omega)
        | (subst hA
           simp only [std_add, std_sub, std_mul, std_quo, std_rem, std_band, std_bor, std_bxor, std_shl, std_shr, std_eq, std_ne, std_lt, std_le, std_conv, std_not, std_beq, std_bne, std_ite, std_want, std_and2, std_sadd, std_seq, std_sne, std_slt, std_sle, std_sgt, std_sge, std_slen, std_sget, std_scut, std_ofNat, std_toNat, std_nsub, std_nadd, std_lenOf, std_nz, std_nneg, std_inb, std_upto, std_slt63, std_grow, std_imp, std_impN, std_tr, std_tb, std_ti, std_ts, std_tn, std_tp, std_nmin, std_nset, std_fset, std_makes, std_room, std_zeros, std_nilq, std_notq, std_eqi, std_eqn, std_eqb, std_eqs, std_eqv, std_cat, std_lst, std_rset, std_rcopy, std_shift, std_eqr, std_strOf, std_bytesOf, std_isB, std_zOf, zOf_int, std_isI, isI_int, std_getL, std_nmul, std_sOf, sOf_str, std_isS, isS_str, std_fadd, std_fsub, std_fav, std_fsv, std_feq, std_fne, std_flt, std_fle, std_fgt, std_fge, std_fOf, std_fTo, std_fTv]
           exact congrArg Int.ofNat hq)
        | trace_state
noncomputable def c_tCount : Ct := fun A args => match args with
  | [.agg [.int .i64 m, .slc n 1 f]] => some (some (A.tp fun _ => isRow eEs [] 1 n f ∧ n ≤ 1000000 ∧ cnt (lstOf eEs [] 1 n f) ≤ 1000000), .int .i64 (A.ti fun _ => (cnt (lstOf eEs [] 1 n f) : Int)))
  | _ => none
noncomputable def gv1 : Ar → Pu := addC 25 c_tSize (addC 36 c_tCount (gs9))
theorem gv1_ok : PuOk Tryz.prog gl0 (gv1 std) := by
  refine addC_ok (addC_ok (gs9_ok) ⟨_, Tryz.func36, rfl, by decide⟩ ?_) ⟨_, Tryz.func25, rfl, by decide⟩ ?_
  · intro args p r h hp
    unfold c_tCount at h
    split at h <;> cases h
    exact good_sv (good_tCount _ _ (by rw [lstOf_length hp.1]; exact hp.2.1) hp.2.2) ⟨⟨_, rfl, rfl, hp.1.sv, trivial⟩, trivial⟩
  · intro args p r h hp
    unfold c_tSize at h
    split at h <;> cases h
    exact good_tSize _ _
def newM (m n : Int) : Int := if szR m n = true then m else 0
def newT (m n : Int) : Tbl := if szR m n = true then List.replicate n.toNat [] else []
def newC (m n : Int) : Int := if szR m n = true then 0 else 1
theorem new_y {m n : Int} (h : szR m n = true) : newM m n = m ∧ newT m n = List.replicate n.toNat [] ∧ newC m n = 0 := by unfold newM newT newC; rw [h]; simp
theorem new_n {m n : Int} (h : szR m n = false) : newM m n = 0 ∧ newT m n = [] ∧ newC m n = 1 := by unfold newM newT newC; rw [h]; simp
theorem good_tNew (m n : Int) : GoodP Tryz.prog gl0 8 [.int .i64 m, .int .i64 n] (.tup [.agg [.int .i64 (std.ti fun _ => newM m n), rowS eEs [] 1 std fun _ => newT m n], .int .i64 (std.ti fun _ => newC m n)]) := by
  refine fn_sound' (T := seatT) (G := gv1) (X := noX) seatT_ok gv1_ok noX_ok noI_ok mixed Tryz.func8 (.none) (fun A => [.int .i64 m, .int .i64 n]) (fun A => .tup [.agg [.int .i64 (A.ti fun _ => newM m n), rowS eEs [] 1 A fun _ => newT m n], .int .i64 (A.ti fun _ => newC m n)]) fun A hA => ?_
  cbv
  repeat' (first | with_reducible exact True.intro | with_reducible exact dr_ok hA (by kernel_rfl) | with_reducible refine And.intro ?_ ?_ | (intro hc; cbv))
  all_goals (subst hA; simp only [std_add, std_sub, std_mul, std_quo, std_rem, std_band, std_bor, std_bxor, std_shl, std_shr, std_eq, std_ne, std_lt, std_le, std_conv, std_not, std_beq, std_bne, std_ite, std_want, std_and2, std_sadd, std_seq, std_sne, std_slt, std_sle, std_sgt, std_sge, std_slen, std_sget, std_scut, std_ofNat, std_toNat, std_nsub, std_nadd, std_lenOf, std_nz, std_nneg, std_inb, std_upto, std_slt63, std_grow, std_imp, std_impN, std_tr, std_tb, std_ti, std_ts, std_tn, std_tp, std_nmin, std_nset, std_fset, std_makes, std_room, std_zeros, std_nilq, std_notq, std_eqi, std_eqn, std_eqb, std_eqs, std_eqv, std_cat, std_lst, std_rset, std_rcopy, std_shift, std_eqr, std_strOf, std_bytesOf, std_isB, std_zOf, zOf_int, std_isI, isI_int, std_getL, std_nmul, std_sOf, sOf_str, std_isS, isS_str, std_fadd, std_fsub, std_fav, std_fsv, std_feq, std_fne, std_flt, std_fle, std_fgt, std_fge, std_fOf, std_fTo, std_fTv] at *)
  all_goals first
    | (have h := new_n (nb_f hc)
       first
         | (rw [h.1]; done)
         | (rw [h.2.1]; rfl)
         | (rw [h.2.2]; done))
    | (have h0 := nb_t hc
       have h := new_y h0
       have h1 : 1 ≤ n ∧ n ≤ 16 := by simp [szR] at h0; omega
       first
         | (rw [h.1]; done)
         | (rw [h.2.1]; simp; done)
         | (rw [h.2.2]; done)
         | (simp; omega)
         | (refine eqr_of (Reps.fill (enc := eEs) (d := []) (x := []) (fun j hj => ?_) (fun i => rfl)) (by rw [h.2.1]; simp) h.2.1.symm
            obtain rfl : j = 0 := by omega
            exact .nils _ _))
    | trace_state
noncomputable def iV1 : Nat → Option Func := addI 47 Tryz.f47 (addI 70 Tryz.f70 (addI 45 Tryz.f45 noI))
theorem iV1_ok : InOk Tryz.prog iV1 := addI_ok (addI_ok (addI_ok noI_ok Tryz.func45 (by kernel_rfl)) Tryz.func70 (by kernel_rfl)) Tryz.func47 (by kernel_rfl)
theorem good_tRight (m : Int) (T : Tbl) (hQ : tbQ T) : GoodP Tryz.prog gl0 23 [.agg [.int .i64 m, rowS eEs [] 1 std fun _ => T]] (.bool (std.tb fun _ => tbR m T)) := by
  refine fn_sound' (T := seatT) (G := gv1) (X := noX) seatT_ok gv1_ok noX_ok iV1_ok mixed Tryz.func23 (.one) (fun A => [.agg [.int .i64 m, rowS eEs [] 1 A fun _ => T]]) (fun A => .bool (A.tb fun _ => tbR m T)) fun A hA => ?_
  cbv
  repeat' (first | with_reducible exact True.intro | with_reducible exact dr_ok hA (by kernel_rfl) | with_reducible refine And.intro ?_ ?_ | (intro hc; cbv))
  · subst hA
    simp only [std_add, std_sub, std_mul, std_quo, std_rem, std_band, std_bor, std_bxor, std_shl, std_shr, std_eq, std_ne, std_lt, std_le, std_conv, std_not, std_beq, std_bne, std_ite, std_want, std_and2, std_sadd, std_seq, std_sne, std_slt, std_sle, std_sgt, std_sge, std_slen, std_sget, std_scut, std_ofNat, std_toNat, std_nsub, std_nadd, std_lenOf, std_nz, std_nneg, std_inb, std_upto, std_slt63, std_grow, std_imp, std_impN, std_tr, std_tb, std_ti, std_ts, std_tn, std_tp, std_nmin, std_nset, std_fset, std_makes, std_room, std_zeros, std_nilq, std_notq, std_eqi, std_eqn, std_eqb, std_eqs, std_eqv, std_cat, std_lst, std_rset, std_rcopy, std_shift, std_eqr, std_strOf, std_bytesOf, std_isB, std_zOf, zOf_int, std_isI, isI_int, std_getL, std_nmul, std_sOf, sOf_str, std_isS, isS_str, std_fadd, std_fsub, std_fav, std_fsv, std_feq, std_fne, std_flt, std_fle, std_fgt, std_fge, std_fOf, std_fTo, std_fTv] at hc ⊢
    unfold tbR
    rw [nb_f hc]
    rfl
  have hsz : szR m (T.length : Int) = true := by
    rw [hA] at hc
    exact nb_t hc
  clear hc
  refine ⟨⟨{i : Nat // i ≤ T.length ∧ ∀ j, j < i → shOk T j = true}, fun b i => [(18, .int .i64 (i.1 : Nat))], fun b i => [], fun i => T.length - i.1, true⟩, ⟨⟨0, by omega, by simp⟩, ?_⟩, ?_⟩
  · cbv
    subst hA
    simp [-List.getD_eq_getElem?_getD, std_add, std_sub, std_mul, std_quo, std_rem, std_band, std_bor, std_bxor, std_shl, std_shr, std_eq, std_ne, std_lt, std_le, std_conv, std_not, std_beq, std_bne, std_ite, std_want, std_and2, std_sadd, std_seq, std_sne, std_slt, std_sle, std_sgt, std_sge, std_slen, std_sget, std_scut, std_ofNat, std_toNat, std_nsub, std_nadd, std_lenOf, std_nz, std_nneg, std_inb, std_upto, std_slt63, std_grow, std_imp, std_impN, std_tr, std_tb, std_ti, std_ts, std_tn, std_tp, std_nmin, std_nset, std_fset, std_makes, std_room, std_zeros, std_nilq, std_notq, std_eqi, std_eqn, std_eqb, std_eqs, std_eqv, std_cat, std_lst, std_rset, std_rcopy, std_shift, std_eqr, std_strOf, std_bytesOf, std_isB, std_zOf, zOf_int, std_isI, isI_int, std_getL, std_nmul, std_sOf, sOf_str, std_isS, isS_str, std_fadd, std_fsub, std_fav, std_fsv, std_feq, std_fne, std_flt, std_fle, std_fgt, std_fge, std_fOf, std_fTo, std_fTv]
  · rintro ⟨i, hx⟩
    have hi := hx.1
    have hz := hx.2
    have hT := hQ.1
    have hTi := hQ.2.1 i
    have hTe := hQ.2.2 i
    obtain ⟨L, hL⟩ : ∃ L, L = T.getD i [] := ⟨_, rfl⟩
    rw [← hL] at hTi hTe
    have hgL : T.getD i [] = L := hL.symm
    rcases Nat.lt_or_ge i T.length with hlt | hge
    · have hok : shR L = true → (∀ k, k < L.length → inSh T.length i (L.getD k E0) = true) → shOk T i = true := fun h1 h2 => by
        unfold shOk
        rw [hgL, h1, all_D h2]
        rfl
      have hno : ∀ b, shR L = b → b = false ∨ (∃ k, k < L.length ∧ inSh T.length i (L.getD k E0) = false) → tbR m T = false := fun b hb h => by
        subst hb
        refine tbR_no hlt ?_
        unfold shOk
        rw [hgL]
        rcases h with h | ⟨k, h1, h2⟩
        · rw [h]; rfl
        · rw [all_noD h1 h2, Bool.and_false]
      have hEn := fun k => enQ_S (hTe k)
      cbv
      repeat' (first | with_reducible exact True.intro | with_reducible exact dr_ok hA (by kernel_rfl) | with_reducible refine And.intro ?_ ?_ | (intro hc; cbv))
      all_goals first
        | (fail_if_success (refine Exists.intro ?_ ?_)
           clear hz
           subst hA
           simp only [std_add, std_sub, std_mul, std_quo, std_rem, std_band, std_bor, std_bxor, std_shl, std_shr, std_eq, std_ne, std_lt, std_le, std_conv, std_not, std_beq, std_bne, std_ite, std_want, std_and2, std_sadd, std_seq, std_sne, std_slt, std_sle, std_sgt, std_sge, std_slen, std_sget, std_scut, std_ofNat, std_toNat, std_nsub, std_nadd, std_lenOf, std_nz, std_nneg, std_inb, std_upto, std_slt63, std_grow, std_imp, std_impN, std_tr, std_tb, std_ti, std_ts, std_tn, std_tp, std_nmin, std_nset, std_fset, std_makes, std_room, std_zeros, std_nilq, std_notq, std_eqi, std_eqn, std_eqb, std_eqs, std_eqv, std_cat, std_lst, std_rset, std_rcopy, std_shift, std_eqr, std_strOf, std_bytesOf, std_isB, std_zOf, zOf_int, std_isI, isI_int, std_getL, std_nmul, std_sOf, sOf_str, std_isS, isS_str, std_fadd, std_fsub, std_fav, std_fsv, std_feq, std_fne, std_flt, std_fle, std_fgt, std_fge, std_fOf, std_fTo, std_fTv, Int.ofNat_eq_natCast, Int.toNat_natCast, hgL, isRow_V, lstOf_V] at *
           first
             | exact ⟨trivial, hTi, hEn⟩
             | exact hc
             | (constructor <;> omega)
             | (revert hc; cases shR L <;> simp; done)
             | (refine (hno false ?_ (.inl rfl)).symm; revert hc; cases shR L <;> simp; done))
        | (exfalso
           clear hz hok hno
           subst hA
           simp only [std_add, std_sub, std_mul, std_quo, std_rem, std_band, std_bor, std_bxor, std_shl, std_shr, std_eq, std_ne, std_lt, std_le, std_conv, std_not, std_beq, std_bne, std_ite, std_want, std_and2, std_sadd, std_seq, std_sne, std_slt, std_sle, std_sgt, std_sge, std_slen, std_sget, std_scut, std_ofNat, std_toNat, std_nsub, std_nadd, std_lenOf, std_nz, std_nneg, std_inb, std_upto, std_slt63, std_grow, std_imp, std_impN, std_tr, std_tb, std_ti, std_ts, std_tn, std_tp, std_nmin, std_nset, std_fset, std_makes, std_room, std_zeros, std_nilq, std_notq, std_eqi, std_eqn, std_eqb, std_eqs, std_eqv, std_cat, std_lst, std_rset, std_rcopy, std_shift, std_eqr, std_strOf, std_bytesOf, std_isB, std_zOf, zOf_int, std_isI, isI_int, std_getL, std_nmul, std_sOf, sOf_str, std_isS, isS_str, std_fadd, std_fsub, std_fav, std_fsv, std_feq, std_fne, std_flt, std_fle, std_fgt, std_fge, std_fOf, std_fTo, std_fTv, Int.ofNat_eq_natCast, Int.toNat_natCast, hgL, isRow_V, lstOf_V] at *
           rename_i h1
           revert h1 hc
           cases shR L <;> simp
           done)
        | (exfalso
           clear hz hok hno
           subst hA
           simp only [std_add, std_sub, std_mul, std_quo, std_rem, std_band, std_bor, std_bxor, std_shl, std_shr, std_eq, std_ne, std_lt, std_le, std_conv, std_not, std_beq, std_bne, std_ite, std_want, std_and2, std_sadd, std_seq, std_sne, std_slt, std_sle, std_sgt, std_sge, std_slen, std_sget, std_scut, std_ofNat, std_toNat, std_nsub, std_nadd, std_lenOf, std_nz, std_nneg, std_inb, std_upto, std_slt63, std_grow, std_imp, std_impN, std_tr, std_tb, std_ti, std_ts, std_tn, std_tp, std_nmin, std_nset, std_fset, std_makes, std_room, std_zeros, std_nilq, std_notq, std_eqi, std_eqn, std_eqb, std_eqs, std_eqv, std_cat, std_lst, std_rset, std_rcopy, std_shift, std_eqr, std_strOf, std_bytesOf, std_isB, std_zOf, zOf_int, std_isI, isI_int, std_getL, std_nmul, std_sOf, sOf_str, std_isS, isS_str, std_fadd, std_fsub, std_fav, std_fsv, std_feq, std_fne, std_flt, std_fle, std_fgt, std_fge, std_fOf, std_fTo, std_fTv, Int.ofNat_eq_natCast, Int.toNat_natCast, hgL, isRow_V, lstOf_V] at *
           have hq : decide ((i : Int) < (T.length : Int)) = false := by assumption
           have := of_decide_eq_false hq
           omega)
        | skip
      have hs : shR L = true := by
        clear hz hok hno
        subst hA
        simp only [std_add, std_sub, std_mul, std_quo, std_rem, std_band, std_bor, std_bxor, std_shl, std_shr, std_eq, std_ne, std_lt, std_le, std_conv, std_not, std_beq, std_bne, std_ite, std_want, std_and2, std_sadd, std_seq, std_sne, std_slt, std_sle, std_sgt, std_sge, std_slen, std_sget, std_scut, std_ofNat, std_toNat, std_nsub, std_nadd, std_lenOf, std_nz, std_nneg, std_inb, std_upto, std_slt63, std_grow, std_imp, std_impN, std_tr, std_tb, std_ti, std_ts, std_tn, std_tp, std_nmin, std_nset, std_fset, std_makes, std_room, std_zeros, std_nilq, std_notq, std_eqi, std_eqn, std_eqb, std_eqs, std_eqv, std_cat, std_lst, std_rset, std_rcopy, std_shift, std_eqr, std_strOf, std_bytesOf, std_isB, std_zOf, zOf_int, std_isI, isI_int, std_getL, std_nmul, std_sOf, sOf_str, std_isS, isS_str, std_fadd, std_fsub, std_fav, std_fsv, std_feq, std_fne, std_flt, std_fle, std_fgt, std_fge, std_fOf, std_fTo, std_fTv, Int.ofNat_eq_natCast, Int.toNat_natCast, hgL, isRow_V, lstOf_V] at *
        cases hs : shR L
        · rw [hs] at hc; cases hc
        · rfl
      refine ⟨⟨{j : Nat // j ≤ L.length ∧ ∀ k, k < j → inSh T.length i (L.getD k E0) = true}, fun b j => [(8, .int .i64 (j.1 : Nat))], fun b j => [], fun j => L.length - j.1, true⟩, ⟨⟨0, by omega, by simp⟩, ?_⟩, ?_⟩
      · cbv
        subst hA
        simp [-List.getD_eq_getElem?_getD, std_add, std_sub, std_mul, std_quo, std_rem, std_band, std_bor, std_bxor, std_shl, std_shr, std_eq, std_ne, std_lt, std_le, std_conv, std_not, std_beq, std_bne, std_ite, std_want, std_and2, std_sadd, std_seq, std_sne, std_slt, std_sle, std_sgt, std_sge, std_slen, std_sget, std_scut, std_ofNat, std_toNat, std_nsub, std_nadd, std_lenOf, std_nz, std_nneg, std_inb, std_upto, std_slt63, std_grow, std_imp, std_impN, std_tr, std_tb, std_ti, std_ts, std_tn, std_tp, std_nmin, std_nset, std_fset, std_makes, std_room, std_zeros, std_nilq, std_notq, std_eqi, std_eqn, std_eqb, std_eqs, std_eqv, std_cat, std_lst, std_rset, std_rcopy, std_shift, std_eqr, std_strOf, std_bytesOf, std_isB, std_zOf, zOf_int, std_isI, isI_int, std_getL, std_nmul, std_sOf, sOf_str, std_isS, isS_str, std_fadd, std_fsub, std_fav, std_fsv, std_feq, std_fne, std_flt, std_fle, std_fgt, std_fge, std_fOf, std_fTo, std_fTv, hgL]
      · rintro ⟨j, hy⟩
        have hj := hy.1
        have hyz := hy.2
        have hTej := hTe j
        obtain ⟨e, he⟩ : ∃ e, e = L.getD j E0 := ⟨_, rfl⟩
        have hge : L.getD j { s := 0, r := [], st := 0, pan := [], am := 0, code := [], tr := 0, ca := 0 } = e := he.symm
        rw [← he] at hTej
        have hno2 : shardI e.s e.r (T.length : Int) ≠ (i : Int) → j < L.length → tbR m T = false := fun h1 h2 => hno _ rfl (.inr ⟨j, h2, by
          rw [← he]
          unfold inSh
          exact decide_eq_false h1⟩)
        rcases Nat.lt_or_ge j L.length with hltj | hgej
        · cbv
          repeat' (first | with_reducible exact True.intro | with_reducible exact dr_ok hA (by kernel_rfl) | with_reducible refine And.intro ?_ ?_ | (intro hc; cbv))
          all_goals first
            | (fail_if_success (refine Exists.intro ?_ ?_)
               clear hz hyz hok hno
               subst hA
               simp only [std_add, std_sub, std_mul, std_quo, std_rem, std_band, std_bor, std_bxor, std_shl, std_shr, std_eq, std_ne, std_lt, std_le, std_conv, std_not, std_beq, std_bne, std_ite, std_want, std_and2, std_sadd, std_seq, std_sne, std_slt, std_sle, std_sgt, std_sge, std_slen, std_sget, std_scut, std_ofNat, std_toNat, std_nsub, std_nadd, std_lenOf, std_nz, std_nneg, std_inb, std_upto, std_slt63, std_grow, std_imp, std_impN, std_tr, std_tb, std_ti, std_ts, std_tn, std_tp, std_nmin, std_nset, std_fset, std_makes, std_room, std_zeros, std_nilq, std_notq, std_eqi, std_eqn, std_eqb, std_eqs, std_eqv, std_cat, std_lst, std_rset, std_rcopy, std_shift, std_eqr, std_strOf, std_bytesOf, std_isB, std_zOf, zOf_int, std_isI, isI_int, std_getL, std_nmul, std_sOf, sOf_str, std_isS, isS_str, std_fadd, std_fsub, std_fav, std_fsv, std_feq, std_fne, std_flt, std_fle, std_fgt, std_fge, std_fOf, std_fTo, std_fTv, Int.ofNat_eq_natCast, Int.toNat_natCast, hgL, hge, isRow_V, lstOf_V] at *
               first
                 | exact hTej.1
                 | exact ⟨Int.natCast_nonneg _, Int.ofNat_lt.2 (by assumption)⟩
                 | exact (hno2 (bne_iff_ne.1 (by assumption)) hltj).symm)
            | (exfalso
               clear hz hyz hok hno hno2
               subst hA
               simp only [std_add, std_sub, std_mul, std_quo, std_rem, std_band, std_bor, std_bxor, std_shl, std_shr, std_eq, std_ne, std_lt, std_le, std_conv, std_not, std_beq, std_bne, std_ite, std_want, std_and2, std_sadd, std_seq, std_sne, std_slt, std_sle, std_sgt, std_sge, std_slen, std_sget, std_scut, std_ofNat, std_toNat, std_nsub, std_nadd, std_lenOf, std_nz, std_nneg, std_inb, std_upto, std_slt63, std_grow, std_imp, std_impN, std_tr, std_tb, std_ti, std_ts, std_tn, std_tp, std_nmin, std_nset, std_fset, std_makes, std_room, std_zeros, std_nilq, std_notq, std_eqi, std_eqn, std_eqb, std_eqs, std_eqv, std_cat, std_lst, std_rset, std_rcopy, std_shift, std_eqr, std_strOf, std_bytesOf, std_isB, std_zOf, zOf_int, std_isI, isI_int, std_getL, std_nmul, std_sOf, sOf_str, std_isS, isS_str, std_fadd, std_fsub, std_fav, std_fsv, std_feq, std_fne, std_flt, std_fle, std_fgt, std_fge, std_fOf, std_fTo, std_fTv, Int.ofNat_eq_natCast, Int.toNat_natCast, hgL, hge, isRow_V, lstOf_V] at *
               revert hc
               rw [hs]
               simp
               done)
            | (obtain ⟨j', hj'⟩ : ∃ j', j' = j + 1 := ⟨_, rfl⟩
               have hst : inSh T.length i e = true := by
                 clear hz hyz hok hno hno2
                 subst hA
                 simp only [std_add, std_sub, std_mul, std_quo, std_rem, std_band, std_bor, std_bxor, std_shl, std_shr, std_eq, std_ne, std_lt, std_le, std_conv, std_not, std_beq, std_bne, std_ite, std_want, std_and2, std_sadd, std_seq, std_sne, std_slt, std_sle, std_sgt, std_sge, std_slen, std_sget, std_scut, std_ofNat, std_toNat, std_nsub, std_nadd, std_lenOf, std_nz, std_nneg, std_inb, std_upto, std_slt63, std_grow, std_imp, std_impN, std_tr, std_tb, std_ti, std_ts, std_tn, std_tp, std_nmin, std_nset, std_fset, std_makes, std_room, std_zeros, std_nilq, std_notq, std_eqi, std_eqn, std_eqb, std_eqs, std_eqv, std_cat, std_lst, std_rset, std_rcopy, std_shift, std_eqr, std_strOf, std_bytesOf, std_isB, std_zOf, zOf_int, std_isI, isI_int, std_getL, std_nmul, std_sOf, sOf_str, std_isS, isS_str, std_fadd, std_fsub, std_fav, std_fsv, std_feq, std_fne, std_flt, std_fle, std_fgt, std_fge, std_fOf, std_fTo, std_fTv, Int.ofNat_eq_natCast, Int.toNat_natCast, hgL, hge, isRow_V, lstOf_V] at *
                 unfold inSh
                 exact decide_eq_true (bne_eq_false_iff_eq.1 hc)
               refine ⟨⟨j', by omega, fun k hk => ?_⟩, ?_, show L.length - j' < L.length - j by omega⟩
               · rcases Nat.lt_or_ge k j with h | h
                 · exact hyz k h
                 · obtain rfl : k = j := by omega
                   rw [← he]; exact hst
               · cbv
                 subst hA
                 simp [-List.getD_eq_getElem?_getD, std_add, std_sub, std_mul, std_quo, std_rem, std_band, std_bor, std_bxor, std_shl, std_shr, std_eq, std_ne, std_lt, std_le, std_conv, std_not, std_beq, std_bne, std_ite, std_want, std_and2, std_sadd, std_seq, std_sne, std_slt, std_sle, std_sgt, std_sge, std_slen, std_sget, std_scut, std_ofNat, std_toNat, std_nsub, std_nadd, std_lenOf, std_nz, std_nneg, std_inb, std_upto, std_slt63, std_grow, std_imp, std_impN, std_tr, std_tb, std_ti, std_ts, std_tn, std_tp, std_nmin, std_nset, std_fset, std_makes, std_room, std_zeros, std_nilq, std_notq, std_eqi, std_eqn, std_eqb, std_eqs, std_eqv, std_cat, std_lst, std_rset, std_rcopy, std_shift, std_eqr, std_strOf, std_bytesOf, std_isB, std_zOf, zOf_int, std_isI, isI_int, std_getL, std_nmul, std_sOf, sOf_str, std_isS, isS_str, std_fadd, std_fsub, std_fav, std_fsv, std_feq, std_fne, std_flt, std_fle, std_fgt, std_fge, std_fOf, std_fTo, std_fTv]
                 exact w_succ' hj' (by omega))
            | (exfalso
               clear hz hyz hok hno hno2
               subst hA
               simp only [std_add, std_sub, std_mul, std_quo, std_rem, std_band, std_bor, std_bxor, std_shl, std_shr, std_eq, std_ne, std_lt, std_le, std_conv, std_not, std_beq, std_bne, std_ite, std_want, std_and2, std_sadd, std_seq, std_sne, std_slt, std_sle, std_sgt, std_sge, std_slen, std_sget, std_scut, std_ofNat, std_toNat, std_nsub, std_nadd, std_lenOf, std_nz, std_nneg, std_inb, std_upto, std_slt63, std_grow, std_imp, std_impN, std_tr, std_tb, std_ti, std_ts, std_tn, std_tp, std_nmin, std_nset, std_fset, std_makes, std_room, std_zeros, std_nilq, std_notq, std_eqi, std_eqn, std_eqb, std_eqs, std_eqv, std_cat, std_lst, std_rset, std_rcopy, std_shift, std_eqr, std_strOf, std_bytesOf, std_isB, std_zOf, zOf_int, std_isI, isI_int, std_getL, std_nmul, std_sOf, sOf_str, std_isS, isS_str, std_fadd, std_fsub, std_fav, std_fsv, std_feq, std_fne, std_flt, std_fle, std_fgt, std_fge, std_fOf, std_fTo, std_fTv, Int.ofNat_eq_natCast, Int.toNat_natCast, hgL, hge, isRow_V, lstOf_V] at *
               have hq : decide ((j : Int) < (L.length : Int)) = false := by assumption
               have := of_decide_eq_false hq
               omega)
            | trace_state
        · have hje : j = L.length := by omega
          cbv
          repeat' (first | with_reducible exact True.intro | with_reducible exact dr_ok hA (by kernel_rfl) | with_reducible refine And.intro ?_ ?_ | (intro hc; cbv))
          all_goals first
            | (exfalso
               clear hz hyz hok hno hno2
               subst hA
               simp only [std_add, std_sub, std_mul, std_quo, std_rem, std_band, std_bor, std_bxor, std_shl, std_shr, std_eq, std_ne, std_lt, std_le, std_conv, std_not, std_beq, std_bne, std_ite, std_want, std_and2, std_sadd, std_seq, std_sne, std_slt, std_sle, std_sgt, std_sge, std_slen, std_sget, std_scut, std_ofNat, std_toNat, std_nsub, std_nadd, std_lenOf, std_nz, std_nneg, std_inb, std_upto, std_slt63, std_grow, std_imp, std_impN, std_tr, std_tb, std_ti, std_ts, std_tn, std_tp, std_nmin, std_nset, std_fset, std_makes, std_room, std_zeros, std_nilq, std_notq, std_eqi, std_eqn, std_eqb, std_eqs, std_eqv, std_cat, std_lst, std_rset, std_rcopy, std_shift, std_eqr, std_strOf, std_bytesOf, std_isB, std_zOf, zOf_int, std_isI, isI_int, std_getL, std_nmul, std_sOf, sOf_str, std_isS, isS_str, std_fadd, std_fsub, std_fav, std_fsv, std_feq, std_fne, std_flt, std_fle, std_fgt, std_fge, std_fOf, std_fTo, std_fTv, Int.ofNat_eq_natCast, Int.toNat_natCast, hgL, hge, isRow_V, lstOf_V] at *
               have hq : decide ((j : Int) < (L.length : Int)) = true := by assumption
               have := of_decide_eq_true hq
               omega)
            | (exfalso
               clear hz hyz hok hno hno2
               subst hA
               simp only [std_add, std_sub, std_mul, std_quo, std_rem, std_band, std_bor, std_bxor, std_shl, std_shr, std_eq, std_ne, std_lt, std_le, std_conv, std_not, std_beq, std_bne, std_ite, std_want, std_and2, std_sadd, std_seq, std_sne, std_slt, std_sle, std_sgt, std_sge, std_slen, std_sget, std_scut, std_ofNat, std_toNat, std_nsub, std_nadd, std_lenOf, std_nz, std_nneg, std_inb, std_upto, std_slt63, std_grow, std_imp, std_impN, std_tr, std_tb, std_ti, std_ts, std_tn, std_tp, std_nmin, std_nset, std_fset, std_makes, std_room, std_zeros, std_nilq, std_notq, std_eqi, std_eqn, std_eqb, std_eqs, std_eqv, std_cat, std_lst, std_rset, std_rcopy, std_shift, std_eqr, std_strOf, std_bytesOf, std_isB, std_zOf, zOf_int, std_isI, isI_int, std_getL, std_nmul, std_sOf, sOf_str, std_isS, isS_str, std_fadd, std_fsub, std_fav, std_fsv, std_feq, std_fne, std_flt, std_fle, std_fgt, std_fge, std_fOf, std_fTo, std_fTv, Int.ofNat_eq_natCast, Int.toNat_natCast, hgL, hge, isRow_V, lstOf_V] at *
               first
                 | (revert hc; rw [hs]; simp; done)
                 | (rename_i q; simp at q; omega)
                 | (simp at hc; omega))
            | (obtain ⟨i', hi'⟩ : ∃ i', i' = i + 1 := ⟨_, rfl⟩
               have hst : shOk T i = true := hok hs fun k hk => hyz k (by omega)
               refine ⟨⟨i', by omega, fun k hk => ?_⟩, ?_, show T.length - i' < T.length - i by omega⟩
               · rcases Nat.lt_or_ge k i with h | h
                 · exact hz k h
                 · obtain rfl : k = i := by omega
                   exact hst
               · cbv
                 subst hA
                 simp [-List.getD_eq_getElem?_getD, std_add, std_sub, std_mul, std_quo, std_rem, std_band, std_bor, std_bxor, std_shl, std_shr, std_eq, std_ne, std_lt, std_le, std_conv, std_not, std_beq, std_bne, std_ite, std_want, std_and2, std_sadd, std_seq, std_sne, std_slt, std_sle, std_sgt, std_sge, std_slen, std_sget, std_scut, std_ofNat, std_toNat, std_nsub, std_nadd, std_lenOf, std_nz, std_nneg, std_inb, std_upto, std_slt63, std_grow, std_imp, std_impN, std_tr, std_tb, std_ti, std_ts, std_tn, std_tp, std_nmin, std_nset, std_fset, std_makes, std_room, std_zeros, std_nilq, std_notq, std_eqi, std_eqn, std_eqb, std_eqs, std_eqv, std_cat, std_lst, std_rset, std_rcopy, std_shift, std_eqr, std_strOf, std_bytesOf, std_isB, std_zOf, zOf_int, std_isI, isI_int, std_getL, std_nmul, std_sOf, sOf_str, std_isS, isS_str, std_fadd, std_fsub, std_fav, std_fsv, std_feq, std_fne, std_flt, std_fle, std_fgt, std_fge, std_fOf, std_fTo, std_fTv]
                 exact w_succ' hi' (by omega))
            | trace_state
    · have hie : i = T.length := by omega
      have hall : (List.range T.length).all (shOk T) = true := tbR_all fun j hj => hz j (by omega)
      have hcn : cnt T ≤ 1000000 := by
        have := cnt_le hsz hall
        omega
      cbv
      repeat' (first | with_reducible exact True.intro | with_reducible exact dr_ok hA (by kernel_rfl) | with_reducible refine And.intro ?_ ?_ | (intro hc; cbv))
      all_goals first
        | (exfalso
           clear hz
           subst hA
           simp only [std_add, std_sub, std_mul, std_quo, std_rem, std_band, std_bor, std_bxor, std_shl, std_shr, std_eq, std_ne, std_lt, std_le, std_conv, std_not, std_beq, std_bne, std_ite, std_want, std_and2, std_sadd, std_seq, std_sne, std_slt, std_sle, std_sgt, std_sge, std_slen, std_sget, std_scut, std_ofNat, std_toNat, std_nsub, std_nadd, std_lenOf, std_nz, std_nneg, std_inb, std_upto, std_slt63, std_grow, std_imp, std_impN, std_tr, std_tb, std_ti, std_ts, std_tn, std_tp, std_nmin, std_nset, std_fset, std_makes, std_room, std_zeros, std_nilq, std_notq, std_eqi, std_eqn, std_eqb, std_eqs, std_eqv, std_cat, std_lst, std_rset, std_rcopy, std_shift, std_eqr, std_strOf, std_bytesOf, std_isB, std_zOf, zOf_int, std_isI, isI_int, std_getL, std_nmul, std_sOf, sOf_str, std_isS, isS_str, std_fadd, std_fsub, std_fav, std_fsv, std_feq, std_fne, std_flt, std_fle, std_fgt, std_fge, std_fOf, std_fTo, std_fTv, Int.ofNat_eq_natCast, Int.toNat_natCast] at *
           have hq : decide ((i : Int) < (T.length : Int)) = true := by assumption
           have := of_decide_eq_true hq
           omega)
        | (exfalso; clear hz; subst hA; simp [-List.getD_eq_getElem?_getD, std_add, std_sub, std_mul, std_quo, std_rem, std_band, std_bor, std_bxor, std_shl, std_shr, std_eq, std_ne, std_lt, std_le, std_conv, std_not, std_beq, std_bne, std_ite, std_want, std_and2, std_sadd, std_seq, std_sne, std_slt, std_sle, std_sgt, std_sge, std_slen, std_sget, std_scut, std_ofNat, std_toNat, std_nsub, std_nadd, std_lenOf, std_nz, std_nneg, std_inb, std_upto, std_slt63, std_grow, std_imp, std_impN, std_tr, std_tb, std_ti, std_ts, std_tn, std_tp, std_nmin, std_nset, std_fset, std_makes, std_room, std_zeros, std_nilq, std_notq, std_eqi, std_eqn, std_eqb, std_eqs, std_eqv, std_cat, std_lst, std_rset, std_rcopy, std_shift, std_eqr, std_strOf, std_bytesOf, std_isB, std_zOf, zOf_int, std_isI, isI_int, std_getL, std_nmul, std_sOf, sOf_str, std_isS, isS_str, std_fadd, std_fsub, std_fav, std_fsv, std_feq, std_fne, std_flt, std_fle, std_fgt, std_fge, std_fOf, std_fTo, std_fTv] at hc; omega)
        | (exfalso; clear hz; subst hA; rename_i q; simp [-List.getD_eq_getElem?_getD, std_add, std_sub, std_mul, std_quo, std_rem, std_band, std_bor, std_bxor, std_shl, std_shr, std_eq, std_ne, std_lt, std_le, std_conv, std_not, std_beq, std_bne, std_ite, std_want, std_and2, std_sadd, std_seq, std_sne, std_slt, std_sle, std_sgt, std_sge, std_slen, std_sget, std_scut, std_ofNat, std_toNat, std_nsub, std_nadd, std_lenOf, std_nz, std_nneg, std_inb, std_upto, std_slt63, std_grow, std_imp, std_impN, std_tr, std_tb, std_ti, std_ts, std_tn, std_tp, std_nmin, std_nset, std_fset, std_makes, std_room, std_zeros, std_nilq, std_notq, std_eqi, std_eqn, std_eqb, std_eqs, std_eqv, std_cat, std_lst, std_rset, std_rcopy, std_shift, std_eqr, std_strOf, std_bytesOf, std_isB, std_zOf, zOf_int, std_isI, isI_int, std_getL, std_nmul, std_sOf, sOf_str, std_isS, isS_str, std_fadd, std_fsub, std_fav, std_fsv, std_feq, std_fne, std_flt, std_fle, std_fgt, std_fge, std_fOf, std_fTo, std_fTv] at q; omega)
        | (clear hz
           subst hA
           simp only [std_add, std_sub, std_mul, std_quo, std_rem, std_band, std_bor, std_bxor, std_shl, std_shr, std_eq, std_ne, std_lt, std_le, std_conv, std_not, std_beq, std_bne, std_ite, std_want, std_and2, std_sadd, std_seq, std_sne, std_slt, std_sle, std_sgt, std_sge, std_slen, std_sget, std_scut, std_ofNat, std_toNat, std_nsub, std_nadd, std_lenOf, std_nz, std_nneg, std_inb, std_upto, std_slt63, std_grow, std_imp, std_impN, std_tr, std_tb, std_ti, std_ts, std_tn, std_tp, std_nmin, std_nset, std_fset, std_makes, std_room, std_zeros, std_nilq, std_notq, std_eqi, std_eqn, std_eqb, std_eqs, std_eqv, std_cat, std_lst, std_rset, std_rcopy, std_shift, std_eqr, std_strOf, std_bytesOf, std_isB, std_zOf, zOf_int, std_isI, isI_int, std_getL, std_nmul, std_sOf, sOf_str, std_isS, isS_str, std_fadd, std_fsub, std_fav, std_fsv, std_feq, std_fne, std_flt, std_fle, std_fgt, std_fge, std_fOf, std_fTo, std_fTv, Int.ofNat_eq_natCast, Int.toNat_natCast, lstOf_T, isRow_T] at *
           first
             | exact ⟨trivial, hT, hcn⟩
             | (unfold tbR; rw [hsz, hall]; rfl))
        | trace_state
noncomputable def c_tRight : Ct := fun A args => match args with
  | [.agg [.int .i64 m, .slc n 1 f]] => some (some (A.tp fun _ => isRow eEs [] 1 n f ∧ tbQ (lstOf eEs [] 1 n f)), .bool (A.tb fun _ => tbR m (lstOf eEs [] 1 n f)))
  | _ => none
noncomputable def c_tNew : Ct := fun A args => match args with
  | [.int .i64 m, .int .i64 n] => some (none, .tup [.agg [.int .i64 (A.ti fun _ => newM m n), rowS eEs [] 1 A fun _ => newT m n], .int .i64 (A.ti fun _ => newC m n)])
  | _ => none
noncomputable def gv2 : Ar → Pu := addC 23 c_tRight (addC 8 c_tNew (gv1))
theorem gv2_ok : PuOk Tryz.prog gl0 (gv2 std) := by
  refine addC_ok (addC_ok (gv1_ok) ⟨_, Tryz.func8, rfl, by decide⟩ ?_) ⟨_, Tryz.func23, rfl, by decide⟩ ?_
  · intro args p r h hp
    unfold c_tNew at h
    split at h <;> cases h
    exact good_tNew _ _
  · intro args p r h hp
    unfold c_tRight at h
    split at h <;> cases h
    exact good_sv (good_tRight _ _ hp.2) ⟨⟨_, rfl, rfl, hp.1.sv, trivial⟩, trivial⟩
end Go.Vd

set_option linter.unusedVariables false
set_option linter.unusedSimpArgs false
set_option maxRecDepth 100000
set_option maxHeartbeats 4000000
namespace Go.Proofs
open Go.RowKit Go.Lib Go.Vd Go.Sort
theorem nan32_w (a : Int) (w : World) : Calls Tryz.prog 82 #[.int .u32 a] w fun e w' => e = .returned (.bool false) ∧ w' = w := by
  go_enter Tryz.func82, Tryz.ntmps82
  go_wp2
  go_ret
  exact ⟨rfl, rfl⟩
theorem nanS_w (a : ByteArray) (w : World) : Calls Tryz.prog 83 #[.string a] w fun e w' => e = .returned (.bool false) ∧ w' = w := by
  go_enter Tryz.func83, Tryz.ntmps83
  go_wp2
  go_ret
  exact ⟨rfl, rfl⟩
theorem cmp32_w (a b : Int) (w : World) : Calls Tryz.prog 54 #[.int .u32 a, .int .u32 b] w fun e w' => e = .returned (.int .i64 (ordI a b)) ∧ w' = w := by
  by_cases h1 : a < b
  · go_enter Tryz.func54, Tryz.ntmps54
    go_wp2_with (go_at_call 82; refine (nan32_w _ _).mono ?_; rintro e w' ⟨rfl, rfl⟩)
    go_ret
    exact ⟨by rw [show ordI a b = -1 by unfold ordI; rw [if_pos h1]]; rfl, rfl⟩
  · by_cases h2 : b < a
    · go_enter Tryz.func54, Tryz.ntmps54
      go_wp2_with (go_at_call 82; refine (nan32_w _ _).mono ?_; rintro e w' ⟨rfl, rfl⟩)
      go_ret
      exact ⟨by rw [show ordI a b = 1 by unfold ordI; rw [if_neg (by omega), if_pos h2]]; rfl, rfl⟩
    · go_enter Tryz.func54, Tryz.ntmps54
      go_wp2_with (go_at_call 82; refine (nan32_w _ _).mono ?_; rintro e w' ⟨rfl, rfl⟩)
      go_ret
      exact ⟨by rw [show ordI a b = 0 by unfold ordI; rw [if_neg (by omega), if_neg (by omega)]]; rfl, rfl⟩
theorem cmpS_w (a b : ByteArray) (w : World) : Calls Tryz.prog 55 #[.string a, .string b] w fun e w' => e = .returned (.int .i64 (ordS a.data.toList b.data.toList)) ∧ w' = w := by
  have e1 : Op.bytesLess a.toList b.toList = decide (a.data.toList < b.data.toList) := by rw [ByteArray.toList_eq, ByteArray.toList_eq]; exact bytesLess_eq _ _
  have e2 : Op.bytesLess b.toList a.toList = decide (b.data.toList < a.data.toList) := by rw [ByteArray.toList_eq, ByteArray.toList_eq]; exact bytesLess_eq _ _
  have e3 : (a.toList == b.toList) = decide (a.data.toList = b.data.toList) := by
    rw [ByteArray.toList_eq, ByteArray.toList_eq, Bool.eq_iff_iff]
    simp only [beq_iff_eq, decide_eq_true_eq]
  have hg : ∀ W, (binOp BinOp.gtr 9 (.string a) (.string b)).run Tryz.prog W = .ok (.bool (!(Op.bytesLess a.toList b.toList || (a.toList == b.toList)))) W := fun W => by simp [go_sem, binOp, Op.stringOp]
  rcases triS a.data.toList b.data.toList with ⟨h1, h2, h3⟩ | ⟨h1, h3⟩ | ⟨h1, h2, h3⟩
  · rw [decide_eq_true h1] at e1
    rw [h3]
    go_enter Tryz.func55, Tryz.ntmps55
    go_wp2_with (go_at_call 83; refine (nanS_w _ _).mono ?_; rintro e w' ⟨rfl, rfl⟩)
    all_goals try (rename_i hx; exfalso; rw [e1] at hx; exact Bool.noConfusion hx)
    go_ret
    exact ⟨rfl, rfl⟩
  · have e4 : Op.bytesLess a.toList b.toList = false := by rw [e1, h1]; exact decide_eq_false (List.lt_irrefl _)
    have e5 : (a.toList == b.toList) = true := by rw [e3]; exact decide_eq_true h1
    rw [e4, e5] at hg
    rw [h3]
    clear e1 e3 h1 h3
    go_enter Tryz.func55, Tryz.ntmps55
    go_wp2_with (go_at_call 83; refine (nanS_w _ _).mono ?_; rintro e w' ⟨rfl, rfl⟩)
    go_ret
    exact ⟨rfl, rfl⟩
  · have e4 : Op.bytesLess a.toList b.toList = false := by rw [e1]; exact decide_eq_false (List.lt_asymm h1)
    have e5 : (a.toList == b.toList) = false := by rw [e3]; exact decide_eq_false h2
    rw [e4, e5] at hg
    rw [h3]
    clear e1 e3 h1 h3
    go_enter Tryz.func55, Tryz.ntmps55
    go_wp2_with (go_at_call 83; refine (nanS_w _ _).mono ?_; rintro e w' ⟨rfl, rfl⟩)
    go_ret
    exact ⟨rfl, rfl⟩
theorem cOr_w (x y : Int) (g : Nat) (W : World) (h0 : W.cell? ⟨g, 0, none⟩ = some (.int .i64 x)) (h1 : W.cell? ⟨g, 1, none⟩ = some (.int .i64 y)) :
    Calls Tryz.prog 53 #[.slice (some ⟨g, 0, none⟩) 2 2] W fun e w' => e = .returned (.int .i64 (orL [x, y])) ∧ w' = W := by
  by_cases hx : x = 0
  · subst hx
    by_cases hy : y = 0
    · subst hy
      rw [show orL [0, 0] = 0 from rfl]
      go_enter Tryz.func53, Tryz.ntmps53
      go_wp2
      refine wp_loop_rounds 3 ?_
      rw [rounds_succ]
      go_wp2
      try rw [rounds_succ]
      go_wp2
      try rw [rounds_succ]
      go_wp2
      go_ret
      exact ⟨rfl, rfl⟩
    · rw [show orL [0, y] = y by simp [orL, hy]]
      go_enter Tryz.func53, Tryz.ntmps53
      go_wp2
      refine wp_loop_rounds 2 ?_
      rw [rounds_succ]
      go_wp2
      try rw [rounds_succ]
      go_wp2
      go_ret
      exact ⟨rfl, rfl⟩
  · rw [show orL [x, y] = x by simp [orL, hx]]
    go_enter Tryz.func53, Tryz.ntmps53
    go_wp2
    refine wp_loop_rounds 1 ?_
    rw [rounds_succ]
    go_wp2
    go_ret
    exact ⟨rfl, rfl⟩
theorem grown3 (W : World) (A B C : Obj) : ((W.alloc A).alloc B).drew.alloc C = grow (W.drewN 1) #[A, B, C] := by
  simp only [World.alloc, World.drew, World.drewN, grow, World.mk.injEq, and_true, true_and]
  first | done | (apply Array.ext'; simp)
theorem grown2 (W : World) (A B : Obj) (n : Nat) (os : Array Obj) : grow (((W.alloc A).alloc B).drewN n) os = grow (W.drewN n) (#[A, B] ++ os) := by
  simp only [World.alloc, World.drew, World.drewN, grow, World.mk.injEq, and_true, true_and]
  first | done | (apply Array.ext'; simp)
theorem kOrder_w (s t : Int) (r q : ByteArray) (W : World) : Calls Tryz.prog 33 #[.agg #[.int .u32 s, .string r], .agg #[.int .u32 t, .string q]] W fun e w' => e = .returned (.int .i64 (ordK s r.data.toList t q.data.toList)) ∧ ∃ n os', w' = grow (W.drewN n) os' := by
  have hp := ordK_or s r.data.toList t q.data.toList
  generalize hres : ordK s r.data.toList t q.data.toList = res at hp ⊢
  go_enter Tryz.func33, Tryz.ntmps33
  go_wp2
  have c0 : ((W.alloc (Obj.cells #[Value.int IntKind.u32 s, Value.string r] 27)).alloc (Obj.cells #[Value.int IntKind.u32 t, Value.string q] 27)).cell? ⟨W.heap.size, 0, none⟩ = some (.int .u32 s) := by simp
  have c1 : ((W.alloc (Obj.cells #[Value.int IntKind.u32 s, Value.string r] 27)).alloc (Obj.cells #[Value.int IntKind.u32 t, Value.string q] 27)).cell? ⟨W.heap.size, 1, none⟩ = some (.string r) := by simp
  have c2 : ((W.alloc (Obj.cells #[Value.int IntKind.u32 s, Value.string r] 27)).alloc (Obj.cells #[Value.int IntKind.u32 t, Value.string q] 27)).cell? ⟨W.heap.size + 1, 0, none⟩ = some (.int .u32 t) := by simp
  have c3 : ((W.alloc (Obj.cells #[Value.int IntKind.u32 s, Value.string r] 27)).alloc (Obj.cells #[Value.int IntKind.u32 t, Value.string q] 27)).cell? ⟨W.heap.size + 1, 1, none⟩ = some (.string q) := by simp
  generalize hW2 : ((W.alloc (Obj.cells #[Value.int IntKind.u32 s, Value.string r] 27)).alloc (Obj.cells #[Value.int IntKind.u32 t, Value.string q] 27)) = W2 at c0 c1 c2 c3 ⊢
  go_still_tail 10, (by kernel_rfl)
  still_call (cmp32_w _ _ _)
  repeat still_step
  still_call (cmpS_w _ _ _)
  refine wpStill_nil ?_
  change wpList _ _ _ _ _ W2.drew
  have hor := fun W h0 h1 => cOr_w (ordI s t) (ordS r.data.toList q.data.toList) W2.heap.size W h0 h1
  rw [hp] at hor
  go_wp2_with (go_at_call 53; refine (hor _ (by simp) (by simp)).mono ?_; rintro e w' ⟨rfl, rfl⟩)
  go_ret
  refine ⟨rfl, ?_⟩
  subst hW2
  exact ⟨1, _, grown3 ..⟩
theorem all1_w (s t st st2 am am2 tr tr2 ca ca2 : Int) (r q pan pan2 code code2 : ByteArray) (W : World) : Calls Tryz.prog 32 #[.agg #[.int .u32 s, .string r, .int .i64 st, .string pan, .int .u64 am, .string code, .int .i64 tr, .int .i64 ca], .agg #[.int .u32 t, .string q, .int .i64 st2, .string pan2, .int .u64 am2, .string code2, .int .i64 tr2, .int .i64 ca2]] W fun e w' => e = .returned (.int .i64 (ordK s r.data.toList t q.data.toList)) ∧ ∃ n os', w' = grow (W.drewN n) os' := by
  have hk := fun W => kOrder_w s t r q W
  generalize ordK s r.data.toList t q.data.toList = res at hk ⊢
  go_enter Tryz.func32, Tryz.ntmps32
  go_wp2_with (go_at_call 33; refine (hk _).mono ?_; rintro e w' ⟨rfl, n, os', rfl⟩)
  go_ret
  refine ⟨rfl, ?_⟩
  exact ⟨n, _, grown2 ..⟩
end Go.Proofs

namespace Go.Proofs
open Go.Shelf
def Tryz.sortEn_ren : Go.Shelf.Ren := ⟨fun | 6 => 31 | 15 => 52 | 14 => 51 | 28 => 80 | 29 => 81 | 20 => 72 | 21 => 73 | 22 => 74 | 23 => 75 | 24 => 76 | 25 => 77 | 26 => 78 | 27 => 79 | 46 => 94 | 47 => 95 | 48 => 96 | 49 => 97 | 50 => 98 | 57 => 105 | n => n, fun | 22 => 40 | 24 => 30 | 25 => 62 | 3 => 3 | 39 => 78 | 0 => 0 | 53 => 25 | 55 => 28 | 4 => 4 | 46 => 97 | 45 => 96 | 50 => 85 | 5 => 5 | 9 => 9 | 66 => 115 | 70 => 119 | 76 => 129 | 77 => 130 | n => n, fun | n => n⟩
theorem Tryz.sortEn : Go.Proofs.SlLaysF0.n6 Tryz.prog Tryz.sortEn_ren := {
  mixed := by kernel_rfl
  f6 := ⟨Tryz.f31.name, by decide, Tryz.func31.trans (congrArg some (by kernel_rfl))⟩
  f14 := ⟨Tryz.f51.name, by decide, Tryz.func51.trans (congrArg some (by kernel_rfl))⟩
  f15 := Tryz.func52.trans (congrArg some (by kernel_rfl))
  f20 := ⟨Tryz.f72.name, by decide, Tryz.func72.trans (congrArg some (by kernel_rfl))⟩
  f21 := ⟨Tryz.f73.name, by decide, Tryz.func73.trans (congrArg some (by kernel_rfl))⟩
  f22 := ⟨Tryz.f74.name, by decide, Tryz.func74.trans (congrArg some (by kernel_rfl))⟩
  f23 := ⟨Tryz.f75.name, by decide, Tryz.func75.trans (congrArg some (by kernel_rfl))⟩
  f24 := ⟨Tryz.f76.name, by decide, Tryz.func76.trans (congrArg some (by kernel_rfl))⟩
  f25 := ⟨Tryz.f77.name, by decide, Tryz.func77.trans (congrArg some (by kernel_rfl))⟩
  f26 := ⟨Tryz.f78.name, by decide, Tryz.func78.trans (congrArg some (by kernel_rfl))⟩
  f27 := ⟨Tryz.f79.name, by decide, Tryz.func79.trans (congrArg some (by kernel_rfl))⟩
  f28 := Tryz.func80.trans (congrArg some (by kernel_rfl))
  f29 := Tryz.func81.trans (congrArg some (by kernel_rfl))
  f46 := ⟨Tryz.f94.name, by decide, Tryz.func94.trans (congrArg some (by kernel_rfl))⟩
  f47 := Tryz.func95.trans (congrArg some (by kernel_rfl))
  f48 := Tryz.func96.trans (congrArg some (by kernel_rfl))
  f49 := ⟨Tryz.f97.name, by decide, Tryz.func97.trans (congrArg some (by kernel_rfl))⟩
  f50 := ⟨Tryz.f98.name, by decide, Tryz.func98.trans (congrArg some (by kernel_rfl))⟩
  f57 := ⟨Tryz.f105.name, by decide, Tryz.func105.trans (congrArg some (by kernel_rfl))⟩
  t0 := Tryz.underlying0
  a0 := Tryz.isAgg0
  z0 := Tryz.sizeOf0
  v0 := Tryz.zeroValue0
  t3 := Tryz.underlying3
  a3 := Tryz.isAgg3
  z3 := Tryz.sizeOf3
  v3 := Tryz.zeroValue3
  t4 := Tryz.underlying4
  a4 := Tryz.isAgg4
  z4 := Tryz.sizeOf4
  v4 := Tryz.zeroValue4
  t5 := Tryz.underlying5
  a5 := Tryz.isAgg5
  z5 := Tryz.sizeOf5
  v5 := Tryz.zeroValue5
  t9 := Tryz.underlying9
  a9 := Tryz.isAgg9
  z9 := Tryz.sizeOf9
  v9 := Tryz.zeroValue9
  t22 := Tryz.underlying40
  a22 := Tryz.isAgg40
  z22 := Tryz.sizeOf40
  v22 := Tryz.zeroValue40
  t25 := Tryz.underlying62
  a25 := Tryz.isAgg62
  z25 := Tryz.sizeOf62
  v25 := Tryz.zeroValue62
  t39 := Tryz.underlying78
  a39 := Tryz.isAgg78
  z39 := Tryz.sizeOf78
  v39 := Tryz.zeroValue78
  t45 := Tryz.underlying96
  a45 := Tryz.isAgg96
  z45 := Tryz.sizeOf96
  v45 := Tryz.zeroValue96
  t46 := Tryz.underlying97
  a46 := Tryz.isAgg97
  z46 := Tryz.sizeOf97
  v46 := Tryz.zeroValue97
  t50 := Tryz.underlying85
  a50 := Tryz.isAgg85
  z50 := Tryz.sizeOf85
  v50 := Tryz.zeroValue85
  t53 := Tryz.underlying25
  a53 := Tryz.isAgg25
  z53 := Tryz.sizeOf25
  v53 := Tryz.zeroValue25
  t55 := Tryz.underlying28
  a55 := Tryz.isAgg28
  z55 := Tryz.sizeOf28
  v55 := Tryz.zeroValue28
  t66 := Tryz.underlying115
  a66 := Tryz.isAgg115
  z66 := Tryz.sizeOf115
  v66 := Tryz.zeroValue115
  t70 := Tryz.underlying119
  a70 := Tryz.isAgg119
  z70 := Tryz.sizeOf119
  v70 := Tryz.zeroValue119
  t76 := Tryz.underlying129
  a76 := Tryz.isAgg129
  z76 := Tryz.sizeOf129
  v76 := Tryz.zeroValue129
  t77 := Tryz.underlying130
  a77 := Tryz.isAgg130
  z77 := Tryz.sizeOf130
  v77 := Tryz.zeroValue130 }
end Go.Proofs

set_option linter.unusedVariables false
set_option linter.unusedSimpArgs false
set_option maxRecDepth 100000
set_option maxHeartbeats 4000000
namespace Go.Proofs
open Go.Shelf Go.RowKit Go.Lib Go.Vd Go.Sort
instance entInh : Inhabited Ent := ⟨E0⟩
def encV (e : Ent) : List Value := [.int .u32 e.s, .string ⟨e.r.toArray⟩, .int .i64 e.st, .string ⟨e.pan.toArray⟩, .int .u64 e.am, .string ⟨e.code.toArray⟩, .int .i64 e.tr, .int .i64 e.ca]
noncomputable def srtA (L : List Ent) : Array Ent := pdq (ltOf ordE) L.toArray 0 L.toArray.size (Lib.bitLen L.toArray.size) true true
noncomputable def srtE (L : List Ent) : List Ent := (srtA L).toList
theorem ltE_iff (x y : Ent) : ltOf ordE x y = decide (x.s < y.s ∨ (x.s = y.s ∧ x.r < y.r)) := by
  unfold ltOf ordE
  rw [ordK_eq]
  by_cases h1 : x.s = y.s ∧ x.r = y.r
  · rw [if_pos h1]
    have h2 : ¬(x.s < y.s ∨ (x.s = y.s ∧ x.r < y.r)) := by
      rintro (h | h)
      · omega
      · rw [h1.2] at h; exact List.lt_irrefl _ h.2
    rw [decide_eq_false h2]; decide
  · rw [if_neg h1]
    by_cases h2 : x.s < y.s ∨ (x.s = y.s ∧ x.r < y.r)
    · rw [if_pos h2, decide_eq_true h2]; decide
    · rw [if_neg h2, decide_eq_false h2]; decide
theorem triL (a b : List UInt8) : a < b ∨ a = b ∨ b < a := by
  rcases triS a b with ⟨h, _⟩ | ⟨h, _⟩ | ⟨h, _⟩
  · exact .inl h
  · exact .inr (.inl h)
  · exact .inr (.inr h)
theorem swoE : SWO (ltOf ordE) where
  irrefl x := by
    rw [ltE_iff]
    refine decide_eq_false ?_
    rintro (h | h)
    · omega
    · exact List.lt_irrefl _ h.2
  trans x y z h1 h2 := by
    rw [ltE_iff] at *
    simp only [decide_eq_true_eq] at *
    rcases h1 with h1 | ⟨h1, h3⟩ <;> rcases h2 with h2 | ⟨h2, h4⟩
    · exact .inl (by omega)
    · exact .inl (by omega)
    · exact .inl (by omega)
    · exact .inr ⟨by omega, List.lt_trans h3 h4⟩
  ntrans x y z h1 h2 := by
    rw [ltE_iff] at *
    simp only [decide_eq_false_iff_not, not_or, not_and] at *
    refine ⟨by omega, fun h3 h4 => ?_⟩
    have h5 : x.s = y.s := by omega
    have h6 : y.s = z.s := by omega
    have h7 := h1.2 h5
    have h8 := h2.2 h6
    rcases triL x.r y.r with h | h | h
    · exact h7 h
    · rw [h] at h4; exact h8 h4
    · exact h8 (List.lt_trans h h4)
theorem srtE_sorts (L : List Ent) : (srtE L).length = L.length ∧ (srtE L).Perm L ∧ ∀ i j, i < j → j < L.length → ltOf ordE ((srtE L).getD j E0) ((srtE L).getD i E0) = false := by
  have h := pdq_sorts (ltOf ordE) swoE L.toArray 0 L.toArray.size (Lib.bitLen L.toArray.size) true true (Nat.zero_le _) (Nat.le_refl _) (Or.inl rfl)
  have hs : (srtA L).size = L.length := h.1.1.trans (by simp)
  have hb : ∀ j, (srtA L)[j]! = (srtE L).getD j E0 := fun j => by
    unfold srtE
    rw [List.getD_eq_getElem?_getD, Array.getElem?_toList, Array.getElem!_eq_getD, Array.getD_eq_getD_getElem?]
    rfl
  refine ⟨?_, ?_, fun i j hij hj => ?_⟩
  · unfold srtE; rw [Array.length_toList, hs]
  · have hp := h.1.2.2
    have e1 : ((srtA L).extract 0 L.toArray.size).toList = srtE L := by
      rw [← h.1.1]; unfold srtE; exact congrArg Array.toList (Array.extract_size ..)
    have e2 : (L.toArray.extract 0 L.toArray.size).toList = L := by rw [Array.extract_size]
    rw [e2] at hp
    rw [← e1]
    exact hp
  · rw [← hb, ← hb]
    exact h.2 i j (Nat.zero_le _) hij (by simpa using hj)
theorem one_encV (x : Ent) : ∀ v ∈ encV x, v.oneCell' = true := fun v hv => by
  simp only [encV, List.mem_cons, List.not_mem_nil, or_false] at hv
  rcases hv with rfl | rfl | rfl | rfl | rfl | rfl | rfl | rfl <;> rfl
theorem eight {j : Nat} (hj : j < 8) : j = 0 ∨ j = 1 ∨ j = 2 ∨ j = 3 ∨ j = 4 ∨ j = 5 ∨ j = 6 ∨ j = 7 := by omega
theorem ba_eq (s : ByteArray) : (⟨s.data.toList.toArray⟩ : ByteArray) = s := by apply ByteArray.ext; simp
theorem relC_str {w : World} {rw : Nat → Prop} {L : List UInt8} {v : Value} (h : RelC w rw v (.str L)) : v = .string ⟨L.toArray⟩ := by
  generalize hs : SV.str L = t at h
  cases h with
  | str s => cases hs; rw [ba_eq]
  | _ => cases hs
theorem relC_int {w : World} {rw : Nat → Prop} {k : IntKind} {n : Int} {v : Value} (h : RelC w rw v (.int k n)) : v = .int k n := by
  generalize hs : SV.int k n = t at h
  cases h with
  | int => cases hs; rfl
  | _ => cases hs
theorem encV_get {w : World} {rw : Nat → Prop} {e : Ent} {j : Nat} (hj : j < 8) {v : Value} (h : RelC w rw v (getAt (eE std fun _ => e) j)) : (encV e)[j]? = some v := by
  rcases eight hj with rfl | rfl | rfl | rfl | rfl | rfl | rfl | rfl
  all_goals
    simp only [eE, getAt, std_add, std_sub, std_mul, std_quo, std_rem, std_band, std_bor, std_bxor, std_shl, std_shr, std_eq, std_ne, std_lt, std_le, std_conv, std_not, std_beq, std_bne, std_ite, std_want, std_and2, std_sadd, std_seq, std_sne, std_slt, std_sle, std_sgt, std_sge, std_slen, std_sget, std_scut, std_ofNat, std_toNat, std_nsub, std_nadd, std_lenOf, std_nz, std_nneg, std_inb, std_upto, std_slt63, std_grow, std_imp, std_impN, std_tr, std_tb, std_ti, std_ts, std_tn, std_tp, std_nmin, std_nset, std_fset, std_makes, std_room, std_zeros, std_nilq, std_notq, std_eqi, std_eqn, std_eqb, std_eqs, std_eqv, std_cat, std_lst, std_rset, std_rcopy, std_shift, std_eqr, std_strOf, std_bytesOf, std_isB, std_zOf, zOf_int, std_isI, isI_int, std_getL, std_nmul, std_sOf, sOf_str, std_isS, isS_str, std_fadd, std_fsub, std_fav, std_fsv, std_feq, std_fne, std_flt, std_fle, std_fgt, std_fge, std_fOf, std_fTo, std_fTv] at h
    first
      | (rw [relC_int h]; rfl)
      | (rw [relC_str h]; rfl)
theorem encV_rel (w : World) (rw : Nat → Prop) (e : Ent) {j : Nat} (hj : j < 8) {v : Value} (h : (encV e)[j]? = some v) : RelC w rw v (getAt (eE std fun _ => e) j) := by
  rcases eight hj with rfl | rfl | rfl | rfl | rfl | rfl | rfl | rfl <;> cases h
  · exact .int _ _
  · exact .str ⟨e.r.toArray⟩
  · exact .int _ _
  · exact .str ⟨e.pan.toArray⟩
  · exact .int _ _
  · exact .str ⟨e.code.toArray⟩
  · exact .int _ _
  · exact .int _ _
theorem flat_get (L : List Ent) {i j : Nat} (hi : i < L.length) (hj : j < 8) : (flatK encV 8 L.toArray)[i * 8 + j]? = (encV (L.getD i E0))[j]? := by
  have h8 : (encV (L.getD i E0)).length = 8 := rfl
  have hlt : i * 8 + j < (flatK encV 8 L.toArray).size := by rw [size_flatK]; simp; omega
  have h := get_flatK encV 8 L.toArray (i * 8 + j) (by rw [size_flatK] at hlt; exact hlt)
  rw [show (i * 8 + j) / 8 = i by omega, show (i * 8 + j) % 8 = j by omega, getElem!_pos (flatK encV 8 L.toArray) (i * 8 + j) hlt] at h
  rw [Array.getElem?_eq_getElem hlt, h]
  have e1 : L.toArray[i]! = L.getD i E0 := by
    rw [getElem!_pos L.toArray i (by simpa using hi), List.getD_eq_getElem?_getD, List.getElem?_eq_getElem hi]
    simp
  rw [e1, List.getElem?_eq_getElem (by omega), getElem!_pos (encV (L.getD i E0)) j (by omega)]
theorem cmpE_lays (blk off size : Nat) (w : World) : CmpLays Tryz.prog 32 #[] encV 8 ordE blk off size w :=
  fun _ _ _ _ x y => all1_w x.s y.s x.st y.st x.am y.am x.tr y.tr x.ca y.ca ⟨x.r.toArray⟩ ⟨y.r.toArray⟩ ⟨x.pan.toArray⟩ ⟨y.pan.toArray⟩ ⟨x.code.toArray⟩ ⟨y.code.toArray⟩ _
theorem sort_ok (gl : Nat → SV) (n : Nat) (g : Nat → Nat → SV) (hr : isRow eE E0 8 n g) (hn0 : n ≤ 1000000) :
    GoodS Tryz.prog gl 31 30 8 n g [.clo 32 []] (rowF eE E0 std fun _ => srtE (lstOf eE E0 8 n g)) := by
  intro w ρ rw N v vs xs hrw hgl hv hown hone hrel hargs
  obtain ⟨L, hL⟩ : ∃ L, L = lstOf eE E0 8 n g := ⟨_, rfl⟩
  have hRep : Reps eE E0 8 n g L := hL ▸ hr.reps
  rw [← hL]
  clear hL hr
  have hn := hRep.1
  subst hn
  match vs, hargs with
  | [v1], ⟨r1, _⟩ =>
    have e1 : v1 = .func (.func 32) #[] #[] := by
      generalize hs : SV.clo 32 [] = t at r1
      cases r1 with
      | clo f cs l hl h hm =>
        cases hs
        have : cs = #[] := Array.eq_empty_of_size_eq_zero hl
        rw [this]
      | _ => cases hs
    subst e1
    have hxl : xs.length = L.length * 8 := hown.1
    have hxs : xs = (flatK encV 8 L.toArray).toList := by
      apply List.ext_getElem?
      intro t
      rcases Nat.lt_or_ge t (L.length * 8) with ht | ht
      · have h1 := flat_get L (i := t / 8) (j := t % 8) (by omega) (Nat.mod_lt _ (by decide))
        rw [show t / 8 * 8 + t % 8 = t by omega] at h1
        have h3 : (flatK encV 8 L.toArray).toList[t]? = (flatK encV 8 L.toArray)[t]? := Array.getElem?_toList
        rw [h3, h1, List.getElem?_eq_getElem (show t < xs.length by omega)]
        have h2 := hrel (t / 8) (t % 8) xs[t] (by omega) (Nat.mod_lt _ (by decide)) (by rw [show t / 8 * 8 + t % 8 = t by omega]; exact List.getElem?_eq_getElem (by omega))
        exact (encV_get (Nat.mod_lt _ (by decide)) (RelC.ceq (hRep.2 _ _ (by omega) (Nat.mod_lt _ (by decide))) h2)).symm
      · rw [List.getElem?_eq_none (by omega), List.getElem?_eq_none (by simp; omega)]
    rcases hown.2 with ⟨⟨a, rfl⟩, h0⟩ | ⟨blk, cap, cur, rfl, hc0, hC, hnc, hcm, hcs, htk⟩
    · have hl0 : L = [] := List.eq_nil_of_length_eq_zero h0
      subst hl0
      refine (AnyF.slices_SortFunc_none Tryz.sortEn a 0 _ w).mono fun en w' hq => ?_
      obtain ⟨rfl, rfl⟩ := hq
      exact ⟨rfl, xs, hown, hone, ⟨rfl, rfl, rfl, Nat.le_refl _, fun _ _ _ => rfl⟩, fun _ _ i j u hi => absurd hi (Nat.not_lt_zero _)⟩
    · obtain ⟨mk, hh, hmk⟩ := hC
      obtain rfl : mk = (0, 0) := by
        rcases hmk with h | ⟨_, h⟩
        · exact h
        · exact absurd h (by decide)
      have hblk : blk < w.heap.size := (Array.getElem?_eq_some_iff.1 hh).1
      have hH : HoldsK encV 8 w blk 0 L.toArray := fun t ht => by
        rw [size_flatK] at ht
        have ht' : t < L.length * 8 := by simpa using ht
        have h3 : (flatK encV 8 L.toArray)[t]? = cur[t]? := by
          have h4 : (flatK encV 8 L.toArray)[t]? = xs[t]? := by rw [hxs]; exact Array.getElem?_toList.symm
          rw [h4, ← htk, List.getElem?_take_of_lt ht', Array.getElem?_toList]
        have ht2 : t < (flatK encV 8 L.toArray).size := by rw [size_flatK]; exact ht
        refine ⟨?_, ?_⟩
        · rw [Nat.zero_add, getElem!_pos (flatK encV 8 L.toArray) t ht2, World.cell?]
          simp only [hh]
          rw [← h3, Array.getElem?_eq_getElem ht2]
          rfl
        · rw [World.frozen?]
          simp only [hh]
          simp
      have hsrt := srtE_sorts L
      have h := AnyQ.slices_SortFunc_eq Tryz.sortEn 8 Tryz.isAgg30 Tryz.sizeOf30 encV (fun _ => rfl) one_encV ordE swoE 32 #[] blk 0 cap L.toArray w (enters_of Tryz.func32 (by kernel_rfl) rfl) (cmpE_lays blk 0 L.toArray.size w) hH hblk (by simp; omega)
      rw [show L.toArray.size = L.length by simp] at h
      refine h.mono fun en w' hq => ?_
      obtain ⟨rfl, m, os, rfl⟩ := hq
      rw [show pdq (ltOf ordE) L.toArray 0 L.length (Lib.bitLen L.length) true true = srtA L by unfold srtA; rw [show L.toArray.size = L.length by simp]]
      obtain ⟨D, hD⟩ : ∃ D, D = srtE L := ⟨_, rfl⟩
      have hA : srtA L = D.toArray := by rw [hD]; unfold srtE; simp
      rw [← hD] at hsrt ⊢
      rw [hA]
      clear hD hA h
      obtain ⟨F, hF⟩ : ∃ F, F = flatK encV 8 D.toArray := ⟨_, rfl⟩
      have hFs : F.size = L.length * 8 := by rw [hF, size_flatK]; simp [hsrt.1]
      have hcl : L.length * 8 ≤ cur.size := by rw [hcs]; exact Nat.mul_le_mul_right 8 hnc
      obtain ⟨cur2, hcur2⟩ : ∃ cur2, cur2 = putCells id 0 F cur := ⟨_, rfl⟩
      have hz2 : cur2.size = cur.size := by rw [hcur2]; simp [putCells]
      have htk2 : cur2.toList.take (L.length * 8) = F.toList := by
        apply List.ext_getElem?
        intro t
        rcases Nat.lt_or_ge t (L.length * 8) with ht | ht
        · rw [List.getElem?_take_of_lt ht, Array.getElem?_toList, Array.getElem?_toList, hcur2]
          simp only [putCells, Array.getElem?_mapIdx]
          rw [Array.getElem?_eq_getElem (show t < cur.size by omega), Array.getElem?_eq_getElem (show t < F.size by omega), Option.map_some, if_pos ⟨Nat.zero_le _, by omega⟩, Nat.sub_zero, getElem!_pos F t (by omega)]
          rfl
        · rw [List.getElem?_eq_none (by rw [List.length_take]; omega), List.getElem?_eq_none (by rw [Array.length_toList, hFs]; exact ht)]
      have hhp : ∀ b, b < w.heap.size → (sortWorldK encV 8 w blk 0 m D.toArray os).heap[b]? = if b = blk then some (.cells cur2 30 (0, 0)) else w.heap[b]? := fun b hb => by
        unfold sortWorldK
        rw [heap_grow_old _ _ (by show b < (putRow id _ blk 0 _).heap.size; rw [size_putRow]; exact hb)]
        show (w.heap.modify blk (onCells (putCells id 0 (flatK encV 8 D.toArray))))[b]? = _
        rw [Array.getElem?_modify]
        by_cases e : b = blk
        · subst e
          rw [if_pos rfl, if_pos rfl, hh, hcur2, hF]
          rfl
        · rw [if_neg (fun e' => e e'.symm), if_neg e]
      refine ⟨rfl, F.toList, ⟨by rw [Array.length_toList, hFs], .inr ⟨blk, cap, cur2, rfl, hc0, .of ((hhp blk hblk).trans (if_pos rfl)), hnc, hcm, hz2.trans hcs, htk2⟩⟩, ?_, ⟨rfl, rfl, rfl, ?_, fun b hb hne => ?_⟩, ?_⟩
      · intro u hu
        obtain ⟨t, ht⟩ := List.mem_iff_getElem?.1 hu
        have hts : t < L.length * 8 := by
          have := (List.getElem?_eq_some_iff.1 ht).1
          rw [Array.length_toList, hFs] at this
          exact this
        have h1 := flat_get D (i := t / 8) (j := t % 8) (by omega) (Nat.mod_lt _ (by decide))
        rw [show t / 8 * 8 + t % 8 = t by omega, ← hF, ← Array.getElem?_toList, ht] at h1
        exact one_encV _ u (List.mem_of_getElem? h1.symm)
      · unfold sortWorldK
        rw [size_grow]
        show w.heap.size ≤ (putRow id _ blk 0 _).heap.size + _
        rw [size_putRow]
        exact Nat.le_add_right _ _
      · rw [hhp b hb, if_neg (fun e => hne (by rw [e, blkNo_slice hc0]))]
      · intro rw' _ i j u hi hj hu
        rw [Array.getElem?_toList, hF, flat_get D (by omega) hj] at hu
        exact encV_rel _ _ _ hj hu
end Go.Proofs

set_option linter.unusedVariables false
set_option linter.unusedSimpArgs false
set_option maxRecDepth 100000
set_option maxHeartbeats 8000000
namespace Go.Vd
open Go.Proofs
def rCloneT (A : Ar) (L : Unit → Tbl) : SV := .frs 40 1 (A.tn fun _ => (L ()).length) (rowF eEs [] A L)
attribute [local irreducible] vc
theorem good_CloneT (T : Tbl) (hT : T.length ≤ 1000000) : GoodP Tryz.prog gl0 56 [rowS eEs [] 1 std fun _ => T] (rCloneT std fun _ => T) := by
  refine fn_sound' (T := seatT) (G := noC) (X := noX) seatT_ok noC_ok noX_ok noI_ok mixed Tryz.func56 (.fresh 40 1) (fun A => [rowS eEs [] 1 A fun _ => T]) (fun A => rCloneT A fun _ => T) fun A hA => ?_
  cbv
  repeat' (first | with_reducible exact True.intro | with_reducible exact dr_ok hA (by kernel_rfl) | with_reducible refine And.intro ?_ ?_ | (intro hc; cbv))
  all_goals (subst hA; simp [std_add, std_sub, std_mul, std_quo, std_rem, std_band, std_bor, std_bxor, std_shl, std_shr, std_eq, std_ne, std_lt, std_le, std_conv, std_not, std_beq, std_bne, std_ite, std_want, std_and2, std_sadd, std_seq, std_sne, std_slt, std_sle, std_sgt, std_sge, std_slen, std_sget, std_scut, std_ofNat, std_toNat, std_nsub, std_nadd, std_lenOf, std_nz, std_nneg, std_inb, std_upto, std_slt63, std_grow, std_imp, std_impN, std_tr, std_tb, std_ti, std_ts, std_tn, std_tp, std_nmin, std_nset, std_fset, std_makes, std_room, std_zeros, std_nilq, std_notq, std_eqi, std_eqn, std_eqb, std_eqs, std_eqv, std_cat, std_lst, std_rset, std_rcopy, std_shift, std_eqr, std_strOf, std_bytesOf, std_isB, std_zOf, zOf_int, std_isI, isI_int, std_getL, std_nmul, std_sOf, sOf_str, std_isS, isS_str, std_fadd, std_fsub, std_fav, std_fsv, std_feq, std_fne, std_flt, std_fle, std_fgt, std_fge, std_fOf, std_fTo, std_fTv] at *)
  all_goals first
    | omega
    | (have hq := hc (by assumption); rw [hq]; rfl)
    | (have hq := hc (by assumption); rw [hq]; intro i j hi; exact absurd hi (by simp))
    | (apply eqr_of; (exact (Reps.nil.cat (Reps.lit T)).congr rfl (List.nil_append T)); (first | (simp; done) | omega | rfl); rfl)
    | trace_state
noncomputable def c_CloneT : Ct := fun A args => match args with
  | [.slc n 1 f] => some (some (A.tp fun _ => isRow eEs [] 1 n f ∧ n ≤ 1000000), rCloneT A fun _ => lstOf eEs [] 1 n f)
  | _ => none
theorem good_CloneN (L : List Ent) (hL : L.length ≤ 1000000) : GoodP Tryz.prog gl0 57 [rowS eE E0 8 std fun _ => L] (rowS eE E0 8 std fun _ => L) := by
  refine fn_sound' (T := seatT) (G := noC) (X := noX) seatT_ok noC_ok noX_ok noI_ok mixed Tryz.func57 (.none) (fun A => [rowS eE E0 8 A fun _ => L]) (fun A => rowS eE E0 8 A fun _ => L) fun A hA => ?_
  cbv
  repeat' (first | with_reducible exact True.intro | with_reducible exact dr_ok hA (by kernel_rfl) | with_reducible refine And.intro ?_ ?_ | (intro hc; cbv))
  all_goals (subst hA; simp [std_add, std_sub, std_mul, std_quo, std_rem, std_band, std_bor, std_bxor, std_shl, std_shr, std_eq, std_ne, std_lt, std_le, std_conv, std_not, std_beq, std_bne, std_ite, std_want, std_and2, std_sadd, std_seq, std_sne, std_slt, std_sle, std_sgt, std_sge, std_slen, std_sget, std_scut, std_ofNat, std_toNat, std_nsub, std_nadd, std_lenOf, std_nz, std_nneg, std_inb, std_upto, std_slt63, std_grow, std_imp, std_impN, std_tr, std_tb, std_ti, std_ts, std_tn, std_tp, std_nmin, std_nset, std_fset, std_makes, std_room, std_zeros, std_nilq, std_notq, std_eqi, std_eqn, std_eqb, std_eqs, std_eqv, std_cat, std_lst, std_rset, std_rcopy, std_shift, std_eqr, std_strOf, std_bytesOf, std_isB, std_zOf, zOf_int, std_isI, isI_int, std_getL, std_nmul, std_sOf, sOf_str, std_isS, isS_str, std_fadd, std_fsub, std_fav, std_fsv, std_feq, std_fne, std_flt, std_fle, std_fgt, std_fge, std_fOf, std_fTo, std_fTv] at *)
  all_goals first
    | omega
    | (have hq := hc (by assumption); rw [hq]; rfl)
    | (have hq := hc (by assumption); rw [hq]; intro i j hi; exact absurd hi (by simp))
    | (apply eqr_of; (exact (Reps.nil.cat (Reps.lit L)).congr rfl (List.nil_append L)); (first | (simp; done) | omega | rfl); rfl)
    | trace_state
noncomputable def c_CloneN : Ct := fun A args => match args with
  | [.slc n 8 f] => some (some (A.tp fun _ => isRow eE E0 8 n f ∧ n ≤ 1000000), rowS eE E0 8 A fun _ => lstOf eE E0 8 n f)
  | _ => none
noncomputable def gv3 : Ar → Pu := addC 56 c_CloneT (addC 57 c_CloneN (gv2))
theorem gv3_ok : PuOk Tryz.prog gl0 (gv3 std) := by
  refine addC_ok (addC_ok (gv2_ok) ⟨_, Tryz.func57, rfl, by decide⟩ ?_) ⟨_, Tryz.func56, rfl, by decide⟩ ?_
  · intro args p r h hp
    unfold c_CloneN at h
    split at h <;> cases h
    exact good_sv (good_CloneN _ (by rw [lstOf_length hp.1]; exact hp.2)) ⟨hp.1.sv, trivial⟩
  · intro args p r h hp
    unfold c_CloneT at h
    split at h <;> cases h
    exact good_sv (good_CloneT _ (by rw [lstOf_length hp.1]; exact hp.2)) ⟨hp.1.sv, trivial⟩
theorem cell_T {T : Tbl} {i n : Nat} {f : Nat → Nat → SV} (h : Reps eE E0 8 n f (T.getD i [])) : ∀ j, j < 1 → Ceq (getAt [SV.slc n 8 f] j) (getAt (eEs std fun _ => T.getD i []) j) := cell_eEs h
theorem good_fTable (m : Int) (T : Tbl) (hQ : tbQ T) : GoodP Tryz.prog gl0 34 [.agg [.int .i64 m, rowS eEs [] 1 std fun _ => T]] (.agg [.int .i64 m, rCloneT std fun _ => T]) := by
  refine fn_sound' (T := seatT) (G := gv3) (X := noX) seatT_ok gv3_ok noX_ok noI_ok mixed Tryz.func34 (.one) (fun A => [.agg [.int .i64 m, rowS eEs [] 1 A fun _ => T]]) (fun A => .agg [.int .i64 m, rCloneT A fun _ => T]) fun A hA => ?_
  cbv
  repeat' (first | with_reducible exact True.intro | with_reducible exact dr_ok hA (by kernel_rfl) | with_reducible refine And.intro ?_ ?_ | (intro hc; cbv))
  · subst hA
    simp only [std_add, std_sub, std_mul, std_quo, std_rem, std_band, std_bor, std_bxor, std_shl, std_shr, std_eq, std_ne, std_lt, std_le, std_conv, std_not, std_beq, std_bne, std_ite, std_want, std_and2, std_sadd, std_seq, std_sne, std_slt, std_sle, std_sgt, std_sge, std_slen, std_sget, std_scut, std_ofNat, std_toNat, std_nsub, std_nadd, std_lenOf, std_nz, std_nneg, std_inb, std_upto, std_slt63, std_grow, std_imp, std_impN, std_tr, std_tb, std_ti, std_ts, std_tn, std_tp, std_nmin, std_nset, std_fset, std_makes, std_room, std_zeros, std_nilq, std_notq, std_eqi, std_eqn, std_eqb, std_eqs, std_eqv, std_cat, std_lst, std_rset, std_rcopy, std_shift, std_eqr, std_strOf, std_bytesOf, std_isB, std_zOf, zOf_int, std_isI, isI_int, std_getL, std_nmul, std_sOf, sOf_str, std_isS, isS_str, std_fadd, std_fsub, std_fav, std_fsv, std_feq, std_fne, std_flt, std_fle, std_fgt, std_fge, std_fOf, std_fTo, std_fTv, isRow_T]
    exact ⟨trivial, hQ.1⟩
  obtain ⟨n0, hn0⟩ : ∃ n0, n0 = T.length := ⟨_, rfl⟩
  refine ⟨⟨{i : Nat // i ≤ T.length}, fun b i => [(10, .own 4), (11, .int .i64 (n0 : Nat)), (12, .int .i64 (i.1 : Nat))], fun b i => [(4, .row 40 1 (A.tn fun _ => T.length) (rowF eEs [] A fun _ => T)), (0, .box 24 [.int .i64 m, .own 4])], fun i => T.length - i.1, true⟩, ⟨⟨0, by omega⟩, ?_⟩, ?_⟩
  · cbv
    subst hA
    simp [-List.getD_eq_getElem?_getD, std_add, std_sub, std_mul, std_quo, std_rem, std_band, std_bor, std_bxor, std_shl, std_shr, std_eq, std_ne, std_lt, std_le, std_conv, std_not, std_beq, std_bne, std_ite, std_want, std_and2, std_sadd, std_seq, std_sne, std_slt, std_sle, std_sgt, std_sge, std_slen, std_sget, std_scut, std_ofNat, std_toNat, std_nsub, std_nadd, std_lenOf, std_nz, std_nneg, std_inb, std_upto, std_slt63, std_grow, std_imp, std_impN, std_tr, std_tb, std_ti, std_ts, std_tn, std_tp, std_nmin, std_nset, std_fset, std_makes, std_room, std_zeros, std_nilq, std_notq, std_eqi, std_eqn, std_eqb, std_eqs, std_eqv, std_cat, std_lst, std_rset, std_rcopy, std_shift, std_eqr, std_strOf, std_bytesOf, std_isB, std_zOf, zOf_int, std_isI, isI_int, std_getL, std_nmul, std_sOf, sOf_str, std_isS, isS_str, std_fadd, std_fsub, std_fav, std_fsv, std_feq, std_fne, std_flt, std_fle, std_fgt, std_fge, std_fOf, std_fTo, std_fTv, lstOf_T, hn0]
  · rintro ⟨i, hi⟩
    have hT := hQ.1
    have hTi := hQ.2.1 i
    rcases Nat.lt_or_ge i T.length with hlt | hge
    · obtain ⟨i', hi'⟩ : ∃ i', i' = i + 1 := ⟨_, rfl⟩
      cbv
      repeat' (first | with_reducible exact True.intro | with_reducible exact dr_ok hA (by kernel_rfl) | with_reducible refine And.intro ?_ ?_ | (intro hc; cbv))
      all_goals first
        | (fail_if_success (refine Exists.intro ?_ ?_)
           subst hA
           simp only [std_add, std_sub, std_mul, std_quo, std_rem, std_band, std_bor, std_bxor, std_shl, std_shr, std_eq, std_ne, std_lt, std_le, std_conv, std_not, std_beq, std_bne, std_ite, std_want, std_and2, std_sadd, std_seq, std_sne, std_slt, std_sle, std_sgt, std_sge, std_slen, std_sget, std_scut, std_ofNat, std_toNat, std_nsub, std_nadd, std_lenOf, std_nz, std_nneg, std_inb, std_upto, std_slt63, std_grow, std_imp, std_impN, std_tr, std_tb, std_ti, std_ts, std_tn, std_tp, std_nmin, std_nset, std_fset, std_makes, std_room, std_zeros, std_nilq, std_notq, std_eqi, std_eqn, std_eqb, std_eqs, std_eqv, std_cat, std_lst, std_rset, std_rcopy, std_shift, std_eqr, std_strOf, std_bytesOf, std_isB, std_zOf, zOf_int, std_isI, isI_int, std_getL, std_nmul, std_sOf, sOf_str, std_isS, isS_str, std_fadd, std_fsub, std_fav, std_fsv, std_feq, std_fne, std_flt, std_fle, std_fgt, std_fge, std_fOf, std_fTo, std_fTv, Int.ofNat_eq_natCast, Int.toNat_natCast, isRow_V, lstOf_V, isRow_T, lstOf_T] at *
           first
             | exact ⟨trivial, hTi⟩
             | (constructor <;> omega))
        | (exfalso
           subst hA
           simp only [std_add, std_sub, std_mul, std_quo, std_rem, std_band, std_bor, std_bxor, std_shl, std_shr, std_eq, std_ne, std_lt, std_le, std_conv, std_not, std_beq, std_bne, std_ite, std_want, std_and2, std_sadd, std_seq, std_sne, std_slt, std_sle, std_sgt, std_sge, std_slen, std_sget, std_scut, std_ofNat, std_toNat, std_nsub, std_nadd, std_lenOf, std_nz, std_nneg, std_inb, std_upto, std_slt63, std_grow, std_imp, std_impN, std_tr, std_tb, std_ti, std_ts, std_tn, std_tp, std_nmin, std_nset, std_fset, std_makes, std_room, std_zeros, std_nilq, std_notq, std_eqi, std_eqn, std_eqb, std_eqs, std_eqv, std_cat, std_lst, std_rset, std_rcopy, std_shift, std_eqr, std_strOf, std_bytesOf, std_isB, std_zOf, zOf_int, std_isI, isI_int, std_getL, std_nmul, std_sOf, sOf_str, std_isS, isS_str, std_fadd, std_fsub, std_fav, std_fsv, std_feq, std_fne, std_flt, std_fle, std_fgt, std_fge, std_fOf, std_fTo, std_fTv, Int.ofNat_eq_natCast, Int.toNat_natCast, isRow_V, lstOf_V, isRow_T, lstOf_T] at *
           have := of_decide_eq_false hc
           omega)
        | (refine ⟨⟨i', by omega⟩, ?_, show T.length - i' < T.length - i by omega⟩
           cbv
           subst hA
           simp [-List.getD_eq_getElem?_getD, std_add, std_sub, std_mul, std_quo, std_rem, std_band, std_bor, std_bxor, std_shl, std_shr, std_eq, std_ne, std_lt, std_le, std_conv, std_not, std_beq, std_bne, std_ite, std_want, std_and2, std_sadd, std_seq, std_sne, std_slt, std_sle, std_sgt, std_sge, std_slen, std_sget, std_scut, std_ofNat, std_toNat, std_nsub, std_nadd, std_lenOf, std_nz, std_nneg, std_inb, std_upto, std_slt63, std_grow, std_imp, std_impN, std_tr, std_tb, std_ti, std_ts, std_tn, std_tp, std_nmin, std_nset, std_fset, std_makes, std_room, std_zeros, std_nilq, std_notq, std_eqi, std_eqn, std_eqb, std_eqs, std_eqv, std_cat, std_lst, std_rset, std_rcopy, std_shift, std_eqr, std_strOf, std_bytesOf, std_isB, std_zOf, zOf_int, std_isI, isI_int, std_getL, std_nmul, std_sOf, sOf_str, std_isS, isS_str, std_fadd, std_fsub, std_fav, std_fsv, std_feq, std_fne, std_flt, std_fle, std_fgt, std_fge, std_fOf, std_fTo, std_fTv]
           refine ⟨w_succ' hi' (by omega), ?_⟩
           have h := (Reps.lit (enc := eEs) (d := []) (k := 1) T).rset' (i := i) hlt (T.getD i []) (l := [SV.slc _ 8 _]) rfl (cell_T (Reps.lit (enc := eE) (d := E0) (k := 8) (T.getD i [])))
           rw [set_getD] at h
           first
             | exact h.eqr
             | (simp only [lstOf_V]; exact h.eqr)
             | trace_state)
        | trace_state
    · have hie : i = T.length := by omega
      cbv
      repeat' (first | with_reducible exact True.intro | with_reducible exact dr_ok hA (by kernel_rfl) | with_reducible refine And.intro ?_ ?_ | (intro hc; cbv))
      all_goals first
        | (exfalso
           subst hA
           simp only [std_add, std_sub, std_mul, std_quo, std_rem, std_band, std_bor, std_bxor, std_shl, std_shr, std_eq, std_ne, std_lt, std_le, std_conv, std_not, std_beq, std_bne, std_ite, std_want, std_and2, std_sadd, std_seq, std_sne, std_slt, std_sle, std_sgt, std_sge, std_slen, std_sget, std_scut, std_ofNat, std_toNat, std_nsub, std_nadd, std_lenOf, std_nz, std_nneg, std_inb, std_upto, std_slt63, std_grow, std_imp, std_impN, std_tr, std_tb, std_ti, std_ts, std_tn, std_tp, std_nmin, std_nset, std_fset, std_makes, std_room, std_zeros, std_nilq, std_notq, std_eqi, std_eqn, std_eqb, std_eqs, std_eqv, std_cat, std_lst, std_rset, std_rcopy, std_shift, std_eqr, std_strOf, std_bytesOf, std_isB, std_zOf, zOf_int, std_isI, isI_int, std_getL, std_nmul, std_sOf, sOf_str, std_isS, isS_str, std_fadd, std_fsub, std_fav, std_fsv, std_feq, std_fne, std_flt, std_fle, std_fgt, std_fge, std_fOf, std_fTo, std_fTv, Int.ofNat_eq_natCast, Int.toNat_natCast, isRow_V, lstOf_V, isRow_T, lstOf_T] at *
           have hq : decide ((i : Int) < (n0 : Int)) = true := by assumption
           have := of_decide_eq_true hq
           omega)
        | (subst hA; simp [std_add, std_sub, std_mul, std_quo, std_rem, std_band, std_bor, std_bxor, std_shl, std_shr, std_eq, std_ne, std_lt, std_le, std_conv, std_not, std_beq, std_bne, std_ite, std_want, std_and2, std_sadd, std_seq, std_sne, std_slt, std_sle, std_sgt, std_sge, std_slen, std_sget, std_scut, std_ofNat, std_toNat, std_nsub, std_nadd, std_lenOf, std_nz, std_nneg, std_inb, std_upto, std_slt63, std_grow, std_imp, std_impN, std_tr, std_tb, std_ti, std_ts, std_tn, std_tp, std_nmin, std_nset, std_fset, std_makes, std_room, std_zeros, std_nilq, std_notq, std_eqi, std_eqn, std_eqb, std_eqs, std_eqv, std_cat, std_lst, std_rset, std_rcopy, std_shift, std_eqr, std_strOf, std_bytesOf, std_isB, std_zOf, zOf_int, std_isI, isI_int, std_getL, std_nmul, std_sOf, sOf_str, std_isS, isS_str, std_fadd, std_fsub, std_fav, std_fsv, std_feq, std_fne, std_flt, std_fle, std_fgt, std_fge, std_fOf, std_fTo, std_fTv]; done)
        | trace_state
theorem flat_snoc {T : Tbl} {i : Nat} (hi : i < T.length) : (T.take (i + 1)).flatten = (T.take i).flatten ++ T.getD i [] := by
  rw [← take_snoc (d := []) hi, List.flatten_append]
  simp
theorem flat_len (T : Tbl) : T.flatten.length = cnt T := by unfold cnt; rw [List.length_flatten]
theorem good_together (T : Tbl) (hT : T.length ≤ 1000000) (hTi : ∀ i, (T.getD i []).length ≤ 1000000) (hc0 : cnt T ≤ 1000000) : GoodP Tryz.prog gl0 30 [rowS eEs [] 1 std fun _ => T] (rCloneE std fun _ => T.flatten) := by
  refine fn_sound' (T := seatT) (G := noC) (X := noX) seatT_ok noC_ok noX_ok noI_ok mixed Tryz.func30 (.fresh 30 8) (fun A => [rowS eEs [] 1 A fun _ => T]) (fun A => rCloneE A fun _ => T.flatten) fun A hA => ?_
  cbv
  repeat' (first | with_reducible exact True.intro | with_reducible exact dr_ok hA (by kernel_rfl) | with_reducible refine And.intro ?_ ?_ | (intro hc; cbv))
  refine ⟨⟨{p : Nat × List Ent // p.1 ≤ T.length ∧ p.2 = (T.take p.1).flatten}, fun b p => [(3, .own b), (8, .int .i64 (p.1.1 : Nat))], fun b p => [(b, .row 30 8 (A.tn fun _ => p.1.2.length) (rowF eE E0 A fun _ => p.1.2))], fun p => T.length - p.1.1, true⟩, ⟨⟨(0, []), Nat.zero_le _, rfl⟩, ?_⟩, ?_⟩
  · cbv
    subst hA
    simp [-List.getD_eq_getElem?_getD, std_add, std_sub, std_mul, std_quo, std_rem, std_band, std_bor, std_bxor, std_shl, std_shr, std_eq, std_ne, std_lt, std_le, std_conv, std_not, std_beq, std_bne, std_ite, std_want, std_and2, std_sadd, std_seq, std_sne, std_slt, std_sle, std_sgt, std_sge, std_slen, std_sget, std_scut, std_ofNat, std_toNat, std_nsub, std_nadd, std_lenOf, std_nz, std_nneg, std_inb, std_upto, std_slt63, std_grow, std_imp, std_impN, std_tr, std_tb, std_ti, std_ts, std_tn, std_tp, std_nmin, std_nset, std_fset, std_makes, std_room, std_zeros, std_nilq, std_notq, std_eqi, std_eqn, std_eqb, std_eqs, std_eqv, std_cat, std_lst, std_rset, std_rcopy, std_shift, std_eqr, std_strOf, std_bytesOf, std_isB, std_zOf, zOf_int, std_isI, isI_int, std_getL, std_nmul, std_sOf, sOf_str, std_isS, isS_str, std_fadd, std_fsub, std_fav, std_fsv, std_feq, std_fne, std_flt, std_fle, std_fgt, std_fge, std_fOf, std_fTo, std_fTv]
  · rintro ⟨⟨i, M⟩, hx⟩
    have hi : i ≤ T.length := hx.1
    have hM : M = (T.take i).flatten := hx.2
    have hTl := hTi i
    have hMl : M.length = cnt (T.take i) := by rw [hM, flat_len]
    have hcl := cnt_take T i
    rcases Nat.lt_or_ge i T.length with hlt | hge
    · obtain ⟨i', hi'⟩ : ∃ i', i' = i + 1 := ⟨_, rfl⟩
      obtain ⟨M', hM'⟩ : ∃ M', M' = M ++ T.getD i [] := ⟨_, rfl⟩
      have hMM : M' = (T.take i').flatten := by rw [hM', hi', flat_snoc hlt, hM]
      cbv
      repeat' (first | with_reducible exact True.intro | with_reducible exact dr_ok hA (by kernel_rfl) | with_reducible refine And.intro ?_ ?_ | (intro hc; cbv))
      all_goals first
        | (fail_if_success (refine Exists.intro ?_ ?_)
           subst hA
           simp only [std_add, std_sub, std_mul, std_quo, std_rem, std_band, std_bor, std_bxor, std_shl, std_shr, std_eq, std_ne, std_lt, std_le, std_conv, std_not, std_beq, std_bne, std_ite, std_want, std_and2, std_sadd, std_seq, std_sne, std_slt, std_sle, std_sgt, std_sge, std_slen, std_sget, std_scut, std_ofNat, std_toNat, std_nsub, std_nadd, std_lenOf, std_nz, std_nneg, std_inb, std_upto, std_slt63, std_grow, std_imp, std_impN, std_tr, std_tb, std_ti, std_ts, std_tn, std_tp, std_nmin, std_nset, std_fset, std_makes, std_room, std_zeros, std_nilq, std_notq, std_eqi, std_eqn, std_eqb, std_eqs, std_eqv, std_cat, std_lst, std_rset, std_rcopy, std_shift, std_eqr, std_strOf, std_bytesOf, std_isB, std_zOf, zOf_int, std_isI, isI_int, std_getL, std_nmul, std_sOf, sOf_str, std_isS, isS_str, std_fadd, std_fsub, std_fav, std_fsv, std_feq, std_fne, std_flt, std_fle, std_fgt, std_fge, std_fOf, std_fTo, std_fTv, Int.ofNat_eq_natCast, Int.toNat_natCast, isRow_V, lstOf_V, isRow_T, lstOf_T] at *
           first
             | (constructor <;> omega)
             | omega)
        | (exfalso
           subst hA
           simp only [std_add, std_sub, std_mul, std_quo, std_rem, std_band, std_bor, std_bxor, std_shl, std_shr, std_eq, std_ne, std_lt, std_le, std_conv, std_not, std_beq, std_bne, std_ite, std_want, std_and2, std_sadd, std_seq, std_sne, std_slt, std_sle, std_sgt, std_sge, std_slen, std_sget, std_scut, std_ofNat, std_toNat, std_nsub, std_nadd, std_lenOf, std_nz, std_nneg, std_inb, std_upto, std_slt63, std_grow, std_imp, std_impN, std_tr, std_tb, std_ti, std_ts, std_tn, std_tp, std_nmin, std_nset, std_fset, std_makes, std_room, std_zeros, std_nilq, std_notq, std_eqi, std_eqn, std_eqb, std_eqs, std_eqv, std_cat, std_lst, std_rset, std_rcopy, std_shift, std_eqr, std_strOf, std_bytesOf, std_isB, std_zOf, zOf_int, std_isI, isI_int, std_getL, std_nmul, std_sOf, sOf_str, std_isS, isS_str, std_fadd, std_fsub, std_fav, std_fsv, std_feq, std_fne, std_flt, std_fle, std_fgt, std_fge, std_fOf, std_fTo, std_fTv, Int.ofNat_eq_natCast, Int.toNat_natCast, isRow_V, lstOf_V, isRow_T, lstOf_T] at *
           have := of_decide_eq_false hc
           omega)
        | (refine ⟨⟨(i', M'), by omega, hMM⟩, ?_, show T.length - i' < T.length - i by omega⟩
           cbv
           subst hA
           simp [-List.getD_eq_getElem?_getD, std_add, std_sub, std_mul, std_quo, std_rem, std_band, std_bor, std_bxor, std_shl, std_shr, std_eq, std_ne, std_lt, std_le, std_conv, std_not, std_beq, std_bne, std_ite, std_want, std_and2, std_sadd, std_seq, std_sne, std_slt, std_sle, std_sgt, std_sge, std_slen, std_sget, std_scut, std_ofNat, std_toNat, std_nsub, std_nadd, std_lenOf, std_nz, std_nneg, std_inb, std_upto, std_slt63, std_grow, std_imp, std_impN, std_tr, std_tb, std_ti, std_ts, std_tn, std_tp, std_nmin, std_nset, std_fset, std_makes, std_room, std_zeros, std_nilq, std_notq, std_eqi, std_eqn, std_eqb, std_eqs, std_eqv, std_cat, std_lst, std_rset, std_rcopy, std_shift, std_eqr, std_strOf, std_bytesOf, std_isB, std_zOf, zOf_int, std_isI, isI_int, std_getL, std_nmul, std_sOf, sOf_str, std_isS, isS_str, std_fadd, std_fsub, std_fav, std_fsv, std_feq, std_fne, std_flt, std_fle, std_fgt, std_fge, std_fOf, std_fTo, std_fTv]
           refine ⟨w_succ' hi' (by omega), ?_, ?_⟩
           · rw [hM']; simp
           · exact eqr_of ((Reps.lit M).cat (Reps.lit (T.getD i []))) (by rw [hM']; simp) hM'.symm)
        | trace_state
    · have hie : i = T.length := by omega
      rw [hie, List.take_length] at hM
      cbv
      repeat' (first | with_reducible exact True.intro | with_reducible exact dr_ok hA (by kernel_rfl) | with_reducible refine And.intro ?_ ?_ | (intro hc; cbv))
      all_goals first
        | (exfalso
           subst hA
           simp only [std_add, std_sub, std_mul, std_quo, std_rem, std_band, std_bor, std_bxor, std_shl, std_shr, std_eq, std_ne, std_lt, std_le, std_conv, std_not, std_beq, std_bne, std_ite, std_want, std_and2, std_sadd, std_seq, std_sne, std_slt, std_sle, std_sgt, std_sge, std_slen, std_sget, std_scut, std_ofNat, std_toNat, std_nsub, std_nadd, std_lenOf, std_nz, std_nneg, std_inb, std_upto, std_slt63, std_grow, std_imp, std_impN, std_tr, std_tb, std_ti, std_ts, std_tn, std_tp, std_nmin, std_nset, std_fset, std_makes, std_room, std_zeros, std_nilq, std_notq, std_eqi, std_eqn, std_eqb, std_eqs, std_eqv, std_cat, std_lst, std_rset, std_rcopy, std_shift, std_eqr, std_strOf, std_bytesOf, std_isB, std_zOf, zOf_int, std_isI, isI_int, std_getL, std_nmul, std_sOf, sOf_str, std_isS, isS_str, std_fadd, std_fsub, std_fav, std_fsv, std_feq, std_fne, std_flt, std_fle, std_fgt, std_fge, std_fOf, std_fTo, std_fTv, Int.ofNat_eq_natCast, Int.toNat_natCast, isRow_V, lstOf_V, isRow_T, lstOf_T] at *
           have hq : decide ((i : Int) < (T.length : Int)) = true := by assumption
           have := of_decide_eq_true hq
           omega)
        | (subst hA
           simp only [std_add, std_sub, std_mul, std_quo, std_rem, std_band, std_bor, std_bxor, std_shl, std_shr, std_eq, std_ne, std_lt, std_le, std_conv, std_not, std_beq, std_bne, std_ite, std_want, std_and2, std_sadd, std_seq, std_sne, std_slt, std_sle, std_sgt, std_sge, std_slen, std_sget, std_scut, std_ofNat, std_toNat, std_nsub, std_nadd, std_lenOf, std_nz, std_nneg, std_inb, std_upto, std_slt63, std_grow, std_imp, std_impN, std_tr, std_tb, std_ti, std_ts, std_tn, std_tp, std_nmin, std_nset, std_fset, std_makes, std_room, std_zeros, std_nilq, std_notq, std_eqi, std_eqn, std_eqb, std_eqs, std_eqv, std_cat, std_lst, std_rset, std_rcopy, std_shift, std_eqr, std_strOf, std_bytesOf, std_isB, std_zOf, zOf_int, std_isI, isI_int, std_getL, std_nmul, std_sOf, sOf_str, std_isS, isS_str, std_fadd, std_fsub, std_fav, std_fsv, std_feq, std_fne, std_flt, std_fle, std_fgt, std_fge, std_fOf, std_fTo, std_fTv]
           rw [hM]
           first
             | done
             | exact (Reps.lit _).eqr)
        | trace_state
noncomputable def c_together : Ct := fun A args => match args with
  | [.slc n 1 f] => some (some (A.tp fun _ => isRow eEs [] 1 n f ∧ n ≤ 1000000 ∧ (∀ i, ((lstOf eEs [] 1 n f).getD i []).length ≤ 1000000) ∧ cnt (lstOf eEs [] 1 n f) ≤ 1000000), rCloneE A fun _ => (lstOf eEs [] 1 n f).flatten)
  | _ => none
noncomputable def c_fTable : Ct := fun A args => match args with
  | [.agg [.int .i64 m, .slc n 1 f]] => some (some (A.tp fun _ => isRow eEs [] 1 n f ∧ tbQ (lstOf eEs [] 1 n f)), .agg [.int .i64 m, rCloneT A fun _ => lstOf eEs [] 1 n f])
  | _ => none
noncomputable def gv4 : Ar → Pu := addC 30 c_together (addC 34 c_fTable (gv3))
theorem gv4_ok : PuOk Tryz.prog gl0 (gv4 std) := by
  refine addC_ok (addC_ok (gv3_ok) ⟨_, Tryz.func34, rfl, by decide⟩ ?_) ⟨_, Tryz.func30, rfl, by decide⟩ ?_
  · intro args p r h hp
    unfold c_fTable at h
    split at h <;> cases h
    exact good_sv (good_fTable _ _ hp.2) ⟨⟨_, rfl, rfl, hp.1.sv, trivial⟩, trivial⟩
  · intro args p r h hp
    unfold c_together at h
    split at h <;> cases h
    exact good_sv (good_together _ (by rw [lstOf_length hp.1]; exact hp.2.1) hp.2.2.1 hp.2.2.2) ⟨hp.1.sv, trivial⟩
end Go.Vd

set_option linter.unusedVariables false
set_option linter.unusedSimpArgs false
set_option maxRecDepth 100000
set_option maxHeartbeats 8000000
namespace Go.Vd
open Go.Proofs
/-- slices.SortFunc of entries by their keys. -/
noncomputable def srtX : Ar → Xt := fun A => { meth := fun _ _ => none, sl := [31], wt := fun f e k n g rest => bif Nat.beq f 31 && (Nat.beq e 30 && Nat.beq k 8) then (match rest with
  | [.clo c []] => bif Nat.beq c 32 then some (some (A.tp fun _ => isRow eE E0 8 n g ∧ n ≤ 1000000), n, rowF eE E0 A fun _ => srtE (lstOf eE E0 8 n g)) else none
  | _ => none) else none }
theorem srtX_ok : XtOk Tryz.prog gl0 (srtX std) := by
  refine ⟨(fun t name f h => by cases h), ?_⟩
  intro f e k n g rest p n' g' hw hp
  unfold srtX at hw
  simp only at hw
  cases hb : (Nat.beq f 31 && (Nat.beq e 30 && Nat.beq k 8)) <;> rw [hb] at hw <;> simp only [cond_true, cond_false, reduceCtorEq] at hw
  simp only [Bool.and_eq_true] at hb
  obtain rfl := Nat.eq_of_beq_eq_true hb.1
  obtain rfl := Nat.eq_of_beq_eq_true hb.2.1
  obtain rfl := Nat.eq_of_beq_eq_true hb.2.2
  split at hw
  · rename_i c
    cases hb2 : Nat.beq c 32 <;> rw [hb2] at hw <;> simp only [cond_true, cond_false, reduceCtorEq, Option.some.injEq, Prod.mk.injEq] at hw
    obtain rfl := Nat.eq_of_beq_eq_true hb2
    obtain ⟨rfl, rfl, rfl⟩ := hw
    refine ⟨⟨_, Tryz.func31, rfl, by decide⟩, ?_⟩
    have h2 := sort_ok gl0 n g hp.1 hp.2
    rw [show inW 31 (srtX std).sl = true from rfl]
    exact h2
  · cases hw
noncomputable def allT (m : Int) (T : Tbl) : List Ent := if tbR m T = true then srtE T.flatten else []
theorem all_y {m : Int} {T : Tbl} (h : tbR m T = true) : allT m T = srtE T.flatten := by unfold allT; rw [if_pos h]
theorem all_n {m : Int} {T : Tbl} (h : tbR m T = false) : allT m T = [] := by unfold allT; rw [h]; rfl
theorem tbR_cnt {m : Int} {T : Tbl} (h : tbR m T = true) : cnt T ≤ 128 ∧ (cnt T : Int) ≤ m ∧ T.length ≤ 16 ∧ 1 ≤ T.length := by
  unfold tbR szR at h
  simp only [Bool.and_eq_true, decide_eq_true_eq] at h
  omega
attribute [local irreducible] vc
theorem good_tAll (m : Int) (T : Tbl) (hQ : tbQ T) : GoodP Tryz.prog gl0 16 [.agg [.int .i64 m, rowS eEs [] 1 std fun _ => T]] (rowS eE E0 8 std fun _ => allT m T) := by
  refine fn_sound' (T := seatT) (G := gv4) (X := srtX) seatT_ok gv4_ok srtX_ok noI_ok mixed Tryz.func16 (.none) (fun A => [.agg [.int .i64 m, rowS eEs [] 1 A fun _ => T]]) (fun A => rowS eE E0 8 A fun _ => allT m T) fun A hA => ?_
  cbv
  repeat' (first | with_reducible exact True.intro | with_reducible exact dr_ok hA (by kernel_rfl) | with_reducible refine And.intro ?_ ?_ | (intro hc; cbv))
  all_goals (subst hA; simp only [std_add, std_sub, std_mul, std_quo, std_rem, std_band, std_bor, std_bxor, std_shl, std_shr, std_eq, std_ne, std_lt, std_le, std_conv, std_not, std_beq, std_bne, std_ite, std_want, std_and2, std_sadd, std_seq, std_sne, std_slt, std_sle, std_sgt, std_sge, std_slen, std_sget, std_scut, std_ofNat, std_toNat, std_nsub, std_nadd, std_lenOf, std_nz, std_nneg, std_inb, std_upto, std_slt63, std_grow, std_imp, std_impN, std_tr, std_tb, std_ti, std_ts, std_tn, std_tp, std_nmin, std_nset, std_fset, std_makes, std_room, std_zeros, std_nilq, std_notq, std_eqi, std_eqn, std_eqb, std_eqs, std_eqv, std_cat, std_lst, std_rset, std_rcopy, std_shift, std_eqr, std_strOf, std_bytesOf, std_isB, std_zOf, zOf_int, std_isI, isI_int, std_getL, std_nmul, std_sOf, sOf_str, std_isS, isS_str, std_fadd, std_fsub, std_fav, std_fsv, std_feq, std_fne, std_flt, std_fle, std_fgt, std_fge, std_fOf, std_fTo, std_fTv, isRow_T, lstOf_T, isRow_V, lstOf_V] at *)
  all_goals first
    | exact ⟨trivial, hQ⟩
    | (have h1 := all_n (nb_f hc)
       first
         | (rw [h1]; rfl)
         | (rw [h1]; simp))
    | (have hR := nb_t hc
       have h1 := all_y hR
       have h2 := tbR_cnt hR
       have h3 := flat_len T
       have h4 := (srtE_sorts T.flatten).1
       first
         | exact ⟨trivial, hQ.1, hQ.2.1, by omega⟩
         | exact ⟨trivial, by omega⟩
         | (rw [h1, h4]; done)
         | (rw [h1, h4]; exact (Reps.lit _).eqr' h4.symm)
         | (rw [h1]; exact (Reps.lit _).eqr' h4)
         | trace_state)
    | trace_state
end Go.Vd

set_option linter.unusedVariables false
set_option linter.unusedSimpArgs false
set_option maxRecDepth 100000
set_option maxHeartbeats 8000000
namespace Go.Vd
open Go.Proofs
noncomputable def c_tAll : Ct := fun A args => match args with
  | [.agg [.int .i64 m, .slc n 1 f]] => some (some (A.tp fun _ => isRow eEs [] 1 n f ∧ tbQ (lstOf eEs [] 1 n f)), rowS eE E0 8 A fun _ => allT m (lstOf eEs [] 1 n f))
  | _ => none
noncomputable def gv5 : Ar → Pu := addC 16 c_tAll (gv4)
theorem gv5_ok : PuOk Tryz.prog gl0 (gv5 std) := by
  refine addC_ok (gv4_ok) ⟨_, Tryz.func16, rfl, by decide⟩ ?_
  · intro args p r h hp
    unfold c_tAll at h
    split at h <;> cases h
    exact good_sv (good_tAll _ _ hp.2) ⟨⟨_, rfl, rfl, hp.1.sv, trivial⟩, trivial⟩
theorem shardI_in (s : Int) (r : List UInt8) (n : Int) : shardI s r n = -1 ∨ (keyOk s r = true ∧ 0 ≤ shardI s r n ∧ shardI s r n < n) := by
  unfold shardI
  by_cases h : keyOk s r = true ∧ 1 ≤ n ∧ n ≤ 16
  · rw [if_pos h]
    right
    refine ⟨h.1, Int.natCast_nonneg _, ?_⟩
    have := Nat.mod_lt (fnv (decs 6 s.toNat ++ r)) (show 0 < n.toNat by omega)
    omega
  · rw [if_neg h]; exact .inl rfl
def shi (T : Tbl) (s : Int) (r : List UInt8) : Int := shardI s r (T.length : Int)
def shl (T : Tbl) (s : Int) (r : List UInt8) : List Ent := T.getD (shi T s r).toNat []
def lkE (T : Tbl) (s : Int) (r : List UInt8) : Ent := if shi T s r < 0 then E0 else fnd (shl T s r) s r
def lkB (T : Tbl) (s : Int) (r : List UInt8) : Bool := if shi T s r < 0 then false else has (shl T s r) s r
theorem lk_n {T : Tbl} {s : Int} {r : List UInt8} (h : shi T s r < 0) : lkE T s r = E0 ∧ lkB T s r = false := by unfold lkE lkB; rw [if_pos h, if_pos h]; exact ⟨rfl, rfl⟩
theorem lk_y {T : Tbl} {s : Int} {r : List UInt8} (h : ¬shi T s r < 0) : lkE T s r = fnd (shl T s r) s r ∧ lkB T s r = has (shl T s r) s r := by unfold lkE lkB; rw [if_neg h, if_neg h]; exact ⟨rfl, rfl⟩
attribute [local irreducible] vc
theorem good_tLook (m : Int) (T : Tbl) (s : Int) (r : List UInt8) (hQ : tbQ T) (hs : 0 ≤ s ∧ s < 4294967296) : GoodP Tryz.prog gl0 29 [.agg [.int .i64 m, rowS eEs [] 1 std fun _ => T], .agg [.int .u32 s, .str r]] (.tup [.int .i64 (std.ti fun _ => shi T s r), entS std fun _ => lkE T s r, .bool (std.tb fun _ => lkB T s r)]) := by
  refine fn_sound' (T := seatT) (G := gv5) (X := noX) seatT_ok gv5_ok noX_ok noI_ok mixed Tryz.func29 (.one) (fun A => [.agg [.int .i64 m, rowS eEs [] 1 A fun _ => T], .agg [.int .u32 s, .str r]]) (fun A => .tup [.int .i64 (A.ti fun _ => shi T s r), entS A fun _ => lkE T s r, .bool (A.tb fun _ => lkB T s r)]) fun A hA => ?_
  have hsh : shardI s r (T.length : Int) = shi T s r := rfl
  have hin := shardI_in s r (T.length : Int)
  rw [hsh] at hin
  have hin2 := hin.imp_right And.right
  have hin3 : ¬shi T s r < 0 → 0 ≤ shi T s r ∧ shi T s r < (T.length : Int) := fun h => by omega
  clear hin hin2
  have hTi := hQ.2.1 (shi T s r).toNat
  cbv
  repeat' (first | with_reducible exact True.intro | with_reducible exact dr_ok hA (by kernel_rfl) | with_reducible refine And.intro ?_ ?_ | (intro hc; cbv))
  all_goals (subst hA; simp only [std_add, std_sub, std_mul, std_quo, std_rem, std_band, std_bor, std_bxor, std_shl, std_shr, std_eq, std_ne, std_lt, std_le, std_conv, std_not, std_beq, std_bne, std_ite, std_want, std_and2, std_sadd, std_seq, std_sne, std_slt, std_sle, std_sgt, std_sge, std_slen, std_sget, std_scut, std_ofNat, std_toNat, std_nsub, std_nadd, std_lenOf, std_nz, std_nneg, std_inb, std_upto, std_slt63, std_grow, std_imp, std_impN, std_tr, std_tb, std_ti, std_ts, std_tn, std_tp, std_nmin, std_nset, std_fset, std_makes, std_room, std_zeros, std_nilq, std_notq, std_eqi, std_eqn, std_eqb, std_eqs, std_eqv, std_cat, std_lst, std_rset, std_rcopy, std_shift, std_eqr, std_strOf, std_bytesOf, std_isB, std_zOf, zOf_int, std_isI, isI_int, std_getL, std_nmul, std_sOf, sOf_str, std_isS, isS_str, std_fadd, std_fsub, std_fav, std_fsv, std_feq, std_fne, std_flt, std_fle, std_fgt, std_fge, std_fOf, std_fTo, std_fTv, isRow_T, lstOf_T, isRow_V, lstOf_V, hsh] at *)
  all_goals first
    | exact hs
    | (have h1 := of_decide_eq_true hc
       have h2 := lk_n h1
       first
         | (rw [h2.1]; rfl)
         | exact h2.2.symm)
    | (have h1 := of_decide_eq_false hc
       have h2 := lk_y h1
       unfold shl at h2
       first
         | exact hin3 h1
         | exact ⟨trivial, hTi⟩
         | (rw [h2.1]; done)
         | exact h2.2.symm
         | trace_state)
    | trace_state
noncomputable def c_tLook : Ct := fun A args => match args with
  | [.agg [.int .i64 m, .slc n 1 f], .agg [.int .u32 s, .str r]] => some (some (A.tp fun _ => (isRow eEs [] 1 n f ∧ tbQ (lstOf eEs [] 1 n f)) ∧ 0 ≤ s ∧ s < 4294967296), .tup [.int .i64 (A.ti fun _ => shi (lstOf eEs [] 1 n f) s r), entS A fun _ => lkE (lstOf eEs [] 1 n f) s r, .bool (A.tb fun _ => lkB (lstOf eEs [] 1 n f) s r)])
  | _ => none
noncomputable def gv6 : Ar → Pu := addC 29 c_tLook (gv5)
theorem gv6_ok : PuOk Tryz.prog gl0 (gv6 std) := by
  refine addC_ok (gv5_ok) ⟨_, Tryz.func29, rfl, by decide⟩ ?_
  · intro args p r h hp
    unfold c_tLook at h
    split at h <;> cases h
    exact good_sv (good_tLook _ _ _ _ hp.1.2 hp.2) ⟨⟨_, rfl, rfl, hp.1.1.sv, trivial⟩, ⟨_, rfl, rfl, rfl, trivial⟩, trivial⟩
def tFnd (m : Int) (T : Tbl) (s : Int) (r : List UInt8) : Ent := if tbR m T = true then lkE T s r else E0
def tHas (m : Int) (T : Tbl) (s : Int) (r : List UInt8) : Bool := if tbR m T = true then lkB T s r else false
theorem tf_y {m : Int} {T : Tbl} {s : Int} {r : List UInt8} (h : tbR m T = true) : tFnd m T s r = lkE T s r ∧ tHas m T s r = lkB T s r := by unfold tFnd tHas; rw [if_pos h, if_pos h]; exact ⟨rfl, rfl⟩
theorem tf_n {m : Int} {T : Tbl} {s : Int} {r : List UInt8} (h : tbR m T = false) : tFnd m T s r = E0 ∧ tHas m T s r = false := by unfold tFnd tHas; rw [h]; exact ⟨rfl, rfl⟩
theorem good_tFind (m : Int) (T : Tbl) (s : Int) (r : List UInt8) (hQ : tbQ T) (hs : 0 ≤ s ∧ s < 4294967296) : GoodP Tryz.prog gl0 13 [.agg [.int .i64 m, rowS eEs [] 1 std fun _ => T], .agg [.int .u32 s, .str r]] (.tup [entS std fun _ => tFnd m T s r, .bool (std.tb fun _ => tHas m T s r)]) := by
  refine fn_sound' (T := seatT) (G := gv6) (X := noX) seatT_ok gv6_ok noX_ok noI_ok mixed Tryz.func13 (.one) (fun A => [.agg [.int .i64 m, rowS eEs [] 1 A fun _ => T], .agg [.int .u32 s, .str r]]) (fun A => .tup [entS A fun _ => tFnd m T s r, .bool (A.tb fun _ => tHas m T s r)]) fun A hA => ?_
  cbv
  repeat' (first | with_reducible exact True.intro | with_reducible exact dr_ok hA (by kernel_rfl) | with_reducible refine And.intro ?_ ?_ | (intro hc; cbv))
  all_goals (subst hA; simp only [std_add, std_sub, std_mul, std_quo, std_rem, std_band, std_bor, std_bxor, std_shl, std_shr, std_eq, std_ne, std_lt, std_le, std_conv, std_not, std_beq, std_bne, std_ite, std_want, std_and2, std_sadd, std_seq, std_sne, std_slt, std_sle, std_sgt, std_sge, std_slen, std_sget, std_scut, std_ofNat, std_toNat, std_nsub, std_nadd, std_lenOf, std_nz, std_nneg, std_inb, std_upto, std_slt63, std_grow, std_imp, std_impN, std_tr, std_tb, std_ti, std_ts, std_tn, std_tp, std_nmin, std_nset, std_fset, std_makes, std_room, std_zeros, std_nilq, std_notq, std_eqi, std_eqn, std_eqb, std_eqs, std_eqv, std_cat, std_lst, std_rset, std_rcopy, std_shift, std_eqr, std_strOf, std_bytesOf, std_isB, std_zOf, zOf_int, std_isI, isI_int, std_getL, std_nmul, std_sOf, sOf_str, std_isS, isS_str, std_fadd, std_fsub, std_fav, std_fsv, std_feq, std_fne, std_flt, std_fle, std_fgt, std_fge, std_fOf, std_fTo, std_fTv, isRow_T, lstOf_T, isRow_V, lstOf_V] at *)
  all_goals first
    | exact ⟨trivial, hQ⟩
    | exact ⟨⟨trivial, hQ⟩, hs⟩
    | (have h2 := tf_n (s := s) (r := r) (nb_f hc)
       first
         | (rw [h2.1]; rfl)
         | exact h2.2.symm)
    | (have h2 := tf_y (s := s) (r := r) (nb_t hc)
       first
         | (rw [h2.1]; done)
         | exact h2.2.symm
         | trace_state)
    | trace_state
noncomputable def c_tFind : Ct := fun A args => match args with
  | [.agg [.int .i64 m, .slc n 1 f], .agg [.int .u32 s, .str r]] => some (some (A.tp fun _ => (isRow eEs [] 1 n f ∧ tbQ (lstOf eEs [] 1 n f)) ∧ 0 ≤ s ∧ s < 4294967296), .tup [entS A fun _ => tFnd m (lstOf eEs [] 1 n f) s r, .bool (A.tb fun _ => tHas m (lstOf eEs [] 1 n f) s r)])
  | _ => none
noncomputable def gv7 : Ar → Pu := addC 13 c_tFind (gv6)
theorem gv7_ok : PuOk Tryz.prog gl0 (gv7 std) := by
  refine addC_ok (gv6_ok) ⟨_, Tryz.func13, rfl, by decide⟩ ?_
  · intro args p r h hp
    unfold c_tFind at h
    split at h <;> cases h
    exact good_sv (good_tFind _ _ _ _ hp.1.2 hp.2) ⟨⟨_, rfl, rfl, hp.1.1.sv, trivial⟩, ⟨_, rfl, rfl, rfl, trivial⟩, trivial⟩
end Go.Vd

