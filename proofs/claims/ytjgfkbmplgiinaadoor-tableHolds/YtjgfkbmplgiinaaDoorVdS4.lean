/- Entries: whether one is right. -/
import Derived.Test.YtjgfkbmplgiinaaDoorVdN0
import Derived.WalkKit
import Derived.Lib.Walk
import Derived.Lib.AppendZerosOnto
import Derived.Lib.Overlaps
import Derived.Lib.SliceRun
import Derived.Laws.Externs
import Derived.Deep.RegionLaw
import Derived.Test.YtjgfkbmplgiinaaDoorVdX2
set_option linter.unusedVariables false
set_option linter.unusedSimpArgs false
set_option maxRecDepth 100000
set_option maxHeartbeats 4000000
namespace Go.Vd
open Go.Proofs
structure Ent where
  s : Int
  r : List UInt8
  st : Int
  pan : List UInt8
  am : Int
  code : List UInt8
  tr : Int
  ca : Int
  deriving DecidableEq
structure Dl where
  k : Int
  pan : List UInt8
  am : Int
  s : Int
  r : List UInt8
  code : List UInt8
  deriving DecidableEq
def E0 : Ent := ⟨0, [], 0, [], 0, [], 0, 0⟩
def D0 : Dl := ⟨0, [], 0, 0, [], []⟩
def unT (e : Ent) : Bool := decide (e.tr = 0) && decide (e.ca = 0)
def tuR (e : Ent) : Bool := (decide (e.ca = 1) || decide (e.ca = 2)) && (decide (0 ≤ e.tr) && decide (e.tr ≤ 16))
def eSt (e : Ent) : Bool :=
  if e.st = 1 then decide (e.code = []) && unT e else if e.st = 2 then decide (e.code = [48, 48]) && unT e
  else if e.st = 3 then decide (¬e.code = [48, 48]) && (rr 39 e.code && unT e) else if e.st = 4 ∨ e.st = 5 ∨ e.st = 6 then rr 39 e.code && tuR e else false
def eR (e : Ent) : Bool := keyOk e.s e.r && (decide ((e.pan.length : Int) ≤ 19) && (lFine e.pan && (decide (e.am < 1000000000000) && eSt e)))
theorem eR_no {s st am tr ca : Int} {r pan code : List UInt8} (hc : ((keyOk s r = false ∨ (19 : Int) < (pan.length : Int)) ∨ lFine pan = false) ∨ 1000000000000 ≤ am) : eR ⟨s, r, st, pan, am, code, tr, ca⟩ = false := by
  rw [Bool.eq_false_iff]
  intro h
  simp only [eR, Bool.and_eq_true, decide_eq_true_eq] at h
  rcases hc with ((hc | hc) | hc) | hc
  · rw [hc] at h; cases h.1
  · omega
  · rw [hc] at h; cases h.2.2.1
  · omega
theorem eR_st {e : Ent} (h : ((keyOk e.s e.r = true ∧ (e.pan.length : Int) ≤ 19) ∧ lFine e.pan = true) ∧ e.am < 1000000000000) : eR e = eSt e := by
  unfold eR
  rw [h.1.1.1, decide_eq_true h.1.1.2, h.1.2, decide_eq_true h.2]
  rfl
attribute [local irreducible] vc
theorem good_sUn (s st am tr ca : Int) (r pan code : List UInt8) : GoodP Tryd.prog gl0 31 [.agg [.int .u32 s, .str r, .int .i64 st, .str pan, .int .u64 am, .str code, .int .i64 tr, .int .i64 ca]] (.bool (std.tb fun _ => unT ⟨s, r, st, pan, am, code, tr, ca⟩)) := by
  refine fn_sound' (T := seatT) (G := noC) (X := noX) seatT_ok noC_ok noX_ok noI_ok mixed Tryd.func31 (.one) (fun A => [.agg [.int .u32 s, .str r, .int .i64 st, .str pan, .int .u64 am, .str code, .int .i64 tr, .int .i64 ca]]) (fun A => .bool (A.tb fun _ => unT ⟨s, r, st, pan, am, code, tr, ca⟩)) fun A hA => ?_
  cbv
  repeat' (first | with_reducible exact True.intro | with_reducible exact dr_ok hA (by kernel_rfl) | with_reducible refine And.intro ?_ ?_ | (intro hc; cbv))
  all_goals (subst hA; simp [std_add, std_sub, std_mul, std_quo, std_rem, std_band, std_bor, std_bxor, std_shl, std_shr, std_eq, std_ne, std_lt, std_le, std_conv, std_not, std_beq, std_bne, std_ite, std_want, std_and2, std_sadd, std_seq, std_sne, std_slt, std_sle, std_sgt, std_sge, std_slen, std_sget, std_scut, std_ofNat, std_toNat, std_nsub, std_nadd, std_lenOf, std_nz, std_nneg, std_inb, std_upto, std_slt63, std_grow, std_imp, std_impN, std_tr, std_tb, std_ti, std_ts, std_tn, std_tp, std_nmin, std_makes, std_room, std_zeros, std_nilq, std_notq, std_eqi, std_eqn, std_eqb, std_eqs, std_eqv, std_cat, std_lst, std_rset, std_rcopy, std_shift, std_eqr, std_strOf, std_bytesOf, std_isB, std_zOf, zOf_int, std_isI, isI_int, std_getL, std_nmul, std_sOf, sOf_str, std_isS, isS_str, std_fadd, std_fsub, std_fav, std_fsv, std_feq, std_fne, std_flt, std_fle, std_fgt, std_fge, std_fOf, std_fTo, std_fTv] at *)
  all_goals (rw [Bool.eq_iff_iff]; simp [unT])
theorem good_sTu (s st am tr ca : Int) (r pan code : List UInt8) : GoodP Tryd.prog gl0 33 [.agg [.int .u32 s, .str r, .int .i64 st, .str pan, .int .u64 am, .str code, .int .i64 tr, .int .i64 ca]] (.bool (std.tb fun _ => tuR ⟨s, r, st, pan, am, code, tr, ca⟩)) := by
  refine fn_sound' (T := seatT) (G := noC) (X := noX) seatT_ok noC_ok noX_ok noI_ok mixed Tryd.func33 (.one) (fun A => [.agg [.int .u32 s, .str r, .int .i64 st, .str pan, .int .u64 am, .str code, .int .i64 tr, .int .i64 ca]]) (fun A => .bool (A.tb fun _ => tuR ⟨s, r, st, pan, am, code, tr, ca⟩)) fun A hA => ?_
  cbv
  repeat' (first | with_reducible exact True.intro | with_reducible exact dr_ok hA (by kernel_rfl) | with_reducible refine And.intro ?_ ?_ | (intro hc; cbv))
  all_goals (subst hA; simp [std_add, std_sub, std_mul, std_quo, std_rem, std_band, std_bor, std_bxor, std_shl, std_shr, std_eq, std_ne, std_lt, std_le, std_conv, std_not, std_beq, std_bne, std_ite, std_want, std_and2, std_sadd, std_seq, std_sne, std_slt, std_sle, std_sgt, std_sge, std_slen, std_sget, std_scut, std_ofNat, std_toNat, std_nsub, std_nadd, std_lenOf, std_nz, std_nneg, std_inb, std_upto, std_slt63, std_grow, std_imp, std_impN, std_tr, std_tb, std_ti, std_ts, std_tn, std_tp, std_nmin, std_makes, std_room, std_zeros, std_nilq, std_notq, std_eqi, std_eqn, std_eqb, std_eqs, std_eqv, std_cat, std_lst, std_rset, std_rcopy, std_shift, std_eqr, std_strOf, std_bytesOf, std_isB, std_zOf, zOf_int, std_isI, isI_int, std_getL, std_nmul, std_sOf, sOf_str, std_isS, isS_str, std_fadd, std_fsub, std_fav, std_fsv, std_feq, std_fne, std_flt, std_fle, std_fgt, std_fge, std_fOf, std_fTo, std_fTv] at *)
  all_goals (rw [Bool.eq_iff_iff]; simp [tuR]; omega)
theorem good_sCode (c : List UInt8) (hcc : c.length ≤ 1000000) : GoodP Tryd.prog gl0 32 [.str c] (.bool (std.tb fun _ => rr 39 c)) := by
  refine fn_sound' (T := seatT) (G := gk8) (X := noX) seatT_ok gk8_ok noX_ok noI_ok mixed Tryd.func32 (.one) (fun A => [.str c]) (fun A => .bool (A.tb fun _ => rr 39 c)) fun A hA => ?_
  cbv
  repeat' (first | with_reducible exact True.intro | with_reducible exact dr_ok hA (by kernel_rfl) | with_reducible refine And.intro ?_ ?_ | (intro hc; cbv))
  all_goals (subst hA; try simp [std_add, std_sub, std_mul, std_quo, std_rem, std_band, std_bor, std_bxor, std_shl, std_shr, std_eq, std_ne, std_lt, std_le, std_conv, std_not, std_beq, std_bne, std_ite, std_want, std_and2, std_sadd, std_seq, std_sne, std_slt, std_sle, std_sgt, std_sge, std_slen, std_sget, std_scut, std_ofNat, std_toNat, std_nsub, std_nadd, std_lenOf, std_nz, std_nneg, std_inb, std_upto, std_slt63, std_grow, std_imp, std_impN, std_tr, std_tb, std_ti, std_ts, std_tn, std_tp, std_nmin, std_makes, std_room, std_zeros, std_nilq, std_notq, std_eqi, std_eqn, std_eqb, std_eqs, std_eqv, std_cat, std_lst, std_rset, std_rcopy, std_shift, std_eqr, std_strOf, std_bytesOf, std_isB, std_zOf, zOf_int, std_isI, isI_int, std_getL, std_nmul, std_sOf, sOf_str, std_isS, isS_str, std_fadd, std_fsub, std_fav, std_fsv, std_feq, std_fne, std_flt, std_fle, std_fgt, std_fge, std_fOf, std_fTo, std_fTv] at *)
  all_goals first | exact hcc | trace_state
noncomputable def c_sUn : Ct := fun A args => match args with
  | [.agg [.int .u32 s, .str r, .int .i64 st, .str pan, .int .u64 am, .str code, .int .i64 tr, .int .i64 ca]] => some (none, .bool (A.tb fun _ => unT ⟨s, r, st, pan, am, code, tr, ca⟩))
  | _ => none
noncomputable def c_sTu : Ct := fun A args => match args with
  | [.agg [.int .u32 s, .str r, .int .i64 st, .str pan, .int .u64 am, .str code, .int .i64 tr, .int .i64 ca]] => some (none, .bool (A.tb fun _ => tuR ⟨s, r, st, pan, am, code, tr, ca⟩))
  | _ => none
noncomputable def c_sCode : Ct := fun A args => match args with
  | [.str c] => some (some (A.tp fun _ => c.length ≤ 1000000), .bool (A.tb fun _ => rr 39 c))
  | _ => none
noncomputable def gc1 : Ar → Pu := addC 31 c_sUn (addC 33 c_sTu (addC 32 c_sCode (gk8)))
theorem gc1_ok : PuOk Tryd.prog gl0 (gc1 std) := by
  refine addC_ok (addC_ok (addC_ok (gk8_ok) ⟨_, Tryd.func32, rfl, by decide⟩ ?_) ⟨_, Tryd.func33, rfl, by decide⟩ ?_) ⟨_, Tryd.func31, rfl, by decide⟩ ?_
  · intro args p r h hp
    unfold c_sCode at h
    split at h <;> cases h
    exact good_sCode _ hp
  · intro args p r h hp
    unfold c_sTu at h
    split at h <;> cases h
    exact good_sTu _ _ _ _ _ _ _ _
  · intro args p r h hp
    unfold c_sUn at h
    split at h <;> cases h
    exact good_sUn _ _ _ _ _ _ _ _
theorem good_sRe (s st am tr ca : Int) (r pan code : List UInt8) (hp : pan.length ≤ 100000) (hcc : code.length ≤ 1000000) : GoodP Tryd.prog gl0 11 [.agg [.int .u32 s, .str r, .int .i64 st, .str pan, .int .u64 am, .str code, .int .i64 tr, .int .i64 ca]] (.bool (std.tb fun _ => eR ⟨s, r, st, pan, am, code, tr, ca⟩)) := by
  refine fn_sound' (T := seatT) (G := gc1) (X := noX) seatT_ok gc1_ok noX_ok noI_ok mixed Tryd.func11 (.one) (fun A => [.agg [.int .u32 s, .str r, .int .i64 st, .str pan, .int .u64 am, .str code, .int .i64 tr, .int .i64 ca]]) (fun A => .bool (A.tb fun _ => eR ⟨s, r, st, pan, am, code, tr, ca⟩)) fun A hA => ?_
  cbv
  repeat' (first | with_reducible exact True.intro | with_reducible exact dr_ok hA (by kernel_rfl) | with_reducible refine And.intro ?_ ?_ | (intro hc; cbv))
  all_goals (subst hA; try simp [std_add, std_sub, std_mul, std_quo, std_rem, std_band, std_bor, std_bxor, std_shl, std_shr, std_eq, std_ne, std_lt, std_le, std_conv, std_not, std_beq, std_bne, std_ite, std_want, std_and2, std_sadd, std_seq, std_sne, std_slt, std_sle, std_sgt, std_sge, std_slen, std_sget, std_scut, std_ofNat, std_toNat, std_nsub, std_nadd, std_lenOf, std_nz, std_nneg, std_inb, std_upto, std_slt63, std_grow, std_imp, std_impN, std_tr, std_tb, std_ti, std_ts, std_tn, std_tp, std_nmin, std_makes, std_room, std_zeros, std_nilq, std_notq, std_eqi, std_eqn, std_eqb, std_eqs, std_eqv, std_cat, std_lst, std_rset, std_rcopy, std_shift, std_eqr, std_strOf, std_bytesOf, std_isB, std_zOf, zOf_int, std_isI, isI_int, std_getL, std_nmul, std_sOf, sOf_str, std_isS, isS_str, std_fadd, std_fsub, std_fav, std_fsv, std_feq, std_fne, std_flt, std_fle, std_fgt, std_fge, std_fOf, std_fTo, std_fTv] at *)
  all_goals first
    | exact hcc
    | exact hp
    | (intro h1 h2; exact ⟨⟨h1, h2⟩, hp⟩)
    | (intro h1; exact ⟨h1, hcc⟩)
    | (exact eR_no (by assumption))
    | (have hq : ((keyOk s r = true ∧ (pan.length : Int) ≤ 19) ∧ lFine pan = true) ∧ am < 1000000000000 := by assumption
       rw [eR_st (e := ⟨s, r, st, pan, am, code, tr, ca⟩) hq]
       unfold eSt
       simp [*]
       done)
    | (have hq : ((keyOk s r = true ∧ (pan.length : Int) ≤ 19) ∧ lFine pan = true) ∧ am < 1000000000000 := by assumption
       rw [eR_st (e := ⟨s, r, st, pan, am, code, tr, ca⟩) hq]
       unfold eSt
       rw [Bool.eq_iff_iff]
       simp [*]
       done)
    | contradiction
    | (have hq : ((keyOk s r = true ∧ (pan.length : Int) ≤ 19) ∧ lFine pan = true) ∧ am < 1000000000000 := by assumption
       rw [eR_st (e := ⟨s, r, st, pan, am, code, tr, ca⟩) hq]
       unfold eSt
       rw [Bool.eq_iff_iff]
       simp [*]
       intros
       exact and_assoc)
    | trace_state
noncomputable def c_sRe : Ct := fun A args => match args with
  | [.agg [.int .u32 s, .str r, .int .i64 st, .str pan, .int .u64 am, .str code, .int .i64 tr, .int .i64 ca]] => some (some (A.tp fun _ => pan.length ≤ 100000 ∧ code.length ≤ 1000000), .bool (A.tb fun _ => eR ⟨s, r, st, pan, am, code, tr, ca⟩))
  | _ => none
noncomputable def gc2 : Ar → Pu := addC 11 c_sRe (gc1)
theorem gc2_ok : PuOk Tryd.prog gl0 (gc2 std) := by
  refine addC_ok (gc1_ok) ⟨_, Tryd.func11, rfl, by decide⟩ ?_
  · intro args p r h hp
    unfold c_sRe at h
    split at h <;> cases h
    exact good_sRe _ _ _ _ _ _ _ _ hp.1 hp.2
end Go.Vd

set_option linter.unusedVariables false
set_option linter.unusedSimpArgs false
set_option maxRecDepth 100000
set_option maxHeartbeats 8000000
namespace Go.Vd
open Go.Proofs
def eE : En Ent := fun A x => [.int .u32 (A.ti fun _ => (x ()).s), .str (A.ts fun _ => (x ()).r), .int .i64 (A.ti fun _ => (x ()).st), .str (A.ts fun _ => (x ()).pan), .int .u64 (A.ti fun _ => (x ()).am), .str (A.ts fun _ => (x ()).code), .int .i64 (A.ti fun _ => (x ()).tr), .int .i64 (A.ti fun _ => (x ()).ca)]
theorem inj_eE : Inj eE 8 := fun x y h => by
  obtain ⟨s0, a0, b0⟩ := h 0 (by omega)
  obtain ⟨s1, a1, b1⟩ := h 1 (by omega)
  obtain ⟨s2, a2, b2⟩ := h 2 (by omega)
  obtain ⟨s3, a3, b3⟩ := h 3 (by omega)
  obtain ⟨s4, a4, b4⟩ := h 4 (by omega)
  obtain ⟨s5, a5, b5⟩ := h 5 (by omega)
  obtain ⟨s6, a6, b6⟩ := h 6 (by omega)
  obtain ⟨s7, a7, b7⟩ := h 7 (by omega)
  have a0 : Ceq s0 (.int .u32 x.s) := a0
  have b0 : Ceq s0 (.int .u32 y.s) := b0
  have a1 : Ceq s1 (.str x.r) := a1
  have b1 : Ceq s1 (.str y.r) := b1
  have a2 : Ceq s2 (.int .i64 x.st) := a2
  have b2 : Ceq s2 (.int .i64 y.st) := b2
  have a3 : Ceq s3 (.str x.pan) := a3
  have b3 : Ceq s3 (.str y.pan) := b3
  have a4 : Ceq s4 (.int .u64 x.am) := a4
  have b4 : Ceq s4 (.int .u64 y.am) := b4
  have a5 : Ceq s5 (.str x.code) := a5
  have b5 : Ceq s5 (.str y.code) := b5
  have a6 : Ceq s6 (.int .i64 x.tr) := a6
  have b6 : Ceq s6 (.int .i64 y.tr) := b6
  have a7 : Ceq s7 (.int .i64 x.ca) := a7
  have b7 : Ceq s7 (.int .i64 y.ca) := b7
  rw [Ceq.int] at a0 b0 a2 b2 a4 b4 a6 b6 a7 b7
  rw [Ceq.str] at a1 b1 a3 b3 a5 b5
  subst a0 a1 a2 a3 a4 a5 a6 a7
  cases x
  cases y
  simp at b0 b1 b2 b3 b4 b5 b6 b7
  simp only [Ent.mk.injEq]
  exact ⟨b0, b1, b2, b3, b4, b5, b6, b7⟩
theorem cell_eE (e : Ent) : ∀ j, j < 8 → Ceq (getAt [SV.int .u32 e.s, SV.str e.r, SV.int .i64 e.st, SV.str e.pan, SV.int .u64 e.am, SV.str e.code, SV.int .i64 e.tr, SV.int .i64 e.ca] j) (getAt (eE std fun _ => e) j) := by
  intro j hj
  rcases (show j = 0 ∨ j = 1 ∨ j = 2 ∨ j = 3 ∨ j = 4 ∨ j = 5 ∨ j = 6 ∨ j = 7 by omega) with rfl | rfl | rfl | rfl | rfl | rfl | rfl | rfl <;> exact .refl _
theorem lstOf_V (L : List Ent) : lstOf eE E0 8 L.length (rowF eE { s := 0, r := [], st := 0, pan := [], am := 0, code := [], tr := 0, ca := 0 } std fun _ => L) = L := lstOf_lit inj_eE L
theorem isRow_V (L : List Ent) : isRow eE E0 8 L.length (rowF eE { s := 0, r := [], st := 0, pan := [], am := 0, code := [], tr := 0, ca := 0 } std fun _ => L) := isRow_lit L
/-- Texts that aren't too long. -/
def enS (e : Ent) : Prop := e.pan.length ≤ 100000 ∧ e.code.length ≤ 1000000
def ordE (e f : Ent) : Int := ordK e.s e.r f.s f.r
def ascB : List Ent → Bool
  | [] => true
  | [e] => eR e
  | e :: f :: L => eR e && (decide (ordE e f < 0) && ascB (f :: L))
def ascP (L : List Ent) : Prop := ∀ j, j < L.length → eR (L.getD j E0) = true ∧ (0 < j → ordE (L.getD (j - 1) E0) (L.getD j E0) < 0)
theorem ascB_iff : ∀ (L : List Ent), ascB L = true ↔ ascP L
  | [] => ⟨fun _ j h => absurd h (by simp), fun _ => rfl⟩
  | [e] => by
    constructor
    · intro h j hj
      obtain rfl : j = 0 := by simp at hj; omega
      exact ⟨h, fun h => absurd h (by omega)⟩
    · intro h
      exact (h 0 (by simp)).1
  | e :: f :: L => by
    have ih := ascB_iff (f :: L)
    simp only [ascB, Bool.and_eq_true, decide_eq_true_eq]
    constructor
    · rintro ⟨h1, h2, h3⟩ j hj
      have h4 := ih.1 h3
      cases j with
      | zero => exact ⟨h1, fun h => absurd h (by omega)⟩
      | succ j =>
        have h5 := h4 j (by simpa using hj)
        refine ⟨h5.1, fun _ => ?_⟩
        cases j with
        | zero => exact h2
        | succ j => exact h5.2 (by omega)
    · intro h
      refine ⟨(h 0 (by simp)).1, (h 1 (by simp)).2 (by omega), ih.2 fun j hj => ?_⟩
      have h5 := h (j + 1) (by simpa using hj)
      refine ⟨h5.1, fun h0 => ?_⟩
      have := h5.2 (by omega)
      obtain ⟨i, rfl⟩ : ∃ i, j = i + 1 := ⟨j - 1, by omega⟩
      exact this
theorem w_succ' {a b : Nat} (h : b = a + 1) (hb : a ≤ 1000000000000) : IntKind.i64.wrap ((a : Int) + 1) = (b : Int) := by
  rw [w64 (by omega)]; omega
def shR (L : List Ent) : Bool := decide (L.length ≤ 128) && ascB L
theorem shR_no {L : List Ent} {j : Nat} (hj : j < L.length) (h : eR (L.getD j E0) = false ∨ (0 < j ∧ ¬ordE (L.getD (j - 1) E0) (L.getD j E0) < 0)) : shR L = false := by
  rw [Bool.eq_false_iff]
  intro hs
  simp only [shR, Bool.and_eq_true] at hs
  have h2 := (ascB_iff L).1 hs.2 j hj
  rcases h with h | h
  · rw [h] at h2; exact Bool.noConfusion h2.1
  · exact h.2 (h2.2 h.1)
theorem shR_yes {L : List Ent} (hl : L.length ≤ 128) (h : ascP L) : shR L = true := by
  simp only [shR, Bool.and_eq_true, decide_eq_true_eq]
  exact ⟨hl, (ascB_iff L).2 h⟩
theorem shR_big {L : List Ent} (hl : ¬L.length ≤ 128) : shR L = false := by simp [shR, hl]
attribute [local irreducible] vc
theorem good_shR (L : List Ent) (hL : L.length ≤ 1000000) (hS : ∀ i, enS (L.getD i E0)) : GoodP Tryd.prog gl0 36 [rowS eE E0 8 std fun _ => L] (.bool (std.tb fun _ => shR L)) := by
  refine fn_sound' (T := seatT) (G := gc2) (X := noX) seatT_ok gc2_ok noX_ok noI_ok mixed Tryd.func36 (.one) (fun A => [rowS eE E0 8 A fun _ => L]) (fun A => .bool (A.tb fun _ => shR L)) fun A hA => ?_
  cbv
  repeat' (first | with_reducible exact True.intro | with_reducible exact dr_ok hA (by kernel_rfl) | with_reducible refine And.intro ?_ ?_ | (intro hc; cbv))
  rotate_right
  all_goals first
    | (fail_if_success (refine Exists.intro ?_ ?_)
       subst hA
       simp [std_add, std_sub, std_mul, std_quo, std_rem, std_band, std_bor, std_bxor, std_shl, std_shr, std_eq, std_ne, std_lt, std_le, std_conv, std_not, std_beq, std_bne, std_ite, std_want, std_and2, std_sadd, std_seq, std_sne, std_slt, std_sle, std_sgt, std_sge, std_slen, std_sget, std_scut, std_ofNat, std_toNat, std_nsub, std_nadd, std_lenOf, std_nz, std_nneg, std_inb, std_upto, std_slt63, std_grow, std_imp, std_impN, std_tr, std_tb, std_ti, std_ts, std_tn, std_tp, std_nmin, std_makes, std_room, std_zeros, std_nilq, std_notq, std_eqi, std_eqn, std_eqb, std_eqs, std_eqv, std_cat, std_lst, std_rset, std_rcopy, std_shift, std_eqr, std_strOf, std_bytesOf, std_isB, std_zOf, zOf_int, std_isI, isI_int, std_getL, std_nmul, std_sOf, sOf_str, std_isS, isS_str, std_fadd, std_fsub, std_fav, std_fsv, std_feq, std_fne, std_flt, std_fle, std_fgt, std_fge, std_fOf, std_fTo, std_fTv] at *
       first | done | (exact shR_big (by omega)))
    | skip
  have hl : L.length ≤ 128 := by subst hA; simp [std_add, std_sub, std_mul, std_quo, std_rem, std_band, std_bor, std_bxor, std_shl, std_shr, std_eq, std_ne, std_lt, std_le, std_conv, std_not, std_beq, std_bne, std_ite, std_want, std_and2, std_sadd, std_seq, std_sne, std_slt, std_sle, std_sgt, std_sge, std_slen, std_sget, std_scut, std_ofNat, std_toNat, std_nsub, std_nadd, std_lenOf, std_nz, std_nneg, std_inb, std_upto, std_slt63, std_grow, std_imp, std_impN, std_tr, std_tb, std_ti, std_ts, std_tn, std_tp, std_nmin, std_makes, std_room, std_zeros, std_nilq, std_notq, std_eqi, std_eqn, std_eqb, std_eqs, std_eqv, std_cat, std_lst, std_rset, std_rcopy, std_shift, std_eqr, std_strOf, std_bytesOf, std_isB, std_zOf, zOf_int, std_isI, isI_int, std_getL, std_nmul, std_sOf, sOf_str, std_isS, isS_str, std_fadd, std_fsub, std_fav, std_fsv, std_feq, std_fne, std_flt, std_fle, std_fgt, std_fge, std_fOf, std_fTo, std_fTv] at hc; omega
  clear hc
  refine ⟨⟨{i : Nat // i ≤ L.length ∧ ∀ j, j < i → eR (L.getD j E0) = true ∧ (0 < j → ordE (L.getD (j - 1) E0) (L.getD j E0) < 0)}, fun b i => [(3, .int .i64 (i.1 : Nat))], fun b i => [], fun i => L.length - i.1, true⟩, ⟨⟨0, by omega, by simp⟩, ?_⟩, ?_⟩
  · cbv
    subst hA
    simp [-List.getD_eq_getElem?_getD, std_add, std_sub, std_mul, std_quo, std_rem, std_band, std_bor, std_bxor, std_shl, std_shr, std_eq, std_ne, std_lt, std_le, std_conv, std_not, std_beq, std_bne, std_ite, std_want, std_and2, std_sadd, std_seq, std_sne, std_slt, std_sle, std_sgt, std_sge, std_slen, std_sget, std_scut, std_ofNat, std_toNat, std_nsub, std_nadd, std_lenOf, std_nz, std_nneg, std_inb, std_upto, std_slt63, std_grow, std_imp, std_impN, std_tr, std_tb, std_ti, std_ts, std_tn, std_tp, std_nmin, std_makes, std_room, std_zeros, std_nilq, std_notq, std_eqi, std_eqn, std_eqb, std_eqs, std_eqv, std_cat, std_lst, std_rset, std_rcopy, std_shift, std_eqr, std_strOf, std_bytesOf, std_isB, std_zOf, zOf_int, std_isI, isI_int, std_getL, std_nmul, std_sOf, sOf_str, std_isS, isS_str, std_fadd, std_fsub, std_fav, std_fsv, std_feq, std_fne, std_flt, std_fle, std_fgt, std_fge, std_fOf, std_fTo, std_fTv]
  · rintro ⟨i, hx⟩
    have hi := hx.1
    have hz := hx.2
    have hSi := hS i
    obtain ⟨e, he⟩ : ∃ e, e = L.getD i E0 := ⟨_, rfl⟩
    obtain ⟨q, hq⟩ : ∃ q, q = L.getD (i - 1) E0 := ⟨_, rfl⟩
    have hg : L.getD i { s := 0, r := [], st := 0, pan := [], am := 0, code := [], tr := 0, ca := 0 } = e := he.symm
    have hw : IntKind.i64.wrap ((i : Int) - 1) = (i : Int) - 1 := w64 (by omega)
    have hg2 : L.getD ((i : Int) - 1).toNat { s := 0, r := [], st := 0, pan := [], am := 0, code := [], tr := 0, ca := 0 } = q := by
      rw [hq, show ((i : Int) - 1).toNat = i - 1 by omega]; rfl
    have hg3 : L.getD (i - 1) { s := 0, r := [], st := 0, pan := [], am := 0, code := [], tr := 0, ca := 0 } = q := hq.symm
    have hno := shR_no (L := L) (j := i)
    have hyes := fun h => shR_yes (L := L) hl h
    rw [← he] at hSi hno
    rw [← hq] at hno
    rcases Nat.lt_or_ge i L.length with hlt | hge
    · have hno := hno hlt
      cbv
      repeat' (first | with_reducible exact True.intro | with_reducible exact dr_ok hA (by kernel_rfl) | with_reducible refine And.intro ?_ ?_ | (intro hc; cbv))
      all_goals first
        | (fail_if_success (refine Exists.intro ?_ ?_)
           subst hA
           simp [-List.getD_eq_getElem?_getD, std_add, std_sub, std_mul, std_quo, std_rem, std_band, std_bor, std_bxor, std_shl, std_shr, std_eq, std_ne, std_lt, std_le, std_conv, std_not, std_beq, std_bne, std_ite, std_want, std_and2, std_sadd, std_seq, std_sne, std_slt, std_sle, std_sgt, std_sge, std_slen, std_sget, std_scut, std_ofNat, std_toNat, std_nsub, std_nadd, std_lenOf, std_nz, std_nneg, std_inb, std_upto, std_slt63, std_grow, std_imp, std_impN, std_tr, std_tb, std_ti, std_ts, std_tn, std_tp, std_nmin, std_makes, std_room, std_zeros, std_nilq, std_notq, std_eqi, std_eqn, std_eqb, std_eqs, std_eqv, std_cat, std_lst, std_rset, std_rcopy, std_shift, std_eqr, std_strOf, std_bytesOf, std_isB, std_zOf, zOf_int, std_isI, isI_int, std_getL, std_nmul, std_sOf, sOf_str, std_isS, isS_str, std_fadd, std_fsub, std_fav, std_fsv, std_feq, std_fne, std_flt, std_fle, std_fgt, std_fge, std_fOf, std_fTo, std_fTv, hg, hg2, hg3, hw] at *
           first
             | done
             | omega
             | exact hSi
             | (intros; omega)
             | (intro h1 h2; exact ⟨⟨h1, h2⟩, (show (1 : Int) ≤ ((i : Nat) : Int) by omega), (show ((i : Nat) : Int) - 1 < ((L.length : Nat) : Int) by omega)⟩)
             | (intro h1 h2; exact ⟨⟨h1, h2⟩, hlt⟩)
             | (intro h1; exact ⟨h1, fun h2 => ⟨h1, h2⟩⟩)
             | exact hno (by rcases hc with h | h; exact .inl h; exact .inr ⟨h.1, by unfold ordE; omega⟩)
             | trace_state)
        | (obtain ⟨i', hi'⟩ : ∃ i', i' = i + 1 := ⟨_, rfl⟩
           have hst : eR e = true ∧ (0 < i → ordE q e < 0) := by
             subst hA
             simp [-List.getD_eq_getElem?_getD, std_add, std_sub, std_mul, std_quo, std_rem, std_band, std_bor, std_bxor, std_shl, std_shr, std_eq, std_ne, std_lt, std_le, std_conv, std_not, std_beq, std_bne, std_ite, std_want, std_and2, std_sadd, std_seq, std_sne, std_slt, std_sle, std_sgt, std_sge, std_slen, std_sget, std_scut, std_ofNat, std_toNat, std_nsub, std_nadd, std_lenOf, std_nz, std_nneg, std_inb, std_upto, std_slt63, std_grow, std_imp, std_impN, std_tr, std_tb, std_ti, std_ts, std_tn, std_tp, std_nmin, std_makes, std_room, std_zeros, std_nilq, std_notq, std_eqi, std_eqn, std_eqb, std_eqs, std_eqv, std_cat, std_lst, std_rset, std_rcopy, std_shift, std_eqr, std_strOf, std_bytesOf, std_isB, std_zOf, zOf_int, std_isI, isI_int, std_getL, std_nmul, std_sOf, sOf_str, std_isS, isS_str, std_fadd, std_fsub, std_fav, std_fsv, std_feq, std_fne, std_flt, std_fle, std_fgt, std_fge, std_fOf, std_fTo, std_fTv, hg, hg2, hg3, hw] at hc
             exact ⟨hc.1, fun h => by have := hc.2 h; unfold ordE; omega⟩
           refine ⟨⟨i', by omega, fun j hj => ?_⟩, ?_, show L.length - i' < L.length - i by omega⟩
           · rcases Nat.lt_or_ge j i with h | h
             · exact hz j h
             · obtain rfl : j = i := by omega
               rw [← he, ← hq]; exact hst
           · cbv
             subst hA
             simp [-List.getD_eq_getElem?_getD, std_add, std_sub, std_mul, std_quo, std_rem, std_band, std_bor, std_bxor, std_shl, std_shr, std_eq, std_ne, std_lt, std_le, std_conv, std_not, std_beq, std_bne, std_ite, std_want, std_and2, std_sadd, std_seq, std_sne, std_slt, std_sle, std_sgt, std_sge, std_slen, std_sget, std_scut, std_ofNat, std_toNat, std_nsub, std_nadd, std_lenOf, std_nz, std_nneg, std_inb, std_upto, std_slt63, std_grow, std_imp, std_impN, std_tr, std_tb, std_ti, std_ts, std_tn, std_tp, std_nmin, std_makes, std_room, std_zeros, std_nilq, std_notq, std_eqi, std_eqn, std_eqb, std_eqs, std_eqv, std_cat, std_lst, std_rset, std_rcopy, std_shift, std_eqr, std_strOf, std_bytesOf, std_isB, std_zOf, zOf_int, std_isI, isI_int, std_getL, std_nmul, std_sOf, sOf_str, std_isS, isS_str, std_fadd, std_fsub, std_fav, std_fsv, std_feq, std_fne, std_flt, std_fle, std_fgt, std_fge, std_fOf, std_fTo, std_fTv]
             exact w_succ' hi' (by omega))
        | trace_state
    · have hie : i = L.length := by omega
      have hall : shR L = true := hyes fun j hj => hz j (by omega)
      cbv
      repeat' (first | with_reducible exact True.intro | with_reducible exact dr_ok hA (by kernel_rfl) | with_reducible refine And.intro ?_ ?_ | (intro hc; cbv))
      all_goals first
        | (fail_if_success (refine Exists.intro ?_ ?_)
           clear hz
           subst hA
           simp [-List.getD_eq_getElem?_getD, std_add, std_sub, std_mul, std_quo, std_rem, std_band, std_bor, std_bxor, std_shl, std_shr, std_eq, std_ne, std_lt, std_le, std_conv, std_not, std_beq, std_bne, std_ite, std_want, std_and2, std_sadd, std_seq, std_sne, std_slt, std_sle, std_sgt, std_sge, std_slen, std_sget, std_scut, std_ofNat, std_toNat, std_nsub, std_nadd, std_lenOf, std_nz, std_nneg, std_inb, std_upto, std_slt63, std_grow, std_imp, std_impN, std_tr, std_tb, std_ti, std_ts, std_tn, std_tp, std_nmin, std_makes, std_room, std_zeros, std_nilq, std_notq, std_eqi, std_eqn, std_eqb, std_eqs, std_eqv, std_cat, std_lst, std_rset, std_rcopy, std_shift, std_eqr, std_strOf, std_bytesOf, std_isB, std_zOf, zOf_int, std_isI, isI_int, std_getL, std_nmul, std_sOf, sOf_str, std_isS, isS_str, std_fadd, std_fsub, std_fav, std_fsv, std_feq, std_fne, std_flt, std_fle, std_fgt, std_fge, std_fOf, std_fTo, std_fTv, hg, hg2, hg3, hw, hall] at *
           first
             | done
             | omega)
        | (exfalso; clear hz; subst hA; simp [-List.getD_eq_getElem?_getD, std_add, std_sub, std_mul, std_quo, std_rem, std_band, std_bor, std_bxor, std_shl, std_shr, std_eq, std_ne, std_lt, std_le, std_conv, std_not, std_beq, std_bne, std_ite, std_want, std_and2, std_sadd, std_seq, std_sne, std_slt, std_sle, std_sgt, std_sge, std_slen, std_sget, std_scut, std_ofNat, std_toNat, std_nsub, std_nadd, std_lenOf, std_nz, std_nneg, std_inb, std_upto, std_slt63, std_grow, std_imp, std_impN, std_tr, std_tb, std_ti, std_ts, std_tn, std_tp, std_nmin, std_makes, std_room, std_zeros, std_nilq, std_notq, std_eqi, std_eqn, std_eqb, std_eqs, std_eqv, std_cat, std_lst, std_rset, std_rcopy, std_shift, std_eqr, std_strOf, std_bytesOf, std_isB, std_zOf, zOf_int, std_isI, isI_int, std_getL, std_nmul, std_sOf, sOf_str, std_isS, isS_str, std_fadd, std_fsub, std_fav, std_fsv, std_feq, std_fne, std_flt, std_fle, std_fgt, std_fge, std_fOf, std_fTo, std_fTv] at hc; omega)
        | (exfalso; clear hz; subst hA; rename_i q; simp [-List.getD_eq_getElem?_getD, std_add, std_sub, std_mul, std_quo, std_rem, std_band, std_bor, std_bxor, std_shl, std_shr, std_eq, std_ne, std_lt, std_le, std_conv, std_not, std_beq, std_bne, std_ite, std_want, std_and2, std_sadd, std_seq, std_sne, std_slt, std_sle, std_sgt, std_sge, std_slen, std_sget, std_scut, std_ofNat, std_toNat, std_nsub, std_nadd, std_lenOf, std_nz, std_nneg, std_inb, std_upto, std_slt63, std_grow, std_imp, std_impN, std_tr, std_tb, std_ti, std_ts, std_tn, std_tp, std_nmin, std_makes, std_room, std_zeros, std_nilq, std_notq, std_eqi, std_eqn, std_eqb, std_eqs, std_eqv, std_cat, std_lst, std_rset, std_rcopy, std_shift, std_eqr, std_strOf, std_bytesOf, std_isB, std_zOf, zOf_int, std_isI, isI_int, std_getL, std_nmul, std_sOf, sOf_str, std_isS, isS_str, std_fadd, std_fsub, std_fav, std_fsv, std_feq, std_fne, std_flt, std_fle, std_fgt, std_fge, std_fOf, std_fTo, std_fTv] at q; omega)
        | trace_state
end Go.Vd

set_option linter.unusedVariables false
set_option linter.unusedSimpArgs false
set_option maxRecDepth 100000
set_option maxHeartbeats 8000000
namespace Go.Vd
open Go.Proofs
noncomputable def c_shR : Ct := fun A args => match args with
  | [.slc n 8 f] => some (some (A.tp fun _ => isRow eE E0 8 n f ∧ n ≤ 1000000 ∧ ∀ i, enS ((lstOf eE E0 8 n f).getD i E0)), .bool (A.tb fun _ => shR (lstOf eE E0 8 n f)))
  | _ => none
noncomputable def gs1 : Ar → Pu := addC 36 c_shR (gc2)
theorem gs1_ok : PuOk Tryd.prog gl0 (gs1 std) := by
  refine addC_ok (gc2_ok) ⟨_, Tryd.func36, rfl, by decide⟩ ?_
  · intro args p r h hp
    unfold c_shR at h
    split at h <;> cases h
    exact good_sv (good_shR _ (by rw [lstOf_length hp.1]; exact hp.2.1) hp.2.2) ⟨hp.1.sv, trivial⟩
def kE (s : Int) (r : List UInt8) (e : Ent) : Bool := decide (e.s = s) && decide (e.r = r)
def fnd (L : List Ent) (s : Int) (r : List UInt8) : Ent := (L.find? (kE s r)).getD E0
def has (L : List Ent) (s : Int) (r : List UInt8) : Bool := L.any (kE s r)
def entS (A : Ar) (e : Unit → Ent) : SV := .agg [.int .u32 (A.ti fun _ => (e ()).s), .str (A.ts fun _ => (e ()).r), .int .i64 (A.ti fun _ => (e ()).st), .str (A.ts fun _ => (e ()).pan), .int .u64 (A.ti fun _ => (e ()).am), .str (A.ts fun _ => (e ()).code), .int .i64 (A.ti fun _ => (e ()).tr), .int .i64 (A.ti fun _ => (e ()).ca)]
theorem kE_iff {s : Int} {r : List UInt8} {e : Ent} : kE s r e = true ↔ e.s = s ∧ e.r = r := by simp [kE]
theorem kE_no {s : Int} {r : List UInt8} {e : Ent} (h : ¬(e.s = s ∧ e.r = r)) : kE s r e = false := by
  rw [Bool.eq_false_iff]; intro h'; exact h (kE_iff.1 h')
theorem fnd_yes {L : List Ent} {s : Int} {r : List UInt8} {i : Nat} (hi : i < L.length) (h0 : ∀ j, j < i → kE s r (L.getD j E0) = false) (h : kE s r (L.getD i E0) = true) : fnd L s r = L.getD i E0 ∧ has L s r = true := by
  have hf : L.find? (kE s r) = some (L.getD i E0) := by
    rw [List.find?_eq_some_iff_getElem]
    refine ⟨h, i, hi, by simp [List.getD_eq_getElem?_getD, hi], fun j hj => ?_⟩
    have := h0 j hj
    rw [List.getD_eq_getElem?_getD, List.getElem?_eq_getElem (by omega)] at this
    simpa using this
  constructor
  · unfold fnd; rw [hf]; rfl
  · unfold has
    rw [List.any_eq_true]
    exact ⟨L.getD i E0, by rw [List.getD_eq_getElem?_getD, List.getElem?_eq_getElem hi]; exact List.getElem_mem hi, h⟩
theorem fnd_no {L : List Ent} {s : Int} {r : List UInt8} (h0 : ∀ j, j < L.length → kE s r (L.getD j E0) = false) : fnd L s r = E0 ∧ has L s r = false := by
  have hx : ∀ x ∈ L, ¬kE s r x = true := fun x hx => by
    obtain ⟨j, hj, rfl⟩ := List.getElem_of_mem hx
    have := h0 j hj
    rw [List.getD_eq_getElem?_getD, List.getElem?_eq_getElem hj] at this
    simpa using this
  constructor
  · unfold fnd; rw [List.find?_eq_none.2 hx]; rfl
  · unfold has; rw [List.any_eq_false]; exact hx
attribute [local irreducible] vc
theorem good_shFind (L : List Ent) (s : Int) (r : List UInt8) (hL : L.length ≤ 1000000) : GoodP Tryd.prog gl0 45 [rowS eE E0 8 std fun _ => L, .agg [.int .u32 s, .str r]] (.tup [entS std fun _ => fnd L s r, .bool (std.tb fun _ => has L s r)]) := by
  refine fn_sound' (T := seatT) (G := noC) (X := noX) seatT_ok noC_ok noX_ok noI_ok mixed Tryd.func45 (.one) (fun A => [rowS eE E0 8 A fun _ => L, .agg [.int .u32 s, .str r]]) (fun A => .tup [entS A fun _ => fnd L s r, .bool (A.tb fun _ => has L s r)]) fun A hA => ?_
  cbv
  repeat' (first | with_reducible exact True.intro | with_reducible exact dr_ok hA (by kernel_rfl) | with_reducible refine And.intro ?_ ?_ | (intro hc; cbv))
  refine ⟨⟨{i : Nat // i ≤ L.length ∧ ∀ j, j < i → kE s r (L.getD j E0) = false}, fun b i => [(6, .int .i64 (i.1 : Nat))], fun b i => [], fun i => L.length - i.1, true⟩, ⟨⟨0, by omega, by simp⟩, ?_⟩, ?_⟩
  · cbv
    subst hA
    simp [-List.getD_eq_getElem?_getD, std_add, std_sub, std_mul, std_quo, std_rem, std_band, std_bor, std_bxor, std_shl, std_shr, std_eq, std_ne, std_lt, std_le, std_conv, std_not, std_beq, std_bne, std_ite, std_want, std_and2, std_sadd, std_seq, std_sne, std_slt, std_sle, std_sgt, std_sge, std_slen, std_sget, std_scut, std_ofNat, std_toNat, std_nsub, std_nadd, std_lenOf, std_nz, std_nneg, std_inb, std_upto, std_slt63, std_grow, std_imp, std_impN, std_tr, std_tb, std_ti, std_ts, std_tn, std_tp, std_nmin, std_makes, std_room, std_zeros, std_nilq, std_notq, std_eqi, std_eqn, std_eqb, std_eqs, std_eqv, std_cat, std_lst, std_rset, std_rcopy, std_shift, std_eqr, std_strOf, std_bytesOf, std_isB, std_zOf, zOf_int, std_isI, isI_int, std_getL, std_nmul, std_sOf, sOf_str, std_isS, isS_str, std_fadd, std_fsub, std_fav, std_fsv, std_feq, std_fne, std_flt, std_fle, std_fgt, std_fge, std_fOf, std_fTo, std_fTv]
  · rintro ⟨i, hx⟩
    have hi := hx.1
    have hz := hx.2
    obtain ⟨e, he⟩ : ∃ e, e = L.getD i E0 := ⟨_, rfl⟩
    have hg : L.getD i { s := 0, r := [], st := 0, pan := [], am := 0, code := [], tr := 0, ca := 0 } = e := he.symm
    rcases Nat.lt_or_ge i L.length with hlt | hge
    · have hyes := fnd_yes (s := s) (r := r) hlt hz
      rw [← he] at hyes
      cbv
      repeat' (first | with_reducible exact True.intro | with_reducible exact dr_ok hA (by kernel_rfl) | with_reducible refine And.intro ?_ ?_ | (intro hc; cbv))
      all_goals first
        | (fail_if_success (refine Exists.intro ?_ ?_)
           clear hz
           subst hA
           simp [-List.getD_eq_getElem?_getD, std_add, std_sub, std_mul, std_quo, std_rem, std_band, std_bor, std_bxor, std_shl, std_shr, std_eq, std_ne, std_lt, std_le, std_conv, std_not, std_beq, std_bne, std_ite, std_want, std_and2, std_sadd, std_seq, std_sne, std_slt, std_sle, std_sgt, std_sge, std_slen, std_sget, std_scut, std_ofNat, std_toNat, std_nsub, std_nadd, std_lenOf, std_nz, std_nneg, std_inb, std_upto, std_slt63, std_grow, std_imp, std_impN, std_tr, std_tb, std_ti, std_ts, std_tn, std_tp, std_nmin, std_makes, std_room, std_zeros, std_nilq, std_notq, std_eqi, std_eqn, std_eqb, std_eqs, std_eqv, std_cat, std_lst, std_rset, std_rcopy, std_shift, std_eqr, std_strOf, std_bytesOf, std_isB, std_zOf, zOf_int, std_isI, isI_int, std_getL, std_nmul, std_sOf, sOf_str, std_isS, isS_str, std_fadd, std_fsub, std_fav, std_fsv, std_feq, std_fne, std_flt, std_fle, std_fgt, std_fge, std_fOf, std_fTo, std_fTv, hg] at *
           first
             | done
             | omega
             | (rw [(hyes (kE_iff.2 hc)).1]; done)
             | exact (hyes (kE_iff.2 hc)).2
             | trace_state)
        | (obtain ⟨i', hi'⟩ : ∃ i', i' = i + 1 := ⟨_, rfl⟩
           have hst : kE s r e = false := by
             clear hz hyes
             subst hA
             simp [-List.getD_eq_getElem?_getD, std_add, std_sub, std_mul, std_quo, std_rem, std_band, std_bor, std_bxor, std_shl, std_shr, std_eq, std_ne, std_lt, std_le, std_conv, std_not, std_beq, std_bne, std_ite, std_want, std_and2, std_sadd, std_seq, std_sne, std_slt, std_sle, std_sgt, std_sge, std_slen, std_sget, std_scut, std_ofNat, std_toNat, std_nsub, std_nadd, std_lenOf, std_nz, std_nneg, std_inb, std_upto, std_slt63, std_grow, std_imp, std_impN, std_tr, std_tb, std_ti, std_ts, std_tn, std_tp, std_nmin, std_makes, std_room, std_zeros, std_nilq, std_notq, std_eqi, std_eqn, std_eqb, std_eqs, std_eqv, std_cat, std_lst, std_rset, std_rcopy, std_shift, std_eqr, std_strOf, std_bytesOf, std_isB, std_zOf, zOf_int, std_isI, isI_int, std_getL, std_nmul, std_sOf, sOf_str, std_isS, isS_str, std_fadd, std_fsub, std_fav, std_fsv, std_feq, std_fne, std_flt, std_fle, std_fgt, std_fge, std_fOf, std_fTo, std_fTv, hg] at hc
             exact kE_no fun h => hc h.1 h.2
           refine ⟨⟨i', by omega, fun j hj => ?_⟩, ?_, show L.length - i' < L.length - i by omega⟩
           · rcases Nat.lt_or_ge j i with h | h
             · exact hz j h
             · obtain rfl : j = i := by omega
               rw [← he]; exact hst
           · cbv
             subst hA
             simp [-List.getD_eq_getElem?_getD, std_add, std_sub, std_mul, std_quo, std_rem, std_band, std_bor, std_bxor, std_shl, std_shr, std_eq, std_ne, std_lt, std_le, std_conv, std_not, std_beq, std_bne, std_ite, std_want, std_and2, std_sadd, std_seq, std_sne, std_slt, std_sle, std_sgt, std_sge, std_slen, std_sget, std_scut, std_ofNat, std_toNat, std_nsub, std_nadd, std_lenOf, std_nz, std_nneg, std_inb, std_upto, std_slt63, std_grow, std_imp, std_impN, std_tr, std_tb, std_ti, std_ts, std_tn, std_tp, std_nmin, std_makes, std_room, std_zeros, std_nilq, std_notq, std_eqi, std_eqn, std_eqb, std_eqs, std_eqv, std_cat, std_lst, std_rset, std_rcopy, std_shift, std_eqr, std_strOf, std_bytesOf, std_isB, std_zOf, zOf_int, std_isI, isI_int, std_getL, std_nmul, std_sOf, sOf_str, std_isS, isS_str, std_fadd, std_fsub, std_fav, std_fsv, std_feq, std_fne, std_flt, std_fle, std_fgt, std_fge, std_fOf, std_fTo, std_fTv]
             exact w_succ' hi' (by omega))
        | trace_state
    · have hie : i = L.length := by omega
      have hall := fnd_no (L := L) (s := s) (r := r) fun j hj => hz j (by omega)
      cbv
      repeat' (first | with_reducible exact True.intro | with_reducible exact dr_ok hA (by kernel_rfl) | with_reducible refine And.intro ?_ ?_ | (intro hc; cbv))
      all_goals first
        | (fail_if_success (refine Exists.intro ?_ ?_)
           clear hz
           subst hA
           simp [-List.getD_eq_getElem?_getD, std_add, std_sub, std_mul, std_quo, std_rem, std_band, std_bor, std_bxor, std_shl, std_shr, std_eq, std_ne, std_lt, std_le, std_conv, std_not, std_beq, std_bne, std_ite, std_want, std_and2, std_sadd, std_seq, std_sne, std_slt, std_sle, std_sgt, std_sge, std_slen, std_sget, std_scut, std_ofNat, std_toNat, std_nsub, std_nadd, std_lenOf, std_nz, std_nneg, std_inb, std_upto, std_slt63, std_grow, std_imp, std_impN, std_tr, std_tb, std_ti, std_ts, std_tn, std_tp, std_nmin, std_makes, std_room, std_zeros, std_nilq, std_notq, std_eqi, std_eqn, std_eqb, std_eqs, std_eqv, std_cat, std_lst, std_rset, std_rcopy, std_shift, std_eqr, std_strOf, std_bytesOf, std_isB, std_zOf, zOf_int, std_isI, isI_int, std_getL, std_nmul, std_sOf, sOf_str, std_isS, isS_str, std_fadd, std_fsub, std_fav, std_fsv, std_feq, std_fne, std_flt, std_fle, std_fgt, std_fge, std_fOf, std_fTo, std_fTv, hg, hall] at *
           first
             | done
             | omega
             | rfl
             | trace_state)
        | (exfalso; clear hz; subst hA; simp [-List.getD_eq_getElem?_getD, std_add, std_sub, std_mul, std_quo, std_rem, std_band, std_bor, std_bxor, std_shl, std_shr, std_eq, std_ne, std_lt, std_le, std_conv, std_not, std_beq, std_bne, std_ite, std_want, std_and2, std_sadd, std_seq, std_sne, std_slt, std_sle, std_sgt, std_sge, std_slen, std_sget, std_scut, std_ofNat, std_toNat, std_nsub, std_nadd, std_lenOf, std_nz, std_nneg, std_inb, std_upto, std_slt63, std_grow, std_imp, std_impN, std_tr, std_tb, std_ti, std_ts, std_tn, std_tp, std_nmin, std_makes, std_room, std_zeros, std_nilq, std_notq, std_eqi, std_eqn, std_eqb, std_eqs, std_eqv, std_cat, std_lst, std_rset, std_rcopy, std_shift, std_eqr, std_strOf, std_bytesOf, std_isB, std_zOf, zOf_int, std_isI, isI_int, std_getL, std_nmul, std_sOf, sOf_str, std_isS, isS_str, std_fadd, std_fsub, std_fav, std_fsv, std_feq, std_fne, std_flt, std_fle, std_fgt, std_fge, std_fOf, std_fTo, std_fTv] at hc; omega)
        | (exfalso; clear hz; subst hA; rename_i q; simp [-List.getD_eq_getElem?_getD, std_add, std_sub, std_mul, std_quo, std_rem, std_band, std_bor, std_bxor, std_shl, std_shr, std_eq, std_ne, std_lt, std_le, std_conv, std_not, std_beq, std_bne, std_ite, std_want, std_and2, std_sadd, std_seq, std_sne, std_slt, std_sle, std_sgt, std_sge, std_slen, std_sget, std_scut, std_ofNat, std_toNat, std_nsub, std_nadd, std_lenOf, std_nz, std_nneg, std_inb, std_upto, std_slt63, std_grow, std_imp, std_impN, std_tr, std_tb, std_ti, std_ts, std_tn, std_tp, std_nmin, std_makes, std_room, std_zeros, std_nilq, std_notq, std_eqi, std_eqn, std_eqb, std_eqs, std_eqv, std_cat, std_lst, std_rset, std_rcopy, std_shift, std_eqr, std_strOf, std_bytesOf, std_isB, std_zOf, zOf_int, std_isI, isI_int, std_getL, std_nmul, std_sOf, sOf_str, std_isS, isS_str, std_fadd, std_fsub, std_fav, std_fsv, std_feq, std_fne, std_flt, std_fle, std_fgt, std_fge, std_fOf, std_fTo, std_fTv] at q; omega)
        | trace_state
noncomputable def c_shFind : Ct := fun A args => match args with
  | [.slc n 8 f, .agg [.int .u32 s, .str r]] => some (some (A.tp fun _ => isRow eE E0 8 n f ∧ n ≤ 1000000), .tup [entS A fun _ => fnd (lstOf eE E0 8 n f) s r, .bool (A.tb fun _ => has (lstOf eE E0 8 n f) s r)])
  | _ => none
noncomputable def gs2 : Ar → Pu := addC 45 c_shFind (gs1)
theorem gs2_ok : PuOk Tryd.prog gl0 (gs2 std) := by
  refine addC_ok (gs1_ok) ⟨_, Tryd.func45, rfl, by decide⟩ ?_
  · intro args p r h hp
    unfold c_shFind at h
    split at h <;> cases h
    exact good_sv (good_shFind _ _ _ (by rw [lstOf_length hp.1]; exact hp.2)) ⟨hp.1.sv, ⟨_, rfl, rfl, rfl, trivial⟩, trivial⟩
/-! ### The place of a key -/
def ltK (s : Int) (r : List UInt8) (e : Ent) : Bool := decide (ordK e.s e.r s r < 0)
def pos (L : List Ent) (s : Int) (r : List UInt8) : Nat := (L.takeWhile (ltK s r)).length
theorem pos_le (L : List Ent) (s : Int) (r : List UInt8) : pos L s r ≤ L.length := by
  unfold pos
  exact (List.takeWhile_prefix _).length_le
theorem pos_eq {L : List Ent} {s : Int} {r : List UInt8} {i : Nat} (hi : i ≤ L.length) (h1 : ∀ j, j < i → ltK s r (L.getD j E0) = true) (h2 : i < L.length → ltK s r (L.getD i E0) = false) : pos L s r = i := by
  unfold pos
  induction L generalizing i with
  | nil => simp at hi; simp [hi]
  | cons e L ih =>
    cases i with
    | zero =>
      have := h2 (by simp)
      simp only [List.getD_cons_zero] at this
      rw [List.takeWhile_cons, if_neg (by rw [this]; simp)]
      rfl
    | succ i =>
      have h0 := h1 0 (by omega)
      simp only [List.getD_cons_zero] at h0
      rw [List.takeWhile_cons, if_pos h0, List.length_cons, ih (by simpa using hi) (fun j hj => by simpa using h1 (j + 1) (by omega)) (fun h => by simpa using h2 (by simpa using h))]
theorem ordK_lt_iff {s t : Int} {r q : List UInt8} : ordK s r t q < 0 ↔ s < t ∨ (s = t ∧ r < q) := by
  rw [ordK_eq]
  by_cases e : s = t ∧ r = q
  · rw [if_pos e]
    obtain ⟨rfl, rfl⟩ := e
    constructor
    · intro h; omega
    · rintro (h | h)
      · omega
      · exact absurd h.2 (List.lt_irrefl _)
  · rw [if_neg e]
    by_cases h : s < t ∨ (s = t ∧ r < q)
    · rw [if_pos h]; simp [h]
    · rw [if_neg h]; simp [h]
theorem ordK_trans {s t u : Int} {r q p : List UInt8} (h1 : ordK s r t q < 0) (h2 : ordK t q u p < 0) : ordK s r u p < 0 := by
  rw [ordK_lt_iff] at *
  rcases h1 with h1 | ⟨rfl, h1⟩
  · rcases h2 with h2 | ⟨rfl, h2⟩
    · exact .inl (by omega)
    · exact .inl h1
  · rcases h2 with h2 | ⟨rfl, h2⟩
    · exact .inl h2
    · exact .inr ⟨rfl, List.lt_trans h1 h2⟩
theorem asc_mono {L : List Ent} (h : ascP L) : ∀ {i j : Nat}, i < j → j < L.length → ordE (L.getD i E0) (L.getD j E0) < 0
  | i, 0, hij, _ => absurd hij (by omega)
  | i, j + 1, hij, hj => by
    have h1 := (h (j + 1) hj).2 (by omega)
    rw [Nat.add_sub_cancel] at h1
    rcases Nat.lt_or_ge i j with h2 | h2
    · exact ordK_trans (asc_mono h h2 (by omega)) h1
    · obtain rfl : i = j := by omega
      exact h1
theorem ltK_mono {L : List Ent} (h : ascP L) {s : Int} {r : List UInt8} {i j : Nat} (hij : i ≤ j) (hj : j < L.length) (hl : ltK s r (L.getD j E0) = true) : ltK s r (L.getD i E0) = true := by
  rcases Nat.lt_or_ge i j with h2 | h2
  · have h3 := asc_mono h h2 hj
    unfold ltK at *
    exact decide_eq_true (ordK_trans h3 (of_decide_eq_true hl))
  · obtain rfl : i = j := by omega
    exact hl
end Go.Vd

set_option linter.unusedVariables false
set_option linter.unusedSimpArgs false
set_option maxRecDepth 100000
set_option maxHeartbeats 8000000
namespace Go.Vd
open Go.Proofs
noncomputable def iS3 : Nat → Option Func := addI 68 Tryd.f68 (addI 69 Tryd.f69 noI)
theorem iS3_ok : InOk Tryd.prog iS3 := addI_ok (addI_ok noI_ok Tryd.func69 (by kernel_rfl)) Tryd.func68 (by kernel_rfl)
def srOk (L : List Ent) (s : Int) (r : List UInt8) (i j : Nat) : Prop := i ≤ j ∧ j ≤ L.length ∧ (∀ t, t < i → ltK s r (L.getD t E0) = true) ∧ ∀ t, j ≤ t → t < L.length → ltK s r (L.getD t E0) = false
theorem mid_eq {i j m : Nat} (hm : m = (i + j) / 2) (hi : i ≤ 1000000000) (hj : j ≤ 1000000000) : std.conv .i64 (std.shr .u64 (std.conv .u64 (std.add .i64 (Int.ofNat i) (Int.ofNat j))) 1) = Int.ofNat m := by
  show IntKind.i64.wrap ((IntKind.u64.wrap (IntKind.i64.wrap ((i : Int) + (j : Int)))).fdiv (2 ^ (min (1 : Int).toNat IntKind.u64.bits))) = (m : Int)
  have e0 : IntKind.i64.wrap ((i : Int) + (j : Int)) = (i : Int) + (j : Int) := w64 (by omega)
  have e1 : IntKind.u64.wrap ((i : Int) + (j : Int)) = (i : Int) + (j : Int) := by rw [IntKind.wrap_u64]; omega
  have e2 : (2 : Int) ^ (min (1 : Int).toNat IntKind.u64.bits) = 2 := by decide
  rw [e0, e1, e2, Int.fdiv_eq_ediv_of_nonneg _ (by decide), w64 (by omega)]
  omega
theorem ltK_self {s : Int} {r : List UInt8} {e : Ent} (h : kE s r e = true) : ltK s r e = false := by
  obtain ⟨h1, h2⟩ := kE_iff.1 h
  unfold ltK
  rw [decide_eq_false]
  rw [ordK_eq, if_pos ⟨h1, h2⟩]
  decide
theorem has_at {L : List Ent} (hasc : ascP L) {s : Int} {r : List UInt8} {i : Nat} (h1 : ∀ t, t < i → ltK s r (L.getD t E0) = true) (h2 : ∀ t, i ≤ t → t < L.length → ltK s r (L.getD t E0) = false) :
    has L s r = true ↔ i < L.length ∧ kE s r (L.getD i E0) = true := by
  constructor
  · intro h
    unfold has at h
    rw [List.any_eq_true] at h
    obtain ⟨x, hx, hk⟩ := h
    obtain ⟨t, ht, rfl⟩ := List.getElem_of_mem hx
    have hgt : L[t] = L.getD t E0 := by simp [List.getD_eq_getElem?_getD, ht]
    rw [hgt] at hk
    have hti : i ≤ t := by
      rcases Nat.lt_or_ge t i with h | h
      · have := h1 t h
        rw [ltK_self hk] at this
        cases this
      · exact h
    rcases Nat.lt_or_ge i t with h | h
    · have h3 := asc_mono hasc h ht
      have h4 := h2 i (Nat.le_refl _) (by omega)
      obtain ⟨k1, k2⟩ := kE_iff.1 hk
      unfold ltK at h4
      unfold ordE at h3
      rw [k1, k2] at h3
      rw [decide_eq_true h3] at h4
      cases h4
    · obtain rfl : t = i := by omega
      exact ⟨ht, hk⟩
  · rintro ⟨h, hk⟩
    unfold has
    rw [List.any_eq_true]
    exact ⟨_, by rw [List.getD_eq_getElem?_getD, List.getElem?_eq_getElem h]; exact List.getElem_mem h, hk⟩
attribute [local irreducible] vc
theorem good_shPlace (L : List Ent) (s : Int) (r : List UInt8) (hL : L.length ≤ 1000000) (hasc : ascP L) : GoodP Tryd.prog gl0 48 [rowS eE E0 8 std fun _ => L, .agg [.int .u32 s, .str r]] (.tup [.int .i64 (std.ti fun _ => (pos L s r : Int)), .bool (std.tb fun _ => has L s r)]) := by
  refine fn_sound' (T := seatT) (G := gs2) (X := noX) seatT_ok gs2_ok noX_ok iS3_ok mixed Tryd.func48 (.one) (fun A => [rowS eE E0 8 A fun _ => L, .agg [.int .u32 s, .str r]]) (fun A => .tup [.int .i64 (A.ti fun _ => (pos L s r : Int)), .bool (A.tb fun _ => has L s r)]) fun A hA => ?_
  cbv
  repeat' (first | with_reducible exact True.intro | with_reducible exact dr_ok hA (by kernel_rfl) | with_reducible refine And.intro ?_ ?_ | (intro hc; cbv))
  obtain ⟨n0, hn0⟩ : ∃ n0, n0 = L.length := ⟨_, rfl⟩
  refine ⟨⟨{p : Nat × Nat // srOk L s r p.1 p.2}, fun b p => [(5, .int .i64 (p.1.1 : Nat)), (6, .int .i64 (p.1.2 : Nat))], fun b p => [], fun p => p.1.2 - p.1.1, true⟩, ⟨⟨(0, n0), by omega, by omega, by simp, fun t h1 h2 => absurd h1 (by omega)⟩, ?_⟩, ?_⟩
  · cbv
    subst hA
    simp [-List.getD_eq_getElem?_getD, std_add, std_sub, std_mul, std_quo, std_rem, std_band, std_bor, std_bxor, std_shl, std_shr, std_eq, std_ne, std_lt, std_le, std_conv, std_not, std_beq, std_bne, std_ite, std_want, std_and2, std_sadd, std_seq, std_sne, std_slt, std_sle, std_sgt, std_sge, std_slen, std_sget, std_scut, std_ofNat, std_toNat, std_nsub, std_nadd, std_lenOf, std_nz, std_nneg, std_inb, std_upto, std_slt63, std_grow, std_imp, std_impN, std_tr, std_tb, std_ti, std_ts, std_tn, std_tp, std_nmin, std_makes, std_room, std_zeros, std_nilq, std_notq, std_eqi, std_eqn, std_eqb, std_eqs, std_eqv, std_cat, std_lst, std_rset, std_rcopy, std_shift, std_eqr, std_strOf, std_bytesOf, std_isB, std_zOf, zOf_int, std_isI, isI_int, std_getL, std_nmul, std_sOf, sOf_str, std_isS, isS_str, std_fadd, std_fsub, std_fav, std_fsv, std_feq, std_fne, std_flt, std_fle, std_fgt, std_fge, std_fOf, std_fTo, std_fTv, hn0]
  · rintro ⟨⟨i, j⟩, hx⟩
    have hij : i ≤ j := hx.1
    have hjL : j ≤ L.length := hx.2.1
    have h1 : ∀ t, t < i → ltK s r (L.getD t E0) = true := hx.2.2.1
    have h2 : ∀ t, j ≤ t → t < L.length → ltK s r (L.getD t E0) = false := hx.2.2.2
    rcases Nat.lt_or_ge i j with hlt | hge
    · obtain ⟨m, hm⟩ : ∃ m, m = (i + j) / 2 := ⟨_, rfl⟩
      have hmi : i ≤ m := by omega
      have hmj : m < j := by omega
      have hmL : m < L.length := by omega
      obtain ⟨e, he⟩ : ∃ e, e = L.getD m E0 := ⟨_, rfl⟩
      have hg : L.getD m { s := 0, r := [], st := 0, pan := [], am := 0, code := [], tr := 0, ca := 0 } = e := he.symm
      have hyes : ltK s r e = true → srOk L s r (m + 1) j := fun hk => ⟨by omega, hjL, fun t ht => ltK_mono hasc (show t ≤ m by omega) hmL (he ▸ hk), h2⟩
      have hno : ltK s r e = false → srOk L s r i m := fun hk => ⟨hmi, by omega, h1, fun t ht1 ht2 => by
        cases hq : ltK s r (L.getD t E0)
        · rfl
        · have := ltK_mono hasc ht1 ht2 hq
          rw [← he, hk] at this
          cases this⟩
      have hmid := mid_eq hm (by omega) (by omega)
      cbv
      repeat' (first | with_reducible exact True.intro | with_reducible exact dr_ok hA (by kernel_rfl) | with_reducible refine And.intro ?_ ?_ | (intro hc; cbv))
      all_goals first
        | (fail_if_success (refine Exists.intro ?_ ?_)
           clear h1 h2 hyes hno
           subst hA
           simp only [hmid] at *
           simp [-List.getD_eq_getElem?_getD, std_add, std_sub, std_mul, std_quo, std_rem, std_band, std_bor, std_bxor, std_shl, std_shr, std_eq, std_ne, std_lt, std_le, std_conv, std_not, std_beq, std_bne, std_ite, std_want, std_and2, std_sadd, std_seq, std_sne, std_slt, std_sle, std_sgt, std_sge, std_slen, std_sget, std_scut, std_ofNat, std_toNat, std_nsub, std_nadd, std_lenOf, std_nz, std_nneg, std_inb, std_upto, std_slt63, std_grow, std_imp, std_impN, std_tr, std_tb, std_ti, std_ts, std_tn, std_tp, std_nmin, std_makes, std_room, std_zeros, std_nilq, std_notq, std_eqi, std_eqn, std_eqb, std_eqs, std_eqv, std_cat, std_lst, std_rset, std_rcopy, std_shift, std_eqr, std_strOf, std_bytesOf, std_isB, std_zOf, zOf_int, std_isI, isI_int, std_getL, std_nmul, std_sOf, sOf_str, std_isS, isS_str, std_fadd, std_fsub, std_fav, std_fsv, std_feq, std_fne, std_flt, std_fle, std_fgt, std_fge, std_fOf, std_fTo, std_fTv, hg] at *
           first
             | done
             | exact ⟨(show (0 : Int) ≤ ((m : Nat) : Int) by omega), (show ((m : Nat) : Int) < ((L.length : Nat) : Int) by omega)⟩
             | omega
             | (exfalso; omega)
             | trace_state)
        | (obtain ⟨m', hm'⟩ : ∃ m', m' = m + 1 := ⟨_, rfl⟩
           have hk : ltK s r e = true := by
             clear h1 h2 hyes hno
             subst hA
             simp only [hmid] at hc
             simp [-List.getD_eq_getElem?_getD, std_add, std_sub, std_mul, std_quo, std_rem, std_band, std_bor, std_bxor, std_shl, std_shr, std_eq, std_ne, std_lt, std_le, std_conv, std_not, std_beq, std_bne, std_ite, std_want, std_and2, std_sadd, std_seq, std_sne, std_slt, std_sle, std_sgt, std_sge, std_slen, std_sget, std_scut, std_ofNat, std_toNat, std_nsub, std_nadd, std_lenOf, std_nz, std_nneg, std_inb, std_upto, std_slt63, std_grow, std_imp, std_impN, std_tr, std_tb, std_ti, std_ts, std_tn, std_tp, std_nmin, std_makes, std_room, std_zeros, std_nilq, std_notq, std_eqi, std_eqn, std_eqb, std_eqs, std_eqv, std_cat, std_lst, std_rset, std_rcopy, std_shift, std_eqr, std_strOf, std_bytesOf, std_isB, std_zOf, zOf_int, std_isI, isI_int, std_getL, std_nmul, std_sOf, sOf_str, std_isS, isS_str, std_fadd, std_fsub, std_fav, std_fsv, std_feq, std_fne, std_flt, std_fle, std_fgt, std_fge, std_fOf, std_fTo, std_fTv, hg] at hc
             exact decide_eq_true hc
           refine ⟨⟨(m', j), by rw [hm']; exact hyes hk⟩, ?_, show j - m' < j - i by omega⟩
           cbv
           subst hA
           simp only [hmid]
           simp [-List.getD_eq_getElem?_getD, std_add, std_sub, std_mul, std_quo, std_rem, std_band, std_bor, std_bxor, std_shl, std_shr, std_eq, std_ne, std_lt, std_le, std_conv, std_not, std_beq, std_bne, std_ite, std_want, std_and2, std_sadd, std_seq, std_sne, std_slt, std_sle, std_sgt, std_sge, std_slen, std_sget, std_scut, std_ofNat, std_toNat, std_nsub, std_nadd, std_lenOf, std_nz, std_nneg, std_inb, std_upto, std_slt63, std_grow, std_imp, std_impN, std_tr, std_tb, std_ti, std_ts, std_tn, std_tp, std_nmin, std_makes, std_room, std_zeros, std_nilq, std_notq, std_eqi, std_eqn, std_eqb, std_eqs, std_eqv, std_cat, std_lst, std_rset, std_rcopy, std_shift, std_eqr, std_strOf, std_bytesOf, std_isB, std_zOf, zOf_int, std_isI, isI_int, std_getL, std_nmul, std_sOf, sOf_str, std_isS, isS_str, std_fadd, std_fsub, std_fav, std_fsv, std_feq, std_fne, std_flt, std_fle, std_fgt, std_fge, std_fOf, std_fTo, std_fTv]
           exact w_succ' hm' (by omega))
        | (have hk : ltK s r e = false := by
             clear h1 h2 hyes hno
             subst hA
             simp only [hmid] at hc
             simp [-List.getD_eq_getElem?_getD, std_add, std_sub, std_mul, std_quo, std_rem, std_band, std_bor, std_bxor, std_shl, std_shr, std_eq, std_ne, std_lt, std_le, std_conv, std_not, std_beq, std_bne, std_ite, std_want, std_and2, std_sadd, std_seq, std_sne, std_slt, std_sle, std_sgt, std_sge, std_slen, std_sget, std_scut, std_ofNat, std_toNat, std_nsub, std_nadd, std_lenOf, std_nz, std_nneg, std_inb, std_upto, std_slt63, std_grow, std_imp, std_impN, std_tr, std_tb, std_ti, std_ts, std_tn, std_tp, std_nmin, std_makes, std_room, std_zeros, std_nilq, std_notq, std_eqi, std_eqn, std_eqb, std_eqs, std_eqv, std_cat, std_lst, std_rset, std_rcopy, std_shift, std_eqr, std_strOf, std_bytesOf, std_isB, std_zOf, zOf_int, std_isI, isI_int, std_getL, std_nmul, std_sOf, sOf_str, std_isS, isS_str, std_fadd, std_fsub, std_fav, std_fsv, std_feq, std_fne, std_flt, std_fle, std_fgt, std_fge, std_fOf, std_fTo, std_fTv, hg] at hc
             exact decide_eq_false (by omega)
           refine ⟨⟨(i, m), hno hk⟩, ?_, show m - i < j - i by omega⟩
           cbv
           subst hA
           simp only [hmid]
           simp [-List.getD_eq_getElem?_getD, std_add, std_sub, std_mul, std_quo, std_rem, std_band, std_bor, std_bxor, std_shl, std_shr, std_eq, std_ne, std_lt, std_le, std_conv, std_not, std_beq, std_bne, std_ite, std_want, std_and2, std_sadd, std_seq, std_sne, std_slt, std_sle, std_sgt, std_sge, std_slen, std_sget, std_scut, std_ofNat, std_toNat, std_nsub, std_nadd, std_lenOf, std_nz, std_nneg, std_inb, std_upto, std_slt63, std_grow, std_imp, std_impN, std_tr, std_tb, std_ti, std_ts, std_tn, std_tp, std_nmin, std_makes, std_room, std_zeros, std_nilq, std_notq, std_eqi, std_eqn, std_eqb, std_eqs, std_eqv, std_cat, std_lst, std_rset, std_rcopy, std_shift, std_eqr, std_strOf, std_bytesOf, std_isB, std_zOf, zOf_int, std_isI, isI_int, std_getL, std_nmul, std_sOf, sOf_str, std_isS, isS_str, std_fadd, std_fsub, std_fav, std_fsv, std_feq, std_fne, std_flt, std_fle, std_fgt, std_fge, std_fOf, std_fTo, std_fTv])
        | trace_state
    · obtain rfl : i = j := by omega
      have hp : pos L s r = i := pos_eq hjL h1 fun h => h2 i (Nat.le_refl _) h
      have hhas := has_at hasc h1 h2
      obtain ⟨e, he⟩ : ∃ e, e = L.getD i E0 := ⟨_, rfl⟩
      have hg : L.getD i { s := 0, r := [], st := 0, pan := [], am := 0, code := [], tr := 0, ca := 0 } = e := he.symm
      rw [← he] at hhas
      rw [kE_iff] at hhas
      cbv
      repeat' (first | with_reducible exact True.intro | with_reducible exact dr_ok hA (by kernel_rfl) | with_reducible refine And.intro ?_ ?_ | (intro hc; cbv))
      all_goals first
        | (exfalso
           clear h1 h2
           subst hA
           first
             | (simp [-List.getD_eq_getElem?_getD, std_add, std_sub, std_mul, std_quo, std_rem, std_band, std_bor, std_bxor, std_shl, std_shr, std_eq, std_ne, std_lt, std_le, std_conv, std_not, std_beq, std_bne, std_ite, std_want, std_and2, std_sadd, std_seq, std_sne, std_slt, std_sle, std_sgt, std_sge, std_slen, std_sget, std_scut, std_ofNat, std_toNat, std_nsub, std_nadd, std_lenOf, std_nz, std_nneg, std_inb, std_upto, std_slt63, std_grow, std_imp, std_impN, std_tr, std_tb, std_ti, std_ts, std_tn, std_tp, std_nmin, std_makes, std_room, std_zeros, std_nilq, std_notq, std_eqi, std_eqn, std_eqb, std_eqs, std_eqv, std_cat, std_lst, std_rset, std_rcopy, std_shift, std_eqr, std_strOf, std_bytesOf, std_isB, std_zOf, zOf_int, std_isI, isI_int, std_getL, std_nmul, std_sOf, sOf_str, std_isS, isS_str, std_fadd, std_fsub, std_fav, std_fsv, std_feq, std_fne, std_flt, std_fle, std_fgt, std_fge, std_fOf, std_fTo, std_fTv] at hc; done)
             | (rename_i q; simp [-List.getD_eq_getElem?_getD, std_add, std_sub, std_mul, std_quo, std_rem, std_band, std_bor, std_bxor, std_shl, std_shr, std_eq, std_ne, std_lt, std_le, std_conv, std_not, std_beq, std_bne, std_ite, std_want, std_and2, std_sadd, std_seq, std_sne, std_slt, std_sle, std_sgt, std_sge, std_slen, std_sget, std_scut, std_ofNat, std_toNat, std_nsub, std_nadd, std_lenOf, std_nz, std_nneg, std_inb, std_upto, std_slt63, std_grow, std_imp, std_impN, std_tr, std_tb, std_ti, std_ts, std_tn, std_tp, std_nmin, std_makes, std_room, std_zeros, std_nilq, std_notq, std_eqi, std_eqn, std_eqb, std_eqs, std_eqv, std_cat, std_lst, std_rset, std_rcopy, std_shift, std_eqr, std_strOf, std_bytesOf, std_isB, std_zOf, zOf_int, std_isI, isI_int, std_getL, std_nmul, std_sOf, sOf_str, std_isS, isS_str, std_fadd, std_fsub, std_fav, std_fsv, std_feq, std_fne, std_flt, std_fle, std_fgt, std_fge, std_fOf, std_fTo, std_fTv] at q; done))
        | (clear h1 h2
           subst hA
           simp [-List.getD_eq_getElem?_getD, std_add, std_sub, std_mul, std_quo, std_rem, std_band, std_bor, std_bxor, std_shl, std_shr, std_eq, std_ne, std_lt, std_le, std_conv, std_not, std_beq, std_bne, std_ite, std_want, std_and2, std_sadd, std_seq, std_sne, std_slt, std_sle, std_sgt, std_sge, std_slen, std_sget, std_scut, std_ofNat, std_toNat, std_nsub, std_nadd, std_lenOf, std_nz, std_nneg, std_inb, std_upto, std_slt63, std_grow, std_imp, std_impN, std_tr, std_tb, std_ti, std_ts, std_tn, std_tp, std_nmin, std_makes, std_room, std_zeros, std_nilq, std_notq, std_eqi, std_eqn, std_eqb, std_eqs, std_eqv, std_cat, std_lst, std_rset, std_rcopy, std_shift, std_eqr, std_strOf, std_bytesOf, std_isB, std_zOf, zOf_int, std_isI, isI_int, std_getL, std_nmul, std_sOf, sOf_str, std_isS, isS_str, std_fadd, std_fsub, std_fav, std_fsv, std_feq, std_fne, std_flt, std_fle, std_fgt, std_fge, std_fOf, std_fTo, std_fTv, hg, hp] at *
           first
             | done
             | omega
             | (intros; omega)
             | (rw [Bool.eq_iff_iff, hhas]; simp; done)
             | (rw [Bool.eq_iff_iff, hhas]; simp; omega)
             | trace_state)
        | trace_state
noncomputable def c_shPlace : Ct := fun A args => match args with
  | [.slc n 8 f, .agg [.int .u32 s, .str r]] => some (some (A.tp fun _ => isRow eE E0 8 n f ∧ n ≤ 1000000 ∧ ascB (lstOf eE E0 8 n f) = true), .tup [.int .i64 (A.ti fun _ => (pos (lstOf eE E0 8 n f) s r : Int)), .bool (A.tb fun _ => has (lstOf eE E0 8 n f) s r)])
  | _ => none
noncomputable def gs3 : Ar → Pu := addC 48 c_shPlace (gs2)
theorem gs3_ok : PuOk Tryd.prog gl0 (gs3 std) := by
  refine addC_ok (gs2_ok) ⟨_, Tryd.func48, rfl, by decide⟩ ?_
  · intro args p r h hp
    unfold c_shPlace at h
    split at h <;> cases h
    exact good_sv (good_shPlace _ _ _ (by rw [lstOf_length hp.1]; exact hp.2.1) ((ascB_iff _).1 hp.2.2)) ⟨hp.1.sv, ⟨_, rfl, rfl, rfl, trivial⟩, trivial⟩
end Go.Vd

set_option linter.unusedVariables false
set_option linter.unusedSimpArgs false
namespace Go.Vd
open Go.RowKit
theorem list_ins {α : Type} (C news : List α) (K N s : Nat) (hK : K ≤ N) (hN : N + s ≤ C.length) (hn : news.length = s) :
    (((C.take (K + s) ++ (C.take N).drop K ++ C.drop (K + s + ((C.take N).drop K).length)).take K ++ news ++ (C.take (K + s) ++ (C.take N).drop K ++ C.drop (K + s + ((C.take N).drop K).length)).drop (K + s))).take (N + s) =
      (C.take N).take K ++ news ++ (C.take N).drop K := by
  have l1 : (C.take (K + s)).length = K + s := by rw [List.length_take]; omega
  have l2 : ((C.take N).drop K).length = N - K := by rw [List.length_drop, List.length_take]; omega
  have e1 : (C.take (K + s) ++ (C.take N).drop K ++ C.drop (K + s + ((C.take N).drop K).length)).take K = C.take K := by
    rw [List.append_assoc, List.take_append, show K - (C.take (K + s)).length = 0 by omega, List.take_zero, List.append_nil, List.take_take, show min K (K + s) = K by omega]
  have e2 : (C.take (K + s) ++ (C.take N).drop K ++ C.drop (K + s + ((C.take N).drop K).length)).drop (K + s) = (C.take N).drop K ++ C.drop (K + s + ((C.take N).drop K).length) := by
    rw [List.append_assoc, List.drop_append, List.drop_of_length_le (by omega), List.nil_append, l1, show K + s - (K + s) = 0 by omega, List.drop_zero]
  rw [e1, e2, ← List.append_assoc, List.take_append]
  have l3 : (C.take K ++ news ++ (C.take N).drop K).length = N + s := by rw [List.length_append, List.length_append, l2, hn, List.length_take]; omega
  rw [l3, List.take_of_length_le (by omega), show N + s - (N + s) = 0 by omega, List.take_zero, List.append_nil, List.take_take, show min K N = K by omega]
theorem list_ins2 {α : Type} (R xs news cs Z : List α) (K N s : Nat) (hK : K ≤ N) (hx : xs.length = N) (hR : R = xs.take K ++ Z) (hRl : N + s ≤ R.length) (hn : news.length = s) (hc : cs = xs.drop K) :
    ((R.take K ++ news ++ R.drop (K + news.length)).take (K + s) ++ cs ++ (R.take K ++ news ++ R.drop (K + news.length)).drop (K + s + cs.length)).take (N + s) = xs.take K ++ news ++ xs.drop K := by
  have l0 : (xs.take K).length = K := by rw [List.length_take]; omega
  have e0 : R.take K = xs.take K := by rw [hR, List.take_append, l0, show K - K = 0 by omega, List.take_zero, List.append_nil, List.take_take, show min K K = K by omega]
  have l1 : (R.take K ++ news).length = K + s := by rw [e0, List.length_append, l0, hn]
  have e1 : (R.take K ++ news ++ R.drop (K + news.length)).take (K + s) = R.take K ++ news := by
    rw [List.take_append, l1, show K + s - (K + s) = 0 by omega, List.take_zero, List.append_nil, List.take_of_length_le (by omega)]
  rw [e1, e0, hc]
  have l2 : (xs.take K ++ news ++ xs.drop K).length = N + s := by rw [List.length_append, List.length_append, l0, hn, List.length_drop]; omega
  rw [List.take_append, l2, show N + s - (N + s) = 0 by omega, List.take_zero, List.append_nil, List.take_of_length_le (by omega)]
/-- A row with one element more. -/
def insS (g : Nat → Nat → SV) (k : Nat) (h : Nat → Nat → SV) : Nat → Nat → SV := fun a b => if a < k then g a b else if a = k then h 0 b else g (a - 1) b
theorem ins_rel {w : World} {rw : Nat → Prop} {s n k : Nat} {xs news : List Value} {g h : Nat → Nat → SV} (hs : 0 < s) (hk : k ≤ n) (hxl : xs.length = n * s) (hnl : news.length = s)
    (hrel : ∀ i j u, i < n → j < s → xs[i * s + j]? = some u → RelC w rw u (g i j)) (hnR : ∀ j u, news[j]? = some u → RelC w rw u (h 0 j)) {i j : Nat} {u : Value} (hi : i < n + 1) (hj : j < s)
    (hu : (xs.take (k * s) ++ news ++ xs.drop (k * s))[i * s + j]? = some u) : RelC w rw u (insS g k h i j) := by
  have hks : k * s ≤ n * s := Nat.mul_le_mul_right s hk
  have l0 : (xs.take (k * s)).length = k * s := by rw [List.length_take]; omega
  unfold insS
  rcases Nat.lt_trichotomy i k with hlt | rfl | hgt
  · rw [if_pos hlt]
    have h1 : (i + 1) * s ≤ k * s := Nat.mul_le_mul_right s hlt
    rw [Nat.add_mul] at h1
    rw [List.append_assoc, List.getElem?_append_left (by omega), List.getElem?_take_of_lt (by omega)] at hu
    exact hrel i j u (by omega) hj hu
  · rw [if_neg (by omega), if_pos rfl]
    rw [List.append_assoc, List.getElem?_append_right (by omega), l0, List.getElem?_append_left (by omega), show i * s + j - i * s = j by omega] at hu
    exact hnR j u hu
  · rw [if_neg (by omega), if_neg (by omega)]
    have h1 : (k + 1) * s ≤ i * s := Nat.mul_le_mul_right s hgt
    have h2 : i * s = (i - 1) * s + s := by rw [← Nat.succ_mul]; congr 1; omega
    rw [Nat.add_mul] at h1
    rw [List.getElem?_append_right (by rw [List.length_append, l0, hnl]; omega), List.length_append, l0, hnl, List.getElem?_drop] at hu
    rw [show k * s + (i * s + j - (k * s + s)) = (i - 1) * s + j by omega] at hu
    exact hrel (i - 1) j u (by omega) hj hu
section
variable {P : Program}
theorem wpList_copyR (w : World) {ops : Array Oper} {rest : List Oper} {o : Oper} {a : Act} {Q : Exit → Act → World → Prop} (hgd : o.guard = none) (d s : Operand) (t t' : TypeId)
    (ho : o.op = .call { callee := .builtin .copy, args := #[d, s], argTypes := #[t, t'] }) (v u : Value) (hd : a.eval d = v) (hs : a.eval s = u) {v' : Value} {w' : World}
    (hr : (Builtin.copy_ #[t, t'] o.type #[v, u]).run P w = .ok v' w') (h : wpList P ops Q rest (a.put o.dst v') w') : wpList P ops Q (o :: rest) a w :=
  wpList_plain hgd fun _ hK => wp_value (by
    simp only [execOp, ho, resolve, invoke, builtin, Sem.run_bind, Sem.run_pure, Result.andThen_ok, List.map_toArray, List.map_cons, List.map_nil, hd, hs, hr]) (hK _ _ h)
theorem wpList_appR (w : World) {ops : Array Oper} {rest : List Oper} {o : Oper} {a : Act} {Q : Exit → Act → World → Prop} (hgd : o.guard = none) (d s : Operand) (t t' : TypeId)
    (ho : o.op = .call { callee := .builtin .append, args := #[d, s], argTypes := #[t, t'] }) (v u : Value) (hd : a.eval d = v) (hs : a.eval s = u) {v' : Value} {w' : World}
    (hr : (Builtin.append_ #[t, t'] o.type #[v, u]).run P w = .ok v' w') (h : wpList P ops Q rest (a.put o.dst v') w') : wpList P ops Q (o :: rest) a w :=
  wpList_plain hgd fun _ hK => wp_value (by
    simp only [execOp, ho, resolve, invoke, builtin, Sem.run_bind, Sem.run_pure, Result.andThen_ok, List.map_toArray, List.map_cons, List.map_nil, hd, hs, hr]) (hK _ _ h)
theorem step_copyR {ops : Array Oper} {o : Oper} {a : Act} {w : World} {K : Act → World → Prop} {Q : Exit → Act → World → Prop} {E : Prop}
    (hg : o.guard = none) (d x : Operand) (dT sT : TypeId) (hop : o.op = Op.call { callee := Callee.builtin Builtin.copy, args := #[d, x], argTypes := #[dT, sT] })
    (v u : Value) (hd : a.eval d = v) (hx : a.eval x = u) {v' : Value} {w' : World} (hr : (Builtin.copy_ #[dT, sT] o.type #[v, u]).run P w = .ok v' w') (hK : K (a.put o.dst v') w') :
    if Region.wanted o (yielded ops a.tmps) = true then Oper.wp P o a w K Q else E := by
  have hw : Region.wanted o (yielded ops a.tmps) = true := by simp [Region.wanted, hg]
  rw [if_pos hw]
  exact wp_value (by simp only [execOp, hop, resolve, invoke, builtin, Sem.run_bind, Sem.run_pure, Result.andThen_ok, List.map_toArray, List.map_cons, List.map_nil, hd, hx, hr]) hK
theorem two_slices {a b : Option Addr} {la ca lb cb : Nat} (f : (a : Option Addr) → (la ca : Nat) → (b : Option Addr) → (lb cb : Nat) → Sem Value) (g : Array Value → Sem Value) :
    Extern.SlicesOverlaps.overlaps.match_4 (fun _ => Sem Value) #[.slice a la ca, .slice b lb cb] f g = f a la ca b lb cb := rfl
/-- Is a plain block beside another one: they are never one. -/
theorem apart_plain (w : World) (tS tR e : TypeId) (ht : P.underlying tS = some (.slice e)) (size : Nat) (hz : ∀ w, (Go.sizeOf e).run P w = .ok size w)
    (a b : Addr) (la ca lb cb : Nat) (hne : a.block ≠ b.block) {ca0 cb0 : Array Value} {ta tb : TypeId} {ma : Nat × Nat} (hA : w.heap[a.block]? = some (.cells ca0 ta ma)) (hA0 : 0 < ca0.size) (hB : w.heap[b.block]? = some (.cells cb0 tb (0, 0))) :
    (Extern.SlicesOverlaps.overlaps #[tS, tS] #[tR] #[.slice (some a) la ca, .slice (some b) lb cb]).run P w = .ok (.bool false) w := by
  have hnb : (a.block != b.block) = true := by simpa using hne
  have hnb' : (a.block == b.block) = false := by simpa using hne
  have hsa : w.shape? a.block = some (ta, ca0.size) := by unfold World.shape?; rw [hA]
  have hsb : w.shape? b.block = some (tb, cb0.size) := by unfold World.shape?; rw [hB]
  have hfb : ∀ x, w.frozen? ⟨b.block, x, none⟩ = false := fun x => by unfold World.frozen?; simp only [hB]; simp
  have hfb' : w.frozen? b = false := by unfold World.frozen?; simp only [hB]; simp
  obtain ⟨q, hq⟩ : ∃ q, ca0.size = q + 1 := ⟨ca0.size - 1, by omega⟩
  rw [hq] at hsa
  unfold Extern.SlicesOverlaps.overlaps
  rw [two_slices]
  by_cases h0 : la = 0 ∨ lb = 0 ∨ size = 0
  · simp [run_underlying ht, hz, h0]
  · cases hfa : w.frozen? a <;> cases hfe : w.frozen? { block := a.block, off := q + 1 } <;>
      simp [run_underlying ht, hz, h0, hnb, hnb', frozen, noView, viewAt, mayBeOne, stringish, shape, Sem.run, hsa, hsb, hfa, hfe, hfb, hfb']
end
end Go.Vd

set_option linter.unusedVariables false
set_option linter.unusedSimpArgs false
set_option maxRecDepth 100000
set_option maxHeartbeats 4000000
namespace Go.Proofs
open Go.RowKit Go.Lib Go.Vd
theorem insE_mid (w : World) (g0 n cap k : Nat) (cur : Array Value) (a : Addr) (c : Nat) (news : List Value) (hk : k < n) (hroom : n + 1 ≤ cap) (hcap : cap ≤ 9223372036854775807)
    (hg : isC w g0 cur 37 8) (hcs : cur.size = cap * 8) (hone : ∀ v ∈ cur.toList.take (n * 8), v.oneCell' = true) (hnl : news.length = 8) (hnc : ∀ j v, news[j]? = some v → w.cell? (a.add j) = some v) (hn1 : ∀ v ∈ news, v.oneCell' = true) (hne : a.block ≠ g0)
    (hov : ∀ lb cb, (callFunc 70 #[.slice (some a) 1 c, .slice (some ⟨g0, (k + 1) * 8, none⟩) lb cb]).run Tryd.prog w = .ok (.value (.bool false)) w) :
    Calls Tryd.prog 49 #[.slice (some ⟨g0, 0, none⟩) n cap, .int .i64 k, .slice (some a) 1 c] w fun e w' =>
      e = .returned (.slice (some ⟨g0, 0, none⟩) (n + 1) cap) ∧ ∃ cur2, isC w' g0 cur2 37 8 ∧ cur2.size = cur.size ∧ cur2.toList.take ((n + 1) * 8) = (cur.toList.take (n * 8)).take (k * 8) ++ news ++ (cur.toList.take (n * 8)).drop (k * 8) ∧ w.grownBy w' (some g0) := by
  obtain ⟨ii, dd, zz, hi, hd, hs, _⟩ := ty37_ok
  have his : ii.size = 8 := hs
  obtain ⟨cs1, hcs1⟩ : ∃ cs1, cs1 = (cur.toList.take (n * 8)).drop (k * 8) := ⟨_, rfl⟩
  have hl1 : cs1.length = (n - k) * 8 := by rw [hcs1, List.length_drop, List.length_take, Array.length_toList]; omega
  have hm1 : Nat.min (n + 1 - k) (n - k) = n - k := by simp only [Nat.min_def]; split <;> omega
  have hm2 : Nat.min 1 (n + 1 - k) = 1 := by simp only [Nat.min_def]; split <;> omega
  obtain ⟨cur1, hcur1⟩ : ∃ cur1, cur1 = (cur.toList.take ((k + 1) * 8) ++ cs1 ++ cur.toList.drop ((k + 1) * 8 + cs1.length)).toArray := ⟨_, rfl⟩
  have hz1 : cur1.size = cur.size := by
    rw [hcur1]
    simp only [List.size_toArray, List.length_append, List.length_take, List.length_drop, Array.length_toList]
    omega
  have hgd : isC w.drew g0 cur 37 8 := hg
  have hcp1 : ∀ ty dc sc, (Builtin.copy_ #[22, 22] ty #[.slice (some ⟨g0, (k + 1) * 8, none⟩) (n - k) dc, .slice (some ⟨g0, k * 8, none⟩) (n + 1 - k) sc]).run Tryd.prog w.drew = .ok (goInt (n - k : Nat)) (w.drew.setRow g0 cur1) := fun ty dc sc => by
    have h := run_copy_k (P := Tryd.prog) w.drew 22 22 ty 37 g0 ((k + 1) * 8) (n - k) dc 8 ⟨g0, k * 8, none⟩ (n + 1 - k) sc cur 37 cs1 Tryd.underlying22 hi his hgd (by rw [hm1]; exact hl1)
      (fun j v hj => by
        rw [Addr.add_lit, hgd.cell, ← Array.getElem?_toList]
        rw [hcs1, List.getElem?_drop, List.getElem?_take] at hj
        split at hj
        · exact hj
        · cases hj) (by omega) (fun v hv => hone v (List.mem_of_mem_drop (hcs1 ▸ hv)))
    rw [hm1, ← hcur1] at h
    exact h
  obtain ⟨W1, hW1⟩ : ∃ W1, W1 = w.drew.setRow g0 cur1 := ⟨_, rfl⟩
  have hg1 : isC W1 g0 cur1 37 8 := by rw [hW1]; exact hgd.set hz1
  have hoth : ∀ b, b ≠ g0 → W1.heap[b]? = w.heap[b]? := fun b hb => by
    rw [hW1]
    simp only [World.setRow, Array.getElem?_modify]
    rw [if_neg (fun e => hb e.symm)]
    rfl
  have hcella : ∀ j, W1.cell? (a.add j) = w.cell? (a.add j) := fun j => by
    have hb : (a.add j).block = a.block := block_add a j
    unfold World.cell?
    rw [hb, hoth _ hne]
  obtain ⟨cur2, hcur2⟩ : ∃ cur2, cur2 = (cur1.toList.take (k * 8) ++ news ++ cur1.toList.drop (k * 8 + news.length)).toArray := ⟨_, rfl⟩
  have hz2 : cur2.size = cur1.size := by
    rw [hcur2]
    simp only [List.size_toArray, List.length_append, List.length_take, List.length_drop, Array.length_toList]
    omega
  have hcp2 : ∀ ty dc, (Builtin.copy_ #[22, 22] ty #[.slice (some ⟨g0, k * 8, none⟩) (n + 1 - k) dc, .slice (some a) 1 c]).run Tryd.prog W1 = .ok (goInt (1 : Nat)) (W1.setRow g0 cur2) := fun ty dc => by
    have h := run_copy_k (P := Tryd.prog) W1 22 22 ty 37 g0 (k * 8) (n + 1 - k) dc 8 a 1 c cur1 37 news Tryd.underlying22 hi his hg1 (by rw [hm2]; omega)
      (fun j v hj => by rw [hcella]; exact hnc j v hj) (by omega) hn1
    rw [hm2, ← hcur2] at h
    exact h
  rw [← hW1] at hcp1
  have hfin : cur2.toList.take ((n + 1) * 8) = (cur.toList.take (n * 8)).take (k * 8) ++ news ++ (cur.toList.take (n * 8)).drop (k * 8) := by
    rw [hcur2, hcur1, hcs1, hnl, Nat.add_mul, Nat.add_mul, Nat.one_mul]
    simp only [List.toList_toArray]
    exact list_ins cur.toList news (k * 8) (n * 8) 8 (by omega) (by rw [Array.length_toList]; omega) hnl
  have hgrow : w.grownBy (W1.setRow g0 cur2) (some g0) := by
    refine ⟨?_, ?_, ?_, ?_, fun b hb hne2 => ?_⟩
    · rw [hW1]; rfl
    · rw [hW1]; rfl
    · rw [hW1]; rfl
    · rw [hW1]; simp [World.setRow]
    · simp only [World.setRow, Array.getElem?_modify]
      rw [if_neg (fun e => hne2 (by rw [e])), hoth b (fun e => hne2 (by rw [e]))]
  have hw1 : IntKind.i64.wrap ((k : Int) + 1) = (k : Int) + 1 := by rw [IntKind.wrap_i64]; omega
  have hb1 : (0 : Int) ≤ (k : Int) + 1 := by omega
  have hin : k ≤ n := by omega
  have htn : ((k : Int) + 1).toNat = k + 1 := by omega
  have hb2 : ¬ (cap = k + 1) := by omega
  have hb3 : (k : Int) ≤ (n : Int) + 1 := by omega
  have hb4 : ¬ (cap = k) := by omega
  clear hW1 hcur2 hcur1 hcs1
  go_enter Tryd.func49, Tryd.ntmps49
  go_wp2_with (simp only [hov])
  go_region_law (refine step_copyR rfl _ _ 22 22 rfl _ _ (by simp [Act.eval, Act.put]) (by simp [Act.eval, Act.put]) (hcp1 _ _ _) ?_)
  go_wp2_with (at_builtin; refine wpList_copyR _ rfl _ _ 22 22 rfl _ _ rfl rfl (hcp2 _ _) ?_)
  go_ret
  exact ⟨rfl, cur2, hg1.set hz2, hz2.trans hz1, hfin, hgrow⟩
theorem insE_grow (w : World) (g0 n k : Nat) (cur : Array Value) (a : Addr) (c : Nat) (news : List Value) (hk : k < n) (hn0 : n ≤ 1000000)
    (hg : isC w g0 cur 37 8) (hcs : cur.size = n * 8) (hone : ∀ v ∈ cur.toList.take (n * 8), v.oneCell' = true) (hnl : news.length = 8) (hnc : ∀ j v, news[j]? = some v → w.cell? (a.add j) = some v) (hn1 : ∀ v ∈ news, v.oneCell' = true) (hab : a.block < w.heap.size) :
    Calls Tryd.prog 49 #[.slice (some ⟨g0, 0, none⟩) n n, .int .i64 k, .slice (some a) 1 c] w fun e w' =>
      ∃ G cur2, e = .returned (.slice (some ⟨w.heap.size, 0, none⟩) (n + 1) G) ∧ n + 1 ≤ G ∧ G ≤ maxLen ∧ isC w' w.heap.size cur2 37 8 ∧ cur2.size = G * 8 ∧ cur2.toList.take ((n + 1) * 8) = (cur.toList.take (n * 8)).take (k * 8) ++ news ++ (cur.toList.take (n * 8)).drop (k * 8) ∧ w.grownBy w' none := by
  obtain ⟨ii, dd, zz, hi, hd, hs, _, _, _, hz0, _, _, hzs, _⟩ := ty37_ok
  have his : ii.size = 8 := hs
  have hib : ii.bytes ≤ 1000 := by
    have := hi.symm.trans (show Tryd.prog.info? 37 = some _ from rfl)
    simp only [Option.some.injEq] at this
    rw [this]
    decide
  rw [his] at hzs
  obtain ⟨xs, hxs⟩ : ∃ xs, xs = cur.toList.take (n * 8) := ⟨_, rfl⟩
  have hxl : xs.length = n * 8 := by rw [hxs, List.length_take, Array.length_toList]; omega
  have hcell : ∀ j v, xs[j]? = some v → w.cell? ⟨g0, j, none⟩ = some v := fun j v hj => by
    rw [hg.cell, ← Array.getElem?_toList]
    rw [hxs, List.getElem?_take] at hj
    split at hj
    · exact hj
    · cases hj
  have hg0 : g0 < w.heap.size := hg.lt
  rw [← hxs] at hone ⊢
  obtain ⟨G, hG⟩ : ∃ G, G = grownCap w (n + 1) n 37 := ⟨_, rfl⟩
  have hGn : n + 1 ≤ G := by rw [hG]; exact grownCap_ge w _ _ _
  have hGm : G ≤ maxLen := by rw [hG]; exact grownCap_le_maxLen w (n + 1) n 37 (by simp only [maxLen]; omega)
  have hG63 : G ≤ 9223372036854775807 := hGm
  have hold : (Builtin.firstCells ii.size k (.slice (some ⟨g0, 0, none⟩) k n)).run Tryd.prog w.drew = .ok (xs.take (k * 8)).toArray w.drew := by
    rw [his]
    exact run_firstCells_some w.drew 8 k ⟨g0, 0, none⟩ k n (xs.take (k * 8)) (by rw [List.length_take]; omega) (fun j v hj => by
      rw [Addr.add_lit, Nat.zero_add]
      rw [List.getElem?_take] at hj
      split at hj
      · exact hcell j v hj
      · cases hj)
  have hik : k + (n + 1 - k) = n + 1 := by omega
  have hkk : (n : Int) + 1 - (k : Int) = ((n + 1 - k : Nat) : Int) := by omega
  obtain ⟨ROW, hROW⟩ : ∃ ROW : Array Value, ROW = (xs.take (k * 8)).toArray ++ Builtin.zeroCells zz.cells (n + 1 - k) ++ Builtin.zeroCells zz.cells (G - (n + 1)) := ⟨_, rfl⟩
  have hrz : ∀ ty, (Builtin.append_ #[22, 3] ty #[.slice (some ⟨g0, 0, none⟩) k n, .int .i64 ((n : Int) + 1 - (k : Int))]).run Tryd.prog w =
      .ok (.slice (some ⟨w.heap.size, 0, none⟩) (n + 1) G) ((w.alloc (.cells ROW 37)).drew) := fun ty => by
    have h := Lib.run_append_grow_zeros w 22 3 ty 37 ii zz .i64 .i64 Tryd.underlying22 Tryd.underlying3 hi hz0 (some ⟨g0, 0, none⟩) k n (xs.take (k * 8)) hold (n + 1 - k) (by omega) (by omega) (by omega) (by omega)
      (Nat.le_trans (Nat.mul_le_mul (show n + 1 - k ≤ 1000001 by omega) hib) (by decide)) (by rw [hik]; exact growslice_fits (by omega) (Nat.le_trans (Nat.mul_le_mul (show n + 1 ≤ 1000001 by omega) hib) (by decide)))
    rw [hik, ← hG, ← hROW] at h
    rw [hkk]
    exact h
  have hRs : ROW.size = G * 8 := by
    rw [hROW]
    simp only [Array.size_append, List.size_toArray, List.length_take, size_zeroCells, hzs, hxl]
    omega
  obtain ⟨Z, hRZ⟩ : ∃ Z, ROW.toList = xs.take (k * 8) ++ Z := ⟨(Builtin.zeroCells zz.cells (n + 1 - k) ++ Builtin.zeroCells zz.cells (G - (n + 1))).toList, by rw [hROW]; simp⟩
  have hg1 : isC ((w.alloc (.cells ROW 37)).drew) w.heap.size ROW 37 8 := .of (heap_alloc_new w _)
  obtain ⟨row1, hrow1⟩ : ∃ row1, row1 = (ROW.toList.take (k * 8) ++ news ++ ROW.toList.drop (k * 8 + news.length)).toArray := ⟨_, rfl⟩
  have hz1 : row1.size = ROW.size := by
    rw [hrow1]
    simp only [List.size_toArray, List.length_append, List.length_take, List.length_drop, Array.length_toList]
    omega
  have hmA : Nat.min 1 (n + 1 - k) = 1 := by simp only [Nat.min_def]; split <;> omega
  have hcpA : ∀ ty dc, (Builtin.copy_ #[22, 22] ty #[.slice (some ⟨w.heap.size, k * 8, none⟩) (n + 1 - k) dc, .slice (some a) 1 c]).run Tryd.prog ((w.alloc (.cells ROW 37)).drew) = .ok (goInt (1 : Nat)) (((w.alloc (.cells ROW 37)).drew).setRow w.heap.size row1) := fun ty dc => by
    have h := run_copy_k (P := Tryd.prog) ((w.alloc (.cells ROW 37)).drew) 22 22 ty 37 w.heap.size (k * 8) (n + 1 - k) dc 8 a 1 c ROW 37 news Tryd.underlying22 hi his hg1 (by rw [hmA]; omega)
      (fun j v hj => by
        have h1 := hnc j v hj
        have hb : (a.add j).block = a.block := block_add a j
        unfold World.cell? at h1 ⊢
        rw [hb] at h1 ⊢
        rw [show ((w.alloc (.cells ROW 37)).drew).heap[a.block]? = w.heap[a.block]? from heap_alloc_old w _ hab]
        exact h1) (by omega) hn1
    rw [hmA, ← hrow1] at h
    exact h
  obtain ⟨W2, hW2⟩ : ∃ W2, W2 = ((w.alloc (.cells ROW 37)).drew).setRow w.heap.size row1 := ⟨_, rfl⟩
  have hg2 : isC W2.drew w.heap.size row1 37 8 := by
    have : isC W2 w.heap.size row1 37 8 := by rw [hW2]; exact hg1.set hz1
    exact this
  have hoth : ∀ b, b < w.heap.size → W2.heap[b]? = w.heap[b]? := fun b hb => by
    rw [hW2]
    simp only [World.setRow, Array.getElem?_modify]
    rw [if_neg (by omega)]
    exact heap_alloc_old w _ hb
  obtain ⟨row2, hrow2⟩ : ∃ row2, row2 = (row1.toList.take ((k + 1) * 8) ++ xs.drop (k * 8) ++ row1.toList.drop ((k + 1) * 8 + (xs.drop (k * 8)).length)).toArray := ⟨_, rfl⟩
  have hdl : (xs.drop (k * 8)).length = (n - k) * 8 := by rw [List.length_drop, hxl]; omega
  have hz2 : row2.size = row1.size := by
    rw [hrow2]
    simp only [List.size_toArray, List.length_append, List.length_take, List.length_drop, Array.length_toList]
    omega
  have hmB : Nat.min (n - k) (n - k) = n - k := Nat.min_self _
  have hcpB : ∀ ty dc sc, (Builtin.copy_ #[22, 22] ty #[.slice (some ⟨w.heap.size, (k + 1) * 8, none⟩) (n - k) dc, .slice (some ⟨g0, k * 8, none⟩) (n - k) sc]).run Tryd.prog W2.drew = .ok (goInt (n - k : Nat)) (W2.drew.setRow w.heap.size row2) := fun ty dc sc => by
    have h := run_copy_k (P := Tryd.prog) W2.drew 22 22 ty 37 w.heap.size ((k + 1) * 8) (n - k) dc 8 ⟨g0, k * 8, none⟩ (n - k) sc row1 37 (xs.drop (k * 8)) Tryd.underlying22 hi his hg2 (by rw [hmB]; exact hdl)
      (fun j v hj => by
        rw [List.getElem?_drop] at hj
        have h1 := hcell _ v hj
        rw [Addr.add_lit]
        unfold World.cell? at h1 ⊢
        rw [show W2.drew.heap[g0]? = w.heap[g0]? from hoth g0 hg0]
        exact h1) (by omega) (fun v hv => hone v (List.mem_of_mem_drop hv))
    rw [hmB, ← hrow2] at h
    exact h
  rw [← hW2] at hcpA
  have hfin : row2.toList.take ((n + 1) * 8) = xs.take (k * 8) ++ news ++ xs.drop (k * 8) := by
    rw [hrow2, hrow1, Nat.add_mul, Nat.add_mul, Nat.one_mul]
    simp only [List.toList_toArray]
    exact list_ins2 ROW.toList xs news (xs.drop (k * 8)) Z (k * 8) (n * 8) 8 (by omega) hxl hRZ (by rw [Array.length_toList]; omega) hnl rfl
  have hgrow : w.grownBy (W2.drew.setRow w.heap.size row2) none := by
    refine ⟨?_, ?_, ?_, ?_, fun b hb _ => ?_⟩
    · rw [hW2]; rfl
    · rw [hW2]; rfl
    · rw [hW2]; rfl
    · rw [hW2]
      show w.heap.size ≤ (Array.modify _ _ _).size
      rw [Array.size_modify]
      show w.heap.size ≤ (Array.modify _ _ _).size
      rw [Array.size_modify]
      exact Nat.le_of_lt hg1.lt
    · simp only [World.setRow, Array.getElem?_modify]
      rw [if_neg (by omega)]
      exact hoth b hb
  have hw1 : IntKind.i64.wrap ((k : Int) + 1) = (k : Int) + 1 := by rw [IntKind.wrap_i64]; omega
  have hb1 : (0 : Int) ≤ (k : Int) + 1 := by omega
  have hin : k ≤ n := by omega
  have htn : ((k : Int) + 1).toNat = k + 1 := by omega
  have hb2 : ¬ (G = k + 1) := by omega
  have hb3 : (k : Int) ≤ (n : Int) := by omega
  have hb4 : ¬ (n = k) := by omega
  have hb5 : ¬ (G = k) := by omega
  clear hkk hik hold hW2 hROW hG hrow1 hrow2 hRZ hdl hxl hcell
  go_enter Tryd.func49, Tryd.ntmps49
  go_wp2_with (first
    | (at_builtin; refine wpList_appR _ rfl _ _ 22 3 rfl _ _ rfl rfl (hrz _) ?_)
    | (at_builtin; refine wpList_copyR _ rfl _ _ 22 22 rfl _ _ rfl rfl (hcpA _ _) ?_))
  go_region_law (refine step_copyR rfl _ _ 22 22 rfl _ _ (by simp [Act.eval, Act.put]) (by simp [Act.eval, Act.put]) (hcpB _ _ _) ?_)
  go_wp2
  go_ret
  exact ⟨G, row2, rfl, hGn, hGm, hg2.set hz2, hz2.trans (hz1.trans hRs), hfin, hgrow⟩
theorem insE_end (w : World) (a0 : Option Addr) (n cap : Nat) (hnc : n ≤ cap) (hn0 : n ≤ 1000000) (a : Addr) (c : Nat) (v' : Value) (w' : World)
    (hrun : ∀ ty, (Builtin.append_ #[22, 22] ty #[.slice a0 n cap, .slice (some a) 1 c]).run Tryd.prog w = .ok v' w') :
    Calls Tryd.prog 49 #[.slice a0 n cap, .int .i64 n, .slice (some a) 1 c] w fun e W => e = .returned v' ∧ W = w' := by
  go_enter Tryd.func49, Tryd.ntmps49
  cases a0 with
  | none =>
    go_wp2_with (at_builtin; refine wpList_appR _ rfl _ _ 22 22 rfl _ _ rfl rfl (hrun _) ?_)
    all_goals (go_ret; exact ⟨rfl, rfl⟩)
  | some b =>
    obtain ⟨bb, bo, bs⟩ := b
    go_wp2_with (at_builtin; refine wpList_appR _ rfl _ _ 22 22 rfl _ _ rfl rfl (hrun _) ?_)
    all_goals (go_ret; exact ⟨rfl, rfl⟩)
/-- The row with one element more. -/
theorem insE_ok (gl : Nat → SV) (n : Nat) (g : Nat → Nat → SV) (i : Int) (h : Nat → Nat → SV) (hi0 : 0 ≤ i ∧ i ≤ (n : Int)) (hn0 : n ≤ 1000000) :
    GoodW Tryd.prog gl 49 37 8 n g [.int .i64 i, .slc 1 8 h] (n + 1) (insS g i.toNat h) := by
  intro w ρ rw N v vs xs hrw hgl hv hown hone hrel hargs
  obtain ⟨ii, dd, zz, hi, hd, hs, _, _, _, hz0, _, _, hzs, _⟩ := ty37_ok
  have his : ii.size = 8 := hs
  have hib : ii.bytes ≤ 1000 := by
    have := hi.symm.trans (show Tryd.prog.info? 37 = some _ from rfl)
    simp only [Option.some.injEq] at this
    rw [this]
    decide
  rw [his] at hzs
  match vs, hargs with
  | [v1, v2], ⟨r1, r2, _⟩ =>
    obtain ⟨k, hk⟩ : ∃ k : Nat, i = (k : Int) := ⟨i.toNat, by omega⟩
    subst hk
    have hkn : k ≤ n := by omega
    rw [Int.toNat_natCast]
    have e1 := r1.eq_int
    subst e1
    cases r2 with
    | slc ad _ c _ _ g2 hc1 hcc hca hcr =>
      obtain ⟨a, rfl, hsp⟩ := hca (by omega)
      obtain ⟨news, hnews⟩ : ∃ news, news = (List.range 8).map (g2 0) := ⟨_, rfl⟩
      have hnl : news.length = 8 := by rw [hnews]; simp
      have hnj : ∀ j u, news[j]? = some u → j < 8 ∧ u = g2 0 j := fun j u hj => by
        rw [hnews, getElem?_range_map] at hj
        split at hj
        · rename_i hlt; exact ⟨hlt, (Option.some.inj hj).symm⟩
        · cases hj
      have hnc : ∀ j u, news[j]? = some u → w.cell? (a.add j) = some u := fun j u hj => by
        obtain ⟨hlt, rfl⟩ := hnj j u hj
        obtain ⟨a', ea, q, _, _⟩ := hcc 0 j (by omega) hlt
        cases ea
        rw [Nat.zero_mul, Nat.zero_add] at q
        exact q
      have hn1 : ∀ u ∈ news, u.oneCell' = true := fun u hu => by
        obtain ⟨j, hj⟩ := List.mem_iff_getElem?.1 hu
        obtain ⟨hlt, rfl⟩ := hnj j u hj
        obtain ⟨a', ea, _, q, _⟩ := hcc 0 j (by omega) hlt
        exact q
      have hnr : ¬ rw a.block := by
        obtain ⟨a', ea, _, _, q⟩ := hcc 0 0 (by omega) (by omega)
        cases ea
        exact q
      have hnR : ∀ j u, news[j]? = some u → RelC w rw u (h 0 j) := fun j u hj => by
        obtain ⟨hlt, rfl⟩ := hnj j u hj
        exact hcr 0 j (by omega) hlt
      have hcell0 : w.cell? (a.add 0) = some (g2 0 0) := hnc 0 _ (by rw [hnews]; rfl)
      obtain ⟨ca0, ta, ma, hA, hA0⟩ : ∃ ca0 ta ma, w.heap[a.block]? = some (.cells ca0 ta ma) ∧ 0 < ca0.size := by
        have hb : (a.add 0).block = a.block := block_add a 0
        unfold World.cell? at hcell0
        rw [hb] at hcell0
        split at hcell0
        · rename_i c0 e0 m0 heq
          refine ⟨c0, e0, m0, heq, ?_⟩
          split at hcell0
          · cases hcell0
          · have := (Array.getElem?_eq_some_iff.1 hcell0).1
            omega
        · cases hcell0
      have hab : a.block < w.heap.size := (Array.getElem?_eq_some_iff.1 hA).1
      have fin : ∀ (w' : World) (v' : Value) (xs' : List Value), ownsR w' 37 8 v' (n + 1) xs' → xs' = xs.take (k * 8) ++ news ++ xs.drop (k * 8) → w.grownBy w' (blkNo v) → (∀ b, blkNo v' = some b → blkNo v = some b ∨ w.heap.size ≤ b) →
          ∃ v'' xs'', Ending.returned v' = .returned v'' ∧ ownsR w' 37 8 v'' (n + 1) xs'' ∧ (∀ u ∈ xs'', one u) ∧ w.grownBy w' (blkNo v) ∧ (∀ b, blkNo v'' = some b → blkNo v = some b ∨ w.heap.size ≤ b) ∧
            ∀ (rw' : Nat → Prop), (∀ b, b < w.heap.size → rw' b → rw b) → ∀ i j u, i < n + 1 → j < 8 → xs''[i * 8 + j]? = some u → RelC w' rw' u (insS g k h i j) := by
        intro w' v' xs' q1 q2 q3 q4
        have hkeep : Keep rw w w' := ⟨q3.os, q3.tape, q3.output, q3.size, fun b hb hr => q3.block b hb fun e => hr (hv b e.symm)⟩
        refine ⟨v', xs', rfl, q1, fun u hu => ?_, q3, q4, fun rw' hrw' i j u hi' hj hu => (ins_rel (s := 8) (by omega) hkn hown.1 hnl hrel hnR hi' hj (q2 ▸ hu)).mono hkeep hrw'⟩
        rw [q2] at hu
        rcases List.mem_append.1 hu with hu | hu
        · rcases List.mem_append.1 hu with hu | hu
          · exact hone u (List.mem_of_mem_take hu)
          · exact hn1 u hu
        · exact hone u (List.mem_of_mem_drop hu)
      rcases Nat.lt_or_ge k n with hlt | hge
      · have hown2 := hown
        rcases hown.2 with ⟨_, h0⟩ | ⟨g0, cap, cur, rfl, hc0, hC, hnc0, hcm, hcs, htk⟩
        · omega
        · have hne : a.block ≠ g0 := fun e => hnr (e ▸ hv g0 (blkNo_slice hc0))
          rcases Nat.lt_or_ge cap (n + 1) with hf | hroom
          · obtain rfl : cap = n := by omega
            refine (insE_grow w g0 cap k cur a c news hlt hn0 hC hcs (by rw [htk]; exact hone) hnl hnc hn1 hab).mono fun en w' hq => ?_
            obtain ⟨G, cur2, rfl, p1, p2, p3, p4, p5, p6⟩ := hq
            rw [htk] at p5
            refine fin w' _ _ ⟨?_, .inr ⟨w.heap.size, G, cur2, rfl, by omega, p3, p1, p2, p4, rfl⟩⟩ p5 ⟨p6.os, p6.tape, p6.output, p6.size, fun b hb _ => p6.block b hb (by simp)⟩ fun b hb => .inr ?_
            · rw [List.length_take, Array.length_toList, p4]
              have := Nat.mul_le_mul_right 8 p1
              omega
            · rw [blkNo_slice (by omega)] at hb
              simp only [Option.some.injEq] at hb
              omega
          · obtain ⟨mk, hh, hmk⟩ := hC
            have hplain : w.heap[g0]? = some (.cells cur 37 (0, 0)) := by
              rcases hmk with rfl | ⟨_, h1⟩
              · exact hh
              · exact absurd h1 (by decide)
            refine (insE_mid w g0 n cap k cur a c news hlt hroom hcm ⟨mk, hh, hmk⟩ hcs (by rw [htk]; exact hone) hnl hnc hn1 hne (fun lb cb => by
              rw [run_callFunc_extern Tryd.func70 (by kernel_rfl) (by kernel_rfl) (by kernel_rfl) (e := Extern.SlicesOverlaps.overlaps #[22, 22] #[4]) (by kernel_rfl),
                apart_plain w 22 4 37 Tryd.underlying22 8 (fun w => by simp [sizeOf, typeInfo, hi, his]) a ⟨g0, (k + 1) * 8, none⟩ 1 c lb cb hne hA hA0 hplain]
              rfl)).mono fun en w' hq => ?_
            obtain ⟨rfl, cur2, p1, p2, p3, p4⟩ := hq
            rw [htk] at p3
            refine fin w' _ _ ⟨?_, .inr ⟨g0, cap, cur2, rfl, hc0, p1, hroom, hcm, p2.trans hcs, rfl⟩⟩ p3 (by rw [blkNo_slice hc0]; exact p4) fun b hb => .inl ?_
            · rw [List.length_take, Array.length_toList, p2, hcs]
              have := Nat.mul_le_mul_right 8 hroom
              omega
            · rw [blkNo_slice hc0] at hb ⊢
              exact hb
      · obtain rfl : k = n := by omega
        obtain ⟨a0, cap, rfl, hcap⟩ : ∃ a0 cap, v = .slice a0 k cap ∧ k ≤ cap := by
          rcases hown.2 with ⟨⟨a0, rfl⟩, h0⟩ | ⟨g0, cap, cur, rfl, hc0, hC, hnc0, _⟩
          · exact ⟨a0, 0, by rw [h0], by omega⟩
          · exact ⟨_, cap, rfl, hnc0⟩
        have hall : ∀ ty, ∃ v' w', (Builtin.append_ #[22, 22] ty #[.slice a0 k cap, .slice (some a) 1 c]).run Tryd.prog w = .ok v' w' ∧ ownsR w' 37 8 v' (k + 1) (xs ++ news) ∧ w.grownBy w' (blkNo (.slice a0 k cap)) ∧
            (∀ b, blkNo v' = some b → blkNo (.slice a0 k cap) = some b ∨ w.heap.size ≤ b) := fun ty =>
          run_append_src (P := Tryd.prog) (ty := ty) Tryd.underlying22 hi hz0 his rfl hzs (by omega) hown (m := 1) (cp := c) (by omega) (fun _ => ⟨a, rfl, hnc⟩) hn1 (by omega) (Nat.le_trans (Nat.mul_le_mul (show k + 1 ≤ 1000001 by omega) hib) (by decide))
        obtain ⟨v', w', h1, h2, h3, h4⟩ := hall 0
        have hty : ∀ ty, (Builtin.append_ #[22, 22] ty #[.slice a0 k cap, .slice (some a) 1 c]).run Tryd.prog w = .ok v' w' := fun ty => h1
        refine (insE_end w a0 k cap hcap hn0 a c v' w' hty).mono fun en W hq => ?_
        obtain ⟨rfl, rfl⟩ := hq
        have hxl := hown.1
        exact fin W v' (xs ++ news) h2 (by rw [List.take_of_length_le (by omega), List.drop_of_length_le (by omega), List.append_nil]) h3 h4
end Go.Proofs

set_option linter.unusedVariables false
set_option linter.unusedSimpArgs false
set_option maxRecDepth 100000
set_option maxHeartbeats 8000000
namespace Go.Vd
open Go.Proofs
/-- slices.Insert of one entry. -/
noncomputable def insX : Ar → Xt := fun A => { meth := fun _ _ => none, wt := fun f e k n g rest => bif Nat.beq f 49 && (Nat.beq e 37 && Nat.beq k 8) then (match rest with
  | [.int .i64 i, .slc 1 8 h] => some (some (A.tp fun _ => (0 ≤ i ∧ i ≤ (n : Int)) ∧ n ≤ 1000000), A.nadd n 1, A.cat (A.toNat i) g (A.cat 1 h (A.shift g (A.toNat i))))
  | _ => none) else none }
theorem insS_cat (g : Nat → Nat → SV) (k : Nat) (h : Nat → Nat → SV) : insS g k h = catS k g (catS 1 h (shiftS g k)) := by
  funext a b
  unfold insS catS shiftS
  by_cases h1 : a < k
  · rw [if_pos h1, if_pos h1]
  · rw [if_neg h1, if_neg h1]
    by_cases h2 : a = k
    · rw [if_pos h2, if_pos (by omega), show a - k = 0 by omega]
    · rw [if_neg h2, if_neg (by omega), show k + (a - k - 1) = a - 1 by omega]
theorem insX_ok : XtOk Tryd.prog gl0 (insX std) := by
  refine ⟨(fun t name f h => by cases h), ?_⟩
  intro f e k n g rest p n' g' hw hp
  unfold insX at hw
  simp only at hw
  cases hb : (Nat.beq f 49 && (Nat.beq e 37 && Nat.beq k 8)) <;> rw [hb] at hw <;> simp only [cond_true, cond_false, reduceCtorEq] at hw
  simp only [Bool.and_eq_true] at hb
  obtain rfl := Nat.eq_of_beq_eq_true hb.1
  obtain rfl := Nat.eq_of_beq_eq_true hb.2.1
  obtain rfl := Nat.eq_of_beq_eq_true hb.2.2
  split at hw
  · simp only [Option.some.injEq, Prod.mk.injEq] at hw
    obtain ⟨rfl, rfl, rfl⟩ := hw
    rename_i i h
    have h2 := insE_ok gl0 n g i h hp.1 hp.2
    rw [insS_cat] at h2
    exact ⟨⟨_, Tryd.func49, rfl, by decide⟩, h2⟩
  · cases hw
def rCloneE (A : Ar) (L : Unit → List Ent) : SV := .frs 37 8 (A.tn fun _ => (L ()).length) (rowF eE E0 A L)
attribute [local irreducible] vc
theorem good_CloneE (L : List Ent) (hL : L.length ≤ 1000000) : GoodP Tryd.prog gl0 47 [rowS eE E0 8 std fun _ => L] (rCloneE std fun _ => L) := by
  refine fn_sound' (T := seatT) (G := noC) (X := noX) seatT_ok noC_ok noX_ok noI_ok mixed Tryd.func47 (.fresh 37 8) (fun A => [rowS eE E0 8 A fun _ => L]) (fun A => rCloneE A fun _ => L) fun A hA => ?_
  cbv
  repeat' (first | with_reducible exact True.intro | with_reducible exact dr_ok hA (by kernel_rfl) | with_reducible refine And.intro ?_ ?_ | (intro hc; cbv))
  all_goals (subst hA; simp [std_add, std_sub, std_mul, std_quo, std_rem, std_band, std_bor, std_bxor, std_shl, std_shr, std_eq, std_ne, std_lt, std_le, std_conv, std_not, std_beq, std_bne, std_ite, std_want, std_and2, std_sadd, std_seq, std_sne, std_slt, std_sle, std_sgt, std_sge, std_slen, std_sget, std_scut, std_ofNat, std_toNat, std_nsub, std_nadd, std_lenOf, std_nz, std_nneg, std_inb, std_upto, std_slt63, std_grow, std_imp, std_impN, std_tr, std_tb, std_ti, std_ts, std_tn, std_tp, std_nmin, std_makes, std_room, std_zeros, std_nilq, std_notq, std_eqi, std_eqn, std_eqb, std_eqs, std_eqv, std_cat, std_lst, std_rset, std_rcopy, std_shift, std_eqr, std_strOf, std_bytesOf, std_isB, std_zOf, zOf_int, std_isI, isI_int, std_getL, std_nmul, std_sOf, sOf_str, std_isS, isS_str, std_fadd, std_fsub, std_fav, std_fsv, std_feq, std_fne, std_flt, std_fle, std_fgt, std_fge, std_fOf, std_fTo, std_fTv] at *)
  all_goals first
    | omega
    | (have hq := hc (by assumption); rw [hq]; rfl)
    | (have hq := hc (by assumption); rw [hq]; intro i j hi; exact absurd hi (by simp))
    | (apply eqr_of; (exact (Reps.nil.cat (Reps.lit L)).congr rfl (List.nil_append L)); (first | (simp; done) | omega | rfl); rfl)
    | trace_state
noncomputable def c_CloneE : Ct := fun A args => match args with
  | [.slc n 8 f] => some (some (A.tp fun _ => isRow eE E0 8 n f ∧ n ≤ 1000000), rCloneE A fun _ => lstOf eE E0 8 n f)
  | _ => none
noncomputable def gs4 : Ar → Pu := addC 47 c_CloneE (gs3)
theorem gs4_ok : PuOk Tryd.prog gl0 (gs4 std) := by
  refine addC_ok (gs3_ok) ⟨_, Tryd.func47, rfl, by decide⟩ ?_
  · intro args p r h hp
    unfold c_CloneE at h
    split at h <;> cases h
    exact good_sv (good_CloneE _ (by rw [lstOf_length hp.1]; exact hp.2)) ⟨hp.1.sv, trivial⟩
/-- An entry's row with one more; the number that tells how it went. -/
def insL (L : List Ent) (e : Ent) : List Ent := if (shR L && eR e) = true then (if has L e.s e.r = true then L else if L.length = 128 then L else L.take (pos L e.s e.r) ++ [e] ++ L.drop (pos L e.s e.r)) else L
def insC (L : List Ent) (e : Ent) : Int := if (shR L && eR e) = true then (if has L e.s e.r = true then 6 else if L.length = 128 then 7 else 0) else 1
theorem nb_t {b : Bool} (h : (!b) = false) : b = true := by cases b <;> simp at h ⊢
theorem insL_1 {L : List Ent} {e : Ent} (h : (bif shR L then eR e else false) = false) : insL L e = L ∧ insC L e = 1 := by
  have h2 : ¬(shR L && eR e) = true := by cases h1 : shR L <;> simp [h1] at h ⊢; exact h
  unfold insL insC
  rw [if_neg h2, if_neg h2]
  exact ⟨rfl, rfl⟩
theorem insR {L : List Ent} {e : Ent} (h : (bif shR L then eR e else false) = true) : (shR L && eR e) = true := by
  cases h1 : shR L <;> simp [h1] at h ⊢; exact h
theorem insL_6 {L : List Ent} {e : Ent} (h : (bif shR L then eR e else false) = true) (h2 : has L e.s e.r = true) : insL L e = L ∧ insC L e = 6 := by
  unfold insL insC
  rw [if_pos (insR h), if_pos (insR h), if_pos h2, if_pos h2]
  exact ⟨rfl, rfl⟩
theorem insL_7 {L : List Ent} {e : Ent} (h : (bif shR L then eR e else false) = true) (h2 : has L e.s e.r = false) (h3 : L.length = 128) : insL L e = L ∧ insC L e = 7 := by
  unfold insL insC
  rw [if_pos (insR h), if_pos (insR h), h2]
  simp [h3]
theorem insL_0 {L : List Ent} {e : Ent} (h : (bif shR L then eR e else false) = true) (h2 : has L e.s e.r = false) (h3 : ¬L.length = 128) : insL L e = L.take (pos L e.s e.r) ++ [e] ++ L.drop (pos L e.s e.r) ∧ insC L e = 0 := by
  unfold insL insC
  rw [if_pos (insR h), if_pos (insR h), h2]
  simp [h3]
theorem shR_asc {L : List Ent} (h : shR L = true) : ascB L = true ∧ L.length ≤ 128 := by
  simp only [shR, Bool.and_eq_true, decide_eq_true_eq] at h
  exact ⟨h.2, h.1⟩
theorem ins_eqr {L M : List Ent} {e : Ent} {p n : Nat} (hp : p ≤ L.length) (hn : n = L.length + 1) (hM : M = L.take p ++ [e] ++ L.drop p) :
    eqrS n 8 (catS p (rowF eE E0 std fun _ => L) (catS 1 (lstS [[SV.int .u32 e.s, SV.str e.r, SV.int .i64 e.st, SV.str e.pan, SV.int .u64 e.am, SV.str e.code, SV.int .i64 e.tr, SV.int .i64 e.ca]]) (shiftS (rowF eE E0 std fun _ => L) p))) (rowF eE E0 std fun _ => M) := by
  have h := (Reps.cut (enc := eE) (d := E0) (k := 8) L p hp).cat ((Reps.one (enc := eE) (d := E0) (cell_eE e)).cat ((Reps.lit (enc := eE) (d := E0) (k := 8) L).shift (m := L.length - p) p (by omega)))
  refine eqr_of h (by omega) ?_
  rw [hM, List.take_of_length_le (l := L.drop p) (by rw [List.length_drop]; exact Nat.le_refl _), List.append_assoc]
theorem good_shInsert (L : List Ent) (s st am tr ca : Int) (r pan code : List UInt8) (hL : L.length ≤ 1000000) (hS : ∀ i, enS (L.getD i E0)) (hp : pan.length ≤ 100000) (hcc : code.length ≤ 1000000) : GoodP Tryd.prog gl0 28 [rowS eE E0 8 std fun _ => L, .agg [.int .u32 s, .str r, .int .i64 st, .str pan, .int .u64 am, .str code, .int .i64 tr, .int .i64 ca]] (.tup [rowS eE E0 8 std fun _ => insL L ⟨s, r, st, pan, am, code, tr, ca⟩, .int .i64 (std.ti fun _ => insC L ⟨s, r, st, pan, am, code, tr, ca⟩)]) := by
  refine fn_sound' (T := seatT) (G := gs4) (X := insX) seatT_ok gs4_ok insX_ok noI_ok mixed Tryd.func28 (.none) (fun A => [rowS eE E0 8 A fun _ => L, .agg [.int .u32 s, .str r, .int .i64 st, .str pan, .int .u64 am, .str code, .int .i64 tr, .int .i64 ca]]) (fun A => .tup [rowS eE E0 8 A fun _ => insL L ⟨s, r, st, pan, am, code, tr, ca⟩, .int .i64 (A.ti fun _ => insC L ⟨s, r, st, pan, am, code, tr, ca⟩)]) fun A hA => ?_
  cbv
  repeat' (first | with_reducible exact True.intro | with_reducible exact dr_ok hA (by kernel_rfl) | with_reducible refine And.intro ?_ ?_ | (intro hc; cbv))
  all_goals (subst hA; simp only [std_add, std_sub, std_mul, std_quo, std_rem, std_band, std_bor, std_bxor, std_shl, std_shr, std_eq, std_ne, std_lt, std_le, std_conv, std_not, std_beq, std_bne, std_ite, std_want, std_and2, std_sadd, std_seq, std_sne, std_slt, std_sle, std_sgt, std_sge, std_slen, std_sget, std_scut, std_ofNat, std_toNat, std_nsub, std_nadd, std_lenOf, std_nz, std_nneg, std_inb, std_upto, std_slt63, std_grow, std_imp, std_impN, std_tr, std_tb, std_ti, std_ts, std_tn, std_tp, std_nmin, std_makes, std_room, std_zeros, std_nilq, std_notq, std_eqi, std_eqn, std_eqb, std_eqs, std_eqv, std_cat, std_lst, std_rset, std_rcopy, std_shift, std_eqr, std_strOf, std_bytesOf, std_isB, std_zOf, zOf_int, std_isI, isI_int, std_getL, std_nmul, std_sOf, sOf_str, std_isS, isS_str, std_fadd, std_fsub, std_fav, std_fsv, std_feq, std_fne, std_flt, std_fle, std_fgt, std_fge, std_fOf, std_fTo, std_fTv, lstOf_V, isRow_V] at *)
  all_goals first
    | exact ⟨isRow_V L, hL⟩
    | exact ⟨trivial, hL⟩
    | exact ⟨isRow_V L, hL, hS⟩
    | exact ⟨trivial, hL, hS⟩
    | (intro h; exact ⟨h, hp, hcc⟩)
    | (intro h; simp only [Bool.true_and, Bool.beq_eq_decide_eq, decide_eq_true_eq]; exact h)
    | (have hr : (bif shR L then eR ⟨s, r, st, pan, am, code, tr, ca⟩ else false) = false := by rw [Bool.not_eq_true'] at hc; exact hc
       have h1 := insL_1 hr
       first
         | (rw [h1.1]; done)
         | (rw [h1.1]; exact (Reps.lit _).eqr)
         | (rw [h1.2]; done))
    | (have hq : (!bif shR L then eR ⟨s, r, st, pan, am, code, tr, ca⟩ else false) = false := by assumption
       have hr := nb_t hq
       have hs : shR L = true := by cases h : shR L <;> simp [h] at hr ⊢
       have h0 := shR_asc hs
       first
         | exact ⟨isRow_V L, hL, h0.1⟩
         | exact ⟨trivial, hL, h0.1⟩
         | (have h2 : has L s r = true := by assumption
            have h1 := insL_6 (e := ⟨s, r, st, pan, am, code, tr, ca⟩) hr h2
            first
              | (rw [h1.1]; done)
              | (rw [h1.1]; exact (Reps.lit _).eqr)
              | (rw [h1.2]; done))
         | (have h2 : has L s r = false := by assumption
            have h3 : ((L.length : Int) == 128) = true := by assumption
            have h1 := insL_7 (e := ⟨s, r, st, pan, am, code, tr, ca⟩) hr h2 (by simp at h3; omega)
            first
              | (rw [h1.1]; done)
              | (rw [h1.1]; exact (Reps.lit _).eqr)
              | (rw [h1.2]; done))
         | (have h2 : has L s r = false := by assumption
            have h3 : ((L.length : Int) == 128) = false := by assumption
            have h1 := insL_0 (e := ⟨s, r, st, pan, am, code, tr, ca⟩) hr h2 (by simp at h3; omega)
            have hpl := pos_le L s r
            first
              | exact ⟨⟨Int.natCast_nonneg _, Int.ofNat_le.2 hpl⟩, hL⟩
              | (rw [h1.1]; simp; omega)
              | (rw [h1.2]; done)
              | (simp only [Int.toNat_natCast]; exact ins_eqr (e := ⟨s, r, st, pan, am, code, tr, ca⟩) hpl (by rw [h1.1]; simp; omega) h1.1)
              | trace_state)
         | trace_state)
    | trace_state
noncomputable def c_shInsert : Ct := fun A args => match args with
  | [.slc n 8 f, .agg [.int .u32 s, .str r, .int .i64 st, .str pan, .int .u64 am, .str code, .int .i64 tr, .int .i64 ca]] => some (some (A.tp fun _ => (isRow eE E0 8 n f ∧ n ≤ 1000000 ∧ ∀ i, enS ((lstOf eE E0 8 n f).getD i E0)) ∧ pan.length ≤ 100000 ∧ code.length ≤ 1000000), .tup [rowS eE E0 8 A fun _ => insL (lstOf eE E0 8 n f) ⟨s, r, st, pan, am, code, tr, ca⟩, .int .i64 (A.ti fun _ => insC (lstOf eE E0 8 n f) ⟨s, r, st, pan, am, code, tr, ca⟩)])
  | _ => none
noncomputable def gs5 : Ar → Pu := addC 28 c_shInsert (gs4)
theorem gs5_ok : PuOk Tryd.prog gl0 (gs5 std) := by
  refine addC_ok (gs4_ok) ⟨_, Tryd.func28, rfl, by decide⟩ ?_
  · intro args p r h hp
    unfold c_shInsert at h
    split at h <;> cases h
    exact good_sv (good_shInsert _ _ _ _ _ _ _ _ _ (by rw [lstOf_length hp.1.1]; exact hp.1.2.1) hp.1.2.2 hp.2.1 hp.2.2) ⟨hp.1.1.sv, ⟨_, rfl, rfl, rfl, rfl, rfl, rfl, rfl, rfl, rfl, trivial⟩, trivial⟩
end Go.Vd

