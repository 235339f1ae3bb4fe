/- The fields' functions: Right. -/
import Derived.Test.YtcjogfdlpoablaaDoorVdH2
set_option linter.unusedVariables false
set_option linter.unusedSimpArgs false
set_option maxRecDepth 100000
set_option maxHeartbeats 4000000
namespace Go.Vd
open Go.Proofs
noncomputable def iF : Nat → Option Func := addI 118 Tryd.f118 (addI 220 Tryd.f220 (addI 221 Tryd.f221 (addI 222 Tryd.f222 (addI 223 Tryd.f223 (addI 162 Tryd.f162 noI)))))
theorem iF_ok : InOk Tryd.prog iF := addI_ok (addI_ok (addI_ok (addI_ok (addI_ok (addI_ok noI_ok Tryd.func162 (by kernel_rfl)) Tryd.func223 (by kernel_rfl)) Tryd.func222 (by kernel_rfl)) Tryd.func221 (by kernel_rfl)) Tryd.func220 (by kernel_rfl)) Tryd.func118 (by kernel_rfl)
def xFm : Nat → String → Option Nat
  | 190, "paydesk/field.right" => some 221
  | 190, "paydesk/field.ahead" => some 220
  | 192, "paydesk/field.right" => some 223
  | 192, "paydesk/field.ahead" => some 222
  | _, _ => none
def xF : Ar → Xt := fun _ => { meth := xFm, wt := fun _ _ _ _ _ _ => none }
theorem xF_ok : XtOk Tryd.prog gl0 (xF std) := ⟨fun t name f h => by
  have h : xFm t name = some f := h
  unfold xFm at h
  split at h <;> cases h <;> exact fun v args w => by kernel_rfl, fun f e k n g rest p n2 g2 h => by cases h⟩
def isT (L : List UInt8) : Bool := L.all okB
noncomputable def c_isText : Ct := fun A args => match args with
  | [.str L] => some (none, .bool (A.tb fun _ => isT L))
  | _ => none
noncomputable def c_gDef : Ct := fun A args => match args with
  | [.int .i64 n] => some (none, .tup [.agg [.int .i64 (A.ti fun _ => if dOk n then n else 0), .int .i64 (A.ti fun _ => dKd n), .int .i64 (A.ti fun _ => dSz n)], .bool (A.tb fun _ => dOk n)])
  | _ => none
noncomputable def c_rDef : Ct := fun A args => match args with
  | [.int .i64 n] => some (none, .tup [.agg [.int .i64 (A.ti fun _ => if dOk n then n else 0), .int .i64 (A.ti fun _ => dKd n), .int .i64 (A.ti fun _ => dSz n)], .bool (A.tb fun _ => dOk n)])
  | _ => none
noncomputable def c_rSigns : Ct := fun A args => match args with
  | [.int .i64 k, .str r] => some (some (A.tp fun _ => r.length ≤ 1000000), .bool (A.tb fun _ => signs k r))
  | _ => none
noncomputable def gh2 : Ar → Pu := addC 157 c_isText (addC 117 c_gDef (addC 115 c_rDef (addC 116 c_rSigns (gh1))))
theorem gh2_ok : PuOk Tryd.prog gl0 (gh2 std) := by
  refine addC_ok (addC_ok (addC_ok (addC_ok (gh1_ok) ⟨_, Tryd.func116, rfl, by decide⟩ ?_) ⟨_, Tryd.func115, rfl, by decide⟩ ?_) ⟨_, Tryd.func117, rfl, by decide⟩ ?_) ⟨_, Tryd.func157, rfl, by decide⟩ ?_
  · intro args p r h hp
    unfold c_rSigns at h
    split at h <;> cases h
    exact good_rSigns _ _ hp
  · intro args p r h hp
    unfold c_rDef at h
    split at h <;> cases h
    exact good_rDef _
  · intro args p r h hp
    unfold c_gDef at h
    split at h <;> cases h
    exact good_gDef _
  · intro args p r h hp
    unfold c_isText at h
    split at h <;> cases h
    exact good_isText _
def rr (n : Int) (s : List UInt8) : Bool := if dOk n = true ∧ ¬s = [] ∧ (s.length : Int) ≤ dSz n ∧ (dKd n < 3 → dSz n ≤ s.length) then signs (dKd n) s else false
theorem dFind_mem : ∀ (L : List Int) (n : Int) (p : Int × Int), dFind L n = some p → ∃ j, L.getD (3 * j) 0 = n ∧ L.getD (3 * j + 1) 0 = p.1 ∧ L.getD (3 * j + 2) 0 = p.2 ∧ 3 * j + 2 < L.length
  | a :: b :: c :: r, n, p, h => by
    simp only [dFind] at h
    split at h
    · rename_i he
      cases h
      exact ⟨0, he, rfl, rfl, by simp⟩
    · obtain ⟨j, h1, h2, h3, h4⟩ := dFind_mem r n p h
      refine ⟨j + 1, ?_, ?_, ?_, by simp only [List.length_cons]; omega⟩
      · rw [show 3 * (j + 1) = 3 * j + 1 + 1 + 1 by omega]; simpa using h1
      · rw [show 3 * (j + 1) + 1 = 3 * j + 1 + 1 + 1 + 1 by omega]; simpa using h2
      · rw [show 3 * (j + 1) + 2 = 3 * j + 2 + 1 + 1 + 1 by omega]; simpa using h3
  | [], _, _, h => by cases h
  | [_], _, _, h => by cases h
  | [_, _], _, _, h => by cases h
/-- Kinds and sizes that are known. -/
theorem dOk_b {n : Int} (h : dOk n = true) : 1 ≤ dKd n ∧ dKd n ≤ 5 ∧ 1 ≤ dSz n ∧ dSz n ≤ 999 ∧ 2 ≤ n ∧ n ≤ 120 ∧ (dKd n < 5 → dSz n ≤ 99) := by
  unfold dOk at h
  obtain ⟨p, hp⟩ := Option.isSome_iff_exists.1 h
  obtain ⟨j, h1, h2, h3, h4⟩ := dFind_mem FL n p hp
  have hk : dKd n = p.1 := by unfold dKd; rw [hp]; rfl
  have hs : dSz n = p.2 := by unfold dSz; rw [hp]; rfl
  rw [hk, hs, ← h2, ← h3, ← h1]
  have hj : j < 15 := by rw [FL_len] at h4; omega
  rcases lt15 hj with h | h | h | h | h | h | h | h | h | h | h | h | h | h | h <;> subst h <;> decide
theorem dOk_no {n : Int} (h : dOk n = false) : dKd n = 0 ∧ dSz n = 0 := by
  unfold dOk at h
  cases hf : dFind FL n with
  | none => unfold dKd dSz; rw [hf]; exact ⟨rfl, rfl⟩
  | some p => rw [hf] at h; cases h
theorem isD_ne {s : List UInt8} (h : ¬s = []) : isD s = s.all isDb := by
  unfold isD
  cases s with
  | nil => exact absurd rfl h
  | cons b s => rfl
theorem signsD {k : Int} (h : k = 1 ∨ k = 3) (s : List UInt8) : signs k s = s.all isDb := by
  unfold signs
  have : inS k = isDb := by funext b; unfold inS; rw [if_pos h]
  rw [this]
theorem signsT {k : Int} (h : ¬(k = 1 ∨ k = 3)) (s : List UInt8) : signs k s = s.all okB := by
  unfold signs
  have : inS k = okB := by funext b; unfold inS; rw [if_neg h]
  rw [this]
theorem len_ne {s : List UInt8} {z : Int} (hz : 1 ≤ z) (h : (s.length : Int) = z) : ¬s = [] := fun e => by rw [e] at h; simp at h; omega
theorem rr_fix {n : Int} {s : List UInt8} (h : dOk n = true) (hk : dKd n < 3) : rr n s = (decide ((s.length : Int) = dSz n) && signs (dKd n) s) := by
  have hb := dOk_b h
  unfold rr
  by_cases hl : (s.length : Int) = dSz n
  · rw [if_pos ⟨h, len_ne hb.2.2.1 hl, by omega, fun _ => by omega⟩]; simp [hl]
  · rw [if_neg (fun e => hl (by have := e.2.2.2 hk; have := e.2.2.1; omega))]; simp [hl]
theorem rr_long {n : Int} {s : List UInt8} (h : dOk n = true) (hk : ¬dKd n < 3) : rr n s = ((decide (1 ≤ (s.length : Int)) && decide ((s.length : Int) ≤ dSz n)) && signs (dKd n) s) := by
  unfold rr
  by_cases hl : 1 ≤ (s.length : Int) ∧ (s.length : Int) ≤ dSz n
  · rw [if_pos ⟨h, fun e => by rw [e] at hl; simp at hl, hl.2, fun hc => absurd hc hk⟩]; simp [hl]
  · rw [if_neg (fun e => hl ⟨by have := List.length_pos_iff.2 e.2.1; omega, e.2.2.1⟩)]
    by_cases h1 : 1 ≤ (s.length : Int)
    · have h2 : ¬(s.length : Int) ≤ dSz n := fun e => hl ⟨h1, e⟩
      simp [h2]
    · simp [h1]
theorem rr_no {n : Int} {s : List UInt8} (h : dOk n = false) : rr n s = false := by
  unfold rr
  rw [h, if_neg (fun e => by cases e.1)]
theorem rr_1 {n : Int} {s : List UInt8} (h : dOk n = true) (hk : dKd n = 1) (hl : (s.length : Int) = dSz n) : isD s = rr n s := by
  rw [rr_fix h (by omega), signsD (.inl hk), isD_ne (len_ne (dOk_b h).2.2.1 hl)]; simp [hl]
theorem rr_2 {n : Int} {s : List UInt8} (h : dOk n = true) (hk : dKd n = 2) (hl : (s.length : Int) = dSz n) : isT s = rr n s := by
  unfold isT
  rw [rr_fix h (by omega), signsT (by omega)]; simp [hl]
theorem rr_f {n : Int} {s : List UInt8} (h : dOk n = true) (hk : dKd n < 3) (hl : ¬(s.length : Int) = dSz n) : rr n s = false := by
  rw [rr_fix h hk]; simp [hl]
theorem rr_3 {n : Int} {s : List UInt8} (h : dOk n = true) (hk : dKd n = 3) (hl : 1 ≤ (s.length : Int) ∧ (s.length : Int) ≤ dSz n) : isD s = rr n s := by
  rw [rr_long h (by omega), signsD (.inr hk), isD_ne (fun e => by rw [e] at hl; simp at hl)]; simp [hl]
theorem rr_4 {n : Int} {s : List UInt8} (h : dOk n = true) (hk : 3 < dKd n) (hl : 1 ≤ (s.length : Int) ∧ (s.length : Int) ≤ dSz n) : isT s = rr n s := by
  unfold isT
  rw [rr_long h (by omega), signsT (by omega)]; simp [hl]
theorem rr_l {n : Int} {s : List UInt8} (h : dOk n = true) (hk : 3 ≤ dKd n) (hl : 1 ≤ (s.length : Int) → dSz n < (s.length : Int)) : rr n s = false := by
  rw [rr_long h (by omega)]
  by_cases h1 : 1 ≤ (s.length : Int)
  · have := hl h1
    have h2 : ¬(s.length : Int) ≤ dSz n := by omega
    simp [h2]
  · simp [h1]
theorem rr_of1 {n : Int} {s : List UInt8} (h : dOk n = true) (hk : dKd n = 1) : rr n s = true ↔ (s.length : Int) = dSz n ∧ isD s = true := by
  by_cases hl : (s.length : Int) = dSz n
  · rw [← rr_1 h hk hl]; simp [hl]
  · rw [rr_f h (by omega) hl]; simp [hl]
theorem rr_of2 {n : Int} {s : List UInt8} (h : dOk n = true) (hk : dKd n = 2) : rr n s = true ↔ (s.length : Int) = dSz n ∧ isT s = true := by
  by_cases hl : (s.length : Int) = dSz n
  · rw [← rr_2 h hk hl]; simp [hl]
  · rw [rr_f h (by omega) hl]; simp [hl]
theorem rr_of3 {n : Int} {s : List UInt8} (h : dOk n = true) (hk : dKd n = 3) : rr n s = true ↔ (1 ≤ (s.length : Int) ∧ (s.length : Int) ≤ dSz n) ∧ isD s = true := by
  by_cases hl : 1 ≤ (s.length : Int) ∧ (s.length : Int) ≤ dSz n
  · rw [← rr_3 h hk hl]; exact ⟨fun h => ⟨hl, h⟩, fun h => h.2⟩
  · rw [rr_l h (by omega) (fun h1 => by omega)]; exact ⟨fun h => (by cases h), fun h => absurd h.1 hl⟩
theorem rr_of4 {n : Int} {s : List UInt8} (h : dOk n = true) (hk : 3 < dKd n) : rr n s = true ↔ (1 ≤ (s.length : Int) ∧ (s.length : Int) ≤ dSz n) ∧ isT s = true := by
  by_cases hl : 1 ≤ (s.length : Int) ∧ (s.length : Int) ≤ dSz n
  · rw [← rr_4 h hk hl]; exact ⟨fun h => ⟨hl, h⟩, fun h => h.2⟩
  · rw [rr_l h (by omega) (fun h1 => by omega)]; exact ⟨fun h => (by cases h), fun h => absurd h.1 hl⟩
theorem rr_f1 {n : Int} {s : List UInt8} (h : dOk n = true) (hk : dKd n = 1) (hc : ¬(s.length : Int) = dSz n ∨ isD s = false) : rr n s = false := by
  cases hr : rr n s
  · rfl
  · have := (rr_of1 h hk).1 hr
    rcases hc with hc | hc
    · exact absurd this.1 hc
    · rw [hc] at this; cases this.2
theorem rr_f2 {n : Int} {s : List UInt8} (h : dOk n = true) (hk : dKd n = 2) (hc : ¬(s.length : Int) = dSz n ∨ isT s = false) : rr n s = false := by
  cases hr : rr n s
  · rfl
  · have := (rr_of2 h hk).1 hr
    rcases hc with hc | hc
    · exact absurd this.1 hc
    · rw [hc] at this; cases this.2
theorem rr_f3 {n : Int} {s : List UInt8} (h : dOk n = true) (hk : dKd n = 3) (hc : ((s.length : Int) < 1 ∨ dSz n < (s.length : Int)) ∨ isD s = false) : rr n s = false := by
  cases hr : rr n s
  · rfl
  · have := (rr_of3 h hk).1 hr
    rcases hc with hc | hc
    · omega
    · rw [hc] at this; cases this.2
theorem rr_f4 {n : Int} {s : List UInt8} (h : dOk n = true) (hk : 3 < dKd n) (hc : ((s.length : Int) < 1 ∨ dSz n < (s.length : Int)) ∨ isT s = false) : rr n s = false := by
  cases hr : rr n s
  · rfl
  · have := (rr_of4 h hk).1 hr
    rcases hc with hc | hc
    · omega
    · rw [hc] at this; cases this.2
theorem good_gRight (n : Int) (L : List UInt8) (hL : L.length ≤ 1000000) : GoodP Tryd.prog gl0 78 [.int .i64 n, .str L] (.bool (std.tb fun _ => rr n L)) := by
  refine fn_sound' (T := seatT) (G := gh2) (X := xF) seatT_ok gh2_ok xF_ok iF_ok mixed Tryd.func78 (.one) (fun A => [.int .i64 n, .str L]) (fun A => .bool (A.tb fun _ => rr n L)) fun A hA => ?_
  cbv
  repeat' (first | with_reducible exact True.intro | with_reducible exact dr_ok hA (by kernel_rfl) | with_reducible refine And.intro ?_ ?_ | (intro hc; cbv))
  all_goals (subst hA; simp [std_add, std_sub, std_mul, std_quo, std_rem, std_band, std_bor, std_bxor, std_shl, std_shr, std_eq, std_ne, std_lt, std_le, std_conv, std_not, std_beq, std_bne, std_ite, std_want, std_and2, std_sadd, std_seq, std_sne, std_slt, std_sle, std_sgt, std_sge, std_slen, std_sget, std_scut, std_ofNat, std_toNat, std_nsub, std_nadd, std_lenOf, std_nz, std_nneg, std_inb, std_upto, std_slt63, std_grow, std_imp, std_impN, std_tr, std_tb, std_ti, std_ts, std_tn, std_tp, std_nmin, std_makes, std_room, std_zeros, std_nilq, std_notq, std_eqi, std_eqn, std_eqb, std_eqs, std_eqv, std_cat, std_lst, std_rset, std_rcopy, std_shift, std_eqr, std_strOf, std_bytesOf, std_isB, std_zOf, zOf_int, std_isI, isI_int, std_getL, std_nmul, std_sOf, sOf_str, std_isS, isS_str] at *)
  all_goals first
    | assumption
    | omega
    | exact rr_no (by assumption)
    | (exfalso; simp_all; done)
    | (have h : dOk n = true := by assumption
       have hb := dOk_b h
       first
         | exact rr_f h (by omega) (by assumption)
         | exact rr_l h (by omega) (by assumption)
         | (rw [← rr_1 h (by omega) (by assumption)]; simp [*]; done)
         | (rw [← rr_2 h (by omega) (by assumption)]; simp [*]; done)
         | (rw [← rr_3 h (by omega) (by assumption)]; simp [*]; done)
         | (rw [← rr_4 h (by omega) (by assumption)]; simp [*]; done))
    | trace_state
end Go.Vd
