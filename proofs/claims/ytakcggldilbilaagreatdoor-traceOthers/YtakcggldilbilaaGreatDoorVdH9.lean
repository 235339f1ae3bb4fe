/- The fields' functions: isText, by hand (a range over a text). -/
import Derived.Laws.RangeString
import Derived.Laws.RangeAny
import Derived.WalkKit
import Derived.LoopTactic
import Derived.Test.YtakcggldilbilaaGreatDoorVdH1
import Derived.Test.YtakcggldilbilaaGreatDoorVdKM
set_option linter.unusedVariables false
set_option linter.unusedSimpArgs false
namespace Go.Proofs
open Go.RowKit
theorem ba_byte {s : ByteArray} {i : Nat} (h : i < s.size) : s[i]'h = s.data.toList.getD i 0 := by
  rw [List.getD_eq_getElem?_getD, List.getElem?_eq_getElem (by simpa using h)]
  simp
  rfl
set_option maxRecDepth 100000 in
set_option maxHeartbeats 2000000 in
theorem isText_walk (s : ByteArray) (w : World) :
    Calls Tryz.prog 145 #[.string s] w fun e w' => e = .returned (.bool (s.data.toList.all Vd.okB)) ∧ ∃ pos, w' = w.iter s pos := by
  have hsz : s.data.toList.length = s.size := by simp
  go_enter Tryz.func145, Tryz.ntmps145
  go_wp2
  go_loopw [4] (fun _ w' => ∃ pos : Nat, w' = w.iter s pos ∧ pos ≤ s.size ∧ (s.data.toList.take pos).all Vd.okB = true) (fun _ w' => s.size - w'.iterPos w.heap.size)
  case atStart => exact ⟨0, rfl, by omega, by simp⟩
  case round =>
    obtain ⟨pos, rfl, hle, hall⟩ := hrel
    by_cases hp : pos < s.size
    · by_cases ha : (s[pos]'hp).toNat < 128
      · have hp' : pos < s.data.size := hp
        have hnx : ∀ ty, (Instr.next (.pointer (some ⟨w.heap.size, 0, none⟩)) true ty).run Tryz.prog (w.iter s pos) = .ok (.tuple #[.bool true, .int .i64 pos, .int .i32 ((s.data[pos]'hp').toNat : Int)]) (w.iter s (pos + 1)) := fun ty => run_next_ascii w s pos ty hp ha
        have hb : s.data[pos]'hp' = s.data.toList.getD pos 0 := ba_byte hp
        have hok : Vd.okB (s.data[pos]'hp') = true ↔ 32 ≤ (s.data[pos]'hp').toNat ∧ (s.data[pos]'hp').toNat ≤ 126 := by simp [Vd.okB]
        have hno : Vd.okB (s.data[pos]'hp') = false → s.data.toList.all Vd.okB = false := fun h => Vd.all_false (i := pos) (by omega) (by rw [← hb]; exact h)
        by_cases h1 : (((s.data[pos]'hp').toNat : Nat) : Int) < 32
        · have hf := hno (by cases h : Vd.okB (s.data[pos]'hp'); rfl; have := hok.1 h; omega)
          clear hok hno hb
          go_wp2
          go_ret
          exact ⟨by first | rfl | (rw [hf]; rfl), _, rfl⟩
        · by_cases h2 : (126 : Int) < (((s.data[pos]'hp').toNat : Nat) : Int)
          · have hf := hno (by cases h : Vd.okB (s.data[pos]'hp'); rfl; have := hok.1 h; omega)
            clear hok hno hb
            go_wp2
            go_ret
            exact ⟨by first | rfl | (rw [hf]; rfl), _, rfl⟩
          · have hy : (s.data.toList.take (pos + 1)).all Vd.okB = true := by
              rw [Vd.all_take (by omega), hall, ← hb, hok.2 (by omega)]
              rfl
            clear hok hno hb
            go_wp2
            go_roundw
            case rel => exact ⟨pos + 1, rfl, by omega, hy⟩
            case measure =>
              simp
              omega
      · have hd := decode_high s pos hp (by omega)
        have hnx : ∀ ty, (Instr.next (.pointer (some ⟨w.heap.size, 0, none⟩)) true ty).run Tryz.prog (w.iter s pos) = _ := fun ty => run_next_any w s pos ty hp
        have hb := ba_byte hp
        have hno : s.data.toList.all Vd.okB = false := Vd.all_false (i := pos) (by omega) (by
          rw [← hb]
          simp [Vd.okB]
          omega)
        generalize (Utf8.decode s pos).1 = r at *
        have h1 : ¬ ((r : Nat) : Int) < 32 := by omega
        have h2 : (126 : Int) < ((r : Nat) : Int) := by omega
        go_wp2
        go_ret
        exact ⟨by first | rfl | (rw [hno]; rfl), _, rfl⟩
    · have hnx : ∀ ty, (Instr.next (.pointer (some ⟨w.heap.size, 0, none⟩)) true ty).run Tryz.prog (w.iter s pos) = _ := fun ty => run_next_end w s pos ty hp
      go_wp2
      go_ret
      rw [List.take_of_length_le (by omega)] at hall
      exact ⟨by first | rfl | (rw [hall]; rfl), _, rfl⟩
end Go.Proofs
namespace Go.Vd
open Go.Proofs
theorem good_isText (L : List UInt8) : GoodP Tryz.prog gl0 145 [.str L] (.bool (std.tb fun _ => L.all okB)) := by
  intro w ρ rw N vs hfr hrw hg hargs
  match vs, hargs with
  | [v1], ⟨r1, _⟩ =>
    generalize hs1 : SV.str L = s1 at r1
    cases r1 with
    | str s =>
      cases hs1
      refine (isText_walk s w).mono fun e w' hq => ?_
      obtain ⟨rfl, pos, rfl⟩ := hq
      refine ⟨_, rfl, Ext.alloc _ _, fun key _ => ?_⟩
      exact Rel.bool _
    | _ => cases hs1
end Go.Vd

set_option linter.unusedVariables false
set_option linter.unusedSimpArgs false
set_option maxRecDepth 100000
set_option maxHeartbeats 4000000
namespace Go.Vd
open Go.Proofs
noncomputable def iF : Nat → Option Func := addI 108 Tryz.f108 (addI 201 Tryz.f201 (addI 202 Tryz.f202 (addI 203 Tryz.f203 (addI 204 Tryz.f204 (addI 156 Tryz.f156 noI)))))
theorem iF_ok : InOk Tryz.prog iF := addI_ok (addI_ok (addI_ok (addI_ok (addI_ok (addI_ok noI_ok Tryz.func156 (by kernel_rfl)) Tryz.func204 (by kernel_rfl)) Tryz.func203 (by kernel_rfl)) Tryz.func202 (by kernel_rfl)) Tryz.func201 (by kernel_rfl)) Tryz.func108 (by kernel_rfl)
def xFm : Nat → String → Option Nat
  | 188, "paydesk/field.right" => some 202
  | 188, "paydesk/field.ahead" => some 201
  | 190, "paydesk/field.right" => some 204
  | 190, "paydesk/field.ahead" => some 203
  | _, _ => none
def xF : Ar → Xt := fun _ => { meth := xFm, wt := fun _ _ _ _ _ _ => none }
theorem xF_ok : XtOk Tryz.prog gl0 (xF std) := ⟨fun t name f h => by
  have h : xFm t name = some f := h
  unfold xFm at h
  split at h <;> cases h <;> exact fun v args w => by kernel_rfl, fun f e k n g rest p n2 g2 h => by cases h⟩
def isT (L : List UInt8) : Bool := L.all okB
noncomputable def c_isText : Ct := fun A args => match args with
  | [.str L] => some (none, .bool (A.tb fun _ => isT L))
  | _ => none
noncomputable def c_gDef : Ct := fun A args => match args with
  | [.int .i64 n] => some (none, .tup [.agg [.int .i64 (A.ti fun _ => if dOk n then n else 0), .int .i64 (A.ti fun _ => dKd n), .int .i64 (A.ti fun _ => dSz n)], .bool (A.tb fun _ => dOk n)])
  | _ => none
noncomputable def c_rDef : Ct := fun A args => match args with
  | [.int .i64 n] => some (none, .tup [.agg [.int .i64 (A.ti fun _ => if dOk n then n else 0), .int .i64 (A.ti fun _ => dKd n), .int .i64 (A.ti fun _ => dSz n)], .bool (A.tb fun _ => dOk n)])
  | _ => none
noncomputable def c_rSigns : Ct := fun A args => match args with
  | [.int .i64 k, .str r] => some (some (A.tp fun _ => r.length ≤ 1000000), .bool (A.tb fun _ => signs k r))
  | _ => none
noncomputable def gh2 : Ar → Pu := addC 145 c_isText (addC 107 c_gDef (addC 114 c_rDef (addC 115 c_rSigns (gh1))))
theorem gh2_ok : PuOk Tryz.prog gl0 (gh2 std) := by
  refine addC_ok (addC_ok (addC_ok (addC_ok (gh1_ok) ⟨_, Tryz.func115, rfl, by decide⟩ ?_) ⟨_, Tryz.func114, rfl, by decide⟩ ?_) ⟨_, Tryz.func107, rfl, by decide⟩ ?_) ⟨_, Tryz.func145, rfl, by decide⟩ ?_
  · intro args p r h hp
    unfold c_rSigns at h
    split at h <;> cases h
    exact good_rSigns _ _ hp
  · intro args p r h hp
    unfold c_rDef at h
    split at h <;> cases h
    exact good_rDef _
  · intro args p r h hp
    unfold c_gDef at h
    split at h <;> cases h
    exact good_gDef _
  · intro args p r h hp
    unfold c_isText at h
    split at h <;> cases h
    exact good_isText _
def rr (n : Int) (s : List UInt8) : Bool := if dOk n = true ∧ ¬s = [] ∧ (s.length : Int) ≤ dSz n ∧ (dKd n < 3 → dSz n ≤ s.length) then signs (dKd n) s else false
theorem dFind_mem : ∀ (L : List Int) (n : Int) (p : Int × Int), dFind L n = some p → ∃ j, L.getD (3 * j) 0 = n ∧ L.getD (3 * j + 1) 0 = p.1 ∧ L.getD (3 * j + 2) 0 = p.2 ∧ 3 * j + 2 < L.length
  | a :: b :: c :: r, n, p, h => by
    simp only [dFind] at h
    split at h
    · rename_i he
      cases h
      exact ⟨0, he, rfl, rfl, by simp⟩
    · obtain ⟨j, h1, h2, h3, h4⟩ := dFind_mem r n p h
      refine ⟨j + 1, ?_, ?_, ?_, by simp only [List.length_cons]; omega⟩
      · rw [show 3 * (j + 1) = 3 * j + 1 + 1 + 1 by omega]; simpa using h1
      · rw [show 3 * (j + 1) + 1 = 3 * j + 1 + 1 + 1 + 1 by omega]; simpa using h2
      · rw [show 3 * (j + 1) + 2 = 3 * j + 2 + 1 + 1 + 1 by omega]; simpa using h3
  | [], _, _, h => by cases h
  | [_], _, _, h => by cases h
  | [_, _], _, _, h => by cases h
/-- Kinds and sizes that are known. -/
theorem dOk_b {n : Int} (h : dOk n = true) : 1 ≤ dKd n ∧ dKd n ≤ 5 ∧ 1 ≤ dSz n ∧ dSz n ≤ 999 ∧ 2 ≤ n ∧ n ≤ 120 ∧ (dKd n < 5 → dSz n ≤ 99) := by
  unfold dOk at h
  obtain ⟨p, hp⟩ := Option.isSome_iff_exists.1 h
  obtain ⟨j, h1, h2, h3, h4⟩ := dFind_mem FL n p hp
  have hk : dKd n = p.1 := by unfold dKd; rw [hp]; rfl
  have hs : dSz n = p.2 := by unfold dSz; rw [hp]; rfl
  rw [hk, hs, ← h2, ← h3, ← h1]
  have hj : j < 15 := by rw [FL_len] at h4; omega
  rcases lt15 hj with h | h | h | h | h | h | h | h | h | h | h | h | h | h | h <;> subst h <;> decide
theorem dOk_no {n : Int} (h : dOk n = false) : dKd n = 0 ∧ dSz n = 0 := by
  unfold dOk at h
  cases hf : dFind FL n with
  | none => unfold dKd dSz; rw [hf]; exact ⟨rfl, rfl⟩
  | some p => rw [hf] at h; cases h
theorem isD_ne {s : List UInt8} (h : ¬s = []) : isD s = s.all isDb := by
  unfold isD
  cases s with
  | nil => exact absurd rfl h
  | cons b s => rfl
theorem signsD {k : Int} (h : k = 1 ∨ k = 3) (s : List UInt8) : signs k s = s.all isDb := by
  unfold signs
  have : inS k = isDb := by funext b; unfold inS; rw [if_pos h]
  rw [this]
theorem signsT {k : Int} (h : ¬(k = 1 ∨ k = 3)) (s : List UInt8) : signs k s = s.all okB := by
  unfold signs
  have : inS k = okB := by funext b; unfold inS; rw [if_neg h]
  rw [this]
theorem len_ne {s : List UInt8} {z : Int} (hz : 1 ≤ z) (h : (s.length : Int) = z) : ¬s = [] := fun e => by rw [e] at h; simp at h; omega
theorem rr_fix {n : Int} {s : List UInt8} (h : dOk n = true) (hk : dKd n < 3) : rr n s = (decide ((s.length : Int) = dSz n) && signs (dKd n) s) := by
  have hb := dOk_b h
  unfold rr
  by_cases hl : (s.length : Int) = dSz n
  · rw [if_pos ⟨h, len_ne hb.2.2.1 hl, by omega, fun _ => by omega⟩]; simp [hl]
  · rw [if_neg (fun e => hl (by have := e.2.2.2 hk; have := e.2.2.1; omega))]; simp [hl]
theorem rr_long {n : Int} {s : List UInt8} (h : dOk n = true) (hk : ¬dKd n < 3) : rr n s = ((decide (1 ≤ (s.length : Int)) && decide ((s.length : Int) ≤ dSz n)) && signs (dKd n) s) := by
  unfold rr
  by_cases hl : 1 ≤ (s.length : Int) ∧ (s.length : Int) ≤ dSz n
  · rw [if_pos ⟨h, fun e => by rw [e] at hl; simp at hl, hl.2, fun hc => absurd hc hk⟩]; simp [hl]
  · rw [if_neg (fun e => hl ⟨by have := List.length_pos_iff.2 e.2.1; omega, e.2.2.1⟩)]
    by_cases h1 : 1 ≤ (s.length : Int)
    · have h2 : ¬(s.length : Int) ≤ dSz n := fun e => hl ⟨h1, e⟩
      simp [h2]
    · simp [h1]
theorem rr_no {n : Int} {s : List UInt8} (h : dOk n = false) : rr n s = false := by
  unfold rr
  rw [h, if_neg (fun e => by cases e.1)]
theorem rr_1 {n : Int} {s : List UInt8} (h : dOk n = true) (hk : dKd n = 1) (hl : (s.length : Int) = dSz n) : isD s = rr n s := by
  rw [rr_fix h (by omega), signsD (.inl hk), isD_ne (len_ne (dOk_b h).2.2.1 hl)]; simp [hl]
theorem rr_2 {n : Int} {s : List UInt8} (h : dOk n = true) (hk : dKd n = 2) (hl : (s.length : Int) = dSz n) : isT s = rr n s := by
  unfold isT
  rw [rr_fix h (by omega), signsT (by omega)]; simp [hl]
theorem rr_f {n : Int} {s : List UInt8} (h : dOk n = true) (hk : dKd n < 3) (hl : ¬(s.length : Int) = dSz n) : rr n s = false := by
  rw [rr_fix h hk]; simp [hl]
theorem rr_3 {n : Int} {s : List UInt8} (h : dOk n = true) (hk : dKd n = 3) (hl : 1 ≤ (s.length : Int) ∧ (s.length : Int) ≤ dSz n) : isD s = rr n s := by
  rw [rr_long h (by omega), signsD (.inr hk), isD_ne (fun e => by rw [e] at hl; simp at hl)]; simp [hl]
theorem rr_4 {n : Int} {s : List UInt8} (h : dOk n = true) (hk : 3 < dKd n) (hl : 1 ≤ (s.length : Int) ∧ (s.length : Int) ≤ dSz n) : isT s = rr n s := by
  unfold isT
  rw [rr_long h (by omega), signsT (by omega)]; simp [hl]
theorem rr_l {n : Int} {s : List UInt8} (h : dOk n = true) (hk : 3 ≤ dKd n) (hl : 1 ≤ (s.length : Int) → dSz n < (s.length : Int)) : rr n s = false := by
  rw [rr_long h (by omega)]
  by_cases h1 : 1 ≤ (s.length : Int)
  · have := hl h1
    have h2 : ¬(s.length : Int) ≤ dSz n := by omega
    simp [h2]
  · simp [h1]
theorem rr_of1 {n : Int} {s : List UInt8} (h : dOk n = true) (hk : dKd n = 1) : rr n s = true ↔ (s.length : Int) = dSz n ∧ isD s = true := by
  by_cases hl : (s.length : Int) = dSz n
  · rw [← rr_1 h hk hl]; simp [hl]
  · rw [rr_f h (by omega) hl]; simp [hl]
theorem rr_of2 {n : Int} {s : List UInt8} (h : dOk n = true) (hk : dKd n = 2) : rr n s = true ↔ (s.length : Int) = dSz n ∧ isT s = true := by
  by_cases hl : (s.length : Int) = dSz n
  · rw [← rr_2 h hk hl]; simp [hl]
  · rw [rr_f h (by omega) hl]; simp [hl]
theorem rr_of3 {n : Int} {s : List UInt8} (h : dOk n = true) (hk : dKd n = 3) : rr n s = true ↔ (1 ≤ (s.length : Int) ∧ (s.length : Int) ≤ dSz n) ∧ isD s = true := by
  by_cases hl : 1 ≤ (s.length : Int) ∧ (s.length : Int) ≤ dSz n
  · rw [← rr_3 h hk hl]; exact ⟨fun h => ⟨hl, h⟩, fun h => h.2⟩
  · rw [rr_l h (by omega) (fun h1 => by omega)]; exact ⟨fun h => (by cases h), fun h => absurd h.1 hl⟩
theorem rr_of4 {n : Int} {s : List UInt8} (h : dOk n = true) (hk : 3 < dKd n) : rr n s = true ↔ (1 ≤ (s.length : Int) ∧ (s.length : Int) ≤ dSz n) ∧ isT s = true := by
  by_cases hl : 1 ≤ (s.length : Int) ∧ (s.length : Int) ≤ dSz n
  · rw [← rr_4 h hk hl]; exact ⟨fun h => ⟨hl, h⟩, fun h => h.2⟩
  · rw [rr_l h (by omega) (fun h1 => by omega)]; exact ⟨fun h => (by cases h), fun h => absurd h.1 hl⟩
theorem rr_f1 {n : Int} {s : List UInt8} (h : dOk n = true) (hk : dKd n = 1) (hc : ¬(s.length : Int) = dSz n ∨ isD s = false) : rr n s = false := by
  cases hr : rr n s
  · rfl
  · have := (rr_of1 h hk).1 hr
    rcases hc with hc | hc
    · exact absurd this.1 hc
    · rw [hc] at this; cases this.2
theorem rr_f2 {n : Int} {s : List UInt8} (h : dOk n = true) (hk : dKd n = 2) (hc : ¬(s.length : Int) = dSz n ∨ isT s = false) : rr n s = false := by
  cases hr : rr n s
  · rfl
  · have := (rr_of2 h hk).1 hr
    rcases hc with hc | hc
    · exact absurd this.1 hc
    · rw [hc] at this; cases this.2
theorem rr_f3 {n : Int} {s : List UInt8} (h : dOk n = true) (hk : dKd n = 3) (hc : ((s.length : Int) < 1 ∨ dSz n < (s.length : Int)) ∨ isD s = false) : rr n s = false := by
  cases hr : rr n s
  · rfl
  · have := (rr_of3 h hk).1 hr
    rcases hc with hc | hc
    · omega
    · rw [hc] at this; cases this.2
theorem rr_f4 {n : Int} {s : List UInt8} (h : dOk n = true) (hk : 3 < dKd n) (hc : ((s.length : Int) < 1 ∨ dSz n < (s.length : Int)) ∨ isT s = false) : rr n s = false := by
  cases hr : rr n s
  · rfl
  · have := (rr_of4 h hk).1 hr
    rcases hc with hc | hc
    · omega
    · rw [hc] at this; cases this.2
theorem good_gRight (n : Int) (L : List UInt8) (hL : L.length ≤ 1000000) : GoodP Tryz.prog gl0 106 [.int .i64 n, .str L] (.bool (std.tb fun _ => rr n L)) := by
  refine fn_sound' (T := seatT) (G := gh2) (X := xF) seatT_ok gh2_ok xF_ok iF_ok mixed Tryz.func106 (.one) (fun A => [.int .i64 n, .str L]) (fun A => .bool (A.tb fun _ => rr n L)) fun A hA => ?_
  cbv
  repeat' (first | with_reducible exact True.intro | with_reducible exact dr_ok hA (by kernel_rfl) | with_reducible refine And.intro ?_ ?_ | (intro hc; cbv))
  all_goals (subst hA; simp [std_add, std_sub, std_mul, std_quo, std_rem, std_band, std_bor, std_bxor, std_shl, std_shr, std_eq, std_ne, std_lt, std_le, std_conv, std_not, std_beq, std_bne, std_ite, std_want, std_and2, std_sadd, std_seq, std_sne, std_slt, std_sle, std_sgt, std_sge, std_slen, std_sget, std_scut, std_ofNat, std_toNat, std_nsub, std_nadd, std_lenOf, std_nz, std_nneg, std_inb, std_upto, std_slt63, std_grow, std_imp, std_impN, std_tr, std_tb, std_ti, std_ts, std_tn, std_tp, std_nmin, std_makes, std_room, std_zeros, std_nilq, std_notq, std_eqi, std_eqn, std_eqb, std_eqs, std_eqv, std_cat, std_lst, std_rset, std_rcopy, std_shift, std_eqr, std_strOf, std_bytesOf, std_isB, std_zOf, zOf_int, std_isI, isI_int, std_getL, std_nmul, std_sOf, sOf_str, std_isS, isS_str, std_fadd, std_fsub, std_fav, std_fsv, std_feq, std_fne, std_flt, std_fle, std_fgt, std_fge, std_fOf, std_fTo, std_fTv] at *)
  all_goals first
    | assumption
    | omega
    | exact rr_no (by assumption)
    | (exfalso; simp_all; done)
    | (have h : dOk n = true := by assumption
       have hb := dOk_b h
       first
         | exact rr_f h (by omega) (by assumption)
         | exact rr_l h (by omega) (by assumption)
         | (rw [← rr_1 h (by omega) (by assumption)]; simp [*]; done)
         | (rw [← rr_2 h (by omega) (by assumption)]; simp [*]; done)
         | (rw [← rr_3 h (by omega) (by assumption)]; simp [*]; done)
         | (rw [← rr_4 h (by omega) (by assumption)]; simp [*]; done))
    | trace_state
end Go.Vd

set_option linter.unusedVariables false
set_option linter.unusedSimpArgs false
set_option maxRecDepth 100000
set_option maxHeartbeats 4000000
namespace Go.Vd
open Go.Proofs
def fAh (k : Int) : Nat := if k < 3 then 0 else if k = 5 then 3 else 2
def fWr (n : Int) (L : List UInt8) : List UInt8 := if rr n L = true then (if dKd n < 3 then L else decs (fAh (dKd n)) L.length ++ L) else []
def fWe (n : Int) (L : List UInt8) : Int := if dOk n = false then 5 else if rr n L = true then 0 else 1
theorem rr_ok {n : Int} {L : List UInt8} (h : rr n L = true) : dOk n = true ∧ ¬L = [] ∧ (L.length : Int) ≤ dSz n ∧ (dKd n < 3 → dSz n ≤ L.length) ∧ signs (dKd n) L = true := by
  unfold rr at h
  split at h
  · rename_i hc
    exact ⟨hc.1, hc.2.1, hc.2.2.1, hc.2.2.2, h⟩
  · cases h
theorem we_no {n : Int} {L : List UInt8} (h : dOk n = false) : fWe n L = 5 ∧ fWr n L = [] := by
  unfold fWe fWr; rw [if_pos h, rr_no h]; exact ⟨rfl, rfl⟩
theorem we_bad {n : Int} {L : List UInt8} (h : dOk n = true) (hr : rr n L = false) : fWe n L = 1 ∧ fWr n L = [] := by
  simp [fWe, fWr, h, hr]
theorem we_fix {n : Int} {L : List UInt8} (hr : rr n L = true) (hk : dKd n < 3) : fWe n L = 0 ∧ fWr n L = L := by
  simp [fWe, fWr, (rr_ok hr).1, hr, hk]
theorem we_long {n : Int} {L : List UInt8} (hr : rr n L = true) (hk : 3 ≤ dKd n) : fWe n L = 0 ∧ fWr n L = decs (fAh (dKd n)) L.length ++ L := by
  simp [fWe, fWr, (rr_ok hr).1, hr, show ¬dKd n < 3 by omega]
theorem pu_len {n : Int} {L : List UInt8} (hr : rr n L = true) (hk : 3 ≤ dKd n) : puE (L.length : Int) (fAh (dKd n) : Int) = 0 ∧ puS (L.length : Int) (fAh (dKd n) : Int) = decs (fAh (dKd n)) L.length := by
  obtain ⟨h1, h2, h3, h4, h5⟩ := rr_ok hr
  have hb := dOk_b h1
  have ha : fAh (dKd n) = if dKd n = 5 then 3 else 2 := by unfold fAh; rw [if_neg (by omega)]
  have h6 := pu3 (v := (L.length : Int)) (n := (fAh (dKd n) : Int)) (by rw [ha]; split <;> omega) (by
    rw [Int.toNat_natCast, Int.toNat_natCast, ha]
    split
    · have := hb.2.2.2.1; omega
    · have := hb.2.2.2.2.2.2 (by omega); omega)
  rw [Int.toNat_natCast, Int.toNat_natCast] at h6
  exact ⟨h6.2, h6.1⟩
theorem we_2 {n : Int} {L : List UInt8} (hr : rr n L = true) (hk : dKd n = 3 ∨ dKd n = 4) : puE (IntKind.u64.wrap (L.length : Int)) 2 = 0 ∧ puS (IntKind.u64.wrap (L.length : Int)) 2 = decs 2 L.length ∧ fWr n L = decs 2 L.length ++ L ∧ fWe n L = 0 ∧ IntKind.u64.wrap (L.length : Int) = (L.length : Int) := by
  have h1 := rr_ok hr
  have hb := dOk_b h1.1
  have hw := we_long hr (by omega)
  have hp := pu_len hr (by omega)
  have ha : fAh (dKd n) = 2 := by unfold fAh; rw [if_neg (by omega), if_neg (by omega)]
  have hu : IntKind.u64.wrap (L.length : Int) = (L.length : Int) := wU64' (by omega)
  rw [ha] at hw hp
  rw [hu]
  exact ⟨hp.1, hp.2, hw.2, hw.1, rfl⟩
theorem we_3 {n : Int} {L : List UInt8} (hr : rr n L = true) (hk : dKd n = 5) : puE (IntKind.u64.wrap (L.length : Int)) 3 = 0 ∧ puS (IntKind.u64.wrap (L.length : Int)) 3 = decs 3 L.length ∧ fWr n L = decs 3 L.length ++ L ∧ fWe n L = 0 ∧ IntKind.u64.wrap (L.length : Int) = (L.length : Int) := by
  have h1 := rr_ok hr
  have hb := dOk_b h1.1
  have hw := we_long hr (by omega)
  have hp := pu_len hr (by omega)
  have ha : fAh (dKd n) = 3 := by unfold fAh; rw [if_neg (by omega), if_pos hk]
  have hu : IntKind.u64.wrap (L.length : Int) = (L.length : Int) := wU64' (by omega)
  rw [ha] at hw hp
  rw [hu]
  exact ⟨hp.1, hp.2, hw.2, hw.1, rfl⟩
theorem puS_len (v n : Int) : (puS v n).length ≤ 19 := by
  unfold puS
  split
  · simp
  · split
    · simp
    · rw [decs_len]; omega
theorem row_bytes (L : List UInt8) : Reps eB 0 1 L.length (bytesOfS L) L := Reps.bytesOf L _ fun i => rfl
noncomputable def c_gRight : Ct := fun A args => match args with
  | [.int .i64 n, .str r] => some (some (A.tp fun _ => r.length ≤ 1000000), .bool (A.tb fun _ => rr n r))
  | _ => none
noncomputable def gh3 : Ar → Pu := addC 106 c_gRight (gh2)
theorem gh3_ok : PuOk Tryz.prog gl0 (gh3 std) := by
  refine addC_ok (gh2_ok) ⟨_, Tryz.func106, rfl, by decide⟩ ?_
  · intro args p r h hp
    unfold c_gRight at h
    split at h <;> cases h
    exact good_gRight _ _ hp
theorem good_gWrite (n : Int) (L : List UInt8) (hL : L.length ≤ 1000000) : GoodP Tryz.prog gl0 56 [.int .i64 n, .str L] (.tup [rowS eB 0 1 std fun _ => fWr n L, .int .i64 (std.ti fun _ => fWe n L)]) := by
  refine fn_sound' (T := seatT) (G := gh3) (X := xF) seatT_ok gh3_ok xF_ok iF_ok mixed Tryz.func56 (.none) (fun A => [.int .i64 n, .str L]) (fun A => .tup [rowS eB 0 1 A fun _ => fWr n L, .int .i64 (A.ti fun _ => fWe n L)]) fun A hA => ?_
  cbv
  repeat' (first | with_reducible exact True.intro | with_reducible exact dr_ok hA (by kernel_rfl) | with_reducible refine And.intro ?_ ?_ | (intro hc; cbv))
  all_goals (subst hA; simp [std_add, std_sub, std_mul, std_quo, std_rem, std_band, std_bor, std_bxor, std_shl, std_shr, std_eq, std_ne, std_lt, std_le, std_conv, std_not, std_beq, std_bne, std_ite, std_want, std_and2, std_sadd, std_seq, std_sne, std_slt, std_sle, std_sgt, std_sge, std_slen, std_sget, std_scut, std_ofNat, std_toNat, std_nsub, std_nadd, std_lenOf, std_nz, std_nneg, std_inb, std_upto, std_slt63, std_grow, std_imp, std_impN, std_tr, std_tb, std_ti, std_ts, std_tn, std_tp, std_nmin, std_makes, std_room, std_zeros, std_nilq, std_notq, std_eqi, std_eqn, std_eqb, std_eqs, std_eqv, std_cat, std_lst, std_rset, std_rcopy, std_shift, std_eqr, std_strOf, std_bytesOf, std_isB, std_zOf, zOf_int, std_isI, isI_int, std_getL, std_nmul, std_sOf, sOf_str, std_isS, isS_str, std_fadd, std_fsub, std_fav, std_fsv, std_feq, std_fne, std_flt, std_fle, std_fgt, std_fge, std_fOf, std_fTo, std_fTv] at *)
  all_goals first
    | assumption
    | omega
    | (have h : dOk n = false := by assumption
       first
         | exact (we_no h).1.symm
         | (rw [(we_no h).2]; rfl))
    | (have h : dOk n = true := by assumption
       have hb := dOk_b h
       have hr : rr n L = false := by first | exact rr_f h (by omega) (by assumption) | exact rr_l h (by omega) (by assumption) | exact rr_f1 h (by omega) (by assumption) | exact rr_f2 h (by omega) (by assumption) | exact rr_f3 h (by omega) (by assumption) | exact rr_f4 h (by omega) (by assumption)
       first
         | exact (we_bad h hr).1.symm
         | (rw [(we_bad h hr).2]; rfl))
    | (have h : dOk n = true := by assumption
       have hb := dOk_b h
       have hr : rr n L = true := by first | exact (rr_of1 h (by omega)).2 (by assumption) | exact (rr_of2 h (by omega)).2 (by assumption) | exact (rr_of3 h (by omega)).2 (by assumption) | exact (rr_of4 h (by omega)).2 (by assumption)
       have hsz := (rr_ok hr).2.2.1
       first
         | (have hw := we_fix hr (by omega)
            first
              | exact hw.1.symm
              | (rw [hw.2]; done)
              | (rw [hw.2]; exact (row_bytes L).eqr))
         | (have hq := we_2 hr (by omega)
            first
              | exact hq.2.2.2.1.symm
              | exact absurd hq.1 (by assumption)
              | (rw [hq.2.1, hq.2.2.1, List.length_append]; done)
              | (rw [hq.2.1, hq.2.2.1]; exact (row_bytes _).eqr' (by simp))
              | (rw [hq.2.1, decs_len]; omega)
              | (rw [hq.2.2.2.2]; constructor <;> omega))
         | (have hq := we_3 hr (by omega)
            first
              | exact hq.2.2.2.1.symm
              | exact absurd hq.1 (by assumption)
              | (rw [hq.2.1, hq.2.2.1, List.length_append]; done)
              | (rw [hq.2.1, hq.2.2.1]; exact (row_bytes _).eqr' (by simp))
              | (rw [hq.2.1, decs_len]; omega)
              | (rw [hq.2.2.2.2]; constructor <;> omega)))
    | trace_state
end Go.Vd

set_option linter.unusedVariables false
set_option linter.unusedSimpArgs false
set_option maxRecDepth 100000
set_option maxHeartbeats 4000000
namespace Go.Vd
open Go.Proofs
theorem good_rRight (n : Int) (s : List UInt8) (hs : s.length ≤ 1000000) : GoodP Tryz.prog gl0 65 [.int .i64 n, .str s] (.bool (std.tb fun _ => rr n s)) := by
  refine fn_sound' (T := seatT) (G := gh3) (X := noX) seatT_ok gh3_ok noX_ok noI_ok mixed Tryz.func65 (.one) (fun A => [.int .i64 n, .str s]) (fun A => .bool (A.tb fun _ => rr n s)) fun A hA => ?_
  cbv
  repeat' (first | with_reducible exact True.intro | with_reducible exact dr_ok hA (by kernel_rfl) | with_reducible refine And.intro ?_ ?_ | (intro hc; cbv))
  all_goals (subst hA; simp [sS] at *)
  all_goals first
    | omega
    | exact hs
    | exact fun h1 h2 h3 => ⟨⟨⟨h1, h2⟩, h3⟩, fun h => ⟨⟨⟨h1, h2⟩, h3⟩, h⟩⟩
    | (rw [rr, if_pos ⟨hc.1.1.1, hc.1.1.2, hc.1.2, hc.2⟩]; done)
    | (rw [rr, if_neg (fun h => by rcases hc with ((hc | hc) | hc) | hc; (rw [hc] at h; exact Bool.noConfusion h.1); (exact h.2.1 hc); (have := h.2.2.1; omega); (have := h.2.2.2 hc.1; omega))]; done)
    | trace_state
theorem good_rAhead (k : Int) : GoodP Tryz.prog gl0 143 [.int .i64 k] (.int .i64 (std.ti fun _ => (fAh k : Int))) := by
  refine fn_sound' (T := seatT) (G := noC) (X := noX) seatT_ok noC_ok noX_ok noI_ok mixed Tryz.func143 (.one) (fun A => [.int .i64 k]) (fun A => .int .i64 (A.ti fun _ => (fAh k : Int))) fun A hA => ?_
  cbv
  repeat' (first | with_reducible exact True.intro | with_reducible exact dr_ok hA (by kernel_rfl) | with_reducible refine And.intro ?_ ?_ | (intro hc; cbv))
  all_goals (subst hA; simp [sS] at *)
  all_goals first
    | (unfold fAh; rw [if_pos (by omega)]; rfl)
    | (unfold fAh; rw [if_neg (by omega), if_pos (by omega)]; rfl)
    | (unfold fAh; rw [if_neg (by omega), if_neg (by omega)]; rfl)
    | trace_state
theorem good_rMust (v n : Int) (hv : 0 ≤ v ∧ v < 18446744073709551616) (hn : -9223372036854775808 ≤ n ∧ n < 9223372036854775808) : GoodP Tryz.prog gl0 120 [.int .u64 v, .int .i64 n] (.str (std.ts fun _ => puS v n)) := by
  refine fn_sound' (T := seatT) (G := gh3) (X := noX) seatT_ok gh3_ok noX_ok noI_ok mixed Tryz.func120 (.one) (fun A => [.int .u64 v, .int .i64 n]) (fun A => .str (A.ts fun _ => puS v n)) fun A hA => ?_
  cbv
  repeat' (first | with_reducible exact True.intro | with_reducible exact dr_ok hA (by kernel_rfl) | with_reducible refine And.intro ?_ ?_ | (intro hc; cbv))
  all_goals (subst hA; simp [sS] at *)
  all_goals first
    | exact ⟨hv, hn⟩
    | exact ⟨by omega, by omega⟩
    | omega
    | trace_state
noncomputable def c_rRight : Ct := fun A args => match args with
  | [.int .i64 n, .str r] => some (some (A.tp fun _ => r.length ≤ 1000000), .bool (A.tb fun _ => rr n r))
  | _ => none
noncomputable def c_rAhead : Ct := fun A args => match args with
  | [.int .i64 k] => some (none, .int .i64 (A.ti fun _ => (fAh k : Int)))
  | _ => none
noncomputable def c_rMust : Ct := fun A args => match args with
  | [.int .u64 v, .int .i64 n] => some (some (A.tp fun _ => (0 ≤ v ∧ v < 18446744073709551616) ∧ (-9223372036854775808 ≤ n ∧ n < 9223372036854775808)), .str (A.ts fun _ => puS v n))
  | _ => none
noncomputable def gh4 : Ar → Pu := addC 65 c_rRight (addC 143 c_rAhead (addC 120 c_rMust (gh3)))
theorem gh4_ok : PuOk Tryz.prog gl0 (gh4 std) := by
  refine addC_ok (addC_ok (addC_ok (gh3_ok) ⟨_, Tryz.func120, rfl, by decide⟩ ?_) ⟨_, Tryz.func143, rfl, by decide⟩ ?_) ⟨_, Tryz.func65, rfl, by decide⟩ ?_
  · intro args p r h hp
    unfold c_rMust at h
    split at h <;> cases h
    exact good_rMust _ _ hp.1 hp.2
  · intro args p r h hp
    unfold c_rAhead at h
    split at h <;> cases h
    exact good_rAhead _
  · intro args p r h hp
    unfold c_rRight at h
    split at h <;> cases h
    exact good_rRight _ _ hp
def fWx (n : Int) (L : List UInt8) : List UInt8 := if dKd n < 3 then L else puS (L.length : Int) (fAh (dKd n) : Int) ++ L
theorem fAh_0 {k : Int} : fAh k = 0 ↔ k < 3 := by
  unfold fAh
  split
  · simp; assumption
  · split <;> simp <;> omega
theorem fAh_le (k : Int) : fAh k ≤ 3 := by unfold fAh; split; omega; split <;> omega
theorem wx_pre {k : Int} {L : List UInt8} (hL : L.length ≤ 1000000) : ((0 : Int) ≤ (L.length : Int) ∧ (L.length : Int) < 18446744073709551616) ∧ ((fAh k : Nat) : Int) < 9223372036854775808 := by
  have := fAh_le k
  refine ⟨⟨?_, ?_⟩, ?_⟩ <;> omega
theorem good_rWrite (n : Int) (L : List UInt8) (hL : L.length ≤ 1000000) : GoodP Tryz.prog gl0 118 [.int .i64 n, .str L] (rowS eB 0 1 std fun _ => fWx n L) := by
  refine fn_sound' (T := seatT) (G := gh4) (X := noX) seatT_ok gh4_ok noX_ok noI_ok mixed Tryz.func118 (.none) (fun A => [.int .i64 n, .str L]) (fun A => rowS eB 0 1 A fun _ => fWx n L) fun A hA => ?_
  cbv
  repeat' (first | with_reducible exact True.intro | with_reducible exact dr_ok hA (by kernel_rfl) | with_reducible refine And.intro ?_ ?_ | (intro hc; cbv))
  all_goals (subst hA; simp [sS] at *)
  all_goals (have hu : IntKind.u64.wrap (L.length : Int) = (L.length : Int) := wU64' (by omega))
  all_goals (have hl := fAh_le (dKd n))
  all_goals (have h19 := puS_len (L.length : Int) (fAh (dKd n) : Int))
  all_goals (have hx : (dKd n < 3 → fWx n L = L) ∧ (¬dKd n < 3 → fWx n L = puS (L.length : Int) (fAh (dKd n) : Int) ++ L) := ⟨fun h => if_pos h, fun h => if_neg h⟩)
  all_goals rw [← fAh_0] at hx
  all_goals (try rw [hu])
  all_goals first
    | (rw [hx.1 hc]; exact (row_bytes L).eqr)
    | (rw [hx.1 hc]; done)
    | (rw [hx.2 hc]; exact (row_bytes _).eqr' (by simp))
    | (rw [hx.2 hc, List.length_append]; done)
    | exact Nat.le_trans (Nat.add_le_add (puS_len _ _) hL) (by decide)
    | exact wx_pre hL
    | omega
    | trace_state
end Go.Vd

set_option linter.unusedVariables false
set_option linter.unusedSimpArgs false
set_option maxRecDepth 100000
set_option maxHeartbeats 4000000
namespace Go.Vd
open Go.Proofs
def fZ (n : Int) (B : List UInt8) : Nat := if dKd n < 3 then (dSz n).toNat else gVal (B.take (fAh (dKd n)))
def fRd (n : Int) (B : List UInt8) : List UInt8 × Nat × Int :=
  if dOk n = false then ([], 0, 5)
  else if B.length < fAh (dKd n) then ([], 0, 2)
  else if 3 ≤ dKd n ∧ (¬gErr (B.take (fAh (dKd n))) = 0 ∨ gVal (B.take (fAh (dKd n))) = 0) then ([], 0, 3)
  else if dSz n < (fZ n B : Int) then ([], 0, 4)
  else if B.length < fAh (dKd n) + fZ n B then ([], 0, 2)
  else if signs (dKd n) ((B.drop (fAh (dKd n))).take (fZ n B)) = true then ((B.drop (fAh (dKd n))).take (fZ n B), fAh (dKd n) + fZ n B, 0)
  else ([], 0, 3)
theorem rd_no {n : Int} {B : List UInt8} (h : dOk n = false) : fRd n B = ([], 0, 5) := if_pos h
theorem rd_s1 {n : Int} {B : List UInt8} (h : dOk n = true) (h1 : B.length < fAh (dKd n)) : fRd n B = ([], 0, 2) := by
  unfold fRd; rw [if_neg (by rw [h]; simp), if_pos h1]
theorem rd_f1 {n : Int} {B : List UInt8} (h : dOk n = true) (h1 : ¬B.length < fAh (dKd n)) (hk : 3 ≤ dKd n) (h2 : ¬gErr (B.take (fAh (dKd n))) = 0 ∨ gVal (B.take (fAh (dKd n))) = 0) : fRd n B = ([], 0, 3) := by
  unfold fRd; rw [if_neg (by rw [h]; simp), if_neg h1, if_pos ⟨hk, h2⟩]
theorem rd_go {n : Int} {B : List UInt8} (h : dOk n = true) (h1 : ¬B.length < fAh (dKd n)) (h2 : 3 ≤ dKd n → gErr (B.take (fAh (dKd n))) = 0 ∧ ¬gVal (B.take (fAh (dKd n))) = 0) : fRd n B = if dSz n < (fZ n B : Int) then ([], 0, 4)
  else if B.length < fAh (dKd n) + fZ n B then ([], 0, 2)
  else if signs (dKd n) ((B.drop (fAh (dKd n))).take (fZ n B)) = true then ((B.drop (fAh (dKd n))).take (fZ n B), fAh (dKd n) + fZ n B, 0)
  else ([], 0, 3) := by
  unfold fRd
  rw [if_neg (by rw [h]; simp), if_neg h1, if_neg (fun e => by have := h2 e.1; rcases e.2 with e | e; exact e this.1; exact this.2 e)]
theorem cutS (B : List UInt8) {k : Nat} (h : k ≤ B.length) : strOfS k (rowF eB 0 std fun _ => B) = B.take k := strOf_row (Reps.cut B k h)
theorem isB_any (B : List UInt8) (k : Nat) : isBS k (rowF eB 0 std fun _ => B) := fun i _ => ⟨_, rfl⟩
theorem isB_any' (B : List UInt8) (k a : Nat) : isBS k (fun i => rowF eB 0 std (fun _ => B) (a + i)) := fun i _ => ⟨_, rfl⟩
theorem cutS' (B : List UInt8) {a z : Nat} (h : a + z ≤ B.length) : strOfS z (fun i => rowF eB 0 std (fun _ => B) (a + i)) = (B.drop a).take z :=
  strOf_row (((Reps.lit (enc := eB) (d := 0) (k := 1) B).shift' a (by omega)).take z (by omega))
theorem gErr_03 {L : List UInt8} (h : ¬L = []) (h1 : L.length ≤ 19) : gErr L = 0 ∨ gErr L = 3 := by
  unfold gErr; rw [if_neg h, if_neg (by omega)]; split
  · exact .inl rfl
  · exact .inr rfl
def lnE (d : Nat) (z : Int) (B : List UInt8) : Int := if B.length < d then 2 else if ¬gErr (B.take d) = 0 then gErr (B.take d) else if gVal (B.take d) = 0 then 3 else if z < (gVal (B.take d) : Int) then 4 else 0
def lnV (d : Nat) (z : Int) (B : List UInt8) : Nat := if lnE d z B = 0 then gVal (B.take d) else 0
theorem ln_1 {d : Nat} {z : Int} {B : List UInt8} (h : B.length < d) : lnE d z B = 2 ∧ lnV d z B = 0 := by
  have e : lnE d z B = 2 := if_pos h
  exact ⟨e, by unfold lnV; rw [e]; rfl⟩
theorem ln_2 {d : Nat} {z : Int} {B : List UInt8} (h : ¬B.length < d) (h1 : ¬gErr (B.take d) = 0) : lnE d z B = gErr (B.take d) ∧ lnV d z B = 0 := by
  have e : lnE d z B = gErr (B.take d) := by unfold lnE; rw [if_neg h, if_pos h1]
  exact ⟨e, by unfold lnV; rw [e, if_neg h1]⟩
theorem ln_3 {d : Nat} {z : Int} {B : List UInt8} (h : ¬B.length < d) (h1 : gErr (B.take d) = 0) (h2 : gVal (B.take d) = 0) : lnE d z B = 3 ∧ lnV d z B = 0 := by
  have e : lnE d z B = 3 := by unfold lnE; rw [if_neg h, if_neg (fun e => e h1), if_pos h2]
  exact ⟨e, by unfold lnV; rw [e]; rfl⟩
theorem ln_4 {d : Nat} {z : Int} {B : List UInt8} (h : ¬B.length < d) (h1 : gErr (B.take d) = 0) (h2 : ¬gVal (B.take d) = 0) (h3 : z < (gVal (B.take d) : Int)) : lnE d z B = 4 ∧ lnV d z B = 0 := by
  have e : lnE d z B = 4 := by unfold lnE; rw [if_neg h, if_neg (fun e => e h1), if_neg h2, if_pos h3]
  exact ⟨e, by unfold lnV; rw [e]; rfl⟩
theorem ln_5 {d : Nat} {z : Int} {B : List UInt8} (h : ¬B.length < d) (h1 : gErr (B.take d) = 0) (h2 : ¬gVal (B.take d) = 0) (h3 : ¬z < (gVal (B.take d) : Int)) : lnE d z B = 0 ∧ lnV d z B = gVal (B.take d) := by
  have e : lnE d z B = 0 := by unfold lnE; rw [if_neg h, if_neg (fun e => e h1), if_neg h2, if_neg h3]
  exact ⟨e, by unfold lnV; rw [e]; rfl⟩
theorem wz {z : Int} (hz : 1 ≤ z ∧ z ≤ 999) : IntKind.u64.wrap z = z := wU64' (by omega)
theorem wv {z : Int} (hz : 1 ≤ z ∧ z ≤ 999) {v : Nat} (h : (v : Int) ≤ z) : IntKind.i64.wrap (v : Int) = (v : Int) := w64 (by omega)
theorem good_fxD (z : Int) (L : List UInt8) (hL : L.length ≤ 1000000) : GoodP Tryz.prog gl0 202 [.agg [.int .i64 z, .clo 112 []], .str L] (.bool (std.tb fun _ => decide ((L.length : Int) = z) && isD L)) := by
  refine fn_sound' (T := seatT) (G := gh4) (X := noX) seatT_ok gh4_ok noX_ok noI_ok mixed Tryz.func202 (.one) (fun A => [.agg [.int .i64 z, .clo 112 []], .str L]) (fun A => .bool (A.tb fun _ => decide ((L.length : Int) = z) && isD L)) fun A hA => ?_
  cbv
  repeat' (first | with_reducible exact True.intro | with_reducible exact dr_ok hA (by kernel_rfl) | with_reducible refine And.intro ?_ ?_ | (intro hc; cbv))
  all_goals (subst hA; simp [sS] at *)
  all_goals first
    | assumption
    | omega
    | (simp [*]; done)
    | (intro h; exact ⟨h, hL⟩)
    | trace_state
theorem good_fxT (z : Int) (L : List UInt8) (hL : L.length ≤ 1000000) : GoodP Tryz.prog gl0 202 [.agg [.int .i64 z, .clo 145 []], .str L] (.bool (std.tb fun _ => decide ((L.length : Int) = z) && isT L)) := by
  refine fn_sound' (T := seatT) (G := gh4) (X := noX) seatT_ok gh4_ok noX_ok noI_ok mixed Tryz.func202 (.one) (fun A => [.agg [.int .i64 z, .clo 145 []], .str L]) (fun A => .bool (A.tb fun _ => decide ((L.length : Int) = z) && isT L)) fun A hA => ?_
  cbv
  repeat' (first | with_reducible exact True.intro | with_reducible exact dr_ok hA (by kernel_rfl) | with_reducible refine And.intro ?_ ?_ | (intro hc; cbv))
  all_goals (subst hA; simp [sS] at *)
  all_goals first
    | assumption
    | omega
    | (simp [*]; done)
    | (intro h; exact ⟨h, hL⟩)
    | trace_state
theorem good_lgD (z d : Int) (L : List UInt8) (hL : L.length ≤ 1000000) : GoodP Tryz.prog gl0 204 [.agg [.int .i64 z, .int .i64 d, .clo 112 []], .str L] (.bool (std.tb fun _ => (decide (1 ≤ (L.length : Int)) && decide ((L.length : Int) ≤ z)) && isD L)) := by
  refine fn_sound' (T := seatT) (G := gh4) (X := noX) seatT_ok gh4_ok noX_ok noI_ok mixed Tryz.func204 (.one) (fun A => [.agg [.int .i64 z, .int .i64 d, .clo 112 []], .str L]) (fun A => .bool (A.tb fun _ => (decide (1 ≤ (L.length : Int)) && decide ((L.length : Int) ≤ z)) && isD L)) fun A hA => ?_
  cbv
  repeat' (first | with_reducible exact True.intro | with_reducible exact dr_ok hA (by kernel_rfl) | with_reducible refine And.intro ?_ ?_ | (intro hc; cbv))
  all_goals (subst hA; simp [sS] at *)
  all_goals first
    | assumption
    | omega
    | (simp [*]; done)
    | (intros; first | exact hL | (constructor <;> first | assumption | omega))
    | (intro h1 h2; exact absurd (hc h1) (Int.not_lt.2 h2))
    | trace_state
theorem good_lgT (z d : Int) (L : List UInt8) (hL : L.length ≤ 1000000) : GoodP Tryz.prog gl0 204 [.agg [.int .i64 z, .int .i64 d, .clo 145 []], .str L] (.bool (std.tb fun _ => (decide (1 ≤ (L.length : Int)) && decide ((L.length : Int) ≤ z)) && isT L)) := by
  refine fn_sound' (T := seatT) (G := gh4) (X := noX) seatT_ok gh4_ok noX_ok noI_ok mixed Tryz.func204 (.one) (fun A => [.agg [.int .i64 z, .int .i64 d, .clo 145 []], .str L]) (fun A => .bool (A.tb fun _ => (decide (1 ≤ (L.length : Int)) && decide ((L.length : Int) ≤ z)) && isT L)) fun A hA => ?_
  cbv
  repeat' (first | with_reducible exact True.intro | with_reducible exact dr_ok hA (by kernel_rfl) | with_reducible refine And.intro ?_ ?_ | (intro hc; cbv))
  all_goals (subst hA; simp [sS] at *)
  all_goals first
    | assumption
    | omega
    | (simp [*]; done)
    | (intros; first | exact hL | (constructor <;> first | assumption | omega))
    | (intro h1 h2; exact absurd (hc h1) (Int.not_lt.2 h2))
    | trace_state
theorem good_lenF (a b z z' : Int) (c : Nat) (B : List UInt8) (hB : B.length ≤ 1000000) : GoodP Tryz.prog gl0 156 [.agg [.int .i64 a, .int .i64 b, .int .i64 z], .ifc 188 (.agg [.int .i64 z', .clo c []]), rowS eB 0 1 std fun _ => B] (.tup [.int .i64 z, .int .i64 0]) := by
  refine fn_sound' (T := seatT) (G := gh4) (X := xF) seatT_ok gh4_ok xF_ok iF_ok mixed Tryz.func156 (.one) (fun A => [.agg [.int .i64 a, .int .i64 b, .int .i64 z], .ifc 188 (.agg [.int .i64 z', .clo c []]), rowS eB 0 1 A fun _ => B]) (fun A => .tup [.int .i64 z, .int .i64 0]) fun A hA => ?_
  cbv
  repeat' (first | with_reducible exact True.intro | with_reducible exact dr_ok hA (by kernel_rfl) | with_reducible refine And.intro ?_ ?_ | (intro hc; cbv))
  all_goals (subst hA; simp [sS] at *)
theorem good_lenL (a b z z' : Int) (d c : Nat) (B : List UInt8) (hd : d = 2 ∨ d = 3) (hz : 1 ≤ z ∧ z ≤ 999) (hB : B.length ≤ 1000000) : GoodP Tryz.prog gl0 156 [.agg [.int .i64 a, .int .i64 b, .int .i64 z], .ifc 190 (.agg [.int .i64 z', .int .i64 (d : Nat), .clo c []]), rowS eB 0 1 std fun _ => B] (.tup [.int .i64 (std.ti fun _ => (lnV d z B : Int)), .int .i64 (std.ti fun _ => lnE d z B)]) := by
  refine fn_sound' (T := seatT) (G := gh4) (X := xF) seatT_ok gh4_ok xF_ok iF_ok mixed Tryz.func156 (.one) (fun A => [.agg [.int .i64 a, .int .i64 b, .int .i64 z], .ifc 190 (.agg [.int .i64 z', .int .i64 (d : Nat), .clo c []]), rowS eB 0 1 A fun _ => B]) (fun A => .tup [.int .i64 (A.ti fun _ => (lnV d z B : Int)), .int .i64 (A.ti fun _ => lnE d z B)]) fun A hA => ?_
  cbv
  repeat' (first | with_reducible exact True.intro | with_reducible exact dr_ok hA (by kernel_rfl) | with_reducible refine And.intro ?_ ?_ | (intro hc; cbv))
  all_goals (subst hA; simp [-List.getD_eq_getElem?_getD, sS, strOf_lit, lstOf_lit inj_eB, lstOf_lit inj_eZ, lstOf_lit inj_eBs, lstOf_lit inj_eS, isB_any, isB_any', wz hz] at *)
  all_goals first
    | omega
    | (exfalso; omega)
    | exact (ln_1 hc).1.symm
    | (rw [(ln_1 hc).2]; rfl)
    | (have hB2 : d ≤ B.length := by omega
       simp only [cutS B hB2] at *
       have hn : ¬B.length < d := by omega
       first
         | exact (ln_2 hn (by assumption)).1.symm
         | (rw [(ln_2 hn (by assumption)).2]; rfl)
         | exact (ln_3 hn (by assumption) (by assumption)).1.symm
         | (rw [(ln_3 hn (by assumption) (by assumption)).2]; rfl)
         | exact (ln_4 hn (by assumption) (by assumption) (by assumption)).1.symm
         | (rw [(ln_4 hn (by assumption) (by assumption) (by assumption)).2]; rfl)
         | exact (ln_5 hn (by assumption) (by assumption) (Int.not_lt.2 hc)).1.symm
         | (rw [(ln_5 hn (by assumption) (by assumption) (Int.not_lt.2 hc)).2]; exact wv hz hc))
    | trace_state
end Go.Vd

set_option linter.unusedVariables false
set_option linter.unusedSimpArgs false
set_option maxRecDepth 100000
set_option maxHeartbeats 4000000
namespace Go.Vd
open Go.Proofs
/-- One contract, or another. -/
def orC (c1 c2 : Ct) : Ct := fun A args => match c1 A args with
  | some x => some x
  | none => c2 A args
theorem orC_ok {P : Program} {gl : Nat → SV} {f : Nat} {c1 c2 : Ct} (h1 : ∀ args p r, c1 std args = some (p, r) → holds p → GoodP P gl f args r) (h2 : ∀ args p r, c2 std args = some (p, r) → holds p → GoodP P gl f args r) :
    ∀ args p r, orC c1 c2 std args = some (p, r) → holds p → GoodP P gl f args r := by
  intro args p r h hp
  unfold orC at h
  split at h
  · rename_i x hx
    cases h
    exact h1 _ _ _ hx hp
  · exact h2 _ _ _ h hp
theorem good_lenL' {a b z z' d : Int} {c m : Nat} {f : Nat → Nat → SV} (hp : ((d = 2 ∨ d = 3) ∧ (1 ≤ z ∧ z ≤ 999)) ∧ isRow eB 0 1 m f ∧ m ≤ 1000000) : GoodP Tryz.prog gl0 156 [.agg [.int .i64 a, .int .i64 b, .int .i64 z], .ifc 190 (.agg [.int .i64 z', .int .i64 d, .clo c []]), .slc m 1 f] (.tup [.int .i64 (std.ti fun _ => (lnV d.toNat z (lstOf eB 0 1 m f) : Int)), .int .i64 (std.ti fun _ => lnE d.toNat z (lstOf eB 0 1 m f))]) := by
  obtain ⟨D, rfl⟩ : ∃ D : Nat, d = D := ⟨d.toNat, by omega⟩
  exact good_sv (good_lenL a b z z' D c (lstOf eB 0 1 m f) (by omega) hp.1.2 (by rw [lstOf_length hp.2.1]; exact hp.2.2)) ⟨⟨_, rfl, rfl, rfl, rfl, trivial⟩, rfl, hp.2.1.sv, trivial⟩
noncomputable def c_fxD : Ct := fun A args => match args with
  | [.agg [.int .i64 z, .clo 112 []], .str L] => some (some (A.tp fun _ => L.length ≤ 1000000), .bool (A.tb fun _ => decide ((L.length : Int) = z) && isD L))
  | _ => none
theorem c_fxD_ok : ∀ args p r, c_fxD std args = some (p, r) → holds p → GoodP Tryz.prog gl0 202 args r := by
  intro args p r h hp
  unfold c_fxD at h
  split at h <;> cases h
  exact good_fxD _ _ hp
noncomputable def c_fxT : Ct := fun A args => match args with
  | [.agg [.int .i64 z, .clo 145 []], .str L] => some (some (A.tp fun _ => L.length ≤ 1000000), .bool (A.tb fun _ => decide ((L.length : Int) = z) && isT L))
  | _ => none
theorem c_fxT_ok : ∀ args p r, c_fxT std args = some (p, r) → holds p → GoodP Tryz.prog gl0 202 args r := by
  intro args p r h hp
  unfold c_fxT at h
  split at h <;> cases h
  exact good_fxT _ _ hp
noncomputable def c_lgD : Ct := fun A args => match args with
  | [.agg [.int .i64 z, .int .i64 d, .clo 112 []], .str L] => some (some (A.tp fun _ => L.length ≤ 1000000), .bool (A.tb fun _ => (decide (1 ≤ (L.length : Int)) && decide ((L.length : Int) ≤ z)) && isD L))
  | _ => none
theorem c_lgD_ok : ∀ args p r, c_lgD std args = some (p, r) → holds p → GoodP Tryz.prog gl0 204 args r := by
  intro args p r h hp
  unfold c_lgD at h
  split at h <;> cases h
  exact good_lgD _ _ _ hp
noncomputable def c_lgT : Ct := fun A args => match args with
  | [.agg [.int .i64 z, .int .i64 d, .clo 145 []], .str L] => some (some (A.tp fun _ => L.length ≤ 1000000), .bool (A.tb fun _ => (decide (1 ≤ (L.length : Int)) && decide ((L.length : Int) ≤ z)) && isT L))
  | _ => none
theorem c_lgT_ok : ∀ args p r, c_lgT std args = some (p, r) → holds p → GoodP Tryz.prog gl0 204 args r := by
  intro args p r h hp
  unfold c_lgT at h
  split at h <;> cases h
  exact good_lgT _ _ _ hp
noncomputable def c_lenF : Ct := fun A args => match args with
  | [.agg [.int .i64 a, .int .i64 b, .int .i64 z], .ifc 188 (.agg [.int .i64 z', .clo c []]), .slc m 1 f] => some (some (A.tp fun _ => isRow eB 0 1 m f ∧ m ≤ 1000000), .tup [.int .i64 z, .int .i64 0])
  | _ => none
theorem c_lenF_ok : ∀ args p r, c_lenF std args = some (p, r) → holds p → GoodP Tryz.prog gl0 156 args r := by
  intro args p r h hp
  unfold c_lenF at h
  split at h <;> cases h
  exact good_sv (good_lenF _ _ _ _ _ _ (by rw [lstOf_length hp.1]; exact hp.2)) ⟨⟨_, rfl, rfl, rfl, rfl, trivial⟩, rfl, hp.1.sv, trivial⟩
noncomputable def c_lenL : Ct := fun A args => match args with
  | [.agg [.int .i64 a, .int .i64 b, .int .i64 z], .ifc 190 (.agg [.int .i64 z', .int .i64 d, .clo c []]), .slc m 1 f] => some (some (A.tp fun _ => ((d = 2 ∨ d = 3) ∧ (1 ≤ z ∧ z ≤ 999)) ∧ isRow eB 0 1 m f ∧ m ≤ 1000000), .tup [.int .i64 (A.ti fun _ => (lnV d.toNat z (lstOf eB 0 1 m f) : Int)), .int .i64 (A.ti fun _ => lnE d.toNat z (lstOf eB 0 1 m f))])
  | _ => none
theorem c_lenL_ok : ∀ args p r, c_lenL std args = some (p, r) → holds p → GoodP Tryz.prog gl0 156 args r := by
  intro args p r h hp
  unfold c_lenL at h
  split at h <;> cases h
  exact good_lenL' hp
noncomputable def gh5 : Ar → Pu := addC 202 (orC c_fxD c_fxT) (addC 204 (orC c_lgD c_lgT) (addC 156 (orC c_lenF c_lenL) gh4))
theorem gh5_ok : PuOk Tryz.prog gl0 (gh5 std) := addC_ok (addC_ok (addC_ok gh4_ok ⟨_, Tryz.func156, rfl, by decide⟩ (orC_ok c_lenF_ok c_lenL_ok)) ⟨_, Tryz.func204, rfl, by decide⟩ (orC_ok c_lgD_ok c_lgT_ok)) ⟨_, Tryz.func202, rfl, by decide⟩ (orC_ok c_fxD_ok c_fxT_ok)
theorem rd_fix {n : Int} {B : List UInt8} (h : dOk n = true) (hk : dKd n < 3) : fRd n B = if B.length < (dSz n).toNat then ([], 0, 2) else if rr n (B.take (dSz n).toNat) = true then (B.take (dSz n).toNat, (dSz n).toNat, 0) else ([], 0, 3) := by
  have hb := dOk_b h
  have ha : fAh (dKd n) = 0 := fAh_0.2 hk
  have hz : fZ n B = (dSz n).toNat := if_pos hk
  rw [rd_go h (by omega) (fun e => by omega), hz, ha, if_neg (by omega), Nat.zero_add, List.drop_zero]
  by_cases hl : B.length < (dSz n).toNat
  · rw [if_pos hl, if_pos hl]
  · rw [if_neg hl, if_neg hl, rr_fix h hk]
    have : ((B.take (dSz n).toNat).length : Int) = dSz n := by rw [List.length_take]; omega
    rw [decide_eq_true this, Bool.true_and]
theorem rd_long {n : Int} {B : List UInt8} (h : dOk n = true) (hk : 3 ≤ dKd n) : fRd n B = if ¬lnE (fAh (dKd n)) (dSz n) B = 0 then ([], 0, lnE (fAh (dKd n)) (dSz n) B) else if B.length < fAh (dKd n) + lnV (fAh (dKd n)) (dSz n) B then ([], 0, 2)
    else if rr n ((B.drop (fAh (dKd n))).take (lnV (fAh (dKd n)) (dSz n) B)) = true then ((B.drop (fAh (dKd n))).take (lnV (fAh (dKd n)) (dSz n) B), fAh (dKd n) + lnV (fAh (dKd n)) (dSz n) B, 0) else ([], 0, 3) := by
  have hb := dOk_b h
  have ha : fAh (dKd n) = 2 ∨ fAh (dKd n) = 3 := by unfold fAh; rw [if_neg (by omega)]; split; exact .inr rfl; exact .inl rfl
  have hz : fZ n B = gVal (B.take (fAh (dKd n))) := if_neg (by omega)
  have hfd : fRd n B = if B.length < fAh (dKd n) then ([], 0, 2) else if ¬gErr (B.take (fAh (dKd n))) = 0 ∨ gVal (B.take (fAh (dKd n))) = 0 then ([], 0, 3) else if dSz n < (fZ n B : Int) then ([], 0, 4) else if B.length < fAh (dKd n) + fZ n B then ([], 0, 2) else if signs (dKd n) ((B.drop (fAh (dKd n))).take (fZ n B)) = true then ((B.drop (fAh (dKd n))).take (fZ n B), fAh (dKd n) + fZ n B, 0) else ([], 0, 3) := by
    unfold fRd; rw [if_neg (by rw [h]; simp)]; simp only [hk, true_and]
  generalize fAh (dKd n) = d at *
  have hrd : fRd n B = if B.length < d then ([], 0, 2) else if ¬gErr (B.take d) = 0 ∨ gVal (B.take d) = 0 then ([], 0, 3) else if dSz n < (fZ n B : Int) then ([], 0, 4) else if B.length < d + fZ n B then ([], 0, 2) else if signs (dKd n) ((B.drop d).take (fZ n B)) = true then ((B.drop d).take (fZ n B), d + fZ n B, 0) else ([], 0, 3) := hfd
  rw [hrd, hz]
  by_cases h1 : B.length < d
  · rw [if_pos h1, (ln_1 h1).1, if_pos (by decide)]
  · rw [if_neg h1]
    have hl : (B.take d).length = d := by rw [List.length_take]; omega
    by_cases h2 : gErr (B.take d) = 0
    · by_cases h3 : gVal (B.take d) = 0
      · rw [if_pos (.inr h3), (ln_3 h1 h2 h3).1, if_pos (by decide)]
      · rw [if_neg (fun e => e.elim (fun e => e h2) h3)]
        by_cases h4 : dSz n < (gVal (B.take d) : Int)
        · rw [if_pos h4, (ln_4 h1 h2 h3 h4).1, if_pos (by decide)]
        · have h5 := ln_5 h1 h2 h3 h4
          rw [if_neg h4, h5.1, h5.2, if_neg (show ¬¬(0 : Int) = 0 from fun e => e rfl)]
          by_cases h6 : B.length < d + gVal (B.take d)
          · rw [if_pos h6, if_pos h6]
          · rw [if_neg h6, if_neg h6, rr_long h (by omega)]
            have hq : ((B.drop d).take (gVal (B.take d))).length = gVal (B.take d) := by rw [List.length_take, List.length_drop]; omega
            rw [hq]
            have e1 : decide (1 ≤ ((gVal (B.take d) : Nat) : Int)) = true := by simp; omega
            have e2 : decide (((gVal (B.take d) : Nat) : Int) ≤ dSz n) = true := by simp; omega
            rw [e1, e2, Bool.true_and, Bool.true_and]
    · have h03 := gErr_03 (L := B.take d) (fun e => by rw [e] at hl; simp at hl; omega) (by omega)
      rw [if_pos (.inl h2), (ln_2 h1 h2).1, if_pos h2]
      rcases h03 with h03 | h03
      · exact absurd h03 h2
      · rw [h03]
noncomputable def iF2 : Nat → Option Func := addI 108 Tryz.f108 (addI 201 Tryz.f201 (addI 203 Tryz.f203 noI))
theorem iF2_ok : InOk Tryz.prog iF2 := addI_ok (addI_ok (addI_ok noI_ok Tryz.func203 (by kernel_rfl)) Tryz.func201 (by kernel_rfl)) Tryz.func108 (by kernel_rfl)
theorem lnV_le {d : Nat} {z : Int} {B : List UInt8} (hz : 0 ≤ z) : (lnV d z B : Int) ≤ z := by
  unfold lnV
  split
  · rename_i h
    unfold lnE at h
    split at h
    · cases h
    · split at h
      · rename_i h2; exact absurd h h2
      · split at h
        · cases h
        · split at h
          · cases h
          · omega
  · exact hz
theorem rdF {n : Int} {B : List UInt8} (h : dOk n = true) (hk : dKd n < 3) : ((B.length : Int) < IntKind.i64.wrap (dSz n) → fRd n B = ([], 0, 2)) ∧ (IntKind.i64.wrap (dSz n) ≤ (B.length : Int) → strOfS (IntKind.i64.wrap (dSz n)).toNat (fun i => rowF eB 0 std (fun _ => B) i) = B.take (dSz n).toNat ∧ IntKind.i64.wrap (dSz n) = (((dSz n).toNat : Nat) : Int) ∧
    (rr n (B.take (dSz n).toNat) = true → fRd n B = (B.take (dSz n).toNat, (dSz n).toNat, 0)) ∧ (rr n (B.take (dSz n).toNat) = false → fRd n B = ([], 0, 3)) ∧ (dSz n).toNat ≤ B.length) := by
  have hb := dOk_b h
  have hw : IntKind.i64.wrap (dSz n) = dSz n := w64 (by omega)
  rw [hw, rd_fix h hk]
  refine ⟨fun hl => by rw [if_pos (by omega)], fun hl => ⟨cutS B (by omega), by omega, fun hr => ?_, fun hr => ?_, by omega⟩⟩
  · rw [if_neg (by omega), if_pos hr]
  · rw [if_neg (by omega), if_neg (by rw [hr]; simp)]
theorem rdL {n : Int} {B : List UInt8} {d : Nat} {D : Int} (hD : D = (d : Int)) (hd : fAh (dKd n) = d) (h : dOk n = true) (hk : 3 ≤ dKd n) : (¬lnE d (dSz n) B = 0 → fRd n B = ([], 0, lnE d (dSz n) B)) ∧ (lnE d (dSz n) B = 0 → (B.length : Int) < IntKind.i64.wrap (D + (lnV d (dSz n) B : Int)) → fRd n B = ([], 0, 2)) ∧
    (lnE d (dSz n) B = 0 → IntKind.i64.wrap (D + (lnV d (dSz n) B : Int)) ≤ (B.length : Int) → strOfS ((IntKind.i64.wrap (D + (lnV d (dSz n) B : Int))).toNat - d) (fun i => rowF eB 0 std (fun _ => B) (d + i)) = (B.drop d).take (lnV d (dSz n) B) ∧ IntKind.i64.wrap (D + (lnV d (dSz n) B : Int)) = ((d + lnV d (dSz n) B : Nat) : Int) ∧
    (rr n ((B.drop d).take (lnV d (dSz n) B)) = true → fRd n B = ((B.drop d).take (lnV d (dSz n) B), d + lnV d (dSz n) B, 0)) ∧ (rr n ((B.drop d).take (lnV d (dSz n) B)) = false → fRd n B = ([], 0, 3)) ∧ d + lnV d (dSz n) B ≤ B.length) := by
  have hb := dOk_b h
  have hv := lnV_le (d := d) (z := dSz n) (B := B) (by omega)
  have hd3 := fAh_le (dKd n)
  have hw : IntKind.i64.wrap (D + (lnV d (dSz n) B : Int)) = ((d + lnV d (dSz n) B : Nat) : Int) := (w64 (by omega)).trans (by omega)
  rw [hw, rd_long h hk, hd]
  refine ⟨fun he => by rw [if_pos he], fun he hl => ?_, fun he hl => ⟨?_, rfl, fun hr => ?_, fun hr => ?_, by omega⟩⟩
  · rw [if_neg (fun e => e he), if_pos (by omega)]
  · rw [show ((d + lnV d (dSz n) B : Nat) : Int).toNat - d = lnV d (dSz n) B by omega]
    exact cutS' B (by omega)
  · rw [if_neg (fun e => e he), if_neg (by omega), if_pos hr]
  · rw [if_neg (fun e => e he), if_neg (by omega), if_neg (by rw [hr]; simp)]
theorem len_cut {B : List UInt8} {a z : Nat} (h : B.length ≤ 1000000) : ((B.drop a).take z).length ≤ 1000000 := by rw [List.length_take, List.length_drop]; omega
theorem len_cut0 {B : List UInt8} {z : Nat} (h : B.length ≤ 1000000) : (B.take z).length ≤ 1000000 := by rw [List.length_take]; omega
theorem good_gRead (n : Int) (B : List UInt8) (hB : B.length ≤ 1000000) : GoodP Tryz.prog gl0 132 [.int .i64 n, rowS eB 0 1 std fun _ => B] (.tup [.str (std.ts fun _ => (fRd n B).1), .int .i64 (std.ti fun _ => ((fRd n B).2.1 : Int)), .int .i64 (std.ti fun _ => (fRd n B).2.2)]) := by
  refine fn_sound' (T := seatT) (G := gh5) (X := xF) seatT_ok gh5_ok xF_ok iF2_ok mixed Tryz.func132 (.one) (fun A => [.int .i64 n, rowS eB 0 1 A fun _ => B]) (fun A => .tup [.str (A.ts fun _ => (fRd n B).1), .int .i64 (A.ti fun _ => ((fRd n B).2.1 : Int)), .int .i64 (A.ti fun _ => (fRd n B).2.2)]) fun A hA => ?_
  cbv
  repeat' (first | with_reducible exact True.intro | with_reducible exact dr_ok hA (by kernel_rfl) | with_reducible refine And.intro ?_ ?_ | (intro hc; cbv))
  all_goals (subst hA; simp [-List.getD_eq_getElem?_getD, std_add, std_sub, std_mul, std_quo, std_rem, std_band, std_bor, std_bxor, std_shl, std_shr, std_eq, std_ne, std_lt, std_le, std_conv, std_not, std_beq, std_bne, std_ite, std_want, std_and2, std_sadd, std_seq, std_sne, std_slt, std_sle, std_sgt, std_sge, std_slen, std_sget, std_scut, std_ofNat, std_toNat, std_nsub, std_nadd, std_lenOf, std_nz, std_nneg, std_inb, std_upto, std_slt63, std_grow, std_imp, std_impN, std_tr, std_tb, std_ti, std_ts, std_tn, std_tp, std_nmin, std_makes, std_room, std_zeros, std_nilq, std_notq, std_eqi, std_eqn, std_eqb, std_eqs, std_eqv, std_cat, std_lst, std_rset, std_rcopy, std_shift, std_eqr, std_strOf, std_bytesOf, std_isB, std_zOf, zOf_int, std_isI, isI_int, std_getL, std_nmul, std_sOf, sOf_str, std_isS, isS_str, std_fadd, std_fsub, std_fav, std_fsv, std_feq, std_fne, std_flt, std_fle, std_fgt, std_fge, std_fOf, std_fTo, std_fTv, strOf_lit, lstOf_lit inj_eB, lstOf_lit inj_eZ, lstOf_lit inj_eBs, lstOf_lit inj_eS, isRow_lit, isB_lit, isRow_nil, lstOf_nil inj_eB, lstOf_nil inj_eZ, lstOf_nil inj_eBs, lstOf_nil inj_eS, isB_any, isB_any'] at *)
  all_goals first
    | assumption
    | (rw [rd_no (by assumption)]; done)
    | (rw [rd_no (by assumption)]; rfl)
    | (have h : dOk n = true := by assumption
       have hb := dOk_b h
       have hk : dKd n < 3 := by omega
       have hL := rdF (B := B) h hk
       first
         | (rw [hL.1 hc]; done)
         | (rw [hL.1 hc]; rfl)
         | (obtain ⟨c1, c2, c3, c4, c5⟩ := hL.2 (by assumption)
            first
              | (rw [c2]; constructor <;> omega)
              | (rw [c2]; omega)
              | (rw [c1]; exact len_cut0 hB)
              | (simp only [c1] at hc
                 have hr : rr n (B.take (dSz n).toNat) = false := by first | exact rr_f1 h (by omega) (by assumption) | exact rr_f2 h (by omega) (by assumption)
                 rw [c4 hr]
                 first | done | rfl)
              | (simp only [c1] at hc
                 have hr : rr n (B.take (dSz n).toNat) = true := by first | exact (rr_of1 h (by omega)).2 (by assumption) | exact (rr_of2 h (by omega)).2 (by assumption)
                 rw [c3 hr]
                 first | done | rfl | exact c1 | exact c2)))
    | (have h : dOk n = true := by assumption
       have hb := dOk_b h
       have hk : 3 ≤ dKd n := by omega
       have hd : fAh (dKd n) = 2 := by unfold fAh; rw [if_neg (by omega), if_neg (by omega)]
       have hL := rdL (B := B) (d := 2) (D := 2) rfl hd h hk
       first
         | (rw [hL.1 hc]; done)
         | (rw [hL.1 hc]; rfl)
         | (rw [hL.2.1 (by assumption) hc]; done)
         | (rw [hL.2.1 (by assumption) hc]; rfl)
         | exact ⟨⟨hb.2.2.1, hb.2.2.2.1⟩, hB⟩
         | (obtain ⟨c1, c2, c3, c4, c5⟩ := hL.2.2 (by assumption) (by assumption)
            first
              | (rw [c2]; constructor <;> omega)
              | (rw [c2]; omega)
              | (rw [c1]; exact len_cut hB)
              | (simp only [c1] at hc
                 have hr : rr n ((B.drop 2).take (lnV 2 (dSz n) B)) = false := by first | exact rr_f3 h (by omega) (by assumption) | exact rr_f4 h (by omega) (by assumption)
                 rw [c4 hr]
                 first | done | rfl)
              | (simp only [c1] at hc
                 have hr : rr n ((B.drop 2).take (lnV 2 (dSz n) B)) = true := by first | exact (rr_of3 h (by omega)).2 (by assumption) | exact (rr_of4 h (by omega)).2 (by assumption)
                 rw [c3 hr]
                 first | done | rfl | exact c1 | exact c2)))
    | (have h : dOk n = true := by assumption
       have hb := dOk_b h
       have hk : 3 ≤ dKd n := by omega
       have hd : fAh (dKd n) = 3 := by unfold fAh; rw [if_neg (by omega), if_pos (by omega)]
       have hL := rdL (B := B) (d := 3) (D := 3) rfl hd h hk
       first
         | (rw [hL.1 hc]; done)
         | (rw [hL.1 hc]; rfl)
         | (rw [hL.2.1 (by assumption) hc]; done)
         | (rw [hL.2.1 (by assumption) hc]; rfl)
         | exact ⟨⟨hb.2.2.1, hb.2.2.2.1⟩, hB⟩
         | (obtain ⟨c1, c2, c3, c4, c5⟩ := hL.2.2 (by assumption) (by assumption)
            first
              | (rw [c2]; constructor <;> omega)
              | (rw [c2]; omega)
              | (rw [c1]; exact len_cut hB)
              | (simp only [c1] at hc
                 have hr : rr n ((B.drop 3).take (lnV 3 (dSz n) B)) = false := by first | exact rr_f3 h (by omega) (by assumption) | exact rr_f4 h (by omega) (by assumption)
                 rw [c4 hr]
                 first | done | rfl)
              | (simp only [c1] at hc
                 have hr : rr n ((B.drop 3).take (lnV 3 (dSz n) B)) = true := by first | exact (rr_of3 h (by omega)).2 (by assumption) | exact (rr_of4 h (by omega)).2 (by assumption)
                 rw [c3 hr]
                 first | done | rfl | exact c1 | exact c2)))
    | trace_state
end Go.Vd

set_option linter.unusedVariables false
set_option linter.unusedSimpArgs false
set_option maxRecDepth 100000
set_option maxHeartbeats 2000000
namespace Go.Vd
open Go.Proofs
def kOf (n : Int) : Nat := n.toNat % 19 + 1
theorem kOf_eq {n : Int} (h : 0 ≤ n ∧ n < 256) : IntKind.i64.wrap ((IntKind.i64.wrap n).tmod 19 + 1) = (kOf n : Int) := by
  rw [w64 (n := n) (by omega), Int.tmod_eq_emod_of_nonneg h.1, w64 (by omega)]
  unfold kOf
  omega
theorem kOf_le (n : Int) : 1 ≤ kOf n ∧ kOf n ≤ 19 := by unfold kOf; omega
theorem p19' {k : Nat} (h : k ≤ 19) : 10 ^ k ≤ 10000000000000000000 := p19 h
theorem pu_ok {v : Int} {k : Nat} (hv : 0 ≤ v) (hk : 1 ≤ k ∧ k ≤ 19) (h : puE v k = 0) : puS v k = decs k v.toNat ∧ v.toNat < 10 ^ k := by
  have h1 : ¬((k : Int) < 1 ∨ 19 < (k : Int)) := by omega
  by_cases h2 : 10 ^ (k : Int).toNat ≤ v.toNat
  · rw [(pu2 h1 h2).2] at h; omega
  · rw [(pu3 h1 h2).1, Int.toNat_natCast]
    rw [Int.toNat_natCast] at h2
    exact ⟨rfl, by omega⟩
theorem get_decs {k V : Nat} (hk : 1 ≤ k ∧ k ≤ 19) (h : V < 10 ^ k) : gErr (decs k V) = 0 ∧ gVal (decs k V) = V := by
  have h1 := gE3 (L := decs k V) (by rw [decs_len]; omega) (decs_is hk.1)
  rw [h1.2, dVal_decs, Nat.mod_eq_of_lt h]
  exact ⟨h1.1, rfl⟩
theorem get_no {L : List UInt8} (h : ¬gErr L = 0) : gVal L = 0 := by
  by_cases h0 : L = []
  · exact (gE0 h0).2
  · by_cases h1 : 19 < L.length
    · exact (gE1 h0 h1).2
    · cases h2 : isD L
      · exact (gE2 h0 h1 h2).2
      · exact absurd (gE3 h1 h2).1 h
theorem get_yes {L : List UInt8} (h : gErr L = 0) : isD L = true ∧ 1 ≤ L.length ∧ L.length ≤ 19 ∧ gVal L = dVal L ∧ dVal L < 10 ^ L.length := by
  by_cases h0 : L = []
  · rw [(gE0 h0).1] at h; omega
  · by_cases h1 : 19 < L.length
    · rw [(gE1 h0 h1).1] at h; omega
    · cases h2 : isD L
      · rw [(gE2 h0 h1 h2).1] at h; omega
      · have := List.length_pos_iff.2 h0
        exact ⟨rfl, this, by omega, (gE3 h1 h2).2, dVal_lt L (isD_iff.1 h2).2⟩
theorem get_put {L : List UInt8} (h : gErr L = 0) : puE (gVal L : Int) (L.length : Int) = 0 ∧ puS (gVal L : Int) (L.length : Int) = L := by
  obtain ⟨h1, h2, h3, h4, h5⟩ := get_yes h
  have h6 := pu3 (v := (gVal L : Int)) (n := (L.length : Int)) (by omega) (by rw [Int.toNat_natCast, Int.toNat_natCast, h4]; omega)
  rw [h6.1, h6.2, Int.toNat_natCast, Int.toNat_natCast, h4, decs_dVal L (isD_iff.1 h1).2]
  exact ⟨rfl, rfl⟩
theorem get_lt (L : List UInt8) : gVal L < 18446744073709551616 := by
  by_cases h : gErr L = 0
  · obtain ⟨h1, h2, h3, h4, h5⟩ := get_yes h
    have := p19 h3
    omega
  · rw [get_no h]; omega
theorem get_put_pre {L : List UInt8} (h : gErr L = 0) : ((gVal L : Nat) : Int) < 18446744073709551616 ∧ ((L.length : Nat) : Int) < 9223372036854775808 := by
  have h1 := get_lt L
  have h2 := get_yes h
  exact ⟨by omega, by omega⟩
theorem put_lt {v w : Int} (hv : 0 ≤ v) (hw : 0 ≤ w) {k : Nat} (hk : 1 ≤ k ∧ k ≤ 19) (h : puE v k = 0) (h' : puE w k = 0) : Op.bytesLess (puS v k) (puS w k) = decide (v < w) := by
  obtain ⟨e1, l1⟩ := pu_ok hv hk h
  obtain ⟨e2, l2⟩ := pu_ok hw hk h'
  rw [bytesLess_eq, e1, e2, decide_eq_decide, decs_lt l1 l2]
  omega
theorem pu_all {v : Int} {k : Nat} (hv : 0 ≤ v) (hk : 1 ≤ k ∧ k ≤ 19) (h : puE v k = 0) : gErr (puS v k) = 0 ∧ ((gVal (puS v k) : Nat) : Int) = v ∧ (puS v k).length = k ∧ isD (puS v k) = true := by
  obtain ⟨e1, l1⟩ := pu_ok hv hk h
  obtain ⟨h1, h2⟩ := get_decs hk l1
  rw [e1, h1, h2, decs_len]
  exact ⟨rfl, by omega, rfl, decs_is hk.1⟩
end Go.Vd

set_option linter.unusedVariables false
set_option linter.unusedSimpArgs false
set_option maxRecDepth 100000
set_option maxHeartbeats 4000000
namespace Go.Vd
open Go.Proofs
theorem mx {a b : Nat} : (a : Int) < max (((a + b : Nat) : Int)) 0 + 1 := by omega
theorem mx0 {a z : Nat} (h : a = 0) : (a : Int) < max ((z : Nat) : Int) 0 + 1 := by omega
theorem gv_le {a : Nat} {B : List UInt8} (ha : a ≤ 3) : gVal (B.take a) ≤ 999 := by
  by_cases h : gErr (B.take a) = 0
  · obtain ⟨h1, h2, h3, h4, h5⟩ := get_yes h
    have hl : (B.take a).length ≤ 3 := by rw [List.length_take]; omega
    have := Nat.pow_le_pow_right (n := 10) (by omega) hl
    omega
  · rw [get_no h]; omega
theorem rdR {n : Int} {B : List UInt8} (h : dOk n = true) (hk : 3 ≤ dKd n) (hB : B.length ≤ 1000000) (hle : fAh (dKd n) ≤ B.length) :
    strOfS (fAh (dKd n)) (rowF eB 0 std fun _ => B) = B.take (fAh (dKd n)) ∧ IntKind.i64.wrap (gVal (B.take (fAh (dKd n))) : Int) = (gVal (B.take (fAh (dKd n))) : Int) ∧
    (¬gErr (B.take (fAh (dKd n))) = 0 ∨ gVal (B.take (fAh (dKd n))) = 0 → fRd n B = ([], 0, 3)) ∧
    (gErr (B.take (fAh (dKd n))) = 0 ∧ ¬gVal (B.take (fAh (dKd n))) = 0 → dSz n < (gVal (B.take (fAh (dKd n))) : Int) → fRd n B = ([], 0, 4)) ∧
    (gErr (B.take (fAh (dKd n))) = 0 ∧ ¬gVal (B.take (fAh (dKd n))) = 0 → (gVal (B.take (fAh (dKd n))) : Int) ≤ dSz n → IntKind.i64.wrap ((B.length : Int) - (fAh (dKd n) : Int)) < (gVal (B.take (fAh (dKd n))) : Int) → fRd n B = ([], 0, 2)) ∧
    (gErr (B.take (fAh (dKd n))) = 0 ∧ ¬gVal (B.take (fAh (dKd n))) = 0 → (gVal (B.take (fAh (dKd n))) : Int) ≤ dSz n → (gVal (B.take (fAh (dKd n))) : Int) ≤ IntKind.i64.wrap ((B.length : Int) - (fAh (dKd n) : Int)) →
      IntKind.i64.wrap ((fAh (dKd n) : Int) + (gVal (B.take (fAh (dKd n))) : Int)) = ((fAh (dKd n) + gVal (B.take (fAh (dKd n))) : Nat) : Int) ∧
      strOfS ((IntKind.i64.wrap ((fAh (dKd n) : Int) + (gVal (B.take (fAh (dKd n))) : Int))).toNat - fAh (dKd n)) (fun i => rowF eB 0 std (fun _ => B) (fAh (dKd n) + i)) = (B.drop (fAh (dKd n))).take (gVal (B.take (fAh (dKd n)))) ∧
      (signs (dKd n) ((B.drop (fAh (dKd n))).take (gVal (B.take (fAh (dKd n))))) = false → fRd n B = ([], 0, 3)) ∧
      (signs (dKd n) ((B.drop (fAh (dKd n))).take (gVal (B.take (fAh (dKd n))))) = true → fRd n B = ((B.drop (fAh (dKd n))).take (gVal (B.take (fAh (dKd n)))), fAh (dKd n) + gVal (B.take (fAh (dKd n))), 0)) ∧ fAh (dKd n) + gVal (B.take (fAh (dKd n))) ≤ B.length) := by
  have ha := fAh_le (dKd n)
  have hv := gv_le (B := B) ha
  have hz : fZ n B = gVal (B.take (fAh (dKd n))) := if_neg (by omega)
  have hw : IntKind.i64.wrap ((B.length : Int) - (fAh (dKd n) : Int)) = (B.length : Int) - (fAh (dKd n) : Int) := w64 (by omega)
  have hw2 : IntKind.i64.wrap ((fAh (dKd n) : Int) + (gVal (B.take (fAh (dKd n))) : Int)) = ((fAh (dKd n) + gVal (B.take (fAh (dKd n))) : Nat) : Int) := (w64 (by omega)).trans (by omega)
  rw [hw, hw2]
  have hgo : gErr (B.take (fAh (dKd n))) = 0 ∧ ¬gVal (B.take (fAh (dKd n))) = 0 → _ := fun hp => rd_go (B := B) h (by omega) (fun _ => hp)
  rw [hz] at hgo
  refine ⟨cutS B hle, w64 (by omega), fun hb => rd_f1 h (by omega) hk hb, fun hp hl => ?_, fun hp hl hs => ?_, fun hp hl hs => ⟨rfl, ?_, fun hs => ?_, fun hs => ?_, by omega⟩⟩
  · rw [hgo hp, if_pos hl]
  · rw [hgo hp, if_neg (by omega), if_pos (by omega)]
  · rw [show ((fAh (dKd n) + gVal (B.take (fAh (dKd n))) : Nat) : Int).toNat - fAh (dKd n) = gVal (B.take (fAh (dKd n))) by omega]
    exact cutS' B (by omega)
  · rw [hgo hp, if_neg (by omega), if_neg (by omega), if_neg (by rw [hs]; simp)]
  · rw [hgo hp, if_neg (by omega), if_neg (by omega), if_pos hs]
theorem rdR0 {n : Int} {B : List UInt8} (h : dOk n = true) (hk : dKd n < 3) (hB : B.length ≤ 1000000) :
    (IntKind.i64.wrap ((B.length : Int) - (fAh (dKd n) : Int)) < dSz n → fRd n B = ([], 0, 2)) ∧
    (dSz n ≤ IntKind.i64.wrap ((B.length : Int) - (fAh (dKd n) : Int)) →
      IntKind.i64.wrap ((fAh (dKd n) : Int) + dSz n) = (((dSz n).toNat : Nat) : Int) ∧
      strOfS ((IntKind.i64.wrap ((fAh (dKd n) : Int) + dSz n)).toNat - fAh (dKd n)) (fun i => rowF eB 0 std (fun _ => B) (fAh (dKd n) + i)) = B.take (dSz n).toNat ∧
      (signs (dKd n) (B.take (dSz n).toNat) = false → fRd n B = ([], 0, 3)) ∧
      (signs (dKd n) (B.take (dSz n).toNat) = true → fRd n B = (B.take (dSz n).toNat, (dSz n).toNat, 0)) ∧ (dSz n).toNat ≤ B.length) := by
  have ha : fAh (dKd n) = 0 := fAh_0.2 hk
  have hb := dOk_b h
  rw [ha]
  have hw : IntKind.i64.wrap ((B.length : Int) - ((0 : Nat) : Int)) = (B.length : Int) := (w64 (by omega)).trans (by omega)
  have hw2 : IntKind.i64.wrap (((0 : Nat) : Int) + dSz n) = (((dSz n).toNat : Nat) : Int) := (w64 (by omega)).trans (by omega)
  rw [hw, hw2, rd_fix h hk]
  refine ⟨fun hl => by rw [if_pos (by omega)], fun hl => ?_⟩
  have hlen : ((B.take (dSz n).toNat).length : Int) = dSz n := by rw [List.length_take]; omega
  rw [if_neg (by omega), rr_fix h hk, decide_eq_true hlen, Bool.true_and]
  refine ⟨rfl, ?_, fun hs => by rw [if_neg (by rw [hs]; simp)], fun hs => by rw [if_pos hs], by omega⟩
  rw [Int.toNat_natCast, Nat.sub_zero]
  have := cutS' B (a := 0) (z := (dSz n).toNat) (by omega)
  rw [List.drop_zero] at this
  exact this
theorem good_rRead (n : Int) (B : List UInt8) (hB : B.length ≤ 1000000) : GoodP Tryz.prog gl0 96 [.int .i64 n, rowS eB 0 1 std fun _ => B] (.tup [.str (std.ts fun _ => (fRd n B).1), .int .i64 (std.ti fun _ => ((fRd n B).2.1 : Int)), .int .i64 (std.ti fun _ => (fRd n B).2.2)]) := by
  refine fn_sound' (T := seatT) (G := gh4) (X := noX) seatT_ok gh4_ok noX_ok noI_ok mixed Tryz.func96 (.one) (fun A => [.int .i64 n, rowS eB 0 1 A fun _ => B]) (fun A => .tup [.str (A.ts fun _ => (fRd n B).1), .int .i64 (A.ti fun _ => ((fRd n B).2.1 : Int)), .int .i64 (A.ti fun _ => (fRd n B).2.2)]) fun A hA => ?_
  cbv
  repeat' (first | with_reducible exact True.intro | with_reducible exact dr_ok hA (by kernel_rfl) | with_reducible refine And.intro ?_ ?_ | (intro hc; cbv))
  all_goals (subst hA; simp [-List.getD_eq_getElem?_getD, std_add, std_sub, std_mul, std_quo, std_rem, std_band, std_bor, std_bxor, std_shl, std_shr, std_eq, std_ne, std_lt, std_le, std_conv, std_not, std_beq, std_bne, std_ite, std_want, std_and2, std_sadd, std_seq, std_sne, std_slt, std_sle, std_sgt, std_sge, std_slen, std_sget, std_scut, std_ofNat, std_toNat, std_nsub, std_nadd, std_lenOf, std_nz, std_nneg, std_inb, std_upto, std_slt63, std_grow, std_imp, std_impN, std_tr, std_tb, std_ti, std_ts, std_tn, std_tp, std_nmin, std_makes, std_room, std_zeros, std_nilq, std_notq, std_eqi, std_eqn, std_eqb, std_eqs, std_eqv, std_cat, std_lst, std_rset, std_rcopy, std_shift, std_eqr, std_strOf, std_bytesOf, std_isB, std_zOf, zOf_int, std_isI, isI_int, std_getL, std_nmul, std_sOf, sOf_str, std_isS, isS_str, std_fadd, std_fsub, std_fav, std_fsv, std_feq, std_fne, std_flt, std_fle, std_fgt, std_fge, std_fOf, std_fTo, std_fTv, strOf_lit, lstOf_lit inj_eB, lstOf_lit inj_eZ, lstOf_lit inj_eBs, lstOf_lit inj_eS, isRow_lit, isB_lit, isRow_nil, lstOf_nil inj_eB, lstOf_nil inj_eZ, lstOf_nil inj_eBs, lstOf_nil inj_eS, isB_any, isB_any'] at *)
  all_goals first
    | assumption
    | (rw [rd_no (by assumption)]; done)
    | (rw [rd_no (by assumption)]; rfl)
    | (have h : dOk n = true := by assumption
       have hk0 : ¬fAh (dKd n) = 0 := by omega
       have hk : 3 ≤ dKd n := by rw [fAh_0] at hk0; omega
       first
         | (rw [rd_s1 h (by assumption)]; done)
         | (rw [rd_s1 h (by assumption)]; rfl)
         | exact Int.ofNat_lt.2 (Nat.lt_succ_of_le (by assumption))
         | (obtain ⟨c1, c2, c3, c4, c5, c6⟩ := rdR h hk hB (by assumption)
            simp only [c1, c2] at *
            first
              | (rw [c3 (by assumption)]; done)
              | (rw [c3 (by assumption)]; rfl)
              | (rw [c4 (by assumption) (by assumption)]; done)
              | (rw [c4 (by assumption) (by assumption)]; rfl)
              | (rw [c5 (by assumption) (by assumption) (by assumption)]; done)
              | (rw [c5 (by assumption) (by assumption) (by assumption)]; rfl)
              | (obtain ⟨q1, q2, q3, q4, q5⟩ := c6 (by assumption) (by assumption) (by assumption)
                 first
                   | (rw [q1]; constructor <;> omega)
                   | (rw [q1]; exact mx)
                   | (rw [q1]; omega)
                   | (rw [q2]; exact len_cut hB)
                   | (simp only [q2] at hc
                      rw [q3 hc]
                      first | done | rfl)
                   | (simp only [q2] at hc
                      rw [q4 hc]
                      first | done | rfl | exact q2 | exact q1))))
    | (have h : dOk n = true := by assumption
       have hk : dKd n < 3 := fAh_0.1 (by assumption)
       have hL := rdR0 (B := B) h hk hB
       first
         | (rw [hL.1 (by assumption)]; done)
         | (rw [hL.1 (by assumption)]; rfl)
         | (obtain ⟨q1, q2, q3, q4, q5⟩ := hL.2 (by assumption)
            first
              | (rw [q1]; constructor <;> omega)
              | (rw [q1]; exact mx0 (fAh_0.2 hk))
              | (rw [q1]; omega)
              | (rw [q2]; exact len_cut0 hB)
              | (simp only [q2] at hc
                 rw [q3 hc]
                 first | done | rfl)
              | (simp only [q2] at hc
                 rw [q4 hc]
                 first | done | rfl | exact q2 | exact q1)))
    | trace_state
end Go.Vd

set_option linter.unusedVariables false
set_option linter.unusedSimpArgs false
set_option maxRecDepth 100000
set_option maxHeartbeats 4000000
namespace Go.Vd
open Go.Proofs
theorem fWr_fWx {n : Int} {L : List UInt8} (hr : rr n L = true) : fWr n L = fWx n L := by
  by_cases hk : dKd n < 3
  · rw [(we_fix hr hk).2]; unfold fWx; rw [if_pos hk]
  · rw [(we_long hr (by omega)).2, ← (pu_len hr (by omega)).2]; unfold fWx; rw [if_neg hk]
theorem fAh_long {k : Int} (h : 3 ≤ k) : fAh k = 2 ∨ fAh k = 3 := by unfold fAh; rw [if_neg (by omega)]; split; exact .inr rfl; exact .inl rfl
/-- A value that is written, as what is read. -/
theorem w_fix {n : Int} {s : List UInt8} (hr : rr n s = true) (hk : dKd n < 3) : s.length = (dSz n).toNat ∧ 1 ≤ s.length := by
  obtain ⟨h1, h2, h3, h4, h5⟩ := rr_ok hr
  have := h4 hk
  have := dOk_b h1
  omega
theorem w_long {n : Int} {s : List UInt8} (hr : rr n s = true) (hk : 3 ≤ dKd n) : 1 ≤ s.length ∧ s.length < 10 ^ fAh (dKd n) ∧ (s.length : Int) ≤ dSz n := by
  obtain ⟨h1, h2, h3, h4, h5⟩ := rr_ok hr
  have hb := dOk_b h1
  have := List.length_pos_iff.2 h2
  refine ⟨this, ?_, h3⟩
  unfold fAh
  rw [if_neg (by omega)]
  split
  · omega
  · have := hb.2.2.2.2.2.2 (by omega); omega
theorem ln_put {d : Nat} {z : Int} {V : Nat} {C : List UInt8} (hd : d = 2 ∨ d = 3) (h1 : 1 ≤ V) (h2 : V < 10 ^ d) (h3 : (V : Int) ≤ z) : lnE d z (decs d V ++ C) = 0 ∧ lnV d z (decs d V ++ C) = V := by
  have ht : (decs d V ++ C).take d = decs d V := by rw [List.take_append_of_le_length (by rw [decs_len]; omega), List.take_of_length_le (by rw [decs_len]; omega)]
  have hg := get_decs (k := d) (V := V) (by omega) h2
  have := ln_5 (d := d) (z := z) (B := decs d V ++ C) (by rw [List.length_append, decs_len]; omega) (by rw [ht]; exact hg.1) (by rw [ht, hg.2]; omega) (by rw [ht, hg.2]; omega)
  rw [ht, hg.2] at this
  exact this
theorem fR_back {n : Int} {s : List UInt8} (hr : rr n s = true) (B : List UInt8) : fRd n (fWr n s ++ B) = (s, (fWr n s).length, 0) := by
  have h := (rr_ok hr).1
  by_cases hk : dKd n < 3
  · have hw := w_fix hr hk
    rw [(we_fix hr hk).2, rd_fix h hk, if_neg (by rw [List.length_append]; omega)]
    have ht : (s ++ B).take (dSz n).toNat = s := by rw [List.take_append_of_le_length (by omega), List.take_of_length_le (by omega)]
    rw [ht, if_pos hr, hw.1]
  · have hk : 3 ≤ dKd n := by omega
    have hw := w_long hr hk
    have hd := fAh_long hk
    rw [(we_long hr hk).2, rd_long h hk, List.append_assoc]
    obtain ⟨e1, e2⟩ := ln_put (d := fAh (dKd n)) (C := s ++ B) hd hw.1 hw.2.1 hw.2.2
    rw [e1, e2, if_neg (show ¬¬(0 : Int) = 0 from fun e => e rfl), if_neg (by simp [decs_len])]
    have ht : ((decs (fAh (dKd n)) s.length ++ (s ++ B)).drop (fAh (dKd n))).take s.length = s := by
      rw [List.drop_append_of_le_length (by rw [decs_len]; omega), List.drop_of_length_le (by rw [decs_len]; omega), List.nil_append, List.take_append_of_le_length (by omega), List.take_of_length_le (by omega)]
    rw [ht, if_pos hr, List.length_append, decs_len]
theorem fR_cut {n : Int} {s : List UInt8} (hr : rr n s = true) {c : Nat} (hc : c < (fWr n s).length) : (fRd n ((fWr n s).take c)).2.2 = 2 := by
  have h := (rr_ok hr).1
  have hl : ((fWr n s).take c).length = c := by rw [List.length_take]; omega
  by_cases hk : dKd n < 3
  · have hw := w_fix hr hk
    rw [(we_fix hr hk).2] at hc hl ⊢
    rw [rd_fix h hk, if_pos (by omega)]
  · have hk : 3 ≤ dKd n := by omega
    have hw := w_long hr hk
    have hd := fAh_long hk
    rw [rd_long h hk]
    by_cases h1 : c < fAh (dKd n)
    · rw [(ln_1 (by rw [hl]; exact h1)).1, if_pos (by decide)]
    · rw [(we_long hr hk).2] at hc hl ⊢
      have ht : (decs (fAh (dKd n)) s.length ++ s).take c = decs (fAh (dKd n)) s.length ++ s.take (c - fAh (dKd n)) := by
        rw [List.take_append, List.take_of_length_le (by rw [decs_len]; omega), decs_len]
      rw [ht] at hl ⊢
      obtain ⟨e1, e2⟩ := ln_put (d := fAh (dKd n)) (C := s.take (c - fAh (dKd n))) hd hw.1 hw.2.1 hw.2.2
      rw [List.length_append, decs_len] at hc
      rw [e1, e2, if_neg (show ¬¬(0 : Int) = 0 from fun e => e rfl), if_pos (by omega)]
theorem fR_bad {n : Int} {B : List UInt8} (h : ¬(fRd n B).2.2 = 0) : (fRd n B).1 = [] ∧ (fRd n B).2.1 = 0 := by
  unfold fRd at h ⊢
  repeat' split at h
  all_goals (first | exact absurd rfl h | skip)
  all_goals simp [*]
theorem fR_good {n : Int} {B : List UInt8} (h : (fRd n B).2.2 = 0) : rr n (fRd n B).1 = true ∧ (fRd n B).2.1 ≤ B.length ∧ 0 < (fRd n B).2.1 ∧ fWr n (fRd n B).1 = B.take (fRd n B).2.1 := by
  cases ho : dOk n
  · rw [rd_no ho] at h; cases h
  · have hb := dOk_b ho
    by_cases hk : dKd n < 3
    · rw [rd_fix ho hk] at h ⊢
      split at h
      · cases h
      · rename_i h1
        rw [if_neg h1]
        split at h
        · rename_i hr
          rw [if_pos hr]
          exact ⟨hr, by simp only; omega, by simp only; omega, (we_fix hr hk).2⟩
        · cases h
    · have hk : 3 ≤ dKd n := by omega
      have hd := fAh_long hk
      rw [rd_long ho hk] at h ⊢
      by_cases he : lnE (fAh (dKd n)) (dSz n) B = 0
      · rw [if_neg (fun e => e he)] at h ⊢
        split at h
        · cases h
        · rename_i h1
          rw [if_neg h1]
          split at h
          · rename_i hr
            rw [if_pos hr]
            refine ⟨hr, by simp only; omega, by simp only; omega, ?_⟩
            simp only
            have hV : lnV (fAh (dKd n)) (dSz n) B = gVal (B.take (fAh (dKd n))) := by unfold lnV; rw [if_pos he]
            have hg : gErr (B.take (fAh (dKd n))) = 0 := by
              unfold lnE at he
              split at he
              · cases he
              · split at he
                · rename_i h2; exact absurd he h2
                · rename_i h2; exact Classical.not_not.1 h2
            obtain ⟨g1, g2, g3, g4, g5⟩ := get_yes hg
            have hla : (B.take (fAh (dKd n))).length = fAh (dKd n) := by rw [List.length_take]; omega
            have hls : ((B.drop (fAh (dKd n))).take (lnV (fAh (dKd n)) (dSz n) B)).length = lnV (fAh (dKd n)) (dSz n) B := by rw [List.length_take, List.length_drop]; omega
            rw [(we_long hr hk).2, hls]
            have hdd : decs (fAh (dKd n)) (lnV (fAh (dKd n)) (dSz n) B) = B.take (fAh (dKd n)) := by
              have := decs_dVal (B.take (fAh (dKd n))) (isD_iff.1 g1).2
              rw [hla] at this
              rw [hV, g4, this]
            rw [hdd, List.take_add]
          · cases h
      · rw [if_pos he] at h
        exact absurd h he
noncomputable def c_gWrite : Ct := fun A args => match args with
  | [.int .i64 n, .str L] => some (some (A.tp fun _ => L.length ≤ 1000000), .tup [rowS eB 0 1 A fun _ => fWr n L, .int .i64 (A.ti fun _ => fWe n L)])
  | _ => none
noncomputable def c_rWrite : Ct := fun A args => match args with
  | [.int .i64 n, .str L] => some (some (A.tp fun _ => L.length ≤ 1000000), rowS eB 0 1 A fun _ => fWx n L)
  | _ => none
noncomputable def c_gRead : Ct := fun A args => match args with
  | [.int .i64 n, .slc m 1 f] => some (some (A.tp fun _ => isRow eB 0 1 m f ∧ m ≤ 1000000), .tup [.str (A.ts fun _ => (fRd n (lstOf eB 0 1 m f)).1), .int .i64 (A.ti fun _ => ((fRd n (lstOf eB 0 1 m f)).2.1 : Int)), .int .i64 (A.ti fun _ => (fRd n (lstOf eB 0 1 m f)).2.2)])
  | _ => none
noncomputable def c_rRead : Ct := fun A args => match args with
  | [.int .i64 n, .slc m 1 f] => some (some (A.tp fun _ => isRow eB 0 1 m f ∧ m ≤ 1000000), .tup [.str (A.ts fun _ => (fRd n (lstOf eB 0 1 m f)).1), .int .i64 (A.ti fun _ => ((fRd n (lstOf eB 0 1 m f)).2.1 : Int)), .int .i64 (A.ti fun _ => (fRd n (lstOf eB 0 1 m f)).2.2)])
  | _ => none
noncomputable def gh6 : Ar → Pu := addC 56 c_gWrite (addC 118 c_rWrite (addC 132 c_gRead (addC 96 c_rRead (gh4))))
theorem gh6_ok : PuOk Tryz.prog gl0 (gh6 std) := by
  refine addC_ok (addC_ok (addC_ok (addC_ok (gh4_ok) ⟨_, Tryz.func96, rfl, by decide⟩ ?_) ⟨_, Tryz.func132, rfl, by decide⟩ ?_) ⟨_, Tryz.func118, rfl, by decide⟩ ?_) ⟨_, Tryz.func56, rfl, by decide⟩ ?_
  · intro args p r h hp
    unfold c_rRead at h
    split at h <;> cases h
    exact good_sv (good_rRead _ _ (by rw [lstOf_length hp.1]; exact hp.2)) ⟨rfl, hp.1.sv, trivial⟩
  · intro args p r h hp
    unfold c_gRead at h
    split at h <;> cases h
    exact good_sv (good_gRead _ _ (by rw [lstOf_length hp.1]; exact hp.2)) ⟨rfl, hp.1.sv, trivial⟩
  · intro args p r h hp
    unfold c_rWrite at h
    split at h <;> cases h
    exact good_rWrite _ _ hp
  · intro args p r h hp
    unfold c_gWrite at h
    split at h <;> cases h
    exact good_gWrite _ _ hp
theorem fa1 : fWr 2 [52, 49] = [48, 50, 52, 49] ∧ fWe 2 [52, 49] = 0 ∧ fWe 11 [49, 50, 51, 52, 53] = 1 := by decide +kernel
theorem fa2 : fRd 2 [48, 50, 52, 49, 57] = ([52, 49], 4, 0) := by decide +kernel
theorem fa3 : dOk 48 = true ∧ dKd 48 = 5 ∧ dSz 48 = 999 ∧ rr 39 [48, 48] = true := by decide +kernel
theorem fq5 : Reps eB 0 1 5 (lstS [[SV.int .u8 48], [SV.int .u8 50], [SV.int .u8 52], [SV.int .u8 49], [SV.int .u8 57]]) [48, 50, 52, 49, 57] :=
  Reps.lst (l := [[SV.int .u8 48], [SV.int .u8 50], [SV.int .u8 52], [SV.int .u8 49], [SV.int .u8 57]]) ⟨cell_eB rfl, cell_eB rfl, cell_eB rfl, cell_eB rfl, cell_eB rfl, trivial⟩
theorem fl5 : lstOf eB 0 1 5 (lstS [[SV.int .u8 48], [SV.int .u8 50], [SV.int .u8 52], [SV.int .u8 49], [SV.int .u8 57]]) = [48, 50, 52, 49, 57] := lstOf_eq inj_eB fq5
theorem fr5 : isRow eB 0 1 5 (lstS [[SV.int .u8 48], [SV.int .u8 50], [SV.int .u8 52], [SV.int .u8 49], [SV.int .u8 57]]) := ⟨_, fq5⟩
theorem fs4 : strOfS 4 (rowF eB 0 std fun _ => [48, 50, 52, 49]) = [48, 50, 52, 49] := strOf_lit [48, 50, 52, 49]
noncomputable def gh7 : Ar → Pu := gh6
theorem gh7_ok : PuOk Tryz.prog gl0 (gh7 std) := by
  refine gh6_ok
end Go.Vd

