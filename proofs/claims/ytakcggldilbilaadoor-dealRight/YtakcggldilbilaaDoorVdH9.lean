/- The fields' laws: the mathematics, awake, FieldRight. -/
import Derived.Test.YtakcggldilbilaaDoorVdH8
set_option linter.unusedVariables false
set_option linter.unusedSimpArgs false
set_option maxRecDepth 100000
set_option maxHeartbeats 4000000
namespace Go.Vd
open Go.Proofs
theorem fWr_fWx {n : Int} {L : List UInt8} (hr : rr n L = true) : fWr n L = fWx n L := by
  by_cases hk : dKd n < 3
  · rw [(we_fix hr hk).2]; unfold fWx; rw [if_pos hk]
  · rw [(we_long hr (by omega)).2, ← (pu_len hr (by omega)).2]; unfold fWx; rw [if_neg hk]
theorem fAh_long {k : Int} (h : 3 ≤ k) : fAh k = 2 ∨ fAh k = 3 := by unfold fAh; rw [if_neg (by omega)]; split; exact .inr rfl; exact .inl rfl
/-- A value that is written, as what is read. -/
theorem w_fix {n : Int} {s : List UInt8} (hr : rr n s = true) (hk : dKd n < 3) : s.length = (dSz n).toNat ∧ 1 ≤ s.length := by
  obtain ⟨h1, h2, h3, h4, h5⟩ := rr_ok hr
  have := h4 hk
  have := dOk_b h1
  omega
theorem w_long {n : Int} {s : List UInt8} (hr : rr n s = true) (hk : 3 ≤ dKd n) : 1 ≤ s.length ∧ s.length < 10 ^ fAh (dKd n) ∧ (s.length : Int) ≤ dSz n := by
  obtain ⟨h1, h2, h3, h4, h5⟩ := rr_ok hr
  have hb := dOk_b h1
  have := List.length_pos_iff.2 h2
  refine ⟨this, ?_, h3⟩
  unfold fAh
  rw [if_neg (by omega)]
  split
  · omega
  · have := hb.2.2.2.2.2.2 (by omega); omega
theorem ln_put {d : Nat} {z : Int} {V : Nat} {C : List UInt8} (hd : d = 2 ∨ d = 3) (h1 : 1 ≤ V) (h2 : V < 10 ^ d) (h3 : (V : Int) ≤ z) : lnE d z (decs d V ++ C) = 0 ∧ lnV d z (decs d V ++ C) = V := by
  have ht : (decs d V ++ C).take d = decs d V := by rw [List.take_append_of_le_length (by rw [decs_len]; omega), List.take_of_length_le (by rw [decs_len]; omega)]
  have hg := get_decs (k := d) (V := V) (by omega) h2
  have := ln_5 (d := d) (z := z) (B := decs d V ++ C) (by rw [List.length_append, decs_len]; omega) (by rw [ht]; exact hg.1) (by rw [ht, hg.2]; omega) (by rw [ht, hg.2]; omega)
  rw [ht, hg.2] at this
  exact this
theorem fR_back {n : Int} {s : List UInt8} (hr : rr n s = true) (B : List UInt8) : fRd n (fWr n s ++ B) = (s, (fWr n s).length, 0) := by
  have h := (rr_ok hr).1
  by_cases hk : dKd n < 3
  · have hw := w_fix hr hk
    rw [(we_fix hr hk).2, rd_fix h hk, if_neg (by rw [List.length_append]; omega)]
    have ht : (s ++ B).take (dSz n).toNat = s := by rw [List.take_append_of_le_length (by omega), List.take_of_length_le (by omega)]
    rw [ht, if_pos hr, hw.1]
  · have hk : 3 ≤ dKd n := by omega
    have hw := w_long hr hk
    have hd := fAh_long hk
    rw [(we_long hr hk).2, rd_long h hk, List.append_assoc]
    obtain ⟨e1, e2⟩ := ln_put (d := fAh (dKd n)) (C := s ++ B) hd hw.1 hw.2.1 hw.2.2
    rw [e1, e2, if_neg (show ¬¬(0 : Int) = 0 from fun e => e rfl), if_neg (by simp [decs_len])]
    have ht : ((decs (fAh (dKd n)) s.length ++ (s ++ B)).drop (fAh (dKd n))).take s.length = s := by
      rw [List.drop_append_of_le_length (by rw [decs_len]; omega), List.drop_of_length_le (by rw [decs_len]; omega), List.nil_append, List.take_append_of_le_length (by omega), List.take_of_length_le (by omega)]
    rw [ht, if_pos hr, List.length_append, decs_len]
theorem fR_cut {n : Int} {s : List UInt8} (hr : rr n s = true) {c : Nat} (hc : c < (fWr n s).length) : (fRd n ((fWr n s).take c)).2.2 = 2 := by
  have h := (rr_ok hr).1
  have hl : ((fWr n s).take c).length = c := by rw [List.length_take]; omega
  by_cases hk : dKd n < 3
  · have hw := w_fix hr hk
    rw [(we_fix hr hk).2] at hc hl ⊢
    rw [rd_fix h hk, if_pos (by omega)]
  · have hk : 3 ≤ dKd n := by omega
    have hw := w_long hr hk
    have hd := fAh_long hk
    rw [rd_long h hk]
    by_cases h1 : c < fAh (dKd n)
    · rw [(ln_1 (by rw [hl]; exact h1)).1, if_pos (by decide)]
    · rw [(we_long hr hk).2] at hc hl ⊢
      have ht : (decs (fAh (dKd n)) s.length ++ s).take c = decs (fAh (dKd n)) s.length ++ s.take (c - fAh (dKd n)) := by
        rw [List.take_append, List.take_of_length_le (by rw [decs_len]; omega), decs_len]
      rw [ht] at hl ⊢
      obtain ⟨e1, e2⟩ := ln_put (d := fAh (dKd n)) (C := s.take (c - fAh (dKd n))) hd hw.1 hw.2.1 hw.2.2
      rw [List.length_append, decs_len] at hc
      rw [e1, e2, if_neg (show ¬¬(0 : Int) = 0 from fun e => e rfl), if_pos (by omega)]
theorem fR_bad {n : Int} {B : List UInt8} (h : ¬(fRd n B).2.2 = 0) : (fRd n B).1 = [] ∧ (fRd n B).2.1 = 0 := by
  unfold fRd at h ⊢
  repeat' split at h
  all_goals (first | exact absurd rfl h | skip)
  all_goals simp [*]
theorem fR_good {n : Int} {B : List UInt8} (h : (fRd n B).2.2 = 0) : rr n (fRd n B).1 = true ∧ (fRd n B).2.1 ≤ B.length ∧ 0 < (fRd n B).2.1 ∧ fWr n (fRd n B).1 = B.take (fRd n B).2.1 := by
  cases ho : dOk n
  · rw [rd_no ho] at h; cases h
  · have hb := dOk_b ho
    by_cases hk : dKd n < 3
    · rw [rd_fix ho hk] at h ⊢
      split at h
      · cases h
      · rename_i h1
        rw [if_neg h1]
        split at h
        · rename_i hr
          rw [if_pos hr]
          exact ⟨hr, by simp only; omega, by simp only; omega, (we_fix hr hk).2⟩
        · cases h
    · have hk : 3 ≤ dKd n := by omega
      have hd := fAh_long hk
      rw [rd_long ho hk] at h ⊢
      by_cases he : lnE (fAh (dKd n)) (dSz n) B = 0
      · rw [if_neg (fun e => e he)] at h ⊢
        split at h
        · cases h
        · rename_i h1
          rw [if_neg h1]
          split at h
          · rename_i hr
            rw [if_pos hr]
            refine ⟨hr, by simp only; omega, by simp only; omega, ?_⟩
            simp only
            have hV : lnV (fAh (dKd n)) (dSz n) B = gVal (B.take (fAh (dKd n))) := by unfold lnV; rw [if_pos he]
            have hg : gErr (B.take (fAh (dKd n))) = 0 := by
              unfold lnE at he
              split at he
              · cases he
              · split at he
                · rename_i h2; exact absurd he h2
                · rename_i h2; exact Classical.not_not.1 h2
            obtain ⟨g1, g2, g3, g4, g5⟩ := get_yes hg
            have hla : (B.take (fAh (dKd n))).length = fAh (dKd n) := by rw [List.length_take]; omega
            have hls : ((B.drop (fAh (dKd n))).take (lnV (fAh (dKd n)) (dSz n) B)).length = lnV (fAh (dKd n)) (dSz n) B := by rw [List.length_take, List.length_drop]; omega
            rw [(we_long hr hk).2, hls]
            have hdd : decs (fAh (dKd n)) (lnV (fAh (dKd n)) (dSz n) B) = B.take (fAh (dKd n)) := by
              have := decs_dVal (B.take (fAh (dKd n))) (isD_iff.1 g1).2
              rw [hla] at this
              rw [hV, g4, this]
            rw [hdd, List.take_add]
          · cases h
      · rw [if_pos he] at h
        exact absurd h he
noncomputable def c_gWrite : Ct := fun A args => match args with
  | [.int .i64 n, .str L] => some (some (A.tp fun _ => L.length ≤ 1000000), .tup [rowS eB 0 1 A fun _ => fWr n L, .int .i64 (A.ti fun _ => fWe n L)])
  | _ => none
noncomputable def c_rWrite : Ct := fun A args => match args with
  | [.int .i64 n, .str L] => some (some (A.tp fun _ => L.length ≤ 1000000), rowS eB 0 1 A fun _ => fWx n L)
  | _ => none
noncomputable def c_gRead : Ct := fun A args => match args with
  | [.int .i64 n, .slc m 1 f] => some (some (A.tp fun _ => isRow eB 0 1 m f ∧ m ≤ 1000000), .tup [.str (A.ts fun _ => (fRd n (lstOf eB 0 1 m f)).1), .int .i64 (A.ti fun _ => ((fRd n (lstOf eB 0 1 m f)).2.1 : Int)), .int .i64 (A.ti fun _ => (fRd n (lstOf eB 0 1 m f)).2.2)])
  | _ => none
noncomputable def c_rRead : Ct := fun A args => match args with
  | [.int .i64 n, .slc m 1 f] => some (some (A.tp fun _ => isRow eB 0 1 m f ∧ m ≤ 1000000), .tup [.str (A.ts fun _ => (fRd n (lstOf eB 0 1 m f)).1), .int .i64 (A.ti fun _ => ((fRd n (lstOf eB 0 1 m f)).2.1 : Int)), .int .i64 (A.ti fun _ => (fRd n (lstOf eB 0 1 m f)).2.2)])
  | _ => none
noncomputable def gh6 : Ar → Pu := addC 75 c_gWrite (addC 79 c_rWrite (addC 145 c_gRead (addC 89 c_rRead (gh4))))
theorem gh6_ok : PuOk Tryd.prog gl0 (gh6 std) := by
  refine addC_ok (addC_ok (addC_ok (addC_ok (gh4_ok) ⟨_, Tryd.func89, rfl, by decide⟩ ?_) ⟨_, Tryd.func145, rfl, by decide⟩ ?_) ⟨_, Tryd.func79, rfl, by decide⟩ ?_) ⟨_, Tryd.func75, rfl, by decide⟩ ?_
  · intro args p r h hp
    unfold c_rRead at h
    split at h <;> cases h
    exact good_sv (good_rRead _ _ (by rw [lstOf_length hp.1]; exact hp.2)) ⟨rfl, hp.1.sv, trivial⟩
  · intro args p r h hp
    unfold c_gRead at h
    split at h <;> cases h
    exact good_sv (good_gRead _ _ (by rw [lstOf_length hp.1]; exact hp.2)) ⟨rfl, hp.1.sv, trivial⟩
  · intro args p r h hp
    unfold c_rWrite at h
    split at h <;> cases h
    exact good_rWrite _ _ hp
  · intro args p r h hp
    unfold c_gWrite at h
    split at h <;> cases h
    exact good_gWrite _ _ hp
theorem fa1 : fWr 2 [52, 49] = [48, 50, 52, 49] ∧ fWe 2 [52, 49] = 0 ∧ fWe 11 [49, 50, 51, 52, 53] = 1 := by decide +kernel
theorem fa2 : fRd 2 [48, 50, 52, 49, 57] = ([52, 49], 4, 0) := by decide +kernel
theorem fa3 : dOk 48 = true ∧ dKd 48 = 5 ∧ dSz 48 = 999 ∧ rr 39 [48, 48] = true := by decide +kernel
theorem fq5 : Reps eB 0 1 5 (lstS [[SV.int .u8 48], [SV.int .u8 50], [SV.int .u8 52], [SV.int .u8 49], [SV.int .u8 57]]) [48, 50, 52, 49, 57] :=
  Reps.lst (l := [[SV.int .u8 48], [SV.int .u8 50], [SV.int .u8 52], [SV.int .u8 49], [SV.int .u8 57]]) ⟨cell_eB rfl, cell_eB rfl, cell_eB rfl, cell_eB rfl, cell_eB rfl, trivial⟩
theorem fl5 : lstOf eB 0 1 5 (lstS [[SV.int .u8 48], [SV.int .u8 50], [SV.int .u8 52], [SV.int .u8 49], [SV.int .u8 57]]) = [48, 50, 52, 49, 57] := lstOf_eq inj_eB fq5
theorem fr5 : isRow eB 0 1 5 (lstS [[SV.int .u8 48], [SV.int .u8 50], [SV.int .u8 52], [SV.int .u8 49], [SV.int .u8 57]]) := ⟨_, fq5⟩
theorem fs4 : strOfS 4 (rowF eB 0 std fun _ => [48, 50, 52, 49]) = [48, 50, 52, 49] := strOf_lit [48, 50, 52, 49]
noncomputable def gh7 : Ar → Pu := gh6
theorem gh7_ok : PuOk Tryd.prog gl0 (gh7 std) := by
  refine gh6_ok
end Go.Vd
