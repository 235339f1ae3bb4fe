/- Messages: Get, and what is written. -/
import Derived.Test.YtakcggldilbilaaDoorVdF2
import Derived.Test.YtakcggldilbilaaDoorVdSeat
set_option linter.unusedVariables false
set_option linter.unusedSimpArgs false
set_option maxRecDepth 100000
set_option maxHeartbeats 4000000
namespace Go.Vd
open Go.Proofs
noncomputable def iGet : Nat → Option Func := addI 81 Tryd.f81 (addI 82 Tryd.f82 noI)
theorem iGet_ok : InOk Tryd.prog iGet := addI_ok (addI_ok noI_ok Tryd.func82 (by kernel_rfl)) Tryd.func81 (by kernel_rfl)
theorem good_mGet (T : List UInt8) (L : List It) (n : Int) (hL : L.length ≤ 1000000) : GoodP Tryd.prog gl0 24 [.agg [.str T, rowS eI (0, []) 2 std fun _ => L], .int .i64 n] (.tup [.str (std.ts fun _ => mG L n), .bool (std.tb fun _ => mH L n)]) := by
  refine fn_sound' (T := seatT) (G := noC) (X := noX) seatT_ok noC_ok noX_ok iGet_ok mixed Tryd.func24 (.one) (fun A => [.agg [.str T, rowS eI (0, []) 2 A fun _ => L], .int .i64 n]) (fun A => .tup [.str (A.ts fun _ => mG L n), .bool (A.tb fun _ => mH L n)]) fun A hA => ?_
  cbv
  repeat' (first | with_reducible exact True.intro | with_reducible exact dr_ok hA (by kernel_rfl) | with_reducible refine And.intro ?_ ?_ | (intro hc; cbv))
  refine ⟨⟨{i : Nat // i ≤ L.length ∧ ∀ j, j < i → ¬(L.getD j (0, [])).1 = n}, fun b i => [(8, .int .i64 (i.1 : Nat))], fun b i => [], fun i => L.length - i.1, true⟩, ⟨⟨0, by omega, fun j hj => absurd hj (by omega)⟩, ?_⟩, ?_⟩
  · cbv
    subst hA
    simp [-List.getD_eq_getElem?_getD, sS]
  · rintro ⟨i, hi, h0⟩
    cbv
    repeat' (first | with_reducible exact True.intro | with_reducible exact dr_ok hA (by kernel_rfl) | with_reducible refine And.intro ?_ ?_ | (intro hc; cbv))
    all_goals first
      | (fail_if_success (refine Exists.intro ?_ ?_)
         subst hA
         simp [-List.getD_eq_getElem?_getD, sS] at *
         done)
      | (fail_if_success (refine Exists.intro ?_ ?_)
         subst hA
         simp [-List.getD_eq_getElem?_getD, sS] at *
         first
           | omega
           | (have e : (L.getD i (0, [])).1 = n := by assumption
              have := mG_at (by omega) h0 e
              first
                | (rw [this.1]; done)
                | (rw [this.2]; done))
           | (have hie : i = L.length := by omega
              subst hie
              have := mG_none h0
              first
                | (rw [this.1]; done)
                | (rw [this.2]; done))
           | trace_state)
      | (have hlt : i < L.length := by (clear h0; subst hA; simp [-List.getD_eq_getElem?_getD, sS] at *; omega)
         have hne : ¬(L.getD i (0, [])).1 = n := by (clear h0; subst hA; simp [-List.getD_eq_getElem?_getD, sS] at *; assumption)
         refine ⟨⟨i + 1, by omega, fun j hj => ?_⟩, ?_, show L.length - (i + 1) < L.length - i by omega⟩
         · by_cases e : j = i
           · subst e; exact hne
           · exact h0 j (by omega)
         cbv
         subst hA
         simp [sS]
         exact (w64 (by omega)).trans (by omega))
      | trace_state
noncomputable def c_mGet : Ct := fun A args => match args with
  | [.agg [.str T, .slc n 2 f], .int .i64 z] => some (some (A.tp fun _ => isRow eI (0, []) 2 n f ∧ n ≤ 1000000), .tup [.str (A.ts fun _ => mG (lstOf eI (0, []) 2 n f) z), .bool (A.tb fun _ => mH (lstOf eI (0, []) 2 n f) z)])
  | _ => none
noncomputable def c_bOf : Ct := fun A args => match args with
  | [.slc n 1 f] => some (some (A.tp fun _ => isRow eZ 0 1 n f ∧ n ≤ 9223372036854775807), r9 A fun _ => lstOf eZ 0 1 n f)
  | _ => none
noncomputable def c_bFields : Ct := fun A args => match args with
  | [.agg [.int .u64 h, .int .u64 l]] => some (some (A.tp fun _ => r64 h ∧ r64 l), r16 A h l)
  | _ => none
noncomputable def c_bRead : Ct := fun A args => match args with
  | [.slc n 1 f] => some (some (A.tp fun _ => isRow eB 0 1 n f ∧ n ≤ 9223372036854775807), r20 A fun _ => lstOf eB 0 1 n f)
  | _ => none
noncomputable def c_bBytes : Ct := fun A args => match args with
  | [.agg [.int .u64 h, .int .u64 l]] => some (some (A.tp fun _ => r64 h ∧ r64 l), r18 A h l)
  | _ => none
noncomputable def c_Concat : Ct := fun A args => match args with
  | [.slc n 1 f] => some (some (A.tp fun _ => isRow eBs [] 1 n f ∧ bsSmall (lstOf eBs [] 1 n f)), rowS eB 0 1 A fun _ => (lstOf eBs [] 1 n f).flatten)
  | _ => none
noncomputable def c_mIsT2 : Ct := fun A args => match args with
  | [.str s] => some (none, .bool (A.tb fun _ => mT s))
  | _ => none
noncomputable def c_mRight2 : Ct := fun A args => match args with
  | [.agg [.str T, .slc n 2 f]] => some (some (A.tp fun _ => isRow eI (0, []) 2 n f ∧ n ≤ 1000000 ∧ ∀ i, ((lstOf eI (0, []) 2 n f).getD i (0, [])).2.length ≤ 1000000), .bool (A.tb fun _ => mR T (lstOf eI (0, []) 2 n f)))
  | _ => none
noncomputable def gM0 : Ar → Pu := addC 24 c_mGet (addC 133 c_bOf (addC 86 c_bFields (addC 84 c_bRead (addC 134 c_bBytes (addC 77 c_Concat (addC 83 c_mIsT2 (addC 28 c_mRight2 (gh6))))))))
theorem gM0_ok : PuOk Tryd.prog gl0 (gM0 std) := by
  refine addC_ok (addC_ok (addC_ok (addC_ok (addC_ok (addC_ok (addC_ok (addC_ok (gh6_ok) ⟨_, Tryd.func28, rfl, by decide⟩ ?_) ⟨_, Tryd.func83, rfl, by decide⟩ ?_) ⟨_, Tryd.func77, rfl, by decide⟩ ?_) ⟨_, Tryd.func134, rfl, by decide⟩ ?_) ⟨_, Tryd.func84, rfl, by decide⟩ ?_) ⟨_, Tryd.func86, rfl, by decide⟩ ?_) ⟨_, Tryd.func133, rfl, by decide⟩ ?_) ⟨_, Tryd.func24, rfl, by decide⟩ ?_
  · intro args p r h hp
    unfold c_mRight2 at h
    split at h <;> cases h
    exact good_mRight' hp
  · intro args p r h hp
    unfold c_mIsT2 at h
    split at h <;> cases h
    exact good_mIsT _
  · intro args p r h hp
    unfold c_Concat at h
    split at h <;> cases h
    exact good_sv (good_Concat _ hp.2) ⟨hp.1.sv, trivial⟩
  · intro args p r h hp
    unfold c_bBytes at h
    split at h <;> cases h
    exact good18 hp.1 hp.2
  · intro args p r h hp
    unfold c_bRead at h
    split at h <;> cases h
    exact c20_ok hp
  · intro args p r h hp
    unfold c_bFields at h
    split at h <;> cases h
    exact good16 hp.1 hp.2
  · intro args p r h hp
    unfold c_bOf at h
    split at h <;> cases h
    exact good_sv (good9 _ (by rw [lstOf_length hp.1]; exact hp.2)) ⟨hp.1.sv, trivial⟩
  · intro args p r h hp
    unfold c_mGet at h
    split at h <;> cases h
    exact good_sv (good_mGet _ _ _ (by rw [lstOf_length hp.1]; exact hp.2)) ⟨⟨_, rfl, rfl, hp.1.sv, trivial⟩, rfl, trivial⟩
theorem bofS_lt : ∀ (L : List Int) (h l : Nat) (m : Nat × Nat), h < 18446744073709551616 → l < 18446744073709551616 → L.foldl (fun o n => o.bind fun m => if bright m.1 m.2 && bfield n then some (bput m.1 m.2 n) else none) (some (h, l)) = some m → m.1 < 18446744073709551616 ∧ m.2 < 18446744073709551616
  | [], h, l, m, hh, hl, e => by cases e; exact ⟨hh, hl⟩
  | n :: L, h, l, m, hh, hl, e => by
    rw [List.foldl_cons] at e
    simp only [Option.bind_some] at e
    split at e
    · have := bput_lt n hh hl
      exact bofS_lt L _ _ m this.1 this.2 e
    · rw [bofS_none (fun m n => if bright m.1 m.2 && bfield n then some (bput m.1 m.2 n) else none)] at e
      cases e
theorem bof_lt (L : List Int) : (bof L).1 < 18446744073709551616 ∧ (bof L).2 < 18446744073709551616 := by
  unfold bof
  cases e : bofS L with
  | none => exact ⟨by decide, by decide⟩
  | some m => exact bofS_lt L 0 0 m (by decide) (by decide) e
def boB (L : List Int) : List UInt8 := if boferr L = 0 then bbytes (bof L).1 (bof L).2 else []
def boE (L : List Int) : Int := if boferr L = 0 then bbErr (bof L).1 (bof L).2 else boferr L
theorem bo_yes {L : List Int} (h : boferr L = 0) : boB L = bbytes (bof L).1 (bof L).2 ∧ boE L = bbErr (bof L).1 (bof L).2 := ⟨if_pos h, if_pos h⟩
theorem bo_no {L : List Int} (h : ¬boferr L = 0) : boB L = [] ∧ boE L = boferr L := ⟨if_neg h, if_neg h⟩
theorem good_bitsOf (L : List Int) (hL : L.length ≤ 1000000) : GoodP Tryd.prog gl0 76 [rowS eZ 0 1 std fun _ => L] (.tup [.frs 5 1 (std.tn fun _ => (boB L).length) (rowF eB 0 std fun _ => boB L), .int .i64 (std.ti fun _ => boE L)]) := by
  refine fn_sound' (T := seatT) (G := gM0) (X := noX) seatT_ok gM0_ok noX_ok noI_ok mixed Tryd.func76 (.fresh 5 1) (fun A => [rowS eZ 0 1 A fun _ => L]) (fun A => .tup [.frs 5 1 (A.tn fun _ => (boB L).length) (rowF eB 0 A fun _ => boB L), .int .i64 (A.ti fun _ => boE L)]) fun A hA => ?_
  cbv
  repeat' (first | with_reducible exact True.intro | with_reducible exact dr_ok hA (by kernel_rfl) | with_reducible refine And.intro ?_ ?_ | (intro hc; cbv))
  all_goals (have hb := bof_lt L)
  all_goals (subst hA; simp [sS, strOf_lit, lstOf_lit inj_eB, lstOf_lit inj_eZ, lstOf_lit inj_eBs, lstOf_lit inj_eS, isRow_lit, isB_lit, isRow_nil, lstOf_nil inj_eB, lstOf_nil inj_eZ, lstOf_nil inj_eBs, lstOf_nil inj_eS] at *)
  all_goals first
    | omega
    | exact ⟨r64_of hb.1, r64_of hb.2⟩
    | (have hx := bo_no hc
       first
         | (rw [hx.1]; done)
         | (rw [hx.1]; rfl)
         | (rw [hx.2]; done)
         | (rw [hx.1]; exact fun i j hi => absurd hi (by simp)))
    | (have hx := bo_yes hc
       first
         | (rw [hx.1]; done)
         | (rw [hx.2]; done)
         | (rw [hx.1]; exact (Reps.lit _).eqr))
    | trace_state
noncomputable def c_bitsOf : Ct := fun A args => match args with
  | [.slc n 1 f] => some (some (A.tp fun _ => isRow eZ 0 1 n f ∧ n ≤ 1000000), .tup [.frs 5 1 (A.tn fun _ => (boB (lstOf eZ 0 1 n f)).length) (rowF eB 0 A fun _ => boB (lstOf eZ 0 1 n f)), .int .i64 (A.ti fun _ => boE (lstOf eZ 0 1 n f))])
  | _ => none
noncomputable def gM1 : Ar → Pu := addC 76 c_bitsOf (gM0)
theorem gM1_ok : PuOk Tryd.prog gl0 (gM1 std) := by
  refine addC_ok (gM0_ok) ⟨_, Tryd.func76, rfl, by decide⟩ ?_
  · intro args p r h hp
    unfold c_bitsOf at h
    split at h <;> cases h
    exact good_sv (good_bitsOf _ (by rw [lstOf_length hp.1]; exact hp.2)) ⟨hp.1.sv, trivial⟩
theorem fs_take {L : List It} {i : Nat} (h : i < L.length) : fs (L.take (i + 1)) = fs (L.take i) ++ [(L.getD i (0, [])).1] := by
  rw [← take_snoc (d := (0, [])) h]; simp [fs]
theorem body_take {L : List It} {i : Nat} (h : i < L.length) : body (L.take (i + 1)) = body (L.take i) ++ fWr (L.getD i (0, [])).1 (L.getD i (0, [])).2 := by
  rw [← take_snoc (d := (0, [])) h, body_app]; simp [body]
theorem fWr_len {n : Int} {s : List UInt8} (h : rr n s = true) : (fWr n s).length ≤ s.length + 3 := by
  by_cases hk : dKd n < 3
  · rw [(we_fix h hk).2]; omega
  · rw [(we_long h (by omega)).2, List.length_append, decs_len]
    have := fAh_le (dKd n)
    omega
theorem body_len {L : List It} (h : ∀ x ∈ L, rr x.1 x.2 = true) : (body L).length ≤ L.length * 1002 := by
  induction L with
  | nil => simp [body]
  | cons x L ih =>
    rw [body_cons, List.length_append, List.length_cons]
    have h1 := fWr_len (h x (by simp))
    have h2 := rr_ok (h x (by simp))
    have h3 := dOk_b h2.1
    have := ih fun y hy => h y (List.mem_cons_of_mem _ hy)
    omega
def mWx (T : List UInt8) (L : List It) : List UInt8 := if mR T L = true then mW T L else []
def mWe (T : List UInt8) (L : List It) : Int := if mR T L = true then 0 else 1
theorem mw_no {T : List UInt8} {L : List It} (h : mR T L = false) : mWx T L = [] ∧ mWe T L = 1 := by unfold mWx mWe; rw [h]; exact ⟨rfl, rfl⟩
theorem mw_yes {T : List UInt8} {L : List It} (h : mR T L = true) : mWx T L = mW T L ∧ mWe T L = 0 := by unfold mWx mWe; rw [h]; exact ⟨rfl, rfl⟩
theorem rr_at {L : List It} (h : ∀ x ∈ L, rr x.1 x.2 = true) {i : Nat} (hi : i < L.length) : rr (L.getD i (0, [])).1 (L.getD i (0, [])).2 = true := by
  rw [List.getD_eq_getElem?_getD, List.getElem?_eq_getElem hi]
  exact h _ (List.getElem_mem hi)
theorem three_rows {n1 n2 n3 : Nat} {f1 f2 f3 : Nat → Nat → SV} {X Y Z : List UInt8} (h1 : Reps eB 0 1 n1 f1 X) (h2 : Reps eB 0 1 n2 f2 Y) (h3 : Reps eB 0 1 n3 f3 Z) : Reps eBs [] 1 3 (lstS [[.slc n1 1 f1], [.slc n2 1 f2], [.slc n3 1 f3]]) [X, Y, Z] :=
  Reps.lst (l := [[_], [_], [_]]) (L := [X, Y, Z]) ⟨cell_eBs h1, cell_eBs h2, cell_eBs h3, trivial⟩
theorem good_mWrite (T : List UInt8) (L : List It) (hL : L.length ≤ 500) (hS : ∀ i, (L.getD i (0, [])).2.length ≤ 1000000) : GoodP Tryd.prog gl0 22 [.agg [.str T, rowS eI (0, []) 2 std fun _ => L]] (.tup [rowS eB 0 1 std fun _ => mWx T L, .int .i64 (std.ti fun _ => mWe T L)]) := by
  refine fn_sound' (T := seatT) (G := gM1) (X := noX) seatT_ok gM1_ok noX_ok noI_ok mixed Tryd.func22 (.none) (fun A => [.agg [.str T, rowS eI (0, []) 2 A fun _ => L]]) (fun A => .tup [rowS eB 0 1 A fun _ => mWx T L, .int .i64 (A.ti fun _ => mWe T L)]) fun A hA => ?_
  cbv
  repeat' (first | with_reducible exact True.intro | with_reducible exact dr_ok hA (by kernel_rfl) | with_reducible refine And.intro ?_ ?_ | (intro hc; cbv))
  all_goals first
    | (fail_if_success (refine Exists.intro ?_ ?_)
       subst hA
       simp [sS, lstOf_lit inj_eI] at *
       first
         | done
         | exact ⟨isRow_lit _, by omega, hS⟩
         | (rw [(mw_no hc).1]; done)
         | (rw [(mw_no hc).1]; rfl)
         | (rw [(mw_no hc).2]; done)
         | trace_state)
    | skip
  have hr : mR T L = true := by subst hA; simp [sS, lstOf_lit inj_eI] at hc; exact hc
  have hri := mR_iff.1 hr
  clear hc
  refine ⟨⟨{p : Nat × List Int × List UInt8 // p.1 ≤ L.length ∧ p.2.1 = fs (L.take p.1) ∧ p.2.2 = body (L.take p.1)}, fun b p => [(18, .int .i64 (p.1.1 : Nat)), (4, .own b), (5, .own (b + 1))], fun b p => [(b, .row 3 1 (A.tn fun _ => p.1.2.1.length) (rowF eZ 0 A fun _ => p.1.2.1)), (b + 1, .row 5 1 (A.tn fun _ => p.1.2.2.length) (rowF eB 0 A fun _ => p.1.2.2))], fun p => L.length - p.1.1, true⟩, ⟨⟨(0, [], []), by simp [fs, body]⟩, ?_⟩, ?_⟩
  · cbv
    subst hA
    simp [-List.getD_eq_getElem?_getD, sS]
  · rintro ⟨⟨i, F, B⟩, hi, hF, hB⟩
    simp only at hi hF hB
    cbv
    repeat' (first | with_reducible exact True.intro | with_reducible exact dr_ok hA (by kernel_rfl) | with_reducible refine And.intro ?_ ?_ | (intro hc; cbv))
    all_goals first
      | (fail_if_success (refine Exists.intro ?_ ?_)
         have hlt : i < L.length := by (clear hri hr hS; subst hA; simp [sS] at *; omega)
         have hrr := rr_at hri.2.2.1 hlt
         have hwe : fWe (L.getD i (0, [])).1 (L.getD i (0, [])).2 = 0 := by unfold fWe; rw [(rr_ok hrr).1, hrr]; rfl
         have hbl := body_len (L := L.take i) (fun x hx => hri.2.2.1 x (List.mem_of_mem_take hx))
         have hwl := fWr_len hrr
         have hsl := hS i
         have hfl : (fs (L.take i)).length = i := by simp [fs]; omega
         have htl : (L.take i).length = i := by simp; omega
         rw [htl] at hbl
         subst hA
         simp [-List.getD_eq_getElem?_getD, sS, hwe, hF, hB] at *
         first
           | done
           | omega
           | assumption
           | (constructor <;> omega))
      | (have hlt : i < L.length := by (clear hri hr hS; subst hA; simp [sS] at *; omega)
         obtain ⟨i', hi'⟩ : ∃ i', i' = i + 1 := ⟨_, rfl⟩
         obtain ⟨F', hF'⟩ : ∃ F', F' = fs (L.take i') := ⟨_, rfl⟩
         obtain ⟨B', hB'⟩ : ∃ B', B' = body (L.take i') := ⟨_, rfl⟩
         refine ⟨⟨(i', F', B'), by omega, hF', hB'⟩, ?_, show L.length - i' < L.length - i by omega⟩
         rw [hi', fs_take hlt, ← hF] at hF'
         rw [hi', body_take hlt, ← hB] at hB'
         cbv
         subst hA
         simp [-List.getD_eq_getElem?_getD, sS, strOf_lit, lstOf_lit inj_eB, lstOf_lit inj_eZ, lstOf_lit inj_eBs, lstOf_lit inj_eS, isRow_lit, isB_lit, isRow_nil, lstOf_nil inj_eB, lstOf_nil inj_eZ, lstOf_nil inj_eBs, lstOf_nil inj_eS]
         first
           | exact ⟨(w64 (by omega)).trans (by omega), ⟨by rw [hB']; simp, eqr_of (Reps.catE (.lit _) (.lit _) rfl) (by rw [hB']; simp) hB'.symm⟩, by rw [hF']; simp, snoc_row rfl (cell_eZ _) hF'.symm (by rw [hF']; simp)⟩
           | trace_state)
      | skip
    all_goals
      have hie : i = L.length := by (clear hri hr hS; subst hA; simp [sS] at *; omega)
      rw [hie, List.take_length] at hF hB
      obtain ⟨b1, b2, b3, b4, b5, b6⟩ := bof_ups hri.2.2.2 (fs_bf hri.2.2.1)
      have hw := mw_yes hr
      have hbl := body_len (L := L) hri.2.2.1
      have hfl : (fs L).length = L.length := by simp [fs]
      have hbo : boB (fs L) = mBits L ∧ boE (fs L) = 0 := by rw [(bo_yes b6).1, (bo_yes b6).2]; exact ⟨rfl, by unfold bbErr; rw [b2]; rfl⟩
      have hT := mT_len hri.1
      have hbb := bb_len b2
      have h3 := three_rows (row_bytes T) (Reps.lit (enc := eB) (d := 0) (k := 1) (mBits L)) (Reps.lit (enc := eB) (d := 0) (k := 1) (body L))
      have hl3 := lstOf_eq inj_eBs h3
      have hw3 : [T, mBits L, body L].flatten = mW T L := by simp [mW]
      have hsm : bsSmall [T, mBits L, body L] := by
        refine ⟨by simp, ?_⟩
        intro b hb
        simp only [List.mem_cons, List.not_mem_nil, or_false] at hb
        rcases hb with rfl | rfl | rfl
        · omega
        · unfold mBits; rw [hbb]; split <;> omega
        · omega
      subst hA
      simp [-List.getD_eq_getElem?_getD, sS, strOf_lit, lstOf_lit inj_eB, lstOf_lit inj_eZ, lstOf_lit inj_eBs, lstOf_lit inj_eS, isRow_lit, isB_lit, isRow_nil, lstOf_nil inj_eB, lstOf_nil inj_eZ, lstOf_nil inj_eBs, lstOf_nil inj_eS, hF, hB, hbo] at *
      first
        | done
        | omega
        | (rw [hl3]; exact ⟨⟨_, h3⟩, hsm⟩)
        | (rw [hl3, hw.1]; simp [mW]; done)
        | (rw [hl3, hw.1, hw3]; exact (Reps.lit _).eqr)
        | exact hw.2.symm
        | (rw [hw.2]; done)
        | trace_state
noncomputable def c_mWrite : Ct := fun A args => match args with
  | [.agg [.str T, .slc n 2 f]] => some (some (A.tp fun _ => isRow eI (0, []) 2 n f ∧ n ≤ 500 ∧ ∀ i, ((lstOf eI (0, []) 2 n f).getD i (0, [])).2.length ≤ 1000000), .tup [rowS eB 0 1 A fun _ => mWx T (lstOf eI (0, []) 2 n f), .int .i64 (A.ti fun _ => mWe T (lstOf eI (0, []) 2 n f))])
  | _ => none
noncomputable def gM2 : Ar → Pu := addC 22 c_mWrite (gM1)
theorem gM2_ok : PuOk Tryd.prog gl0 (gM2 std) := by
  refine addC_ok (gM1_ok) ⟨_, Tryd.func22, rfl, by decide⟩ ?_
  · intro args p r h hp
    unfold c_mWrite at h
    split at h <;> cases h
    exact good_sv (good_mWrite _ _ (by rw [lstOf_length hp.1]; exact hp.2.1) hp.2.2) ⟨⟨_, rfl, rfl, hp.1.sv, trivial⟩, trivial⟩
end Go.Vd

set_option linter.unusedVariables false
set_option linter.unusedSimpArgs false
set_option maxRecDepth 100000
set_option maxHeartbeats 4000000
namespace Go.Vd
open Go.Proofs
/-- Fields and their bytes, as items. -/
def iE (F : List Int) (B : List UInt8) : Int := if F = [] then 3 else if ¬(itF F B).1 = 0 then (itF F B).1 else if (itF F B).2.2 = [] then 0 else 4
def iL (F : List Int) (B : List UInt8) : List It := if iE F B = 0 then (itF F B).2.1 else []
theorem iE_1 {F : List Int} {B : List UInt8} (h : F = []) : iE F B = 3 ∧ iL F B = [] := by
  have e : iE F B = 3 := if_pos h
  exact ⟨e, by unfold iL; rw [e]; rfl⟩
theorem iE_2 {F : List Int} {B : List UInt8} (h : ¬F = []) (h1 : ¬(itF F B).1 = 0) : iE F B = (itF F B).1 ∧ iL F B = [] := by
  have e : iE F B = (itF F B).1 := by unfold iE; rw [if_neg h, if_pos h1]
  exact ⟨e, by unfold iL; rw [e, if_neg h1]⟩
theorem iE_3 {F : List Int} {B : List UInt8} (h : ¬F = []) (h1 : (itF F B).1 = 0) (h2 : ¬(itF F B).2.2 = []) : iE F B = 4 ∧ iL F B = [] := by
  have e : iE F B = 4 := by unfold iE; rw [if_neg h, if_neg (fun e => e h1), if_neg h2]
  exact ⟨e, by unfold iL; rw [e]; rfl⟩
theorem iE_4 {F : List Int} {B : List UInt8} (h : ¬F = []) (h1 : (itF F B).1 = 0) (h2 : (itF F B).2.2 = []) : iE F B = 0 ∧ iL F B = (itF F B).2.1 := by
  have e : iE F B = 0 := by unfold iE; rw [if_neg h, if_neg (fun e => e h1), if_pos h2]
  exact ⟨e, by unfold iL; rw [if_pos e]⟩
theorem itF_take {F : List Int} {B : List UInt8} {k : Nat} (h : k < F.length) : itF (F.take (k + 1)) B = itStep (itF (F.take k) B) (F.getD k 0) := by
  rw [← take_snoc (d := 0) h, itF_snoc]
theorem itF_stop {F : List Int} {B : List UInt8} {k : Nat} (h : ¬(itF (F.take k) B).1 = 0) : itF F B = itF (F.take k) B := by
  conv => lhs; rw [← List.take_append_drop k F]
  unfold itF at *
  rw [List.foldl_append, it_stop _ _ h]
theorem it_len : ∀ (F : List Int) (o : Int × List It × List UInt8), (F.foldl itStep o).2.1.length ≤ o.2.1.length + F.length ∧ (F.foldl itStep o).2.2.length ≤ o.2.2.length
  | [], o => ⟨by simp, by simp⟩
  | f :: F, o => by
    rw [List.foldl_cons]
    have h1 := it_len F (itStep o f)
    have h2 : (itStep o f).2.1.length ≤ o.2.1.length + 1 ∧ (itStep o f).2.2.length ≤ o.2.2.length := by
      unfold itStep
      split
      · split
        · exact ⟨by simp, by simp⟩
        · exact ⟨by simp, by simp⟩
      · exact ⟨by omega, by omega⟩
    rw [List.length_cons]
    omega
theorem itF_len (F : List Int) (B : List UInt8) : (itF F B).2.1.length ≤ F.length ∧ (itF F B).2.2.length ≤ B.length := by
  have h := it_len F (0, [], B)
  exact ⟨by have := h.1; simp only [List.length_nil, Nat.zero_add] at this; exact this, h.2⟩
theorem rd_le (n : Int) (B : List UInt8) : (fRd n B).2.1 ≤ B.length := by
  by_cases h : (fRd n B).2.2 = 0
  · exact (fR_good h).2.1
  · rw [(fR_bad h).2]; omega
theorem good_items (F : List Int) (B : List UInt8) (hF : F.length ≤ 1000) (hB : B.length ≤ 1000000) : GoodP Tryd.prog gl0 85 [rowS eZ 0 1 std fun _ => F, rowS eB 0 1 std fun _ => B] (.tup [rowS eI (0, []) 2 std fun _ => iL F B, .int .i64 (std.ti fun _ => iE F B)]) := by
  refine fn_sound' (T := seatT) (G := gM2) (X := noX) seatT_ok gM2_ok noX_ok noI_ok mixed Tryd.func85 (.none) (fun A => [rowS eZ 0 1 A fun _ => F, rowS eB 0 1 A fun _ => B]) (fun A => .tup [rowS eI (0, []) 2 A fun _ => iL F B, .int .i64 (A.ti fun _ => iE F B)]) fun A hA => ?_
  cbv
  repeat' (first | with_reducible exact True.intro | with_reducible exact dr_ok hA (by kernel_rfl) | with_reducible refine And.intro ?_ ?_ | (intro hc; cbv))
  all_goals first
    | (fail_if_success (refine Exists.intro ?_ ?_)
       subst hA
       simp [sS] at *
       first
         | (rw [(iE_1 hc).1]; done)
         | (rw [(iE_1 hc).2]; rfl)
         | trace_state)
    | skip
  have hne : ¬F = [] := by subst hA; simp [sS] at hc; exact hc
  clear hc
  refine ⟨⟨{p : Nat × List It × List UInt8 // p.1 ≤ F.length ∧ itF (F.take p.1) B = (0, p.2.1, p.2.2)}, fun b p => [(17, .int .i64 (p.1.1 : Nat)), (6, .own b), (1, rowS eB 0 1 A fun _ => p.1.2.2)], fun b p => [(b, .row 47 2 (A.tn fun _ => p.1.2.1.length) (rowF eI (0, []) A fun _ => p.1.2.1))], fun p => F.length - p.1.1, true⟩, ⟨⟨(0, [], B), by simp [itF]⟩, ?_⟩, ?_⟩
  · cbv
    subst hA
    simp [-List.getD_eq_getElem?_getD, sS]
  · rintro ⟨⟨i, L, C⟩, hi, hL⟩
    simp only at hi hL
    cbv
    repeat' (first | with_reducible exact True.intro | with_reducible exact dr_ok hA (by kernel_rfl) | with_reducible refine And.intro ?_ ?_ | (intro hc; cbv))
    all_goals first
      | (fail_if_success (refine Exists.intro ?_ ?_)
         have hlt : i < F.length := by (subst hA; simp [sS] at *; omega)
         have hst := itF_take (B := B) hlt
         rw [hL] at hst
         have hlen := itF_len (F.take i) B
         rw [hL] at hlen
         simp only [List.length_take] at hlen
         have hrl := rd_le (F.getD i 0) C
         subst hA
         simp [-List.getD_eq_getElem?_getD, sS, strOf_lit, lstOf_lit inj_eB, lstOf_lit inj_eZ, lstOf_lit inj_eBs, lstOf_lit inj_eS, isRow_lit, isB_lit, isRow_nil, lstOf_nil inj_eB, lstOf_nil inj_eZ, lstOf_nil inj_eBs, lstOf_nil inj_eS] at *
         first
           | done
           | omega
           | assumption
           | (constructor <;> omega)
           | exact Int.ofNat_lt.2 (Nat.lt_succ_of_le (rd_le _ _))
           | (rw [it_no hc] at hst
              have h1 := itF_stop (B := B) (F := F) (k := i + 1) (by rw [hst]; exact hc)
              rw [hst] at h1
              have h2 := iE_2 (B := B) hne (by rw [h1]; exact hc)
              rw [h1] at h2
              first
                | (rw [h2.1]; done)
                | (rw [h2.2]; done)
                | (rw [h2.2]; rfl))
           | trace_state)
      | (fail_if_success (refine Exists.intro ?_ ?_)
         have hie : i = F.length := by (subst hA; simp [sS] at *; omega)
         rw [hie, List.take_length] at hL
         subst hA
         simp [-List.getD_eq_getElem?_getD, sS, strOf_lit, lstOf_lit inj_eB, lstOf_lit inj_eZ, lstOf_lit inj_eBs, lstOf_lit inj_eS, isRow_lit, isB_lit, isRow_nil, lstOf_nil inj_eB, lstOf_nil inj_eZ, lstOf_nil inj_eBs, lstOf_nil inj_eS] at *
         first
           | (have hC : C = [] := by assumption
              have h2 := iE_4 (B := B) hne (by rw [hL]) (by rw [hL]; exact hC)
              rw [hL] at h2
              first
                | (rw [h2.1]; done)
                | (rw [h2.2]; done)
                | (rw [h2.2]; exact (Reps.lit _).eqr))
           | (have hC : ¬C = [] := by first | assumption | (intro e; rw [e] at hc; simp at hc)
              have h2 := iE_3 (B := B) hne (by rw [hL]) (by rw [hL]; exact hC)
              first
                | (rw [h2.1]; done)
                | (rw [h2.2]; done)
                | (rw [h2.2]; rfl))
           | trace_state)
      | (have hlt : i < F.length := by (subst hA; simp [sS] at *; omega)
         have hst := itF_take (B := B) hlt
         rw [hL] at hst
         have hz : (fRd (F.getD i 0) C).2.2 = 0 := by (subst hA; simp [-List.getD_eq_getElem?_getD, sS, strOf_lit, lstOf_lit inj_eB, lstOf_lit inj_eZ, lstOf_lit inj_eBs, lstOf_lit inj_eS, isRow_lit, isB_lit, isRow_nil, lstOf_nil inj_eB, lstOf_nil inj_eZ, lstOf_nil inj_eBs, lstOf_nil inj_eS] at *; assumption)
         rw [it_yes hz] at hst
         have hrl := rd_le (F.getD i 0) C
         obtain ⟨i', hi'⟩ : ∃ i', i' = i + 1 := ⟨_, rfl⟩
         obtain ⟨L', hL'⟩ : ∃ L', L' = L ++ [(F.getD i 0, (fRd (F.getD i 0) C).1)] := ⟨_, rfl⟩
         obtain ⟨C', hC'⟩ : ∃ C', C' = C.drop (fRd (F.getD i 0) C).2.1 := ⟨_, rfl⟩
         refine ⟨⟨(i', L', C'), by omega, by rw [hi', hst, hL', hC']⟩, ?_, show F.length - i' < F.length - i by omega⟩
         cbv
         subst hA
         simp [-List.getD_eq_getElem?_getD, sS, strOf_lit, lstOf_lit inj_eB, lstOf_lit inj_eZ, lstOf_lit inj_eBs, lstOf_lit inj_eS, isRow_lit, isB_lit, isRow_nil, lstOf_nil inj_eB, lstOf_nil inj_eZ, lstOf_nil inj_eBs, lstOf_nil inj_eS]
         first
           | exact ⟨⟨⟨by rw [hC']; simp, eqr_of (rep_drop C _) (by rw [hC']; simp) hC'.symm⟩, (w64 (by omega)).trans (by omega)⟩, by rw [hL']; simp, snoc_row rfl (cell_eI _ _) hL'.symm (by rw [hL']; simp)⟩
           | trace_state)
      | trace_state
noncomputable def c_items : Ct := fun A args => match args with
  | [.slc n 1 f, .slc m 1 g] => some (some (A.tp fun _ => isRow eZ 0 1 n f ∧ isRow eB 0 1 m g ∧ n ≤ 1000 ∧ m ≤ 1000000), .tup [rowS eI (0, []) 2 A fun _ => iL (lstOf eZ 0 1 n f) (lstOf eB 0 1 m g), .int .i64 (A.ti fun _ => iE (lstOf eZ 0 1 n f) (lstOf eB 0 1 m g))])
  | _ => none
noncomputable def gM3 : Ar → Pu := addC 85 c_items (gM2)
theorem gM3_ok : PuOk Tryd.prog gl0 (gM3 std) := by
  refine addC_ok (gM2_ok) ⟨_, Tryd.func85, rfl, by decide⟩ ?_
  · intro args p r h hp
    unfold c_items at h
    split at h <;> cases h
    exact good_sv (good_items _ _ (by rw [lstOf_length hp.1]; exact hp.2.2.1) (by rw [lstOf_length hp.2.1]; exact hp.2.2.2)) ⟨hp.1.sv, hp.2.1.sv, trivial⟩
theorem bfields_len (h l : Nat) : (bfields h l).length ≤ 129 := bfieldsTo_len h l 129
theorem brN_le (L : List UInt8) : 0 ≤ brN L ∧ brN L ≤ 16 ∧ (brE L = 0 → brN L ≤ L.length) := by
  refine ⟨?_, ?_, fun h => (read_bytes L h).2.2.2.1⟩
  · unfold brN; split
    · split <;> omega
    · omega
  · unfold brN; split
    · split <;> omega
    · omega
theorem cut4 (B : List UInt8) : List.drop (IntKind.i64.wrap (4 + brN (List.drop 4 B))).toNat B = (mC B).drop (brN (mC B)).toNat := by
  have h := brN_le (List.drop 4 B)
  rw [w64 (by omega)]
  unfold mC
  rw [List.drop_drop]
  congr 1
  omega
theorem mre_it {B : List UInt8} (h : ¬B.length < 4) (h1 : mT (B.take 4) = true) (h2 : brE (mC B) = 0) : mRe B = iE (mFs B) ((mC B).drop (brN (mC B)).toNat) ∧ mRL B = iL (mFs B) ((mC B).drop (brN (mC B)).toNat) := by
  have e : mRe B = iE (mFs B) ((mC B).drop (brN (mC B)).toNat) := by
    unfold iE
    by_cases h3 : mFs B = []
    · rw [mRe_4 h h1 h2 h3, if_pos h3]
    · rw [if_neg h3]
      by_cases h4 : (mIt B).1 = 0
      · rw [mRe_6 h h1 h2 h3 h4]
        have h5 : (itF (mFs B) ((mC B).drop (brN (mC B)).toNat)).1 = 0 := h4
        rw [if_neg (show ¬¬(itF (mFs B) ((mC B).drop (brN (mC B)).toNat)).1 = 0 from fun e => e h5)]
        rfl
      · rw [mRe_5 h h1 h2 h3 h4]
        have h5 : ¬(itF (mFs B) ((mC B).drop (brN (mC B)).toNat)).1 = 0 := h4
        rw [if_pos h5]
        rfl
  refine ⟨e, ?_⟩
  unfold mRL iL
  rw [← e]
  rfl
theorem br_r64 {L : List UInt8} (h : brE L = 0) : r64 (br1 L : Nat) ∧ r64 (br2 L : Nat) := by
  obtain ⟨_, _, _, _, h5, h6⟩ := read_bytes L h
  exact ⟨r64_of h5, r64_of h6⟩
theorem good_mRead (B : List UInt8) (hB : B.length ≤ 1000000) : GoodP Tryd.prog gl0 26 [rowS eB 0 1 std fun _ => B] (.tup [.agg [.str (std.ts fun _ => mRT B), rowS eI (0, []) 2 std fun _ => mRL B], .int .i64 (std.ti fun _ => mRe B)]) := by
  refine fn_sound' (T := seatT) (G := gM3) (X := noX) seatT_ok gM3_ok noX_ok noI_ok mixed Tryd.func26 (.none) (fun A => [rowS eB 0 1 A fun _ => B]) (fun A => .tup [.agg [.str (A.ts fun _ => mRT B), rowS eI (0, []) 2 A fun _ => mRL B], .int .i64 (A.ti fun _ => mRe B)]) fun A hA => ?_
  cbv
  repeat' (first | with_reducible exact True.intro | with_reducible exact dr_ok hA (by kernel_rfl) | with_reducible refine And.intro ?_ ?_ | (intro hc; cbv))
  all_goals (have hN := brN_le (List.drop 4 B))
  all_goals (have hcut := cut4 B)
  all_goals (have hw : IntKind.i64.wrap (4 + brN (List.drop 4 B)) = 4 + brN (List.drop 4 B) := w64 (by omega))
  all_goals (have hfl := bfields_len (br1 (List.drop 4 B)) (br2 (List.drop 4 B)))
  all_goals (subst hA; simp [-List.getD_eq_getElem?_getD, sS, strOf_lit, lstOf_lit inj_eB, lstOf_lit inj_eZ, lstOf_lit inj_eBs, lstOf_lit inj_eS, isRow_lit, isB_lit, isRow_nil, lstOf_nil inj_eB, lstOf_nil inj_eZ, lstOf_nil inj_eBs, lstOf_nil inj_eS, lst_drop, row_drop] at *)
  all_goals first
    | omega
    | exact isB_any B 4
    | (have h4 : B.length < 4 := by omega
       have h := mRe_1 h4
       have hb := mR_bad (B := B) (by rw [h]; decide)
       first
         | (rw [h]; done)
         | (rw [hb.1]; done)
         | (rw [hb.2]; done)
         | (rw [hb.2]; rfl))
    | (have h4 : ¬B.length < 4 := by omega
       have hT : strOfS 4 (rowF eB 0 std fun _ => B) = B.take 4 := cutS B (by omega)
       try simp only [hT] at *
       first
         | (have h1 : mT (B.take 4) = false := by assumption
            have h := mRe_2 h4 h1
            have hb := mR_bad (B := B) (by rw [h]; decide)
            first
              | (rw [h]; done)
              | (rw [hb.1]; done)
              | (rw [hb.2]; done)
              | (rw [hb.2]; rfl))
         | (have h1 : mT (B.take 4) = true := by assumption
            have h2 : ¬brE (mC B) = 0 := by assumption
            have h := mRe_3 h4 h1 h2
            have hb := mR_bad (B := B) (by rw [h]; exact h2)
            first
              | (rw [h]; done)
              | (rw [h]; rfl)
              | (rw [hb.1]; done)
              | (rw [hb.2]; done)
              | (rw [hb.2]; rfl))
         | (have h1 : mT (B.take 4) = true := by assumption
            have h2 : brE (mC B) = 0 := by assumption
            have h := mre_it h4 h1 h2
            have h3 := hN.2.2 h2
            first
              | exact br_r64 h2
              | (rw [hw]; omega)
              | (rw [hw]; constructor <;> omega)
              | (rw [hw]; rw [List.length_drop] at h3; constructor <;> omega)
              | (simp only [hcut] at *
                 first
                   | (have hb := mR_bad (B := B) (by rw [h.1]; assumption)
                      first
                        | (rw [hb.1]; done)
                        | (rw [hb.2]; done)
                        | (rw [hb.2]; rfl)
                        | (rw [h.1]; rfl))
                   | (have h0 : mRe B = 0 := by (rw [h.1]; assumption)
                      first
                        | (rw [h0]; done)
                        | (unfold mRT; rw [if_pos h0]; done)
                        | (rw [h.2]; done)
                        | (rw [h.2]; rfl)
                        | (rw [h.2]; exact (Reps.lit _).eqr))))
         | trace_state)
    | trace_state
noncomputable def c_mRead : Ct := fun A args => match args with
  | [.slc n 1 f] => some (some (A.tp fun _ => isRow eB 0 1 n f ∧ n ≤ 1000000), .tup [.agg [.str (A.ts fun _ => mRT (lstOf eB 0 1 n f)), rowS eI (0, []) 2 A fun _ => mRL (lstOf eB 0 1 n f)], .int .i64 (A.ti fun _ => mRe (lstOf eB 0 1 n f))])
  | _ => none
noncomputable def gM4 : Ar → Pu := addC 26 c_mRead (gM3)
theorem gM4_ok : PuOk Tryd.prog gl0 (gM4 std) := by
  refine addC_ok (gM3_ok) ⟨_, Tryd.func26, rfl, by decide⟩ ?_
  · intro args p r h hp
    unfold c_mRead at h
    split at h <;> cases h
    exact good_sv (good_mRead _ (by rw [lstOf_length hp.1]; exact hp.2)) ⟨hp.1.sv, trivial⟩
end Go.Vd

set_option linter.unusedVariables false
namespace Go.Vd
def svn1 : SV → SV → Prop
  | .slc n k f, t => (∃ g, t = .slc n k g ∧ ∀ i j, i < n → j < k → Ceq (f i j) (g i j)) ∨ (n = 0 ∧ ∃ k' g, t = .slc 0 k' g)
  | .nils, t => ∃ k g, t = .slc 0 k g
  | s, t => s = t
theorem svn1_rel {w : World} {ρ : Nat → Value} {rw N : Nat → Prop} {v : Value} {s t : SV} (h : Rel w ρ rw N v s) (e : svn1 s t) : Rel w ρ rw N v t := by
  cases s with
  | slc n k f =>
    rcases e with e | ⟨rfl, k', g, rfl⟩
    · exact sv1_rel h e
    · cases h with
      | slc a _ c _ _ g2 hn hc ha hr => exact .slc a 0 c k' g (fun _ _ => undef) hn (fun i j hi => absurd hi (by omega)) (fun h => absurd h (by omega)) (fun i j hi => absurd hi (by omega))
  | nils =>
    obtain ⟨k, g, rfl⟩ := e
    cases h with
    | nils => exact .slc none 0 0 k g (fun _ _ => undef) (Nat.le_refl _) (fun i j hi => absurd hi (by omega)) (fun h => absurd h (by omega)) (fun i j hi => absurd hi (by omega))
  | _ => cases e; exact h
def svn2 : SV → SV → Prop
  | .agg l, t => ∃ m, t = .agg m ∧ All2 svn1 l m
  | s, t => svn1 s t
theorem svn2_rel {w : World} {ρ : Nat → Value} {rw N : Nat → Prop} {v : Value} {s t : SV} (h : Rel w ρ rw N v s) (e : svn2 s t) : Rel w ρ rw N v t := by
  cases s with
  | agg l =>
    obtain ⟨m, rfl, he⟩ := e
    generalize hs : SV.agg l = s at h
    cases h with
    | agg cs l' hl h1 hh =>
      cases hs
      have hlen := he.length
      refine .agg _ _ (by omega) h1 fun i v t hv ht => ?_
      have hi : i < l.length := by have := (List.getElem?_eq_some_iff.1 ht).1; omega
      exact svn1_rel (hh i v _ hv (List.getElem?_eq_getElem hi)) (he.get i _ t (List.getElem?_eq_getElem hi) ht)
    | _ => cases hs
  | _ => exact svn1_rel h e
theorem good_svn {P : Program} {gl : Nat → SV} {f : FuncId} {args args' : List SV} {r : SV} (h : GoodP P gl f args' r) (he : All2 svn2 args args') : GoodP P gl f args r := by
  intro w ρ rw N vs hfr hrw hg hargs
  refine h w ρ rw N vs hfr hrw hg ?_
  have key : ∀ {vs : List Value} {l m : List SV}, All2 (Rel w ρ rw N) vs l → All2 svn2 l m → All2 (Rel w ρ rw N) vs m := by
    intro vs
    induction vs with
    | nil => intro l m h1 h2; cases l with
      | nil => cases m with
        | nil => trivial
        | cons => exact h2.elim
      | cons => exact h1.elim
    | cons v vs ih => intro l m h1 h2; cases l with
      | nil => exact h1.elim
      | cons s l => cases m with
        | nil => exact h2.elim
        | cons t m => exact ⟨svn2_rel h1.1 h2.1, ih h1.2 h2.2⟩
  exact key hargs he
end Go.Vd

set_option linter.unusedVariables false
set_option linter.unusedSimpArgs false
set_option maxRecDepth 100000
set_option maxHeartbeats 8000000
namespace Go.Vd
open Go.Proofs
/-- Not too much for a look. -/
def mSh (T : List UInt8) (L : List It) : Bool := decide ((T.length : Int) ≤ 300) && (decide ((L.length : Int) ≤ 200) && L.all fun x => decide (x.2.length ≤ 1200))
theorem mSh_iff {T : List UInt8} {L : List It} : mSh T L = true ↔ T.length ≤ 300 ∧ L.length ≤ 200 ∧ ∀ x ∈ L, x.2.length ≤ 1200 := by
  simp only [mSh, Bool.and_eq_true, decide_eq_true_eq, List.all_eq_true]
  constructor
  · rintro ⟨h1, h2, h3⟩; exact ⟨by omega, by omega, h3⟩
  · rintro ⟨h1, h2, h3⟩; exact ⟨by omega, by omega, h3⟩
theorem mSh_getD {T : List UInt8} {L : List It} (h : mSh T L = true) (i : Nat) : (L.getD i (0, [])).2.length ≤ 1200 := by
  rw [List.getD_eq_getElem?_getD]
  rcases Nat.lt_or_ge i L.length with hi | hi
  · rw [List.getElem?_eq_getElem hi]; exact (mSh_iff.1 h).2.2 _ (List.getElem_mem hi)
  · rw [List.getElem?_eq_none hi]; simp
theorem mSh_no {T : List UInt8} {L : List It} {i : Nat} (hi : i < L.length) (h : 1200 < (L.getD i (0, [])).2.length) : mSh T L = false := by
  rw [Bool.eq_false_iff]
  intro e
  have := mSh_getD e i
  omega
theorem mSh_yes {T : List UInt8} {L : List It} {i : Nat} (hi : L.length ≤ i ∨ 200 ≤ i) (h : ∀ j, j < i → (L.getD j (0, [])).2.length ≤ 1200) : mSh T L = (decide ((T.length : Int) ≤ 300) && decide ((L.length : Int) ≤ 200)) := by
  unfold mSh
  by_cases h2 : (L.length : Int) ≤ 200
  · have : L.all (fun x => decide (x.2.length ≤ 1200)) = true := by
      rw [List.all_eq_true]
      intro x hx
      obtain ⟨j, hj, rfl⟩ := List.mem_iff_getElem.1 hx
      have := h j (by omega)
      rw [List.getD_eq_getElem?_getD, List.getElem?_eq_getElem hj] at this
      exact decide_eq_true this
    rw [this, Bool.and_true]
  · rw [decide_eq_false h2]; simp
theorem good_rShort (T : List UInt8) (L : List It) : GoodP Tryd.prog gl0 20 [.agg [.str T, rowS eI (0, []) 2 std fun _ => L]] (.bool (std.tb fun _ => mSh T L)) := by
  refine fn_sound' (T := seatT) (G := noC) (X := noX) seatT_ok noC_ok noX_ok noI_ok mixed Tryd.func20 (.one) (fun A => [.agg [.str T, rowS eI (0, []) 2 A fun _ => L]]) (fun A => .bool (A.tb fun _ => mSh T L)) fun A hA => ?_
  cbv
  repeat' (first | with_reducible exact True.intro | with_reducible exact dr_ok hA (by kernel_rfl) | with_reducible refine And.intro ?_ ?_ | (intro hc; cbv))
  refine ⟨⟨{i : Nat // i ≤ L.length ∧ i ≤ 200 ∧ ∀ j, j < i → (L.getD j (0, [])).2.length ≤ 1200}, fun b i => [(3, .int .i64 (i.1 : Nat))], fun b i => [], fun i => L.length - i.1, true⟩, ⟨⟨0, by omega, by omega, fun j hj => absurd hj (by omega)⟩, ?_⟩, ?_⟩
  · cbv
    subst hA
    simp [-List.getD_eq_getElem?_getD, sS]
  · rintro ⟨i, hi, h2, h0⟩
    cbv
    repeat' (first | with_reducible exact True.intro | with_reducible exact dr_ok hA (by kernel_rfl) | with_reducible refine And.intro ?_ ?_ | (intro hc; cbv))
    all_goals first
      | (fail_if_success (refine Exists.intro ?_ ?_)
         subst hA
         simp [-List.getD_eq_getElem?_getD, sS] at *
         first
           | done
           | omega
           | exact mSh_no (i := i) (by omega) (by omega)
           | exact (mSh_no (i := i) (by omega) (by omega)).symm
           | (rw [mSh_yes (i := i) (by omega) h0]; done)
           | trace_state)
      | (have hlt : i < L.length ∧ i < 200 := by (subst hA; simp [-List.getD_eq_getElem?_getD, sS] at *; omega)
         have hne : (L.getD i (0, [])).2.length ≤ 1200 := by (subst hA; simp [-List.getD_eq_getElem?_getD, sS] at *; omega)
         refine ⟨⟨i + 1, by omega, by omega, fun j hj => ?_⟩, ?_, show L.length - (i + 1) < L.length - i by omega⟩
         · by_cases e : j = i
           · subst e; exact hne
           · exact h0 j (by omega)
         cbv
         subst hA
         simp [sS]
         exact (w64 (by omega)).trans (by omega))
      | trace_state
theorem pair_eq {L M : List It} {i : Nat} : L.getD i (0, []) = M.getD i (0, []) ↔ (L.getD i (0, [])).1 = (M.getD i (0, [])).1 ∧ (L.getD i (0, [])).2 = (M.getD i (0, [])).2 := Prod.ext_iff
theorem good_rSame (T U : List UInt8) (L M : List It) (hL : L.length ≤ 1000000) : GoodP Tryd.prog gl0 29 [.agg [.str T, rowS eI (0, []) 2 std fun _ => L], .agg [.str U, rowS eI (0, []) 2 std fun _ => M]] (.bool (std.tb fun _ => decide (T = U ∧ L = M))) := by
  refine fn_sound' (T := seatT) (G := noC) (X := noX) seatT_ok noC_ok noX_ok noI_ok mixed Tryd.func29 (.one) (fun A => [.agg [.str T, rowS eI (0, []) 2 A fun _ => L], .agg [.str U, rowS eI (0, []) 2 A fun _ => M]]) (fun A => .bool (A.tb fun _ => decide (T = U ∧ L = M))) fun A hA => ?_
  cbv
  repeat' (first | with_reducible exact True.intro | with_reducible exact dr_ok hA (by kernel_rfl) | with_reducible refine And.intro ?_ ?_ | (intro hc; cbv))
  all_goals first
    | (fail_if_success (refine Exists.intro ?_ ?_)
       subst hA
       simp [sS] at *
       first
         | done
         | omega
         | (intro h1 h2; subst h1 h2; rcases hc with hc | hc
            · exact hc rfl
            · exact hc rfl)
         | (intro h1 h2; subst h1 h2; simp at hc)
         | trace_state)
    | skip
  have h0 : T = U ∧ L.length = M.length := by
    subst hA
    simp [sS] at hc
    exact ⟨hc.1, by omega⟩
  obtain ⟨rfl, hl⟩ := h0
  refine ⟨⟨{i : Nat // i ≤ L.length ∧ ∀ j, j < i → L.getD j (0, []) = M.getD j (0, [])}, fun b i => [(5, .int .i64 (i.1 : Nat))], fun b i => [], fun i => L.length - i.1, true⟩, ⟨⟨0, by omega, fun j hj => absurd hj (by omega)⟩, ?_⟩, ?_⟩
  · cbv
    subst hA
    simp [-List.getD_eq_getElem?_getD, sS]
  · rintro ⟨i, hi, h0⟩
    cbv
    repeat' (first | with_reducible exact True.intro | with_reducible exact dr_ok hA (by kernel_rfl) | with_reducible refine And.intro ?_ ?_ | (intro hc; cbv))
    all_goals first
      | (fail_if_success (refine Exists.intro ?_ ?_)
         subst hA
         simp [-List.getD_eq_getElem?_getD, sS] at *
         first
           | done
           | omega
           | (intro e; subst e; simp at hc; done)
           | (have hie : i = L.length := by omega
              apply List.ext_getElem hl
              intro j h1 h2
              have := h0 j (by omega)
              simpa [List.getD_eq_getElem?_getD, h1, h2] using this)
           | trace_state)
      | (have hlt : i < L.length := by (subst hA; simp [-List.getD_eq_getElem?_getD, sS] at *; omega)
         have hne : L.getD i (0, []) = M.getD i (0, []) := by (subst hA; simp [-List.getD_eq_getElem?_getD, sS] at *; exact pair_eq.2 (by assumption))
         refine ⟨⟨i + 1, by omega, fun j hj => ?_⟩, ?_, show L.length - (i + 1) < L.length - i by omega⟩
         · by_cases e : j = i
           · subst e; exact hne
           · exact h0 j (by omega)
         cbv
         subst hA
         simp [sS]
         exact (w64 (by omega)).trans (by omega))
      | trace_state
noncomputable def c_rShort : Ct := fun A args => match args with
  | [.agg [.str T, .slc n 2 f]] => some (some (A.tp fun _ => isRow eI (0, []) 2 n f), .bool (A.tb fun _ => mSh T (lstOf eI (0, []) 2 n f)))
  | _ => none
noncomputable def gM5a : Ar → Pu := addC 20 c_rShort (gM4)
theorem gM5a_ok : PuOk Tryd.prog gl0 (gM5a std) := by
  refine addC_ok (gM4_ok) ⟨_, Tryd.func20, rfl, by decide⟩ ?_
  · intro args p r h hp
    unfold c_rShort at h
    split at h <;> cases h
    exact good_sv (good_rShort _ _) ⟨⟨_, rfl, rfl, hp.sv, trivial⟩, trivial⟩
noncomputable def c_rSame : Ct := fun A args => match args with
  | [.agg [.str T, .slc n 2 f], .agg [.str U, .slc m 2 g]] => some (some (A.tp fun _ => isRow eI (0, []) 2 n f ∧ isRow eI (0, []) 2 m g ∧ n ≤ 1000000), .bool (A.tb fun _ => decide (T = U ∧ lstOf eI (0, []) 2 n f = lstOf eI (0, []) 2 m g)))
  | [.agg [.str T, .slc n 2 f], .agg [.str U, .slc m 1 g]] => some (some (A.tp fun _ => isRow eI (0, []) 2 n f ∧ m = 0 ∧ n ≤ 1000000), .bool (A.tb fun _ => decide (T = U ∧ lstOf eI (0, []) 2 n f = [])))
  | _ => none
noncomputable def gM5 : Ar → Pu := addC 29 c_rSame gM5a
theorem gM5_ok : PuOk Tryd.prog gl0 (gM5 std) := by
  refine addC_ok gM5a_ok ⟨_, Tryd.func29, rfl, by decide⟩ ?_
  intro args p r h hp
  unfold c_rSame at h
  split at h <;> cases h
  · exact good_sv (good_rSame _ _ _ _ (by rw [lstOf_length hp.1]; exact hp.2.2)) ⟨⟨_, rfl, rfl, hp.1.sv, trivial⟩, ⟨_, rfl, rfl, hp.2.1.sv, trivial⟩, trivial⟩
  · exact good_svn (good_rSame _ _ _ [] (by rw [lstOf_length hp.1]; exact hp.2.2)) ⟨⟨_, rfl, rfl, .inl hp.1.sv, trivial⟩, ⟨_, rfl, rfl, .inr ⟨hp.2.1, _, _, rfl⟩, trivial⟩, trivial⟩
theorem app1_reps (L : List UInt8) {z : Int} {x : UInt8} (hz : z = x.toNat) {g : Nat → Nat → SV} : Reps eB 0 1 (0 + L.length + 1) (catS (0 + L.length) (catS 0 g (rowF eB 0 std fun _ => L)) (lstS [[SV.int IntKind.u8 z]])) (L ++ [x]) := by
  have h1 : Reps eB 0 1 (0 + L.length) (catS 0 g (rowF eB 0 std fun _ => L)) L := by
    have := (Reps.nil (enc := eB) (d := 0) (k := 1) (f := g)).cat (Reps.lit L)
    simpa using this
  exact h1.cat (Reps.one (cell_eB hz))
def mT0 : List UInt8 := [48, 52, 51, 48]
def mL0 : List It := [(11, [48, 48, 48, 48, 48, 49]), (39, [48, 48])]
def mB0 : List UInt8 := [48, 52, 51, 48, 0, 32, 0, 0, 2, 0, 0, 0, 48, 48, 48, 48, 48, 49, 48, 48]
theorem mq0 : Reps eI (0, []) 2 2 (lstS [[SV.int IntKind.i64 11, SV.str [48, 48, 48, 48, 48, 49]], [SV.int IntKind.i64 39, SV.str [48, 48]]]) mL0 :=
  Reps.lst (l := [[SV.int .i64 11, SV.str [48, 48, 48, 48, 48, 49]], [SV.int .i64 39, SV.str [48, 48]]]) ⟨cell_eI _ _, cell_eI _ _, trivial⟩
theorem ml0 : lstOf eI (0, []) 2 2 (lstS [[SV.int IntKind.i64 11, SV.str [48, 48, 48, 48, 48, 49]], [SV.int IntKind.i64 39, SV.str [48, 48]]]) = mL0 := lstOf_eq inj_eI mq0
theorem mw0 : mWx [48, 52, 51, 48] mL0 = mB0 ∧ mWe [48, 52, 51, 48] mL0 = 0 ∧ mR [48, 52, 51, 48] mL0 = true := by decide +kernel
theorem mr0 : mRe mB0 = 0 ∧ mRT mB0 = [48, 52, 51, 48] ∧ mRL mB0 = mL0 ∧ mRe (mB0 ++ [48]) = 4 := by decide +kernel
theorem mg0 : mG mL0 39 = [48, 48] ∧ mH mL0 39 = true := by decide +kernel
theorem ma0 : lstOf eB 0 1 (0 + mB0.length + 1) (catS (0 + mB0.length) (catS 0 (fun _ _ => SV.any) (rowF eB 0 std fun _ => mB0)) (lstS [[SV.int IntKind.u8 48]])) = mB0 ++ [48] := lstOf_eq inj_eB (app1_reps mB0 (x := 48) rfl)
theorem ma1 : isRow eB 0 1 (0 + mB0.length + 1) (catS (0 + mB0.length) (catS 0 (fun _ _ => SV.any) (rowF eB 0 std fun _ => mB0)) (lstS [[SV.int IntKind.u8 48]])) := ⟨_, app1_reps mB0 (x := 48) rfl⟩
theorem ms0 : ∀ i, (mL0.getD i (0, [])).2.length ≤ 1000000 := fun i => Nat.le_trans (mSh_getD (T := mT0) (L := mL0) (by decide) i) (by decide)
theorem good_mAwake  : GoodP Tryd.prog gl0 19 [] (.bool true) := by
  refine fn_sound' (T := seatT) (G := gM5) (X := noX) seatT_ok gM5_ok noX_ok noI_ok mixed Tryd.func19 (.one) (fun A => []) (fun A => .bool true) fun A hA => ?_
  cbv
  repeat' (first | with_reducible exact True.intro | with_reducible exact dr_ok hA (by kernel_rfl) | with_reducible refine And.intro ?_ ?_ | (intro hc; cbv))
  all_goals (subst hA; simp only [sS, strOf_lit, lstOf_lit inj_eB, lstOf_lit inj_eZ, lstOf_lit inj_eBs, lstOf_lit inj_eS, ml0, mw0, mr0, mg0, ma0, lstOf_lit inj_eI])
  all_goals first
    | done
    | decide
    | exact ⟨⟨_, mq0⟩, by decide, ms0⟩
    | exact ⟨isRow_lit _, by decide⟩
    | exact ⟨ma1, by decide⟩
    | exact isRow_lit _
    | exact isB_lit _
    | exact fun h => ⟨h, isB_lit _⟩
    | exact fun h => ⟨h, ⟨_, mq0⟩, isRow_lit _, by decide⟩
    | exact fun h => ⟨⟨h, h⟩, ⟨_, mq0⟩, isRow_lit _, by decide⟩
    | exact fun h => ⟨h, isRow_lit _, isRow_lit _, by decide⟩
    | exact fun h => ⟨h, ⟨_, mq0⟩, by decide, ms0⟩
    | (simp [isRow_lit, isB_lit, isRow_nil, lstOf_nil inj_eB, lstOf_nil inj_eZ, lstOf_nil inj_eBs, lstOf_nil inj_eS]; done)
    | trace_state
noncomputable def c_mAwake : Ct := fun A args => match args with
  | [] => some (none, .bool true)
  | _ => none
noncomputable def gM6 : Ar → Pu := addC 19 c_mAwake (gM5)
theorem gM6_ok : PuOk Tryd.prog gl0 (gM6 std) := by
  refine addC_ok (gM5_ok) ⟨_, Tryd.func19, rfl, by decide⟩ ?_
  · intro args p r h hp
    unfold c_mAwake at h
    split at h <;> cases h
    exact good_mAwake
end Go.Vd

set_option linter.unusedVariables false
set_option linter.unusedSimpArgs false
set_option maxRecDepth 100000
set_option maxHeartbeats 8000000
namespace Go.Vd
open Go.Proofs
theorem s_rep (L : List (List UInt8)) : Reps eS [] 1 L.length (lstS (L.map fun z => [SV.str z])) L := by
  have h : All2 (fun c x => ∀ j, j < 1 → Ceq (getAt c j) (getAt (eS std fun _ => x) j)) (L.map fun z => [SV.str z]) L := by
    induction L with
    | nil => trivial
    | cons x l ih => exact ⟨cell_eS x, ih⟩
  have := Reps.lst (d := ([] : List UInt8)) h
  rw [List.length_map] at this
  exact this
def knL : List (List UInt8) := [[48, 49, 48, 48], [48, 49, 49, 48], [48, 52, 48, 48], [48, 52, 49, 48], [48, 52, 50, 48], [48, 52, 50, 49], [48, 52, 51, 48]]
theorem kn_yes {K : List (List UInt8)} (hK : K = knL) {s : List UInt8} {i : Nat} (hi : i < K.length) (h : K.getD i [] = s) : mT s = true := by
  subst hK
  subst h
  have h : ∀ i : Fin 7, mT (knL.getD i.val []) = true := by decide
  exact h ⟨i, hi⟩
theorem kn_no {K : List (List UInt8)} (hK : K = knL) {s : List UInt8} (h : ∀ j, j < K.length → ¬K.getD j [] = s) : mT s = false := by
  subst hK
  rw [Bool.eq_false_iff]
  intro e
  unfold mT at e
  simp only [List.contains_eq_mem, List.mem_cons, List.not_mem_nil, or_false, decide_eq_true_eq] at e
  rcases e with rfl | rfl | rfl | rfl | rfl | rfl | rfl
  · exact h 0 (by decide) rfl
  · exact h 1 (by decide) rfl
  · exact h 2 (by decide) rfl
  · exact h 3 (by decide) rfl
  · exact h 4 (by decide) rfl
  · exact h 5 (by decide) rfl
  · exact h 6 (by decide) rfl
theorem good_rKnown (s : List UInt8) : GoodP Tryd.prog gl0 73 [.str s] (.bool (std.tb fun _ => mT s)) := by
  refine fn_sound' (T := seatT) (G := noC) (X := noX) seatT_ok noC_ok noX_ok noI_ok mixed Tryd.func73 (.one) (fun A => [.str s]) (fun A => .bool (A.tb fun _ => mT s)) fun A hA => ?_
  obtain ⟨K, hK⟩ : ∃ K, K = knL := ⟨_, rfl⟩
  have hl : K.length = 7 := by subst hK; rfl
  cbv
  repeat' (first | with_reducible exact True.intro | with_reducible exact dr_ok hA (by kernel_rfl) | with_reducible refine And.intro ?_ ?_ | (intro hc; cbv))
  refine ⟨⟨{i : Nat // i ≤ K.length ∧ ∀ j, j < i → ¬K.getD j [] = s}, fun b i => [(4, .int .i64 (i.1 : Nat)), (3, rowS eS [] 1 A fun _ => K)], fun b i => [], fun i => K.length - i.1, true⟩, ⟨⟨0, by omega, fun j hj => absurd hj (by omega)⟩, ?_⟩, ?_⟩
  · cbv
    subst hA
    have h := s_rep K
    have he := h.eqr
    rw [hl] at h he
    subst hK
    simp [sS, hl]
    exact (s_rep knL).eqr
  · rintro ⟨i, hi, h0⟩
    cbv
    repeat' (first | with_reducible exact True.intro | with_reducible exact dr_ok hA (by kernel_rfl) | with_reducible refine And.intro ?_ ?_ | (intro hc; cbv))
    all_goals first
      | (fail_if_success (refine Exists.intro ?_ ?_)
         subst hA
         simp [-List.getD_eq_getElem?_getD, sS] at *
         first
           | done
           | omega
           | exact kn_yes hK (by omega) hc
           | (rw [kn_yes hK (by omega) hc]; done)
           | (rw [kn_no hK (fun j hj => h0 j (by omega))]; done)
           | exact kn_no hK (fun j hj => h0 j (by omega))
           | trace_state)
      | (have hlt : i < K.length := by (clear h0; subst hA; simp [-List.getD_eq_getElem?_getD, sS] at *; omega)
         have hne : ¬K.getD i [] = s := by (clear h0; subst hA; simp [-List.getD_eq_getElem?_getD, sS] at *; exact hc)
         refine ⟨⟨i + 1, by omega, fun j hj => ?_⟩, ?_, show K.length - (i + 1) < K.length - i by omega⟩
         · by_cases e : j = i
           · subst e; exact hne
           · exact h0 j (by omega)
         cbv
         subst hA
         simp [sS]
         first
           | exact (w64 (by omega)).trans (by omega)
           | trace_state)
      | trace_state
noncomputable def c_rKnown : Ct := fun A args => match args with
  | [.str s] => some (none, .bool (A.tb fun _ => mT s))
  | _ => none
noncomputable def gM7a : Ar → Pu := addC 73 c_rKnown (gM4)
theorem gM7a_ok : PuOk Tryd.prog gl0 (gM7a std) := by
  refine addC_ok (gM4_ok) ⟨_, Tryd.func73, rfl, by decide⟩ ?_
  · intro args p r h hp
    unfold c_rKnown at h
    split at h <;> cases h
    exact good_rKnown _
theorem good_rRight4 (T : List UInt8) (L : List It) (hL : L.length ≤ 1000000) (hS : ∀ i, (L.getD i (0, [])).2.length ≤ 1000000) : GoodP Tryd.prog gl0 21 [.agg [.str T, rowS eI (0, []) 2 std fun _ => L]] (.bool (std.tb fun _ => mR T L)) := by
  refine fn_sound' (T := seatT) (G := gM7a) (X := noX) seatT_ok gM7a_ok noX_ok noI_ok mixed Tryd.func21 (.one) (fun A => [.agg [.str T, rowS eI (0, []) 2 A fun _ => L]]) (fun A => .bool (A.tb fun _ => mR T L)) fun A hA => ?_
  cbv
  repeat' (first | with_reducible exact True.intro | with_reducible exact dr_ok hA (by kernel_rfl) | with_reducible refine And.intro ?_ ?_ | (intro hc; cbv))
  all_goals first
    | (fail_if_success (refine Exists.intro ?_ ?_)
       subst hA
       simp [sS] at *
       first
         | done
         | omega
         | exact (mR_head (by first | assumption | exact .inl (by assumption) | exact .inr (by assumption))).symm
         | exact mR_head (by first | assumption | exact .inl (by assumption) | exact .inr (by assumption))
         | trace_state)
    | skip
  have h0 : mT T = true ∧ ¬L = [] := by
    subst hA
    simp [sS] at hc
    exact hc
  clear hc
  refine ⟨⟨{i : Nat // i ≤ L.length ∧ mUp L i = true}, fun b i => [(3, .int .i64 (i.1 : Nat))], fun b i => [], fun i => L.length - i.1, true⟩, ⟨⟨0, by omega, rfl⟩, ?_⟩, ?_⟩
  · cbv
    subst hA
    simp [-List.getD_eq_getElem?_getD, sS]
  · rintro ⟨i, hi, hz⟩
    cbv
    repeat' (first | with_reducible exact True.intro | with_reducible exact dr_ok hA (by kernel_rfl) | with_reducible refine And.intro ?_ ?_ | (intro hc; cbv))
    all_goals first
      | (fail_if_success (refine Exists.intro ?_ ?_)
         subst hA
         simp [-List.getD_eq_getElem?_getD, sS] at *
         done)
      | (fail_if_success (refine Exists.intro ?_ ?_)
         have hx := hz
         clear hz
         subst hA
         simp [-List.getD_eq_getElem?_getD, sS] at *
         first
           | omega
           | exact hS _
           | exact fun h1 h2 => ⟨⟨h1, h2⟩, hc⟩
           | exact fun h1 h2 => ⟨⟨h1, h2⟩, by rw [wm1 h2 (by omega)]; omega⟩
           | exact fun h1 => ⟨h1, fun h2 => ⟨h1, h2⟩⟩
           | (rcases hc with hc | hc
              · exact mR_false (by assumption) (mOk_rr hc)
              · have h1 : 0 < i := hc.1
                rw [wm1 h1 (by omega), Int.toNat_natCast] at hc
                exact mR_false (by assumption) (mOk_lo h1 hc.2))
           | (have hie : i = L.length := by omega
              rw [hie] at hx
              rw [mR_true h0.1 h0.2 hx]
              done)
           | (have hie : i = L.length := by omega
              rw [hie] at hx
              exact mR_true h0.1 h0.2 hx)
           | trace_state)
      | (have hlt : i < L.length := by (clear hz; subst hA; simp [sS] at * <;> omega)
         have hok : mOk L i = true := by
           clear hz
           subst hA
           simp [-List.getD_eq_getElem?_getD, sS] at *
           refine mOk_yes (fun h1 => ?_) hc.1
           have h2 := hc.2 h1
           rw [wm1 h1 (by omega), Int.toNat_natCast] at h2
           exact h2
         obtain ⟨i', hi'⟩ : ∃ i', i' = i + 1 := ⟨_, rfl⟩
         refine ⟨⟨i', by omega, by rw [hi', mUp_succ, hz, hok]; rfl⟩, ?_, show L.length - i' < L.length - i by omega⟩
         cbv
         subst hA
         simp [sS]
         exact (w64 (by omega)).trans (by omega))
      | trace_state
theorem good_rGet4 (T : List UInt8) (L : List It) (n : Int) (hL : L.length ≤ 1000000) : GoodP Tryd.prog gl0 25 [.agg [.str T, rowS eI (0, []) 2 std fun _ => L], .int .i64 n] (.tup [.str (std.ts fun _ => mG L n), .bool (std.tb fun _ => mH L n)]) := by
  refine fn_sound' (T := seatT) (G := noC) (X := noX) seatT_ok noC_ok noX_ok noI_ok mixed Tryd.func25 (.one) (fun A => [.agg [.str T, rowS eI (0, []) 2 A fun _ => L], .int .i64 n]) (fun A => .tup [.str (A.ts fun _ => mG L n), .bool (A.tb fun _ => mH L n)]) fun A hA => ?_
  cbv
  repeat' (first | with_reducible exact True.intro | with_reducible exact dr_ok hA (by kernel_rfl) | with_reducible refine And.intro ?_ ?_ | (intro hc; cbv))
  refine ⟨⟨{i : Nat // i ≤ L.length ∧ ∀ j, j < i → ¬(L.getD j (0, [])).1 = n}, fun b i => [(6, .int .i64 (i.1 : Nat))], fun b i => [], fun i => L.length - i.1, true⟩, ⟨⟨0, by omega, fun j hj => absurd hj (by omega)⟩, ?_⟩, ?_⟩
  · cbv
    subst hA
    simp [-List.getD_eq_getElem?_getD, sS]
  · rintro ⟨i, hi, h0⟩
    cbv
    repeat' (first | with_reducible exact True.intro | with_reducible exact dr_ok hA (by kernel_rfl) | with_reducible refine And.intro ?_ ?_ | (intro hc; cbv))
    all_goals first
      | (fail_if_success (refine Exists.intro ?_ ?_)
         subst hA
         simp [-List.getD_eq_getElem?_getD, sS] at *
         done)
      | (fail_if_success (refine Exists.intro ?_ ?_)
         subst hA
         simp [-List.getD_eq_getElem?_getD, sS] at *
         first
           | omega
           | (have e : (L.getD i (0, [])).1 = n := by assumption
              have := mG_at (by omega) h0 e
              first
                | (rw [this.1]; done)
                | (rw [this.2]; done))
           | (have hie : i = L.length := by omega
              subst hie
              have := mG_none h0
              first
                | (rw [this.1]; done)
                | (rw [this.2]; done))
           | trace_state)
      | (have hlt : i < L.length := by (clear h0; subst hA; simp [-List.getD_eq_getElem?_getD, sS] at *; omega)
         have hne : ¬(L.getD i (0, [])).1 = n := by (clear h0; subst hA; simp [-List.getD_eq_getElem?_getD, sS] at *; assumption)
         refine ⟨⟨i + 1, by omega, fun j hj => ?_⟩, ?_, show L.length - (i + 1) < L.length - i by omega⟩
         · by_cases e : j = i
           · subst e; exact hne
           · exact h0 j (by omega)
         cbv
         subst hA
         simp [sS]
         exact (w64 (by omega)).trans (by omega))
      | trace_state
noncomputable def c_rRight4 : Ct := fun A args => match args with
  | [.agg [.str T, .slc n 2 f]] => some (some (A.tp fun _ => isRow eI (0, []) 2 n f ∧ n ≤ 1000000 ∧ ∀ i, ((lstOf eI (0, []) 2 n f).getD i (0, [])).2.length ≤ 1000000), .bool (A.tb fun _ => mR T (lstOf eI (0, []) 2 n f)))
  | _ => none
noncomputable def c_rGet4 : Ct := fun A args => match args with
  | [.agg [.str T, .slc n 2 f], .int .i64 z] => some (some (A.tp fun _ => isRow eI (0, []) 2 n f ∧ n ≤ 1000000), .tup [.str (A.ts fun _ => mG (lstOf eI (0, []) 2 n f) z), .bool (A.tb fun _ => mH (lstOf eI (0, []) 2 n f) z)])
  | _ => none
noncomputable def gM7 : Ar → Pu := addC 21 c_rRight4 (addC 25 c_rGet4 (gM7a))
theorem gM7_ok : PuOk Tryd.prog gl0 (gM7 std) := by
  refine addC_ok (addC_ok (gM7a_ok) ⟨_, Tryd.func25, rfl, by decide⟩ ?_) ⟨_, Tryd.func21, rfl, by decide⟩ ?_
  · intro args p r h hp
    unfold c_rGet4 at h
    split at h <;> cases h
    exact good_sv (good_rGet4 _ _ _ (by rw [lstOf_length hp.1]; exact hp.2)) ⟨⟨_, rfl, rfl, hp.1.sv, trivial⟩, rfl, trivial⟩
  · intro args p r h hp
    unfold c_rRight4 at h
    split at h <;> cases h
    exact good_sv (good_rRight4 _ _ (by rw [lstOf_length hp.1]; exact hp.2.1) hp.2.2) ⟨⟨_, rfl, rfl, hp.1.sv, trivial⟩, trivial⟩
end Go.Vd

set_option linter.unusedVariables false
set_option linter.unusedSimpArgs false
set_option maxRecDepth 100000
set_option maxHeartbeats 1000000
namespace Go.Vd
open Go.Proofs
theorem good24 (n : Int) : GoodP Tryd.prog gl0 137 [.int .i64 n] (r22 std n) := by
  refine fn_sound' (T := seatT) (G := noC) (X := noX) seatT_ok noC_ok noX_ok noI_ok mixed Tryd.func137 .one (fun A => [.int .i64 n]) (fun A => r22 A n) fun A hA => ?_
  cbv
  repeat with_reducible refine And.intro (dr_ok hA (by kernel_rfl)) ?_
  subst hA
  simp [std_add, std_sub, std_mul, std_quo, std_rem, std_band, std_bor, std_bxor, std_shl, std_shr, std_eq, std_ne, std_lt, std_le, std_conv, std_not, std_beq, std_bne, std_ite, std_want, std_and2, std_sadd, std_seq, std_sne, std_slt, std_sle, std_sgt, std_sge, std_slen, std_sget, std_scut, std_ofNat, std_toNat, std_nsub, std_nadd, std_lenOf, std_nz, std_nneg, std_inb, std_upto, std_slt63, std_grow, std_imp, std_impN, std_tr, std_tb, std_ti, std_ts, std_tn, std_tp, std_nmin, std_makes, std_room, std_zeros, std_nilq, std_notq, std_eqi, std_eqn, std_eqb, std_eqs, std_eqv, std_cat, std_lst, std_rset, std_rcopy, std_shift, std_eqr, std_strOf, std_bytesOf, std_isB, std_zOf, zOf_int, std_isI, isI_int, std_getL, std_nmul, std_sOf, sOf_str, std_isS, isS_str, bfield]
  rw [Bool.eq_iff_iff]
  simp
  omega
def bbit (h l : Nat) (n : Int) : Bool := if n ≤ 64 then h.testBit (64 - n).toNat else l.testBit (128 - n).toNat
def r25 (A : Ar) (h l n : Int) : SV := .bool (A.tb fun _ => bbit h.toNat l.toNat n)
theorem quo2 (a : Nat) (ha : a < 18446744073709551616) : IntKind.u64.wrap ((a : Int).tdiv 2) = ((a / 2 : Nat) : Int) := by
  rw [show ((a : Int).tdiv 2) = ((a / 2 : Nat) : Int) from rfl, wu64 ⟨by omega, by omega⟩]
theorem rem2 (a : Nat) : ((a : Int).tmod 2 == 1) = decide (a % 2 = 1) := by
  rw [show ((a : Int).tmod 2) = ((a % 2 : Nat) : Int) from rfl]
  by_cases h : a % 2 = 1
  · simp [h]
  · have : a % 2 = 0 := by omega
    simp [this]
theorem good25 {h l : Int} (n : Int) (hh : r64 h) (hl : r64 l) (h1 : 1 ≤ n) (h2 : n ≤ 128) : GoodP Tryd.prog gl0 138 [.agg [.int .u64 h, .int .u64 l], .int .i64 n] (r25 std h l n) := by
  obtain ⟨h, rfl, lh⟩ := r64_nat hh
  obtain ⟨l, rfl, ll⟩ := r64_nat hl
  refine fn_sound' (T := seatT) (G := noC) (X := noX) seatT_ok noC_ok noX_ok noI_ok mixed Tryd.func138 .one (fun A => [.agg [.int .u64 h, .int .u64 l], .int .i64 n]) (fun A => r25 A h l n) fun A hA => ?_
  cbv
  repeat' (first | with_reducible exact True.intro | with_reducible exact dr_ok hA (by kernel_rfl) | with_reducible refine And.intro ?_ ?_ | (intro hc; cbv))
  · have hn : 64 < n := by subst hA; simp [std_add, std_sub, std_mul, std_quo, std_rem, std_band, std_bor, std_bxor, std_shl, std_shr, std_eq, std_ne, std_lt, std_le, std_conv, std_not, std_beq, std_bne, std_ite, std_want, std_and2, std_sadd, std_seq, std_sne, std_slt, std_sle, std_sgt, std_sge, std_slen, std_sget, std_scut, std_ofNat, std_toNat, std_nsub, std_nadd, std_lenOf, std_nz, std_nneg, std_inb, std_upto, std_slt63, std_grow, std_imp, std_impN, std_tr, std_tb, std_ti, std_ts, std_tn, std_tp, std_nmin, std_makes, std_room, std_zeros, std_nilq, std_notq, std_eqi, std_eqn, std_eqb, std_eqs, std_eqv, std_cat, std_lst, std_rset, std_rcopy, std_shift, std_eqr, std_strOf, std_bytesOf, std_isB, std_zOf, zOf_int, std_isI, isI_int, std_getL, std_nmul, std_sOf, sOf_str, std_isS, isS_str] at hc; omega
    refine ⟨⟨{k : Nat // k ≤ (128 - n).toNat}, fun _ k => [(5, .int .u64 (A.ti fun _ => (l / 2 ^ k.1 : Nat))), (6, .int .i64 (A.ti fun _ => n - 64 + Int.ofNat k.1))], fun _ _ => [], fun k => (128 - n).toNat - k.1, true⟩, ⟨⟨0, by omega⟩, ?_⟩, ?_⟩
    · cbv
      subst hA
      simp [std_add, std_sub, std_mul, std_quo, std_rem, std_band, std_bor, std_bxor, std_shl, std_shr, std_eq, std_ne, std_lt, std_le, std_conv, std_not, std_beq, std_bne, std_ite, std_want, std_and2, std_sadd, std_seq, std_sne, std_slt, std_sle, std_sgt, std_sge, std_slen, std_sget, std_scut, std_ofNat, std_toNat, std_nsub, std_nadd, std_lenOf, std_nz, std_nneg, std_inb, std_upto, std_slt63, std_grow, std_imp, std_impN, std_tr, std_tb, std_ti, std_ts, std_tn, std_tp, std_nmin, std_makes, std_room, std_zeros, std_nilq, std_notq, std_eqi, std_eqn, std_eqb, std_eqs, std_eqv, std_cat, std_lst, std_rset, std_rcopy, std_shift, std_eqr, std_strOf, std_bytesOf, std_isB, std_zOf, zOf_int, std_isI, isI_int, std_getL, std_nmul, std_sOf, sOf_str, std_isS, isS_str]
      rw [w64 (by omega)]
    · rintro ⟨k, hk⟩
      cbv
      repeat' (first | with_reducible exact True.intro | with_reducible exact dr_ok hA (by kernel_rfl) | with_reducible refine And.intro ?_ ?_ | (intro hc; cbv))
      all_goals try (subst hA; simp [std_add, std_sub, std_mul, std_quo, std_rem, std_band, std_bor, std_bxor, std_shl, std_shr, std_eq, std_ne, std_lt, std_le, std_conv, std_not, std_beq, std_bne, std_ite, std_want, std_and2, std_sadd, std_seq, std_sne, std_slt, std_sle, std_sgt, std_sge, std_slen, std_sget, std_scut, std_ofNat, std_toNat, std_nsub, std_nadd, std_lenOf, std_nz, std_nneg, std_inb, std_upto, std_slt63, std_grow, std_imp, std_impN, std_tr, std_tb, std_ti, std_ts, std_tn, std_tp, std_nmin, std_makes, std_room, std_zeros, std_nilq, std_notq, std_eqi, std_eqn, std_eqb, std_eqs, std_eqv, std_cat, std_lst, std_rset, std_rcopy, std_shift, std_eqr, std_strOf, std_bytesOf, std_isB, std_zOf, zOf_int, std_isI, isI_int, std_getL, std_nmul, std_sOf, sOf_str, std_isS, isS_str]; done)
      · have hlt : k < (128 - n).toNat := by subst hA; simp [std_add, std_sub, std_mul, std_quo, std_rem, std_band, std_bor, std_bxor, std_shl, std_shr, std_eq, std_ne, std_lt, std_le, std_conv, std_not, std_beq, std_bne, std_ite, std_want, std_and2, std_sadd, std_seq, std_sne, std_slt, std_sle, std_sgt, std_sge, std_slen, std_sget, std_scut, std_ofNat, std_toNat, std_nsub, std_nadd, std_lenOf, std_nz, std_nneg, std_inb, std_upto, std_slt63, std_grow, std_imp, std_impN, std_tr, std_tb, std_ti, std_ts, std_tn, std_tp, std_nmin, std_makes, std_room, std_zeros, std_nilq, std_notq, std_eqi, std_eqn, std_eqb, std_eqs, std_eqv, std_cat, std_lst, std_rset, std_rcopy, std_shift, std_eqr, std_strOf, std_bytesOf, std_isB, std_zOf, zOf_int, std_isI, isI_int, std_getL, std_nmul, std_sOf, sOf_str, std_isS, isS_str] at hc; omega
        refine ⟨⟨k + 1, by omega⟩, ?_, show (128 - n).toNat - (k + 1) < (128 - n).toNat - k by omega⟩
        cbv
        repeat' (first | with_reducible exact True.intro | with_reducible exact dr_ok hA (by kernel_rfl) | with_reducible refine And.intro ?_ ?_ | (intro hc; cbv))
        all_goals (subst hA; simp only [std_add, std_sub, std_mul, std_quo, std_rem, std_band, std_bor, std_bxor, std_shl, std_shr, std_eq, std_ne, std_lt, std_le, std_conv, std_not, std_beq, std_bne, std_ite, std_want, std_and2, std_sadd, std_seq, std_sne, std_slt, std_sle, std_sgt, std_sge, std_slen, std_sget, std_scut, std_ofNat, std_toNat, std_nsub, std_nadd, std_lenOf, std_nz, std_nneg, std_inb, std_upto, std_slt63, std_grow, std_imp, std_impN, std_tr, std_tb, std_ti, std_ts, std_tn, std_tp, std_nmin, std_makes, std_room, std_zeros, std_nilq, std_notq, std_eqi, std_eqn, std_eqb, std_eqs, std_eqv, std_cat, std_lst, std_rset, std_rcopy, std_shift, std_eqr, std_strOf, std_bytesOf, std_isB, std_zOf, zOf_int, std_isI, isI_int, std_getL, std_nmul, std_sOf, sOf_str, std_isS, isS_str])
        · have := quo2 (l / 2 ^ k) (Nat.lt_of_le_of_lt (Nat.div_le_self _ _) ll)
          rw [Nat.div_div_eq_div_mul, ← Nat.pow_succ] at this
          exact this
        · rw [w64 (by simp only [Int.ofNat_eq_natCast]; omega)]
          show n - 64 + Int.ofNat k + 1 = n - 64 + Int.ofNat (k + 1)
          simp only [Int.ofNat_eq_natCast]
          omega
      · have hk8 : k = (128 - n).toNat := by subst hA; simp [std_add, std_sub, std_mul, std_quo, std_rem, std_band, std_bor, std_bxor, std_shl, std_shr, std_eq, std_ne, std_lt, std_le, std_conv, std_not, std_beq, std_bne, std_ite, std_want, std_and2, std_sadd, std_seq, std_sne, std_slt, std_sle, std_sgt, std_sge, std_slen, std_sget, std_scut, std_ofNat, std_toNat, std_nsub, std_nadd, std_lenOf, std_nz, std_nneg, std_inb, std_upto, std_slt63, std_grow, std_imp, std_impN, std_tr, std_tb, std_ti, std_ts, std_tn, std_tp, std_nmin, std_makes, std_room, std_zeros, std_nilq, std_notq, std_eqi, std_eqn, std_eqb, std_eqs, std_eqv, std_cat, std_lst, std_rset, std_rcopy, std_shift, std_eqr, std_strOf, std_bytesOf, std_isB, std_zOf, zOf_int, std_isI, isI_int, std_getL, std_nmul, std_sOf, sOf_str, std_isS, isS_str] at hc; omega
        subst hA
        simp only [std_add, std_sub, std_mul, std_quo, std_rem, std_band, std_bor, std_bxor, std_shl, std_shr, std_eq, std_ne, std_lt, std_le, std_conv, std_not, std_beq, std_bne, std_ite, std_want, std_and2, std_sadd, std_seq, std_sne, std_slt, std_sle, std_sgt, std_sge, std_slen, std_sget, std_scut, std_ofNat, std_toNat, std_nsub, std_nadd, std_lenOf, std_nz, std_nneg, std_inb, std_upto, std_slt63, std_grow, std_imp, std_impN, std_tr, std_tb, std_ti, std_ts, std_tn, std_tp, std_nmin, std_makes, std_room, std_zeros, std_nilq, std_notq, std_eqi, std_eqn, std_eqb, std_eqs, std_eqv, std_cat, std_lst, std_rset, std_rcopy, std_shift, std_eqr, std_strOf, std_bytesOf, std_isB, std_zOf, zOf_int, std_isI, isI_int, std_getL, std_nmul, std_sOf, sOf_str, std_isS, isS_str]
        have := rem2 (l / 2 ^ k)
        show (((l / 2 ^ k : Nat) : Int).tmod 2 == 1) = bbit h l n
        rw [this, bbit, if_neg (by omega), ← hk8, Nat.testBit_eq_decide_div_mod_eq]
  · have hn : n ≤ 64 := by subst hA; simp [std_add, std_sub, std_mul, std_quo, std_rem, std_band, std_bor, std_bxor, std_shl, std_shr, std_eq, std_ne, std_lt, std_le, std_conv, std_not, std_beq, std_bne, std_ite, std_want, std_and2, std_sadd, std_seq, std_sne, std_slt, std_sle, std_sgt, std_sge, std_slen, std_sget, std_scut, std_ofNat, std_toNat, std_nsub, std_nadd, std_lenOf, std_nz, std_nneg, std_inb, std_upto, std_slt63, std_grow, std_imp, std_impN, std_tr, std_tb, std_ti, std_ts, std_tn, std_tp, std_nmin, std_makes, std_room, std_zeros, std_nilq, std_notq, std_eqi, std_eqn, std_eqb, std_eqs, std_eqv, std_cat, std_lst, std_rset, std_rcopy, std_shift, std_eqr, std_strOf, std_bytesOf, std_isB, std_zOf, zOf_int, std_isI, isI_int, std_getL, std_nmul, std_sOf, sOf_str, std_isS, isS_str] at hc; omega
    refine ⟨⟨{k : Nat // k ≤ (64 - n).toNat}, fun _ k => [(5, .int .u64 (A.ti fun _ => (h / 2 ^ k.1 : Nat))), (6, .int .i64 (A.ti fun _ => n + Int.ofNat k.1))], fun _ _ => [], fun k => (64 - n).toNat - k.1, true⟩, ⟨⟨0, by omega⟩, ?_⟩, ?_⟩
    · cbv
      subst hA
      simp [std_add, std_sub, std_mul, std_quo, std_rem, std_band, std_bor, std_bxor, std_shl, std_shr, std_eq, std_ne, std_lt, std_le, std_conv, std_not, std_beq, std_bne, std_ite, std_want, std_and2, std_sadd, std_seq, std_sne, std_slt, std_sle, std_sgt, std_sge, std_slen, std_sget, std_scut, std_ofNat, std_toNat, std_nsub, std_nadd, std_lenOf, std_nz, std_nneg, std_inb, std_upto, std_slt63, std_grow, std_imp, std_impN, std_tr, std_tb, std_ti, std_ts, std_tn, std_tp, std_nmin, std_makes, std_room, std_zeros, std_nilq, std_notq, std_eqi, std_eqn, std_eqb, std_eqs, std_eqv, std_cat, std_lst, std_rset, std_rcopy, std_shift, std_eqr, std_strOf, std_bytesOf, std_isB, std_zOf, zOf_int, std_isI, isI_int, std_getL, std_nmul, std_sOf, sOf_str, std_isS, isS_str]
    · rintro ⟨k, hk⟩
      cbv
      repeat' (first | with_reducible exact True.intro | with_reducible exact dr_ok hA (by kernel_rfl) | with_reducible refine And.intro ?_ ?_ | (intro hc; cbv))
      all_goals try (subst hA; simp [std_add, std_sub, std_mul, std_quo, std_rem, std_band, std_bor, std_bxor, std_shl, std_shr, std_eq, std_ne, std_lt, std_le, std_conv, std_not, std_beq, std_bne, std_ite, std_want, std_and2, std_sadd, std_seq, std_sne, std_slt, std_sle, std_sgt, std_sge, std_slen, std_sget, std_scut, std_ofNat, std_toNat, std_nsub, std_nadd, std_lenOf, std_nz, std_nneg, std_inb, std_upto, std_slt63, std_grow, std_imp, std_impN, std_tr, std_tb, std_ti, std_ts, std_tn, std_tp, std_nmin, std_makes, std_room, std_zeros, std_nilq, std_notq, std_eqi, std_eqn, std_eqb, std_eqs, std_eqv, std_cat, std_lst, std_rset, std_rcopy, std_shift, std_eqr, std_strOf, std_bytesOf, std_isB, std_zOf, zOf_int, std_isI, isI_int, std_getL, std_nmul, std_sOf, sOf_str, std_isS, isS_str]; done)
      · have hlt : k < (64 - n).toNat := by subst hA; simp [std_add, std_sub, std_mul, std_quo, std_rem, std_band, std_bor, std_bxor, std_shl, std_shr, std_eq, std_ne, std_lt, std_le, std_conv, std_not, std_beq, std_bne, std_ite, std_want, std_and2, std_sadd, std_seq, std_sne, std_slt, std_sle, std_sgt, std_sge, std_slen, std_sget, std_scut, std_ofNat, std_toNat, std_nsub, std_nadd, std_lenOf, std_nz, std_nneg, std_inb, std_upto, std_slt63, std_grow, std_imp, std_impN, std_tr, std_tb, std_ti, std_ts, std_tn, std_tp, std_nmin, std_makes, std_room, std_zeros, std_nilq, std_notq, std_eqi, std_eqn, std_eqb, std_eqs, std_eqv, std_cat, std_lst, std_rset, std_rcopy, std_shift, std_eqr, std_strOf, std_bytesOf, std_isB, std_zOf, zOf_int, std_isI, isI_int, std_getL, std_nmul, std_sOf, sOf_str, std_isS, isS_str] at hc; omega
        refine ⟨⟨k + 1, by omega⟩, ?_, show (64 - n).toNat - (k + 1) < (64 - n).toNat - k by omega⟩
        cbv
        repeat' (first | with_reducible exact True.intro | with_reducible exact dr_ok hA (by kernel_rfl) | with_reducible refine And.intro ?_ ?_ | (intro hc; cbv))
        all_goals (subst hA; simp only [std_add, std_sub, std_mul, std_quo, std_rem, std_band, std_bor, std_bxor, std_shl, std_shr, std_eq, std_ne, std_lt, std_le, std_conv, std_not, std_beq, std_bne, std_ite, std_want, std_and2, std_sadd, std_seq, std_sne, std_slt, std_sle, std_sgt, std_sge, std_slen, std_sget, std_scut, std_ofNat, std_toNat, std_nsub, std_nadd, std_lenOf, std_nz, std_nneg, std_inb, std_upto, std_slt63, std_grow, std_imp, std_impN, std_tr, std_tb, std_ti, std_ts, std_tn, std_tp, std_nmin, std_makes, std_room, std_zeros, std_nilq, std_notq, std_eqi, std_eqn, std_eqb, std_eqs, std_eqv, std_cat, std_lst, std_rset, std_rcopy, std_shift, std_eqr, std_strOf, std_bytesOf, std_isB, std_zOf, zOf_int, std_isI, isI_int, std_getL, std_nmul, std_sOf, sOf_str, std_isS, isS_str])
        · have := quo2 (h / 2 ^ k) (Nat.lt_of_le_of_lt (Nat.div_le_self _ _) lh)
          rw [Nat.div_div_eq_div_mul, ← Nat.pow_succ] at this
          exact this
        · rw [w64 (by simp only [Int.ofNat_eq_natCast]; omega)]
          show n + Int.ofNat k + 1 = n + Int.ofNat (k + 1)
          simp only [Int.ofNat_eq_natCast]
          omega
      · have hk8 : k = (64 - n).toNat := by subst hA; simp [std_add, std_sub, std_mul, std_quo, std_rem, std_band, std_bor, std_bxor, std_shl, std_shr, std_eq, std_ne, std_lt, std_le, std_conv, std_not, std_beq, std_bne, std_ite, std_want, std_and2, std_sadd, std_seq, std_sne, std_slt, std_sle, std_sgt, std_sge, std_slen, std_sget, std_scut, std_ofNat, std_toNat, std_nsub, std_nadd, std_lenOf, std_nz, std_nneg, std_inb, std_upto, std_slt63, std_grow, std_imp, std_impN, std_tr, std_tb, std_ti, std_ts, std_tn, std_tp, std_nmin, std_makes, std_room, std_zeros, std_nilq, std_notq, std_eqi, std_eqn, std_eqb, std_eqs, std_eqv, std_cat, std_lst, std_rset, std_rcopy, std_shift, std_eqr, std_strOf, std_bytesOf, std_isB, std_zOf, zOf_int, std_isI, isI_int, std_getL, std_nmul, std_sOf, sOf_str, std_isS, isS_str] at hc; omega
        subst hA
        simp only [std_add, std_sub, std_mul, std_quo, std_rem, std_band, std_bor, std_bxor, std_shl, std_shr, std_eq, std_ne, std_lt, std_le, std_conv, std_not, std_beq, std_bne, std_ite, std_want, std_and2, std_sadd, std_seq, std_sne, std_slt, std_sle, std_sgt, std_sge, std_slen, std_sget, std_scut, std_ofNat, std_toNat, std_nsub, std_nadd, std_lenOf, std_nz, std_nneg, std_inb, std_upto, std_slt63, std_grow, std_imp, std_impN, std_tr, std_tb, std_ti, std_ts, std_tn, std_tp, std_nmin, std_makes, std_room, std_zeros, std_nilq, std_notq, std_eqi, std_eqn, std_eqb, std_eqs, std_eqv, std_cat, std_lst, std_rset, std_rcopy, std_shift, std_eqr, std_strOf, std_bytesOf, std_isB, std_zOf, zOf_int, std_isI, isI_int, std_getL, std_nmul, std_sOf, sOf_str, std_isS, isS_str]
        have := rem2 (h / 2 ^ k)
        show (((h / 2 ^ k : Nat) : Int).tmod 2 == 1) = bbit h l n
        rw [this, bbit, if_pos (by omega), ← hk8, Nat.testBit_eq_decide_div_mod_eq]
def r26 (A : Ar) (n : Int) : SV := .int .u64 (A.ti fun _ => (2 ^ n.toNat : Nat))
theorem good26 (n : Int) (h1 : 0 ≤ n) (h2 : n ≤ 63) : GoodP Tryd.prog gl0 139 [.int .i64 n] (r26 std n) := by
  refine fn_sound' (T := seatT) (G := noC) (X := noX) seatT_ok noC_ok noX_ok noI_ok mixed Tryd.func139 .one (fun A => [.int .i64 n]) (fun A => r26 A n) fun A hA => ?_
  cbv
  refine ⟨⟨{k : Nat // k ≤ n.toNat}, fun _ k => [(3, .int .u64 (A.ti fun _ => (2 ^ k.1 : Nat))), (4, .int .i64 (k.1 : Nat))], fun _ _ => [], fun k => n.toNat - k.1, true⟩, ⟨⟨0, by omega⟩, ?_⟩, ?_⟩
  · cbv
    subst hA
    simp [std_add, std_sub, std_mul, std_quo, std_rem, std_band, std_bor, std_bxor, std_shl, std_shr, std_eq, std_ne, std_lt, std_le, std_conv, std_not, std_beq, std_bne, std_ite, std_want, std_and2, std_sadd, std_seq, std_sne, std_slt, std_sle, std_sgt, std_sge, std_slen, std_sget, std_scut, std_ofNat, std_toNat, std_nsub, std_nadd, std_lenOf, std_nz, std_nneg, std_inb, std_upto, std_slt63, std_grow, std_imp, std_impN, std_tr, std_tb, std_ti, std_ts, std_tn, std_tp, std_nmin, std_makes, std_room, std_zeros, std_nilq, std_notq, std_eqi, std_eqn, std_eqb, std_eqs, std_eqv, std_cat, std_lst, std_rset, std_rcopy, std_shift, std_eqr, std_strOf, std_bytesOf, std_isB, std_zOf, zOf_int, std_isI, isI_int, std_getL, std_nmul, std_sOf, sOf_str, std_isS, isS_str]
  · rintro ⟨k, hk⟩
    cbv
    repeat' (first | with_reducible exact True.intro | with_reducible exact dr_ok hA (by kernel_rfl) | with_reducible refine And.intro ?_ ?_ | (intro hc; cbv))
    · have hlt : k < n.toNat := by subst hA; simp [std_add, std_sub, std_mul, std_quo, std_rem, std_band, std_bor, std_bxor, std_shl, std_shr, std_eq, std_ne, std_lt, std_le, std_conv, std_not, std_beq, std_bne, std_ite, std_want, std_and2, std_sadd, std_seq, std_sne, std_slt, std_sle, std_sgt, std_sge, std_slen, std_sget, std_scut, std_ofNat, std_toNat, std_nsub, std_nadd, std_lenOf, std_nz, std_nneg, std_inb, std_upto, std_slt63, std_grow, std_imp, std_impN, std_tr, std_tb, std_ti, std_ts, std_tn, std_tp, std_nmin, std_makes, std_room, std_zeros, std_nilq, std_notq, std_eqi, std_eqn, std_eqb, std_eqs, std_eqv, std_cat, std_lst, std_rset, std_rcopy, std_shift, std_eqr, std_strOf, std_bytesOf, std_isB, std_zOf, zOf_int, std_isI, isI_int, std_getL, std_nmul, std_sOf, sOf_str, std_isS, isS_str] at hc; omega
      refine ⟨⟨k + 1, by omega⟩, ?_, show n.toNat - (k + 1) < n.toNat - k by omega⟩
      cbv
      repeat' (first | with_reducible exact True.intro | with_reducible exact dr_ok hA (by kernel_rfl) | with_reducible refine And.intro ?_ ?_ | (intro hc; cbv))
      all_goals (subst hA; simp only [std_add, std_sub, std_mul, std_quo, std_rem, std_band, std_bor, std_bxor, std_shl, std_shr, std_eq, std_ne, std_lt, std_le, std_conv, std_not, std_beq, std_bne, std_ite, std_want, std_and2, std_sadd, std_seq, std_sne, std_slt, std_sle, std_sgt, std_sge, std_slen, std_sget, std_scut, std_ofNat, std_toNat, std_nsub, std_nadd, std_lenOf, std_nz, std_nneg, std_inb, std_upto, std_slt63, std_grow, std_imp, std_impN, std_tr, std_tb, std_ti, std_ts, std_tn, std_tp, std_nmin, std_makes, std_room, std_zeros, std_nilq, std_notq, std_eqi, std_eqn, std_eqb, std_eqs, std_eqv, std_cat, std_lst, std_rset, std_rcopy, std_shift, std_eqr, std_strOf, std_bytesOf, std_isB, std_zOf, zOf_int, std_isI, isI_int, std_getL, std_nmul, std_sOf, sOf_str, std_isS, isS_str])
      · have := pow_lt64 (show k + 1 ≤ 63 by omega)
        show IntKind.u64.wrap (2 * ((2 ^ k : Nat) : Int)) = ((2 ^ (k + 1) : Nat) : Int)
        rw [Nat.pow_succ] at this ⊢
        rw [wu64 ⟨by omega, by omega⟩]
        omega
      · show IntKind.i64.wrap ((k : Int) + 1) = ((k + 1 : Nat) : Int)
        rw [w64 (by omega)]
        omega
    · have hk8 : k = n.toNat := by subst hA; simp [std_add, std_sub, std_mul, std_quo, std_rem, std_band, std_bor, std_bxor, std_shl, std_shr, std_eq, std_ne, std_lt, std_le, std_conv, std_not, std_beq, std_bne, std_ite, std_want, std_and2, std_sadd, std_seq, std_sne, std_slt, std_sle, std_sgt, std_sge, std_slen, std_sget, std_scut, std_ofNat, std_toNat, std_nsub, std_nadd, std_lenOf, std_nz, std_nneg, std_inb, std_upto, std_slt63, std_grow, std_imp, std_impN, std_tr, std_tb, std_ti, std_ts, std_tn, std_tp, std_nmin, std_makes, std_room, std_zeros, std_nilq, std_notq, std_eqi, std_eqn, std_eqb, std_eqs, std_eqv, std_cat, std_lst, std_rset, std_rcopy, std_shift, std_eqr, std_strOf, std_bytesOf, std_isB, std_zOf, zOf_int, std_isI, isI_int, std_getL, std_nmul, std_sOf, sOf_str, std_isS, isS_str] at hc; omega
      subst hA hk8
      simp only [std_add, std_sub, std_mul, std_quo, std_rem, std_band, std_bor, std_bxor, std_shl, std_shr, std_eq, std_ne, std_lt, std_le, std_conv, std_not, std_beq, std_bne, std_ite, std_want, std_and2, std_sadd, std_seq, std_sne, std_slt, std_sle, std_sgt, std_sge, std_slen, std_sget, std_scut, std_ofNat, std_toNat, std_nsub, std_nadd, std_lenOf, std_nz, std_nneg, std_inb, std_upto, std_slt63, std_grow, std_imp, std_impN, std_tr, std_tb, std_ti, std_ts, std_tn, std_tp, std_nmin, std_makes, std_room, std_zeros, std_nilq, std_notq, std_eqi, std_eqn, std_eqb, std_eqs, std_eqv, std_cat, std_lst, std_rset, std_rcopy, std_shift, std_eqr, std_strOf, std_bytesOf, std_isB, std_zOf, zOf_int, std_isI, isI_int, std_getL, std_nmul, std_sOf, sOf_str, std_isS, isS_str]
end Go.Vd

set_option linter.unusedVariables false
set_option linter.unusedSimpArgs false
set_option maxRecDepth 100000
set_option maxHeartbeats 1000000
namespace Go.Vd
open Go.Proofs
noncomputable def c25 : Ct := fun A args => match args with
  | [.agg [.int .u64 h, .int .u64 l], .int .i64 n] => some (some (A.tp fun _ => r64 h ∧ r64 l ∧ 1 ≤ n ∧ n ≤ 128), r25 A h l n)
  | _ => none
noncomputable def c26 : Ct := fun A args => match args with
  | [.int .i64 n] => some (some (A.tp fun _ => 0 ≤ n ∧ n ≤ 63), r26 A n)
  | _ => none
noncomputable def g7 : Ar → Pu := addC 137 c22 (addC 138 c25 (addC 139 c26 g4))
theorem g7_ok : PuOk Tryd.prog gl0 (g7 std) := by
  refine addC_ok (addC_ok (addC_ok g4_ok ⟨_, Tryd.func139, rfl, by decide⟩ ?_) ⟨_, Tryd.func138, rfl, by decide⟩ ?_) ⟨_, Tryd.func137, rfl, by decide⟩ ?_
  · intro args p r h hp
    unfold c26 at h
    split at h <;> cases h
    exact good26 _ hp.1 hp.2
  · intro args p r h hp
    unfold c25 at h
    split at h <;> cases h
    exact good25 _ hp.1 hp.2.1 hp.2.2.1 hp.2.2.2
  · intro args p r h hp
    unfold c22 at h
    split at h <;> cases h
    exact good24 _
theorem bright_bits (h l : Nat) : bright h l = (!bbit h l 65 && (bbit h l 1 == decide (0 < l))) := by
  have e1 : bbit h l 65 = l.testBit 63 := rfl
  have e2 : bbit h l 1 = h.testBit 63 := rfl
  rw [e1, e2, bright]
  congr 2
  rw [decide_eq_decide]; omega
theorem bhas_bit (h l : Nat) (n : Int) : bhas h l n = (bfield n && bbit h l n) := rfl
theorem good12 {h l : Int} (hh : r64 h) (hl : r64 l) : GoodP Tryd.prog gl0 136 [.agg [.int .u64 h, .int .u64 l]] (r11 std h l) := by
  obtain ⟨h, rfl, lh⟩ := r64_nat hh
  obtain ⟨l, rfl, ll⟩ := r64_nat hl
  refine fn_sound' (T := seatT) (G := g7) (X := noX) seatT_ok g7_ok noX_ok noI_ok mixed Tryd.func136 .one (fun A => [.agg [.int .u64 h, .int .u64 l]]) (fun A => r11 A h l) fun A hA => ?_
  cbv
  repeat with_reducible refine And.intro (dr_ok hA (by kernel_rfl)) ?_
  subst hA
  simp [std_add, std_sub, std_mul, std_quo, std_rem, std_band, std_bor, std_bxor, std_shl, std_shr, std_eq, std_ne, std_lt, std_le, std_conv, std_not, std_beq, std_bne, std_ite, std_want, std_and2, std_sadd, std_seq, std_sne, std_slt, std_sle, std_sgt, std_sge, std_slen, std_sget, std_scut, std_ofNat, std_toNat, std_nsub, std_nadd, std_lenOf, std_nz, std_nneg, std_inb, std_upto, std_slt63, std_grow, std_imp, std_impN, std_tr, std_tb, std_ti, std_ts, std_tn, std_tp, std_nmin, std_makes, std_room, std_zeros, std_nilq, std_notq, std_eqi, std_eqn, std_eqb, std_eqs, std_eqv, std_cat, std_lst, std_rset, std_rcopy, std_shift, std_eqr, std_strOf, std_bytesOf, std_isB, std_zOf, zOf_int, std_isI, isI_int, std_getL, std_nmul, std_sOf, sOf_str, std_isS, isS_str, hh, hl, bright_bits]
theorem good14 {h l : Int} (n : Int) (hh : r64 h) (hl : r64 l) : GoodP Tryd.prog gl0 88 [.agg [.int .u64 h, .int .u64 l], .int .i64 n] (r13 std h l n) := by
  obtain ⟨h, rfl, lh⟩ := r64_nat hh
  obtain ⟨l, rfl, ll⟩ := r64_nat hl
  refine fn_sound' (T := seatT) (G := g7) (X := noX) seatT_ok g7_ok noX_ok noI_ok mixed Tryd.func88 .one (fun A => [.agg [.int .u64 h, .int .u64 l], .int .i64 n]) (fun A => r13 A h l n) fun A hA => ?_
  cbv
  repeat with_reducible refine And.intro (dr_ok hA (by kernel_rfl)) ?_
  subst hA
  simp [std_add, std_sub, std_mul, std_quo, std_rem, std_band, std_bor, std_bxor, std_shl, std_shr, std_eq, std_ne, std_lt, std_le, std_conv, std_not, std_beq, std_bne, std_ite, std_want, std_and2, std_sadd, std_seq, std_sne, std_slt, std_sle, std_sgt, std_sge, std_slen, std_sget, std_scut, std_ofNat, std_toNat, std_nsub, std_nadd, std_lenOf, std_nz, std_nneg, std_inb, std_upto, std_slt63, std_grow, std_imp, std_impN, std_tr, std_tb, std_ti, std_ts, std_tn, std_tp, std_nmin, std_makes, std_room, std_zeros, std_nilq, std_notq, std_eqi, std_eqn, std_eqb, std_eqs, std_eqv, std_cat, std_lst, std_rset, std_rcopy, std_shift, std_eqr, std_strOf, std_bytesOf, std_isB, std_zOf, zOf_int, std_isI, isI_int, std_getL, std_nmul, std_sOf, sOf_str, std_isS, isS_str, bhas_bit]
  cases hf : bfield n
  · simp
  · have hf' := bfield_iff.1 hf
    simp [hh, hl]
    omega
noncomputable def g8 : Ar → Pu := addC 136 c11 (addC 88 c13 g7)
theorem g8_ok : PuOk Tryd.prog gl0 (g8 std) := by
  refine addC_ok (addC_ok g7_ok ⟨_, Tryd.func88, rfl, by decide⟩ ?_) ⟨_, Tryd.func136, rfl, by decide⟩ ?_
  · intro args p r h hp
    unfold c13 at h
    split at h <;> cases h
    exact good14 _ hp.1 hp.2
  · intro args p r h hp
    unfold c11 at h
    split at h <;> cases h
    exact good12 hp.1 hp.2
theorem add_or (k : Nat) : ∀ a : Nat, a.testBit k = false → a + 2 ^ k = a ||| 2 ^ k := by
  induction k with
  | zero =>
    intro a h
    apply Nat.eq_of_testBit_eq
    intro i
    have h0 : a % 2 = 0 := by
      rw [Nat.testBit_zero] at h
      have := of_decide_eq_false h
      omega
    cases i with
    | zero => rw [Nat.testBit_or, Nat.testBit_zero, Nat.testBit_zero, Nat.testBit_zero]; simp; omega
    | succ i =>
      rw [Nat.testBit_or, Nat.testBit_succ, Nat.testBit_succ, Nat.testBit_succ]
      rw [show (a + 2 ^ 0) / 2 = a / 2 by simp; omega]
      simp
  | succ k ih =>
    intro a h
    rw [Nat.testBit_succ] at h
    have := ih (a / 2) h
    apply Nat.eq_of_testBit_eq
    intro i
    have hp : 2 ^ (k + 1) = 2 * 2 ^ k := by rw [Nat.pow_succ, Nat.mul_comm]
    cases i with
    | zero => rw [Nat.testBit_or, Nat.testBit_zero, Nat.testBit_zero, Nat.testBit_zero, hp]; simp
    | succ i =>
      rw [Nat.testBit_or, Nat.testBit_succ, Nat.testBit_succ, Nat.testBit_succ, hp]
      rw [show (a + 2 * 2 ^ k) / 2 = a / 2 + 2 ^ k by omega, show 2 * 2 ^ k / 2 = 2 ^ k by omega, this, Nat.testBit_or]
theorem or_same (k : Nat) (a : Nat) (h : a.testBit k = true) : a ||| 2 ^ k = a := by
  apply Nat.eq_of_testBit_eq
  intro i
  rw [Nat.testBit_or, Nat.testBit_two_pow]
  by_cases e : k = i
  · subst e; simp [h]
  · simp [e]
/-- What putting does, by sums. -/
theorem put_had {h l : Nat} {n : Int} (hb : bright h l = true) (hf : bfield n = true) (hq : bbit h l n = true) : bput h l n = (h, l) := by
  have h0 := bright_iff.1 hb
  unfold bbit at hq
  unfold bput
  rw [hb, hf]
  simp only [Bool.and_self, if_true]
  by_cases hn : n ≤ 64
  · rw [if_pos hn] at hq
    simp only [bhi, blo, hn, if_true, Nat.or_zero]
    rw [or_same _ _ hq]
    by_cases hl : l = 0
    · simp [hl]
    · have ht : h.testBit 63 = true := by rw [h0.2]; simp [hl]
      have := or_same 63 h ht
      simp [hl]
      exact this
  · rw [if_neg hn] at hq
    simp only [bhi, blo, hn, if_false, Nat.or_zero]
    rw [or_same _ _ hq]
    have hl : l ≠ 0 := by intro e; subst e; simp at hq
    have ht : h.testBit 63 = true := by rw [h0.2]; simp [hl]
    have := or_same 63 h ht
    simp [hl]
    exact this
theorem put_hi {h l : Nat} {n : Int} (hb : bright h l = true) (hf : bfield n = true) (hq : bbit h l n = false) (hn : n ≤ 64) : bput h l n = (h + 2 ^ (64 - n).toNat, l) := by
  have h0 := bright_iff.1 hb
  have h1 := bfield_iff.1 hf
  unfold bbit at hq
  rw [if_pos hn] at hq
  unfold bput
  rw [hb, hf, add_or _ _ hq]
  simp only [Bool.and_self, if_true, bhi, blo, hn, Nat.or_zero]
  by_cases hl : l = 0
  · simp [hl]
  · have ht : (h ||| 2 ^ (64 - n).toNat).testBit 63 = true := by rw [Nat.testBit_or, h0.2]; simp [hl]
    have := or_same 63 _ ht
    simp [hl]
    exact this
theorem put_lo {h l : Nat} {n : Int} (hb : bright h l = true) (hf : bfield n = true) (hq : bbit h l n = false) (hn : ¬ n ≤ 64) : bput h l n = (if l = 0 then h + 2 ^ 63 else h, l + 2 ^ (128 - n).toNat) := by
  have h0 := bright_iff.1 hb
  have h1 := bfield_iff.1 hf
  unfold bbit at hq
  rw [if_neg hn] at hq
  unfold bput
  rw [hb, hf, add_or _ _ hq]
  have hne : l ||| 2 ^ (128 - n).toNat ≠ 0 := fun e => by
    have := (or_zero_iff.1 e).2
    have := Nat.two_pow_pos (128 - n).toNat
    omega
  simp only [Bool.and_self, if_true, bhi, blo, hn, if_false, Nat.or_zero, hne, ne_eq, not_false_eq_true]
  by_cases hl : l = 0
  · have ht : h.testBit 63 = false := by rw [h0.2]; simp [hl]
    have := add_or 63 h ht
    simp [hl]
    exact this.symm
  · have ht : h.testBit 63 = true := by rw [h0.2]; simp [hl]
    have := or_same 63 h ht
    simp [hl]
    exact this
theorem wsum {a k : Nat} (hb : a + 2 ^ k < 18446744073709551616) : IntKind.u64.wrap ((a : Int) + 2 ^ k) = ((a + 2 ^ k : Nat) : Int) := by
  have e : (a : Int) + 2 ^ k = ((a + 2 ^ k : Nat) : Int) := by simp
  rw [e]
  generalize a + 2 ^ k = m at hb ⊢
  exact wu64 ⟨by omega, by omega⟩
theorem good8 {h l : Int} (n : Int) (hh : r64 h) (hl : r64 l) : GoodP Tryd.prog gl0 78 [.agg [.int .u64 h, .int .u64 l], .int .i64 n] (r7 std h l n) := by
  obtain ⟨h, rfl, lh⟩ := r64_nat hh
  obtain ⟨l, rfl, ll⟩ := r64_nat hl
  refine fn_sound' (T := seatT) (G := g8) (X := noX) seatT_ok g8_ok noX_ok noI_ok mixed Tryd.func78 .one (fun A => [.agg [.int .u64 h, .int .u64 l], .int .i64 n]) (fun A => r7 A h l n) fun A hA => ?_
  cbv
  repeat' (first | with_reducible exact True.intro | with_reducible exact dr_ok hA (by kernel_rfl) | with_reducible refine And.intro ?_ ?_ | (intro hc; cbv))
  all_goals (subst hA; simp [std_add, std_sub, std_mul, std_quo, std_rem, std_band, std_bor, std_bxor, std_shl, std_shr, std_eq, std_ne, std_lt, std_le, std_conv, std_not, std_beq, std_bne, std_ite, std_want, std_and2, std_sadd, std_seq, std_sne, std_slt, std_sle, std_sgt, std_sge, std_slen, std_sget, std_scut, std_ofNat, std_toNat, std_nsub, std_nadd, std_lenOf, std_nz, std_nneg, std_inb, std_upto, std_slt63, std_grow, std_imp, std_impN, std_tr, std_tb, std_ti, std_ts, std_tn, std_tp, std_nmin, std_makes, std_room, std_zeros, std_nilq, std_notq, std_eqi, std_eqn, std_eqb, std_eqs, std_eqv, std_cat, std_lst, std_rset, std_rcopy, std_shift, std_eqr, std_strOf, std_bytesOf, std_isB, std_zOf, zOf_int, std_isI, isI_int, std_getL, std_nmul, std_sOf, sOf_str, std_isS, isS_str] at *)
  all_goals have hlt := bput_lt n lh ll
  all_goals first
    | exact ⟨hh, hl⟩
    | (have hq : (bright h l && bfield n) = false := by rcases hc with hc | hc <;> simp [hc]
       simp [bput, berr, hq]; done)
    | (have hb : bright h l = true ∧ bfield n = true := by assumption
       have hf := bfield_iff.1 hb.2
       first
         | exact ⟨hh, hl, by omega, by omega⟩
         | (simp [berr, hb.1, hb.2]; done)
         | (rw [w64 (by omega)]; omega)
         | (rw [put_had hb.1 hb.2 (by assumption)]; done)
         | (rw [put_hi hb.1 hb.2 (by assumption) (by assumption)] at hlt ⊢
            first
              | done
              | (rw [w64 (by omega)]; exact wsum hlt.1))
         | (rw [put_lo hb.1 hb.2 (by assumption) (by omega)] at hlt ⊢
            first
              | (rw [w64 (by omega)]; exact wsum hlt.2)
              | (simp only [hc, if_true] at hlt ⊢
                 have := wsum hlt.1
                 simpa using this)
              | (simp only [hc, if_false]; done)))
    | trace_state
noncomputable def g9 : Ar → Pu := addC 78 c7 g8
theorem g9_ok : PuOk Tryd.prog gl0 (g9 std) := by
  refine addC_ok g8_ok ⟨_, Tryd.func78, rfl, by decide⟩ ?_
  intro args p r h hp
  unfold c7 at h
  split at h <;> cases h
  exact good8 _ hp.1 hp.2
end Go.Vd

