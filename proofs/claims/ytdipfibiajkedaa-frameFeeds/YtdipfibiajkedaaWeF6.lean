/- The frame's laws: awake, FrameRight. -/
import Derived.Test.YtdipfibiajkedaaWeF5
set_option linter.unusedVariables false
set_option linter.unusedSimpArgs false
set_option maxRecDepth 100000
set_option maxHeartbeats 4000000
namespace Go.Vd
open Go.Proofs
def fPutR (L : List UInt8) : List UInt8 := if L.length = 0 then [] else if 2048 < L.length then [] else fPutL L
def fPutE (L : List UInt8) : Int := if L.length = 0 then 2 else if 2048 < L.length then 4 else 0
noncomputable def c_fPut : Ct := fun A args => match args with
  | [.slc n 1 f] => some (some (A.tp fun _ => isRow eB 0 1 n f ∧ n ≤ 1000000), .tup [rowS eB 0 1 A fun _ => fPutR (lstOf eB 0 1 n f), .int .i64 (A.ti fun _ => fPutE (lstOf eB 0 1 n f))])
  | _ => none
noncomputable def c_rfPut : Ct := fun A args => match args with
  | [.slc n 1 f] => some (some (A.tp fun _ => isRow eB 0 1 n f ∧ n ≤ 1000000), rowS eB 0 1 A fun _ => fPutL (lstOf eB 0 1 n f))
  | _ => none
noncomputable def c_fFeed : Ct := fun A args => match args with
  | [.agg [.slc n 1 f, .bool br], .slc m 1 g] => some (some (A.tp fun _ => (isRow eB 0 1 n f ∧ isRow eB 0 1 m g) ∧ n ≤ 20000 ∧ m ≤ 20000), .tup [sR A (fun _ => (fFeed (lstOf eB 0 1 n f) br (lstOf eB 0 1 m g)).rest) (A.tb fun _ => (fFeed (lstOf eB 0 1 n f) br (lstOf eB 0 1 m g)).br), rowS eBs [] 1 A fun _ => (fFeed (lstOf eB 0 1 n f) br (lstOf eB 0 1 m g)).told, .int .i64 (A.ti fun _ => (fFeed (lstOf eB 0 1 n f) br (lstOf eB 0 1 m g)).e)])
  | _ => none
noncomputable def c_rfFeed : Ct := fun A args => match args with
  | [.agg [.slc n 1 f, .bool br], .slc m 1 g] => some (some (A.tp fun _ => (isRow eB 0 1 n f ∧ isRow eB 0 1 m g) ∧ n ≤ 20000 ∧ m ≤ 20000), .tup [sR A (fun _ => (fFeed (lstOf eB 0 1 n f) br (lstOf eB 0 1 m g)).rest) (A.tb fun _ => (fFeed (lstOf eB 0 1 n f) br (lstOf eB 0 1 m g)).br), rowS eBs [] 1 A fun _ => (fFeed (lstOf eB 0 1 n f) br (lstOf eB 0 1 m g)).told, .int .i64 (A.ti fun _ => (fFeed (lstOf eB 0 1 n f) br (lstOf eB 0 1 m g)).e)])
  | _ => none
noncomputable def c_fSame : Ct := fun A args => match args with
  | [.agg [.slc n 1 f, .bool br], .agg [.slc m 1 g, .bool bs]] => some (some (A.tp fun _ => isRow eB 0 1 n f ∧ isRow eB 0 1 m g), .bool (A.tb fun _ => decide (br = bs ∧ lstOf eB 0 1 n f = lstOf eB 0 1 m g)))
  | _ => none
noncomputable def c_bLists : Ct := fun A args => match args with
  | [.slc n 1 f, .slc m 1 g] => some (some (A.tp fun _ => isRow eBs [] 1 n f ∧ isRow eBs [] 1 m g ∧ n ≤ 1000000), .bool (A.tb fun _ => decide (lstOf eBs [] 1 n f = lstOf eBs [] 1 m g)))
  | _ => none
noncomputable def gf4 : Ar → Pu := addC 8 c_fPut (addC 9 c_rfPut (addC 10 c_fFeed (addC 11 c_rfFeed (addC 14 c_fSame (addC 15 c_bLists (gf3))))))
theorem gf4_ok : PuOk Try.prog gl0 (gf4 std) := by
  refine addC_ok (addC_ok (addC_ok (addC_ok (addC_ok (addC_ok (gf3_ok) ⟨_, Try.func15, rfl, by decide⟩ ?_) ⟨_, Try.func14, rfl, by decide⟩ ?_) ⟨_, Try.func11, rfl, by decide⟩ ?_) ⟨_, Try.func10, rfl, by decide⟩ ?_) ⟨_, Try.func9, rfl, by decide⟩ ?_) ⟨_, Try.func8, rfl, by decide⟩ ?_
  · intro args p r h hp
    unfold c_bLists at h
    split at h <;> cases h
    exact good_sv (good_bLists _ _ (by rw [lstOf_length hp.1]; exact hp.2.2)) ⟨hp.1.sv, hp.2.1.sv, trivial⟩
  · intro args p r h hp
    unfold c_fSame at h
    split at h <;> cases h
    exact good_sv (good_fSame _ _ _ _) ⟨⟨_, rfl, hp.1.sv, rfl, trivial⟩, ⟨_, rfl, hp.2.sv, rfl, trivial⟩, trivial⟩
  · intro args p r h hp
    unfold c_rfFeed at h
    split at h <;> cases h
    exact good_sv (good_rfFeed _ _ _ (by rw [lstOf_length hp.1.1]; exact hp.2.1) (by rw [lstOf_length hp.1.2]; exact hp.2.2)) ⟨⟨_, rfl, hp.1.1.sv, rfl, trivial⟩, hp.1.2.sv, trivial⟩
  · intro args p r h hp
    unfold c_fFeed at h
    split at h <;> cases h
    exact good_sv (good_fFeed _ _ _ (by rw [lstOf_length hp.1.1]; exact hp.2.1) (by rw [lstOf_length hp.1.2]; exact hp.2.2)) ⟨⟨_, rfl, hp.1.1.sv, rfl, trivial⟩, hp.1.2.sv, trivial⟩
  · intro args p r h hp
    unfold c_rfPut at h
    split at h <;> cases h
    exact good_sv (good_rfPut _ (by rw [lstOf_length hp.1]; exact hp.2)) ⟨hp.1.sv, trivial⟩
  · intro args p r h hp
    unfold c_fPut at h
    split at h <;> cases h
    exact good_sv (good_fPut _ (by rw [lstOf_length hp.1]; exact hp.2)) ⟨hp.1.sv, trivial⟩
theorem feed1 : fFeed [] false [0, 1, 65, 0] = ⟨[0], false, [[65]], 0⟩ := by
  rw [fFeed_go (by decide), List.nil_append, fParse_more (by decide) (by decide) (by decide), fParse_short (by decide)]
  rfl
theorem feed2 : fFeed [0] false [0] = ⟨[], true, [], 12⟩ := by
  rw [fFeed_go (by decide), fParse_bad (by decide) (by decide)]
  rfl
theorem put1 : fPutR [65] = [0, 1, 65] := by decide
theorem put2 : fPutE [65] = 0 := by decide
theorem put3 : fPutE [] = 2 := by decide
theorem l65 : lstOf eB 0 1 1 (lstS [[SV.int IntKind.u8 65]]) = [65] := lstOf_eq inj_eB (Reps.one (cell_eB rfl))
theorem l0 : lstOf eB 0 1 1 (lstS [[SV.int IntKind.u8 0]]) = [0] := lstOf_eq inj_eB (Reps.one (cell_eB rfl))
theorem r65 : isRow eB 0 1 1 (lstS [[SV.int IntKind.u8 65]]) := ⟨[65], Reps.one (cell_eB rfl)⟩
theorem r0 : isRow eB 0 1 1 (lstS [[SV.int IntKind.u8 0]]) := ⟨[0], Reps.one (cell_eB rfl)⟩
theorem qc : Reps eB 0 1 (0 + [(0 : UInt8), 1, 65].length + 1) (catS (0 + [(0 : UInt8), 1, 65].length) (catS 0 (fun x x_1 => SV.any) (rowF eB 0 std fun _ => [0, 1, 65])) (lstS [[SV.int IntKind.u8 0]])) [0, 1, 65, 0] :=
  (Reps.nil.cat (Reps.lit [0, 1, 65])).cat (Reps.one (x := 0) (cell_eB rfl))
theorem lc : lstOf eB 0 1 (0 + [(0 : UInt8), 1, 65].length + 1) (catS (0 + [(0 : UInt8), 1, 65].length) (catS 0 (fun x x_1 => SV.any) (rowF eB 0 std fun _ => [0, 1, 65])) (lstS [[SV.int IntKind.u8 0]])) = [0, 1, 65, 0] := lstOf_eq inj_eB qc
theorem rc : isRow eB 0 1 (0 + [(0 : UInt8), 1, 65].length + 1) (catS (0 + [(0 : UInt8), 1, 65].length) (catS 0 (fun x x_1 => SV.any) (rowF eB 0 std fun _ => [0, 1, 65])) (lstS [[SV.int IntKind.u8 0]])) := ⟨_, qc⟩
theorem good_fAwake  : GoodP Try.prog gl0 7 [] (.bool true) := by
  refine fn_sound' (T := seatT) (G := gf4) (X := noX) seatT_ok gf4_ok noX_ok noI_ok mixed Try.func7 (.one) (fun A => []) (fun A => .bool true) fun A hA => ?_
  cbv
  repeat' (first | with_reducible exact True.intro | with_reducible exact dr_ok hA (by kernel_rfl) | with_reducible refine And.intro ?_ ?_ | (intro hc; cbv))
  all_goals (subst hA; simp only [std_add, std_sub, std_mul, std_quo, std_rem, std_band, std_bor, std_bxor, std_shl, std_shr, std_eq, std_ne, std_lt, std_le, std_conv, std_not, std_beq, std_bne, std_ite, std_want, std_and2, std_sadd, std_seq, std_sne, std_slt, std_sle, std_sgt, std_sge, std_slen, std_sget, std_scut, std_ofNat, std_toNat, std_nsub, std_nadd, std_lenOf, std_nz, std_nneg, std_inb, std_upto, std_slt63, std_grow, std_imp, std_impN, std_tr, std_tb, std_ti, std_ts, std_tn, std_tp, std_nmin, std_makes, std_room, std_zeros, std_nilq, std_notq, std_eqi, std_eqn, std_eqb, std_eqs, std_eqv, std_cat, std_lst, std_rset, std_rcopy, std_shift, std_eqr, std_strOf, std_bytesOf, std_isB, std_zOf, zOf_int, std_isI, isI_int, strOf_lit, lstOf_lit inj_eB, lstOf_lit inj_eZ, lstOf_lit inj_eBs, lstOf_lit inj_eS, isRow_lit, isB_lit, isRow_nil, lstOf_nil inj_eB, lstOf_nil inj_eZ, lstOf_nil inj_eBs, lstOf_nil inj_eS, l65, l0, r65, r0, put1, put2, put3, lc, rc, feed1, feed2])
  all_goals first
    | decide
    | exact ⟨⟨trivial, trivial⟩, by decide⟩
    | trace_state
noncomputable def c_fAwake : Ct := fun A args => match args with
  | [] => some (none, .bool true)
  | _ => none
noncomputable def gf5 : Ar → Pu := addC 7 c_fAwake (gf4)
theorem gf5_ok : PuOk Try.prog gl0 (gf5 std) := by
  refine addC_ok (gf4_ok) ⟨_, Try.func7, rfl, by decide⟩ ?_
  · intro args p r h hp
    unfold c_fAwake at h
    split at h <;> cases h
    exact good_fAwake
theorem pe0 {B : List UInt8} (h : B = []) : fPutE B = 2 ∧ fPutR B = [] := by subst h; exact ⟨rfl, rfl⟩
theorem pe1 {B : List UInt8} (h : 2048 < B.length) : fPutE B = 4 ∧ fPutR B = [] := by
  unfold fPutE fPutR
  rw [if_neg (by omega), if_pos h, if_neg (by omega), if_pos h]
  exact ⟨rfl, rfl⟩
theorem pe2 {B : List UInt8} (h0 : ¬B = []) (h : ¬2048 < B.length) : fPutE B = 0 ∧ fPutR B = fPutL B := by
  have : ¬B.length = 0 := fun e => h0 (List.length_eq_zero_iff.1 e)
  unfold fPutE fPutR
  rw [if_neg this, if_neg h, if_neg this, if_neg h]
  exact ⟨rfl, rfl⟩
theorem fParse_told (n : Nat) : ∀ L : List UInt8, L.length = n → (fParse L).1.length ≤ L.length := by
  induction n using Nat.strongRecOn with
  | _ n ih =>
    intro L hL
    by_cases h0 : L.length < 2
    · rw [fParse_short h0]; simp
    · cases h1 : fMay (fLen L) with
      | false => rw [fParse_bad h0 h1]; simp
      | true =>
        by_cases h2 : L.length < 2 + fLen L
        · rw [fParse_part h0 h1 h2]; simp
        · rw [fParse_more h0 h1 h2]
          have h := ih (L.drop (2 + fLen L)).length (by rw [List.length_drop]; omega) _ rfl
          rw [List.length_drop] at h
          simp only [List.length_cons]
          omega
theorem fFeed_told {L B : List UInt8} {br : Bool} : (fFeed L br B).told.length ≤ L.length + B.length := by
  cases h : fOk L br
  · rw [fFeed_bad h]; simp
  · cases br
    · rw [fFeed_go h]
      have := fParse_told _ (L ++ B) rfl
      rw [List.length_append] at this
      exact this
    · rw [fFeed_br h]; simp
theorem fFeed_rest {L B : List UInt8} {br : Bool} : (fFeed L br B).rest.length ≤ L.length + B.length := by
  cases h : fOk L br
  · rw [fFeed_bad h]; simp
  · cases br
    · rw [fFeed_go h]
      have := (fParse_ok _ (L ++ B) rfl).2
      rw [List.length_append] at this
      exact this
    · rw [fFeed_br h]; simp
theorem good_FrameRight (br : Bool) (L B : List UInt8) : GoodP Try.prog gl0 3 [sR std (fun _ => L) br, rowS eB 0 1 std fun _ => B] (.bool true) := by
  refine fn_sound' (T := seatT) (G := gf5) (X := noX) seatT_ok gf5_ok noX_ok noI_ok mixed Try.func3 (.one) (fun A => [sR A (fun _ => L) br, rowS eB 0 1 A fun _ => B]) (fun A => .bool true) fun A hA => ?_
  cbv
  repeat' (first | with_reducible exact True.intro | with_reducible exact dr_ok hA (by kernel_rfl) | with_reducible refine And.intro ?_ ?_ | (intro hc; cbv))
  all_goals (subst hA; simp [-List.getD_eq_getElem?_getD, std_add, std_sub, std_mul, std_quo, std_rem, std_band, std_bor, std_bxor, std_shl, std_shr, std_eq, std_ne, std_lt, std_le, std_conv, std_not, std_beq, std_bne, std_ite, std_want, std_and2, std_sadd, std_seq, std_sne, std_slt, std_sle, std_sgt, std_sge, std_slen, std_sget, std_scut, std_ofNat, std_toNat, std_nsub, std_nadd, std_lenOf, std_nz, std_nneg, std_inb, std_upto, std_slt63, std_grow, std_imp, std_impN, std_tr, std_tb, std_ti, std_ts, std_tn, std_tp, std_nmin, std_makes, std_room, std_zeros, std_nilq, std_notq, std_eqi, std_eqn, std_eqb, std_eqs, std_eqv, std_cat, std_lst, std_rset, std_rcopy, std_shift, std_eqr, std_strOf, std_bytesOf, std_isB, std_zOf, zOf_int, std_isI, isI_int, strOf_lit, lstOf_lit inj_eB, lstOf_lit inj_eZ, lstOf_lit inj_eBs, lstOf_lit inj_eS, isRow_lit, isB_lit, isRow_nil, lstOf_nil inj_eB, lstOf_nil inj_eZ, lstOf_nil inj_eBs, lstOf_nil inj_eS] at *)
  all_goals (have hT := fFeed_told (L := L) (B := B) (br := br))
  all_goals first
    | omega
    | (constructor <;> omega)
    | (have hB : B = [] := by assumption
       have h := pe0 hB
       simp [h] at *; done)
    | (have hB : 2048 < B.length := by omega
       have h := pe1 hB
       simp [h] at *; try omega; done)
    | (have hB : ¬2048 < B.length := by omega
       have h := pe2 (by assumption) hB
       simp [h] at *; try omega; done)
    | trace_state
end Go.Vd
