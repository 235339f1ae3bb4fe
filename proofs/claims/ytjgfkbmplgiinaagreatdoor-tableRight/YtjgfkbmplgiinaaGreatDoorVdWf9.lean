/- TableRight. -/
import Derived.Test.YtjgfkbmplgiinaaGreatDoorVdVB
import Derived.Test.YtjgfkbmplgiinaaGreatDoorVdRow2
import Derived.Lib.SmallJoins
import Derived.Test.YtjgfkbmplgiinaaGreatDoorRows
import Derived.Test.YtjgfkbmplgiinaaGreatDoorCards
import Derived.Test.YtjgfkbmplgiinaaGreatDoorTie
import Derived.Test.YtjgfkbmplgiinaaGreatDoorVdM1
import Derived.ProofKit
import Derived.LaidMore
import Derived.OpenShut
import Derived.Stop.Joined
import Derived.SevenTiedAt
import Derived.Lib.LaidTab
import Derived.Test.YtjgfkbmplgiinaaGreatDoorVdV6
set_option linter.unusedVariables false
set_option linter.unusedSimpArgs false
set_option maxRecDepth 100000
set_option maxHeartbeats 8000000
namespace Go.Vd
open Go.Proofs
noncomputable def c_tSizeQ : Ct := fun A args => match args with
  | [.int .i64 m, .int .i64 n] => some (none, .bool (A.tb fun _ => szR m n))
  | _ => none
noncomputable def c_tCountQ : Ct := fun A args => match args with
  | [.agg [.int .i64 m, .slc n 1 f]] => some (some (A.tp fun _ => isRow eEs [] 1 n f ∧ n ≤ 1000000 ∧ cnt (lstOf eEs [] 1 n f) ≤ 1000000), .int .i64 (A.ti fun _ => (cnt (lstOf eEs [] 1 n f) : Int)))
  | _ => none
noncomputable def c_tRightQ : Ct := fun A args => match args with
  | [.agg [.int .i64 m, .slc n 1 f]] => some (some (A.tp fun _ => isRow eEs [] 1 n f ∧ tbQ (lstOf eEs [] 1 n f)), .bool (A.tb fun _ => tbR m (lstOf eEs [] 1 n f)))
  | _ => none
noncomputable def c_tNewQ : Ct := fun A args => match args with
  | [.int .i64 m, .int .i64 n] => some (none, .tup [.agg [.int .i64 (A.ti fun _ => newM m n), rowS eEs [] 1 A fun _ => newT m n], .int .i64 (A.ti fun _ => newC m n)])
  | _ => none
noncomputable def c_togetherQ : Ct := fun A args => match args with
  | [.slc n 1 f] => some (some (A.tp fun _ => isRow eEs [] 1 n f ∧ n ≤ 1000000 ∧ (∀ i, ((lstOf eEs [] 1 n f).getD i []).length ≤ 1000000) ∧ cnt (lstOf eEs [] 1 n f) ≤ 1000000), rCloneE A fun _ => (lstOf eEs [] 1 n f).flatten)
  | _ => none
noncomputable def c_fTableQ : Ct := fun A args => match args with
  | [.agg [.int .i64 m, .slc n 1 f]] => some (some (A.tp fun _ => isRow eEs [] 1 n f ∧ tbQ (lstOf eEs [] 1 n f)), .agg [.int .i64 m, rCloneT A fun _ => lstOf eEs [] 1 n f])
  | _ => none
noncomputable def c_tAllQ : Ct := fun A args => match args with
  | [.agg [.int .i64 m, .slc n 1 f]] => some (some (A.tp fun _ => isRow eEs [] 1 n f ∧ tbQ (lstOf eEs [] 1 n f)), rowS eE E0 8 A fun _ => allT m (lstOf eEs [] 1 n f))
  | _ => none
noncomputable def c_tLookQ : Ct := fun A args => match args with
  | [.agg [.int .i64 m, .slc n 1 f], .agg [.int .u32 s, .str r]] => some (some (A.tp fun _ => (isRow eEs [] 1 n f ∧ tbQ (lstOf eEs [] 1 n f)) ∧ 0 ≤ s ∧ s < 4294967296), .tup [.int .i64 (A.ti fun _ => shi (lstOf eEs [] 1 n f) s r), entS A fun _ => lkE (lstOf eEs [] 1 n f) s r, .bool (A.tb fun _ => lkB (lstOf eEs [] 1 n f) s r)])
  | _ => none
noncomputable def c_tFindQ : Ct := fun A args => match args with
  | [.agg [.int .i64 m, .slc n 1 f], .agg [.int .u32 s, .str r]] => some (some (A.tp fun _ => (isRow eEs [] 1 n f ∧ tbQ (lstOf eEs [] 1 n f)) ∧ 0 ≤ s ∧ s < 4294967296), .tup [entS A fun _ => tFnd m (lstOf eEs [] 1 n f) s r, .bool (A.tb fun _ => tHas m (lstOf eEs [] 1 n f) s r)])
  | _ => none
noncomputable def c_tInsertQ : Ct := fun A args => match args with
  | [.agg [.int .i64 m, .slc n 1 f], .agg [.int .u32 s, .str r, .int .i64 st, .str pan, .int .u64 am, .str code, .int .i64 tr, .int .i64 ca]] => some (some (A.tp fun _ => (isRow eEs [] 1 n f ∧ tbQ (lstOf eEs [] 1 n f)) ∧ enQ ⟨s, r, st, pan, am, code, tr, ca⟩), .tup [.agg [.int .i64 m, rowS eEs [] 1 A fun _ => tInsT m (lstOf eEs [] 1 n f) ⟨s, r, st, pan, am, code, tr, ca⟩], .int .i64 (A.ti fun _ => tInsC m (lstOf eEs [] 1 n f) ⟨s, r, st, pan, am, code, tr, ca⟩)])
  | _ => none
noncomputable def c_tSwapQ : Ct := fun A args => match args with
  | [.agg [.int .i64 m, .slc n 1 f], .int .i64 z, .agg [.int .u32 s, .str r, .int .i64 st, .str pan, .int .u64 am, .str code, .int .i64 tr, .int .i64 ca]] => some (some (A.tp fun _ => (isRow eEs [] 1 n f ∧ tbQ (lstOf eEs [] 1 n f)) ∧ enQ ⟨s, r, st, pan, am, code, tr, ca⟩), .tup [.agg [.int .i64 m, rowS eEs [] 1 A fun _ => tSwT m (lstOf eEs [] 1 n f) z ⟨s, r, st, pan, am, code, tr, ca⟩], .int .i64 (A.ti fun _ => tSwC m (lstOf eEs [] 1 n f) z ⟨s, r, st, pan, am, code, tr, ca⟩)])
  | _ => none
noncomputable def c_tRetireQ : Ct := fun A args => match args with
  | [.agg [.int .i64 m, .slc n 1 f], .agg [.int .u32 s, .str r]] => some (some (A.tp fun _ => (isRow eEs [] 1 n f ∧ tbQ (lstOf eEs [] 1 n f)) ∧ 0 ≤ s ∧ s < 4294967296), .tup [.agg [.int .i64 m, rowS eEs [] 1 A fun _ => tRtT m (lstOf eEs [] 1 n f) s r], .int .i64 (A.ti fun _ => tRtC m (lstOf eEs [] 1 n f) s r)])
  | _ => none
noncomputable def c_tAwakeQ : Ct := fun A args => match args with
  | [] => some (none, .bool true)
  | _ => none
noncomputable def gu5 : Ar → Pu := addC 25 c_tSizeQ (addC 36 c_tCountQ (addC 23 c_tRightQ (addC 8 c_tNewQ (addC 30 c_togetherQ (addC 34 c_fTableQ (addC 16 c_tAllQ (addC 29 c_tLookQ (addC 13 c_tFindQ (addC 17 c_tInsertQ (addC 19 c_tSwapQ (addC 21 c_tRetireQ (addC 4 c_tAwakeQ (gu4)))))))))))))
theorem gu5_ok : PuOk Tryz.prog gl0 (gu5 std) := by
  refine addC_ok (addC_ok (addC_ok (addC_ok (addC_ok (addC_ok (addC_ok (addC_ok (addC_ok (addC_ok (addC_ok (addC_ok (addC_ok (gu4_ok) ⟨_, Tryz.func4, rfl, by decide⟩ ?_) ⟨_, Tryz.func21, rfl, by decide⟩ ?_) ⟨_, Tryz.func19, rfl, by decide⟩ ?_) ⟨_, Tryz.func17, rfl, by decide⟩ ?_) ⟨_, Tryz.func13, rfl, by decide⟩ ?_) ⟨_, Tryz.func29, rfl, by decide⟩ ?_) ⟨_, Tryz.func16, rfl, by decide⟩ ?_) ⟨_, Tryz.func34, rfl, by decide⟩ ?_) ⟨_, Tryz.func30, rfl, by decide⟩ ?_) ⟨_, Tryz.func8, rfl, by decide⟩ ?_) ⟨_, Tryz.func23, rfl, by decide⟩ ?_) ⟨_, Tryz.func36, rfl, by decide⟩ ?_) ⟨_, Tryz.func25, rfl, by decide⟩ ?_
  · intro args p r h hp
    unfold c_tAwakeQ at h
    split at h <;> cases h
    exact good_tAwake
  · intro args p r h hp
    unfold c_tRetireQ at h
    split at h <;> cases h
    exact good_sv (good_tRetire _ _ _ _ hp.1.2 hp.2) ⟨⟨_, rfl, rfl, hp.1.1.sv, trivial⟩, ⟨_, rfl, rfl, rfl, trivial⟩, trivial⟩
  · intro args p r h hp
    unfold c_tSwapQ at h
    split at h <;> cases h
    exact good_sv (good_tSwap _ _ _ _ _ _ _ _ _ _ _ hp.1.2 hp.2) ⟨⟨_, rfl, rfl, hp.1.1.sv, trivial⟩, rfl, ⟨_, rfl, rfl, rfl, rfl, rfl, rfl, rfl, rfl, rfl, trivial⟩, trivial⟩
  · intro args p r h hp
    unfold c_tInsertQ at h
    split at h <;> cases h
    exact good_sv (good_tInsert _ _ _ _ _ _ _ _ _ _ hp.1.2 hp.2) ⟨⟨_, rfl, rfl, hp.1.1.sv, trivial⟩, ⟨_, rfl, rfl, rfl, rfl, rfl, rfl, rfl, rfl, rfl, trivial⟩, trivial⟩
  · intro args p r h hp
    unfold c_tFindQ at h
    split at h <;> cases h
    exact good_sv (good_tFind _ _ _ _ hp.1.2 hp.2) ⟨⟨_, rfl, rfl, hp.1.1.sv, trivial⟩, ⟨_, rfl, rfl, rfl, trivial⟩, trivial⟩
  · intro args p r h hp
    unfold c_tLookQ at h
    split at h <;> cases h
    exact good_sv (good_tLook _ _ _ _ hp.1.2 hp.2) ⟨⟨_, rfl, rfl, hp.1.1.sv, trivial⟩, ⟨_, rfl, rfl, rfl, trivial⟩, trivial⟩
  · intro args p r h hp
    unfold c_tAllQ at h
    split at h <;> cases h
    exact good_sv (good_tAll _ _ hp.2) ⟨⟨_, rfl, rfl, hp.1.sv, trivial⟩, trivial⟩
  · intro args p r h hp
    unfold c_fTableQ at h
    split at h <;> cases h
    exact good_sv (good_fTable _ _ hp.2) ⟨⟨_, rfl, rfl, hp.1.sv, trivial⟩, trivial⟩
  · intro args p r h hp
    unfold c_togetherQ at h
    split at h <;> cases h
    exact good_sv (good_together _ (by rw [lstOf_length hp.1]; exact hp.2.1) hp.2.2.1 hp.2.2.2) ⟨hp.1.sv, trivial⟩
  · intro args p r h hp
    unfold c_tNewQ at h
    split at h <;> cases h
    exact good_tNew _ _
  · intro args p r h hp
    unfold c_tRightQ at h
    split at h <;> cases h
    exact good_sv (good_tRight _ _ hp.2) ⟨⟨_, rfl, rfl, hp.1.sv, trivial⟩, trivial⟩
  · intro args p r h hp
    unfold c_tCountQ at h
    split at h <;> cases h
    exact good_sv (good_tCount _ _ (by rw [lstOf_length hp.1]; exact hp.2.1) hp.2.2) ⟨⟨_, rfl, rfl, hp.1.sv, trivial⟩, trivial⟩
  · intro args p r h hp
    unfold c_tSizeQ at h
    split at h <;> cases h
    exact good_tSize _ _
theorem sz_b (n q : Int) : (bif bif bif decide (0 ≤ n) then decide (n ≤ 128) else false then decide (1 ≤ q) else false then decide (q ≤ 16) else false) = szR n q := by
  unfold szR
  rw [Bool.eq_iff_iff]
  simp
  omega
theorem newQ (n q : Int) : tbQ (newT n q) := by
  cases h : szR n q
  · rw [(new_n h).2.1]
    exact ⟨by simp, fun i => by simp, fun i j => by rw [List.getD_nil, List.getD_nil]; exact enQ_0⟩
  · exact (tbR_new h).2.2
theorem newB {n q : Int} (h : szR n q = true) : newT n q = bldT q.toNat [] := by
  rw [(new_y h).2.1]
  unfold bldT
  apply List.ext_getElem
  · simp
  · intro i h1 h2
    simp
theorem sv_3 {a b c : Bool} (h : (bif bif !a then true else !b then true else !c) = false) : a = true ∧ b = true ∧ c = true := by
  cases a <;> cases b <;> cases c <;> simp at h ⊢
theorem tSh_cnt {T : Tbl} (h : tSh T = true) : cnt T ≤ 200 := by
  unfold tSh at h
  simp only [Bool.and_eq_true, decide_eq_true_eq] at h
  exact h.2.2
theorem tf_no {m : Int} {T : Tbl} {s : Int} {r : List UInt8} (h : tHas m T s r = false) : tFnd m T s r = E0 := by
  cases hR : tbR m T
  · exact (tf_n hR).1
  · have a := tf_y (s := s) (r := r) hR
    rw [a.2] at h
    rw [a.1]
    by_cases h0 : shi T s r < 0
    · exact (lk_n h0).1
    · have d := lk_y (T := T) h0
      rw [d.2] at h
      rw [d.1]
      unfold fnd
      unfold has at h
      rw [List.find?_eq_none.2 fun x hx => by rw [List.any_eq_false] at h; exact h x hx]
      rfl
attribute [local irreducible] vc
theorem good_TableRight (m s st am tr ca so n q : Int) (T : Tbl) (r pan code ro : List UInt8) (hT : T.length ≤ 9223372036854775807) (hTi : ∀ i, (T.getD i []).length ≤ 9223372036854775807) (hS : ∀ i j, 0 ≤ ((T.getD i []).getD j E0).s ∧ ((T.getD i []).getD j E0).s < 4294967296) (hs : 0 ≤ s ∧ s < 4294967296) (hso : 0 ≤ so ∧ so < 4294967296) : GoodP Tryz.prog gl0 3 [.agg [.int .i64 m, rowS eEs [] 1 std fun _ => T], .agg [.int .u32 s, .str r, .int .i64 st, .str pan, .int .u64 am, .str code, .int .i64 tr, .int .i64 ca], .agg [.int .u32 so, .str ro], .int .i64 n, .int .i64 q] (.bool true) := by
  refine fn_sound' (T := seatT) (G := gu5) (X := noX) seatT_ok gu5_ok noX_ok noI_ok mixed Tryz.func3 (.one) (fun A => [.agg [.int .i64 m, rowS eEs [] 1 A fun _ => T], .agg [.int .u32 s, .str r, .int .i64 st, .str pan, .int .u64 am, .str code, .int .i64 tr, .int .i64 ca], .agg [.int .u32 so, .str ro], .int .i64 n, .int .i64 q]) (fun A => .bool true) fun A hA => ?_
  cbv
  repeat' (first | with_reducible exact True.intro | with_reducible exact dr_ok hA (by kernel_rfl) | with_reducible refine And.intro ?_ ?_ | (intro hc; cbv))
  all_goals (subst hA; simp only [std_add, std_sub, std_mul, std_quo, std_rem, std_band, std_bor, std_bxor, std_shl, std_shr, std_eq, std_ne, std_lt, std_le, std_conv, std_not, std_beq, std_bne, std_ite, std_want, std_and2, std_sadd, std_seq, std_sne, std_slt, std_sle, std_sgt, std_sge, std_slen, std_sget, std_scut, std_ofNat, std_toNat, std_nsub, std_nadd, std_lenOf, std_nz, std_nneg, std_inb, std_upto, std_slt63, std_grow, std_imp, std_impN, std_tr, std_tb, std_ti, std_ts, std_tn, std_tp, std_nmin, std_nset, std_fset, std_makes, std_room, std_zeros, std_nilq, std_notq, std_eqi, std_eqn, std_eqb, std_eqs, std_eqv, std_cat, std_lst, std_rset, std_rcopy, std_shift, std_eqr, std_strOf, std_bytesOf, std_isB, std_zOf, zOf_int, std_isI, isI_int, std_getL, std_nmul, std_sOf, sOf_str, std_isS, isS_str, std_fadd, std_fsub, std_fav, std_fsv, std_feq, std_fne, std_flt, std_fle, std_fgt, std_fge, std_fOf, std_fTo, std_fTv, isRow_T, lstOf_T, isRow_V, lstOf_V, sz_b, isRow_nil, lstOf_nil inj_eEs] at *)
  all_goals first
    | done
    | (exfalso; revert hc; decide)
    | exact fun h => h
    | exact fun h => ⟨h, h⟩
    | exact fun h => by rw [h]; rfl
    | exact ⟨trivial, hT, hTi⟩
    | (obtain ⟨v1, v2, v3⟩ := sv_3 (by assumption)
       have hQ := tbQ_sh v1 hS
       have hE : enQ ⟨s, r, st, pan, am, code, tr, ca⟩ := enQ_of v2 hs
       have hcn := tSh_cnt v1
       have hle := lstT_len T
       have hsz : szR n q = true → 0 ≤ q ∧ q ≤ 1000000 := fun h => by simp [szR] at h; omega
       have hQi := tbQ_ins (m := m) hQ hE
       have hQs := tbQ_sw (m := m) (z := n) hQ hE
       have hQr := tbQ_rt (m := m) (s := so) (r := ro) hQ
       have hal : (allT m T).length ≤ 1000000 := by
         cases hR : tbR m T
         · rw [all_n hR]; simp
         · rw [allT_len hR]; omega
       have hnQ := newQ n q
       first
         | exact ⟨trivial, hQ, by omega⟩
         | exact ⟨trivial, by omega⟩
         | exact ⟨⟨trivial, hQ⟩, hso⟩
         | exact ⟨⟨trivial, hQ⟩, hE⟩
         | exact ⟨⟨trivial, hQ, by omega⟩, hE⟩
         | exact ⟨⟨trivial, trivial⟩, hQi⟩
         | exact ⟨⟨trivial, trivial⟩, hQs⟩
         | exact ⟨⟨trivial, trivial⟩, hQr⟩
         | exact ⟨trivial, hQ⟩
         | exact fun h => ⟨⟨h, h⟩, trivial, hsz (by assumption)⟩
         | exact fun h => ⟨⟨h, h⟩, ⟨trivial, trivial⟩, hnQ⟩
         | exact fun h => ⟨h, ⟨trivial, trivial⟩, hnQ⟩
         | exact fun h => ⟨h, trivial, hQ⟩
         | exact fun h => ⟨⟨h, h⟩, ⟨trivial, trivial⟩, hal⟩
         | exact fun h => ⟨⟨h, h⟩, ⟨trivial, trivial⟩, hQr⟩
         | exact fun h => ⟨h, ⟨trivial, trivial⟩, hQr⟩
         | exact fun h => ⟨h, fun h2 => by rw [h, h2]; rfl⟩
         | exact fun h => ⟨⟨h, h⟩, ⟨trivial, trivial⟩, hnQ⟩
         | (exfalso
            have h := (by assumption : szR n q = true)
            have y := new_y h
            simp [y.1, y.2.2, newB h] at hc
            done)
         | (exfalso
            have h := (by assumption : szR n q = false)
            have y := new_n h
            simp [y.1, y.2.1, y.2.2] at hc
            done)
         | (exfalso; simp at hc; done)
         | (clear hS hT hTi hQ hE hQi hQs hQr hal hnQ hsz
            simp
            done)
         | (clear hS hT hTi hQ hE hQi hQs hQr hal hnQ hsz
            cases hR : tbR m T
            · have a := tf_n (s := so) (r := ro) hR
              have b := all_n hR
              simp [a.1, a.2, b, hR, E0] at *
              done
            · have hAl := (lstT_all hR).symm
              have hy := tf_y (s := so) (r := ro) hR
              have hp : decide (0 ≤ plc (lstT T) so ro) = tHas m T so ro := by rw [plc_has, has_lst hR, hy.2]
              cases hH : tHas m T so ro
              · have a := tf_no hH
                rw [hH] at hp
                first
                  | (simp [hAl, hp, hR, hH, a, E0] at *; done)
                  | (simp only [hAl, hp, hR, hH, a, E0] at *; simp at *; done)
              · have hb : lkB T so ro = true := by rw [← hy.2]; exact hH
                obtain ⟨i, hi, hpl, hf⟩ := plc_fnd (by rw [has_lst hR]; exact hb : has (lstT T) so ro = true)
                have hg : (lstT T).getD i { s := 0, r := [], st := 0, pan := [], am := 0, code := [], tr := 0, ca := 0 } = tFnd m T so ro := by rw [hy.1, ← fnd_lst hR hb, hf]; rfl
                rw [hH] at hp
                first
                  | exact fun h => ⟨⟨h, h⟩, by rw [hpl]; exact Int.natCast_nonneg _, by rw [hpl]; exact Int.ofNat_lt.2 hi⟩
                  | (simp only [hpl, Int.toNat_natCast, hg] at *; simp [hAl, hR, hH] at *; done)
                  | (simp only [hpl, Int.toNat_natCast, hg] at *; simp [hAl, hR, hH] at *; omega))
         | trace_state)
    | trace_state
end Go.Vd

set_option linter.unusedVariables false
namespace Go.Vd
open Go.Proofs Go.ChangeShapes Go.WideShapes Go.ChangeAt Go.RowKit Go.Joins Go.Deep Go.WideElems
section
variable {H : Type} {enc : TypeId × Value → H} {P : Program}
theorem u32_wf {z : Int} (h : (Lit.int .u32 z).wf = true) : 0 ≤ z ∧ z < 4294967296 := by
  simp [Lit.wf] at h
  have e1 : IntKind.u32.min = 0 := by decide
  have e2 : IntKind.u32.max = 4294967295 := by decide
  rw [e1, e2] at h
  exact ⟨h.1, by omega⟩
end
end Go.Vd

set_option linter.unusedVariables false
namespace Go.Vd
section
open Go.Proofs Go.ChangeShapes Go.WideShapes Go.ChangeAt Go.RowKit Go.Joins
variable {H : Type} {enc : TypeId × Value → H} {P : Program} {w : World} {base : Nat} {spare : Nat → Bool} {held : Bool}
theorem trodAll_five {t0 t1 t2 t3 t4 : TypeId} {args : Array Value} {ds : List (DataW H)} {ps : List MemPlace} (h : DataW.TrodAll enc P w base spare held [t0, t1, t2, t3, t4] args.toList ds ps) :
    ∃ v0 v1 v2 v3 v4 d0 d1 d2 d3 d4 p0 p1 p2 p3 p4, args = #[v0, v1, v2, v3, v4] ∧ ds = [d0, d1, d2, d3, d4] ∧ ps = p0 ++ p1 ++ p2 ++ p3 ++ p4 ∧ DataW.Trod enc P w base spare held t0 v0 d0 p0 ∧ DataW.Trod enc P w base spare held t1 v1 d1 p1 ∧ DataW.Trod enc P w base spare held t2 v2 d2 p2 ∧ DataW.Trod enc P w base spare held t3 v3 d3 p3 ∧ DataW.Trod enc P w base spare held t4 v4 d4 p4 := by
  obtain ⟨v0, vs0, d0, ds0, p0, q0, hargs, rfl, rfl, hd0, r0⟩ := trodAll_cons h
  obtain ⟨v1, vs1, d1, ds1, p1, q1, rfl, rfl, rfl, hd1, r1⟩ := trodAll_cons r0
  obtain ⟨v2, vs2, d2, ds2, p2, q2, rfl, rfl, rfl, hd2, r2⟩ := trodAll_cons r1
  obtain ⟨v3, vs3, d3, ds3, p3, q3, rfl, rfl, rfl, hd3, r3⟩ := trodAll_cons r2
  obtain ⟨v4, vs4, d4, ds4, p4, q4, rfl, rfl, rfl, hd4, r4⟩ := trodAll_cons r3
  obtain ⟨rfl, rfl, rfl⟩ := trodAll_nil r4
  exact ⟨v0, v1, v2, v3, v4, d0, d1, d2, d3, d4, p0, p1, p2, p3, p4, by cases args; simp_all, rfl, by simp, hd0, hd1, hd2, hd3, hd4⟩
end
end Go.Vd

set_option linter.unusedVariables false
set_option maxRecDepth 100000
namespace Go.Vd
open Go.Proofs Go.ChangeShapes Go.WideShapes Go.ChangeAt Go.RowKit Go.Joins Go.Deep Go.WideElems
section
variable {H : Type} {enc : TypeId × Value → H} {P : Program} {w : World} {base : Nat} {sp : Nat → Bool} {held : Bool}
/-- A struct of three numbers, as it is read. -/
theorem trod3 {fuel : Nat} {e : TypeId} {f0 f1 f2 : Field} {cs : List Value} {a b c : Int} {p : List MemPlace} (hs : P.underlying e = some (.struct #[f0, f1, f2])) (hone : oneCellFields P #[f0, f1, f2] = true)
    (h0 : P.underlying f0.type = some (.int .i64)) (h1 : P.underlying f1.type = some (.int .i64)) (h2 : P.underlying f2.type = some (.int .i64)) (hC : P.cellsOf e = 3)
    (h : DataW.trod enc P w base sp held fuel e cs = some (.agg [.lit (.int .i64 a), .lit (.int .i64 b), .lit (.int .i64 c)], p)) : cs = [.int .i64 a, .int .i64 b, .int .i64 c] := by
  obtain ⟨xs, n, _, hx, hl, hlen, hf⟩ := DataW.trod_struct hs h
  rw [hC] at hl
  match xs, hlen with
  | [y0, y1, y2], _ =>
    match cs, hl with
    | [c0, c1, c2], _ =>
      obtain ⟨o0, k0⟩ := hone_of hone 0 f0 rfl
      have g0 := hf 0 f0 rfl
      obtain ⟨o1, k1⟩ := hone_of hone 1 f1 rfl
      have g1 := hf 1 f1 rfl
      obtain ⟨o2, k2⟩ := hone_of hone 2 f2 rfl
      have g2 := hf 2 f2 rfl
      rw [o0, k0] at g0
      rw [o1, k1] at g1
      rw [o2, k2] at g2
      obtain ⟨z0, e0, i0, _⟩ := DataW.trod_int h0 g0
      obtain ⟨z1, e1, i1, _⟩ := DataW.trod_int h1 g1
      obtain ⟨z2, e2, i2, _⟩ := DataW.trod_int h2 g2
      simp only [Prod.mk.injEq] at hx
      have hx1 := hx.1
      simp at e0 e1 e2
      subst i0 i1 i2
      simp at hx1
      obtain ⟨r0, r1, r2⟩ := hx1
      subst r0 r1 r2 e0 e1 e2
      rfl
/-- A row of such. -/
theorem cells_of_known {fuel n : Nat} {t e : TypeId} {f0 f1 f2 : Field} {cs : List Value} {L : List (Int × Int × Int)} {p : List MemPlace} (ht : P.underlying t = some (.array n e)) (hs : P.underlying e = some (.struct #[f0, f1, f2])) (hone : oneCellFields P #[f0, f1, f2] = true)
    (h0 : P.underlying f0.type = some (.int .i64)) (h1 : P.underlying f1.type = some (.int .i64)) (h2 : P.underlying f2.type = some (.int .i64)) (hC : P.cellsOf e = 3)
    (h : DataW.trod enc P w base sp held fuel t cs = some (.agg (L.map fun x => .agg [.lit (.int .i64 x.1), .lit (.int .i64 x.2.1), .lit (.int .i64 x.2.2)]), p)) :
    cs.length = P.cellsOf t ∧ L.length = n ∧ ∀ i x, L[i]? = some x → (cs.drop (i * 3)).take 3 = [.int .i64 x.1, .int .i64 x.2.1, .int .i64 x.2.2] := by
  obtain ⟨xs, m, _, hx, hl, hlen, hf⟩ := DataW.trod_array ht h
  simp only [Prod.mk.injEq] at hx
  have hx1 : L.map (fun x => (DataW.agg [.lit (.int .i64 x.1), .lit (.int .i64 x.2.1), .lit (.int .i64 x.2.2)] : DataW H)) = xs.map (·.1) := by simpa using hx.1
  have hLl : L.length = n := by
    have := congrArg List.length hx1
    simp at this
    omega
  refine ⟨hl, hLl, fun i x hi => ?_⟩
  have hin : i < n := by
    rw [← hLl]
    exact (List.getElem?_eq_some_iff.1 hi).1
  have g := hf i hin
  rw [hC] at g
  have hxi : xs[i]? = some xs[i] := List.getElem?_eq_getElem (by omega)
  rw [hxi] at g
  have h3 : (DataW.agg [.lit (.int .i64 x.1), .lit (.int .i64 x.2.1), .lit (.int .i64 x.2.2)] : DataW H) = xs[i].1 := by
    have := congrArg (·[i]?) hx1
    simp [hi, hxi] at this
    exact this
  have g' : DataW.trod enc P w base sp held m e ((cs.drop (i * 3)).take 3) = some (.agg [.lit (.int .i64 x.1), .lit (.int .i64 x.2.1), .lit (.int .i64 x.2.2)], xs[i].2) := by
    rw [g, h3]
  exact trod3 hs hone h0 h1 h2 hC g'
end
def knownT : List (Int × Int × Int) := [(2, 3, 19), (3, 1, 6), (4, 1, 12), (7, 1, 10), (11, 1, 6), (12, 1, 6), (37, 2, 12), (38, 2, 6), (39, 2, 2), (41, 2, 8), (44, 4, 25), (48, 5, 999), (49, 1, 3), (90, 1, 42), (120, 5, 999)]
theorem gKnown : Tryz.prog.globalNamed "paydesk/field.known" = some 0 := by kernel_rfl
/-- What is known of the fields' own variable. -/
def KnownIs (w : World) : Prop := ∃ cs, w.var? Tryz.prog "paydesk/field.known" = some cs ∧ cs.size = 45 ∧ ∀ j, j < 45 → cs[j]? = some (.int .i64 (knownL.getD j 0))
theorem known_at : ∀ j, j < 45 → ∃ x, knownT[j / 3]? = some x ∧ ([x.1, x.2.1, x.2.2] : List Int)[j % 3]? = some (knownL.getD j 0) := by
  intro j hj
  have h : ∀ j : Fin 45, ∃ x : Fin 15, knownT[j.val / 3]? = knownT[x.val]? ∧ ((knownT[x.val]?).bind fun x => ([x.1, x.2.1, x.2.2] : List Int)[j.val % 3]?) = some (knownL.getD j.val 0) := by decide +kernel
  obtain ⟨x, h1, h2⟩ := h ⟨j, hj⟩
  simp only at h1 h2
  rw [← h1] at h2
  obtain ⟨y, h3, h4⟩ := Option.bind_eq_some_iff.1 h2
  exact ⟨y, h3, h4⟩
/-- What the tables give of the package's variables. -/
theorem gl0_kn {w : World} (hh : KnownIs w) : GlOk gl0 w fun _ => False := by
  obtain ⟨cs0, hv0, hz0, hc0⟩ := hh
  have hne : ∀ g, g ≠ 0 → gl0 g = .val (.pointer (some ⟨g, 0, none⟩)) := fun g hg => by
    unfold gl0
    split
    · exact absurd rfl hg
    · rfl
  refine ⟨fun g ρ N => ?_, fun g k f e => ?_⟩
  · by_cases hg0 : g = 0
    · subst hg0
      show Rel w ρ (fun _ => False) N _ (.rop 45 fun j => .int .i64 (knownL.getD j 0))
      refine .rop ⟨0, 0, none⟩ 45 _ (fun j => .int .i64 (knownL.getD j 0)) rfl (fun j hj => ⟨?_, rfl, fun e => e⟩) (fun j _ => .int _ _)
      rw [add_plain, Nat.zero_add, World.var?_cell gKnown hv0]
      exact hc0 j hj
    · rw [hne g hg0]; exact .val _
  · by_cases hg0 : g = 0
    · subst hg0
      have e2 : (SV.rop 45 fun j => .int .i64 (knownL.getD j 0)) = .rop k f := e
      cases e2
      refine ⟨?_, fun e => e⟩
      unfold World.var? at hv0
      rw [gKnown] at hv0
      simp only [Option.bind_some] at hv0
      split at hv0
      · rename_i cs t b hc
        injection hv0 with hv0
        exact ⟨cs, t, b, hc, by rw [hv0]; exact hz0⟩
      · cases hv0
    · rw [hne g hg0] at e; cases e
end Go.Vd
namespace Go.Proofs.YtjgfkbmplgiinaaGreatDoor
open Go.ChangeShapes Go.WideShapes Go.ChangeAt Go.ChangeMaps Go.RowKit Go.Joins
def laidL : List (String × DataW Unit) := [("paydesk/field.known", Rows.laid_paydesk_field_known)]
theorem Tryz.own : ownKnob Tryz.prog.godebug = none := by kernel_rfl
theorem Tryz.laidOut : laidOutB Tryz.prog = true := by kernel_rfl
theorem tKn : (Tryz.prog.globals[0]?).map (·.type) = some 133 := by kernel_rfl
theorem cKn : Tryz.prog.cellsOf 133 = 45 := by kernel_rfl
theorem cKnE : Tryz.prog.cellsOf 111 = 3 := by kernel_rfl
theorem dKn : (Rows.laid_paydesk_field_known : DataW Unit) = .agg (Vd.knownT.map fun x => .agg [.lit (.int .i64 x.1), .lit (.int .i64 x.2.1), .lit (.int .i64 x.2.2)]) := by kernel_rfl
theorem door_met (os : Os) (args : Array Value) : laidMetH Tryz.prog laidL ((World.doorLaid Tryz.prog 2000 os).forCall (fun _ _ => 0) ⟨#[], args, []⟩).memory :=
  laidMetH_of_parts3 (fuel := 8) (laidMet_of_run' 8 (by kernel_rfl) (by kernel_rfl)) (by kernel_rfl) (by kernel_rfl)
theorem laid_known {W : World} (h : laidMetH Tryz.prog laidL W) : Vd.KnownIs W := by
  rw [MakeChecks.laidMetH_plain _ _ _ (by kernel_rfl)] at h
  obtain ⟨ps, ⟨g3, t3, cs3, f3, p3, q3, hg3, ht3, hv3, hd3, _, _⟩, _, _⟩ := h
  obtain rfl := Option.some.inj (Vd.gKnown.symm.trans hg3)
  obtain rfl := Option.some.inj (tKn.symm.trans ht3)
  rw [dKn] at hd3
  obtain ⟨hl, hn, hx⟩ := Vd.cells_of_known Tryz.underlying133 Tryz.underlying111 (by kernel_rfl) Tryz.underlying3 Tryz.underlying3 Tryz.underlying3 cKnE hd3
  rw [cKn] at hl
  refine ⟨cs3, hv3, by simpa using hl, fun j hj => ?_⟩
  obtain ⟨x, h1, h2⟩ := Vd.known_at j hj
  have h3 := hx _ x h1
  have h4 := congrArg (·[j % 3]?) h3
  rw [List.getElem?_take_of_lt (by omega), List.getElem?_drop, show j / 3 * 3 + j % 3 = j by omega] at h4
  rw [← Array.getElem?_toList, h4]
  have h5 := congrArg (Option.map (Value.int .i64)) h2
  rw [← List.getElem?_map] at h5
  exact h5
end Go.Proofs.YtjgfkbmplgiinaaGreatDoor

set_option linter.unusedVariables false
namespace Go.Vd
open Go.Proofs Go.ChangeShapes Go.WideShapes Go.ChangeAt Go.RowKit Go.Joins Go.Deep Go.WideElems
section
variable {H : Type} {enc : TypeId × Value → H} {P : Program}
theorem array8 {α : Type} {cs : Array α} (h : cs.size = 8) : ∃ c0 c1 c2 c3 c4 c5 c6 c7, cs = #[c0, c1, c2, c3, c4, c5, c6, c7] := by
  obtain ⟨l⟩ := cs
  match l, h with
  | [c0, c1, c2, c3, c4, c5, c6, c7], _ => exact ⟨c0, c1, c2, c3, c4, c5, c6, c7, rfl⟩
theorem rel_agg8 {w : World} {ρ : Nat → Value} {rw N : Nat → Prop} {u0 u1 u2 u3 u4 u5 u6 u7 : Value} {s0 s1 s2 s3 s4 s5 s6 s7 : SV} (h0 : one u0) (h1 : one u1) (h2 : one u2) (h3 : one u3) (h4 : one u4) (h5 : one u5) (h6 : one u6) (h7 : one u7) (r0 : Rel w ρ rw N u0 s0) (r1 : Rel w ρ rw N u1 s1) (r2 : Rel w ρ rw N u2 s2) (r3 : Rel w ρ rw N u3 s3) (r4 : Rel w ρ rw N u4 s4) (r5 : Rel w ρ rw N u5 s5) (r6 : Rel w ρ rw N u6 s6) (r7 : Rel w ρ rw N u7 s7) : Rel w ρ rw N (.agg #[u0, u1, u2, u3, u4, u5, u6, u7]) (.agg [s0, s1, s2, s3, s4, s5, s6, s7]) := by
  refine .agg _ _ rfl ?_ ?_
  · intro v hv
    simp at hv
    rcases hv with rfl | rfl | rfl | rfl | rfl | rfl | rfl | rfl <;> assumption
  · intro i v s hv hs
    match i with
    | 0 => simp at hv hs; subst hv hs; exact r0
    | 1 => simp at hv hs; subst hv hs; exact r1
    | 2 => simp at hv hs; subst hv hs; exact r2
    | 3 => simp at hv hs; subst hv hs; exact r3
    | 4 => simp at hv hs; subst hv hs; exact r4
    | 5 => simp at hv hs; subst hv hs; exact r5
    | 6 => simp at hv hs; subst hv hs; exact r6
    | 7 => simp at hv hs; subst hv hs; exact r7
    | n + 8 => simp at hv
theorem open_entry {W : World} {b0 base : Nat} {spare : Nat → Bool} {held : Bool} {r : Reach} {t : TypeId} {f0 f1 f2 f3 f4 f5 f6 : Field} {g00 g01 : Field} {v : Value} {d : DataW H} {p : List MemPlace} (hs : P.underlying t = some (.struct #[f0, f1, f2, f3, f4, f5, f6])) (hC : P.cellsOf t = 8)
    (o0 : f0.offset = 0) (k0 : P.cellsOf f0.type = 2) (o1 : f1.offset = 2) (k1 : P.cellsOf f1.type = 1) (o2 : f2.offset = 3) (k2 : P.cellsOf f2.type = 1) (o3 : f3.offset = 4) (k3 : P.cellsOf f3.type = 1) (o4 : f4.offset = 5) (k4 : P.cellsOf f4.type = 1) (o5 : f5.offset = 6) (k5 : P.cellsOf f5.type = 1) (o6 : f6.offset = 7) (k6 : P.cellsOf f6.type = 1) (hs0 : P.underlying f0.type = some (.struct #[g00, g01])) (hone0 : oneCellFields P #[g00, g01] = true) 
    (hv : Value.okWide P W r b0 t v) (h : DataW.Trod enc P W base spare held t v d p) :
    ∃ (c0 c1 c2 c3 c4 c5 c6 c7 : Value) (y00 y01 y1 y2 y3 y4 y5 y6 : DataW H × List MemPlace) (n m0 : Nat), v = .agg #[c0, c1, c2, c3, c4, c5, c6, c7] ∧ d = .agg [.agg [y00.1, y01.1], y1.1, y2.1, y3.1, y4.1, y5.1, y6.1] ∧ p = (y00.2 ++ (y01.2)) ++ (y1.2 ++ (y2.2 ++ (y3.2 ++ (y4.2 ++ (y5.2 ++ (y6.2)))))) ∧
      DataW.trod enc P W base spare held m0 g00.type [c0] = some y00 ∧ DataW.trod enc P W base spare held m0 g01.type [c1] = some y01 ∧ DataW.trod enc P W base spare held n f1.type [c2] = some y1 ∧ DataW.trod enc P W base spare held n f2.type [c3] = some y2 ∧ DataW.trod enc P W base spare held n f3.type [c4] = some y3 ∧ DataW.trod enc P W base spare held n f4.type [c5] = some y4 ∧ DataW.trod enc P W base spare held n f5.type [c6] = some y5 ∧ DataW.trod enc P W base spare held n f6.type [c7] = some y6 := by
  obtain ⟨cs, rfl, hsz⟩ := okWide_struct hs hv
  obtain ⟨c0, c1, c2, c3, c4, c5, c6, c7, rfl⟩ := array8 (hsz.trans hC)
  obtain ⟨fuel, hf⟩ := h
  obtain ⟨xs, n, _, hx, hl, hlen, hf⟩ := DataW.trod_struct hs hf
  match xs, hlen with
  | [w0, w1, w2, w3, w4, w5, w6], _ =>
    simp only [Prod.mk.injEq] at hx
    have q0 := hf 0 f0 rfl
    rw [o0, k0] at q0
    have q1 := hf 1 f1 rfl
    rw [o1, k1] at q1
    have q2 := hf 2 f2 rfl
    rw [o2, k2] at q2
    have q3 := hf 3 f3 rfl
    rw [o3, k3] at q3
    have q4 := hf 4 f4 rfl
    rw [o4, k4] at q4
    have q5 := hf 5 f5 rfl
    rw [o5, k5] at q5
    have q6 := hf 6 f6 rfl
    rw [o6, k6] at q6
    have q0 : DataW.trod enc P W base spare held n f0.type [c0, c1] = some w0 := by simpa [Value.cells] using q0
    obtain ⟨xs0, m0, _, hx0, _, hlen0, hf0⟩ := DataW.trod_struct hs0 q0
    match xs0, hlen0 with
    | [y00, y01], _ =>
    obtain ⟨oo00, kk00⟩ := hone_of hone0 0 g00 rfl
    have qq00 := hf0 0 g00 rfl
    rw [oo00, kk00] at qq00
    obtain ⟨oo01, kk01⟩ := hone_of hone0 1 g01 rfl
    have qq01 := hf0 1 g01 rfl
    rw [oo01, kk01] at qq01
    subst hx0
    refine ⟨c0, c1, c2, c3, c4, c5, c6, c7, y00, y01, w1, w2, w3, w4, w5, w6, n, m0, rfl, by simpa using hx.1, by simpa using hx.2, by simpa [Value.cells] using qq00, by simpa [Value.cells] using qq01, by simpa [Value.cells] using q1, by simpa [Value.cells] using q2, by simpa [Value.cells] using q3, by simpa [Value.cells] using q4, by simpa [Value.cells] using q5, by simpa [Value.cells] using q6⟩
end
end Go.Vd

set_option linter.unusedVariables false
namespace Go.Vd
open Go.Proofs Go.ChangeShapes Go.WideShapes Go.ChangeAt Go.RowKit Go.Joins Go.Deep Go.WideElems
def tbB (L : List Ent) : Prop := L.length ≤ maxLen ∧ ∀ i, enB (L.getD i E0)
theorem tbB_0 : tbB [] := ⟨Nat.zero_le _, fun i => by rw [List.getD_nil]; exact enB_0⟩
section
variable {H : Type} {enc : TypeId × Value → H} {P : Program}
theorem enb_list {α : Type} {cs : List α} (h : cs.length = 8) : ∃ c0 c1 c2 c3 c4 c5 c6 c7, cs = [c0, c1, c2, c3, c4, c5, c6, c7] := by
  match cs, h with
  | [c0, c1, c2, c3, c4, c5, c6, c7], _ => exact ⟨c0, c1, c2, c3, c4, c5, c6, c7, rfl⟩
theorem enb_one {W : World} {ad : Addr} {n : Nat} {el : DataW H × List MemPlace} {e : TypeId} {f0 f1 f2 f3 f4 f5 f6 g00 g01 : Field} (hs : P.underlying e = some (.struct #[f0, f1, f2, f3, f4, f5, f6])) (hC : P.cellsOf e = 8)
    (o0 : f0.offset = 0) (k0 : P.cellsOf f0.type = 2) (hs0 : P.underlying f0.type = some (.struct #[g00, g01])) (hone0 : oneCellFields P #[g00, g01] = true) (o1 : f1.offset = 2) (k1 : P.cellsOf f1.type = 1) (o2 : f2.offset = 3) (k2 : P.cellsOf f2.type = 1) (o3 : f3.offset = 4) (k3 : P.cellsOf f3.type = 1) (o4 : f4.offset = 5) (k4 : P.cellsOf f4.type = 1) (o5 : f5.offset = 6) (k5 : P.cellsOf f5.type = 1) (o6 : f6.offset = 7) (k6 : P.cellsOf f6.type = 1) 
    (u0 : P.underlying g00.type = some (.int .u32)) (u1 : P.underlying g01.type = some (.string)) (u2 : P.underlying f1.type = some (.int .i64)) (u3 : P.underlying f2.type = some (.string)) (u4 : P.underlying f3.type = some (.int .u64)) (u5 : P.underlying f4.type = some (.string)) (u6 : P.underlying f5.type = some (.int .i64)) (u7 : P.underlying f6.type = some (.int .i64)) 
    (h : (W.cells? 0 ad 8).bind (DataW.trod enc P W 0 (fun _ => true) true n e) = some el) :
    ∃ x : Ent, enB x ∧ ∀ j, j < 8 → ∃ v, W.cell? (ad.add j) = some v ∧ Vd.one v ∧ RelC W (fun _ => False) v (getAt (eE std fun _ => x) j) := by
  obtain ⟨cs, hcs, hf⟩ := Option.bind_eq_some_iff.1 h
  obtain ⟨_, hlen, hcell⟩ := World.cells?_some hcs
  obtain ⟨c0, c1, c2, c3, c4, c5, c6, c7, rfl⟩ := enb_list hlen
  obtain ⟨xs, n', _, hx, hl, hlen2, hf⟩ := DataW.trod_struct hs hf
  match xs, hlen2 with
  | [w0, w1, w2, w3, w4, w5, w6], _ =>
    have q0 := hf 0 f0 rfl
    rw [o0, k0] at q0
    have q0 : DataW.trod enc P W 0 (fun _ => true) true n' f0.type [c0, c1] = some w0 := by simpa using q0
    obtain ⟨xs0, m0, _, hx0, _, hlen0, hf0⟩ := DataW.trod_struct hs0 q0
    match xs0, hlen0 with
    | [y00, y01], _ =>
    obtain ⟨oo00, kk00⟩ := hone_of hone0 0 g00 rfl
    have qq00 := hf0 0 g00 rfl
    rw [oo00, kk00] at qq00
    obtain ⟨oo01, kk01⟩ := hone_of hone0 1 g01 rfl
    have qq01 := hf0 1 g01 rfl
    rw [oo01, kk01] at qq01
    have q1 := hf 1 f1 rfl
    rw [o1, k1] at q1
    have q1 : DataW.trod enc P W 0 (fun _ => true) true n' f1.type [c2] = some w1 := by simpa using q1
    have q2 := hf 2 f2 rfl
    rw [o2, k2] at q2
    have q2 : DataW.trod enc P W 0 (fun _ => true) true n' f2.type [c3] = some w2 := by simpa using q2
    have q3 := hf 3 f3 rfl
    rw [o3, k3] at q3
    have q3 : DataW.trod enc P W 0 (fun _ => true) true n' f3.type [c4] = some w3 := by simpa using q3
    have q4 := hf 4 f4 rfl
    rw [o4, k4] at q4
    have q4 : DataW.trod enc P W 0 (fun _ => true) true n' f4.type [c5] = some w4 := by simpa using q4
    have q5 := hf 5 f5 rfl
    rw [o5, k5] at q5
    have q5 : DataW.trod enc P W 0 (fun _ => true) true n' f5.type [c6] = some w5 := by simpa using q5
    have q6 := hf 6 f6 rfl
    rw [o6, k6] at q6
    have q6 : DataW.trod enc P W 0 (fun _ => true) true n' f6.type [c7] = some w6 := by simpa using q6
    obtain ⟨z0, e0, _, wf0⟩ := DataW.trod_int (cs := [c0]) u0 (by simpa using qq00)
    obtain ⟨s1, e1, _, _⟩ := DataW.trod_string (cs := [c1]) u1 (by simpa using qq01)
    obtain ⟨z2, e2, _, wf2⟩ := DataW.trod_int (cs := [c2]) u2 q1
    obtain ⟨s3, e3, _, _⟩ := DataW.trod_string (cs := [c3]) u3 q2
    obtain ⟨z4, e4, _, wf4⟩ := DataW.trod_int (cs := [c4]) u4 q3
    obtain ⟨s5, e5, _, _⟩ := DataW.trod_string (cs := [c5]) u5 q4
    obtain ⟨z6, e6, _, wf6⟩ := DataW.trod_int (cs := [c6]) u6 q5
    obtain ⟨z7, e7, _, wf7⟩ := DataW.trod_int (cs := [c7]) u7 q6
    simp only [List.cons.injEq, and_true] at e0 e1 e2 e3 e4 e5 e6 e7
    subst e0 e1 e2 e3 e4 e5 e6 e7
    refine ⟨⟨z0, s1.data.toList, z2, s3.data.toList, z4, s5.data.toList, z6, z7⟩, (u32_wf wf0), fun j hj => ?_⟩
    have hcj := hcell j (by omega)
    match j, hj with
    | 0, _ => exact ⟨.int .u32 z0, by simpa using hcj, rfl, .int _ _⟩
    | 1, _ => exact ⟨.string s1, by simpa using hcj, rfl, .str _⟩
    | 2, _ => exact ⟨.int .i64 z2, by simpa using hcj, rfl, .int _ _⟩
    | 3, _ => exact ⟨.string s3, by simpa using hcj, rfl, .str _⟩
    | 4, _ => exact ⟨.int .u64 z4, by simpa using hcj, rfl, .int _ _⟩
    | 5, _ => exact ⟨.string s5, by simpa using hcj, rfl, .str _⟩
    | 6, _ => exact ⟨.int .i64 z6, by simpa using hcj, rfl, .int _ _⟩
    | 7, _ => exact ⟨.int .i64 z7, by simpa using hcj, rfl, .int _ _⟩
theorem open_enb_trod {W : World} {t e : TypeId} {v : Value} {fuel : Nat} {x : DataW H × List MemPlace} (ht : P.underlying t = some (.slice e)) {f0 f1 f2 f3 f4 f5 f6 g00 g01 : Field} (hs : P.underlying e = some (.struct #[f0, f1, f2, f3, f4, f5, f6])) (hC : P.cellsOf e = 8)
    (o0 : f0.offset = 0) (k0 : P.cellsOf f0.type = 2) (hs0 : P.underlying f0.type = some (.struct #[g00, g01])) (hone0 : oneCellFields P #[g00, g01] = true) (o1 : f1.offset = 2) (k1 : P.cellsOf f1.type = 1) (o2 : f2.offset = 3) (k2 : P.cellsOf f2.type = 1) (o3 : f3.offset = 4) (k3 : P.cellsOf f3.type = 1) (o4 : f4.offset = 5) (k4 : P.cellsOf f4.type = 1) (o5 : f5.offset = 6) (k5 : P.cellsOf f5.type = 1) (o6 : f6.offset = 7) (k6 : P.cellsOf f6.type = 1) 
    (u0 : P.underlying g00.type = some (.int .u32)) (u1 : P.underlying g01.type = some (.string)) (u2 : P.underlying f1.type = some (.int .i64)) (u3 : P.underlying f2.type = some (.string)) (u4 : P.underlying f3.type = some (.int .u64)) (u5 : P.underlying f4.type = some (.string)) (u6 : P.underlying f5.type = some (.int .i64)) (u7 : P.underlying f6.type = some (.int .i64)) 
    (h : DataW.trod enc P W 0 (fun _ => true) true fuel t [v] = some x) :
    ∃ L : List (Ent), L.length ≤ maxLen ∧ (∀ i, enB (L.getD i E0)) ∧ Vd.one v ∧ RelC W (fun _ => False) v (rowS eE E0 8 std fun _ => L) := by
  rcases DataW.trod_slice ht h with ⟨hcs, _⟩ | ⟨a, len, cap, elems, rest, n, _, hcs, _, _, hl, hm, hel, hx, _, _⟩
  · simp only [List.cons.injEq, and_true] at hcs
    subst hcs
    exact ⟨[], Nat.zero_le _, fun i => enB_0, rfl, .slc none 0 0 8 _ (fun _ _ => undef) (Nat.le_refl _) (fun i j hi => absurd hi (by omega)) (fun h => absurd h (by omega)) (fun i j hi => absurd hi (by omega))⟩
  · simp only [List.cons.injEq, and_true] at hcs
    subst hcs
    rw [hC] at hx
    have each : ∀ i, i < len → ∃ x : Ent, enB x ∧ ∀ j, j < 8 → ∃ v, W.cell? ((a.add (i * 8)).add j) = some v ∧ Vd.one v ∧ RelC W (fun _ => False) v (getAt (eE std fun _ => x) j) := by
      intro i hi
      have h1 := hx i hi
      rw [List.getElem?_eq_getElem (by omega)] at h1
      exact enb_one hs hC o0 k0 hs0 hone0 o1 k1 o2 k2 o3 k3 o4 k4 o5 k5 o6 k6 u0 u1 u2 u3 u4 u5 u6 u7 h1
    obtain ⟨F, hF⟩ : ∃ F : Nat → Ent, ∀ i, i < len → enB (F i) ∧ ∀ j, j < 8 → ∃ v, W.cell? ((a.add (i * 8)).add j) = some v ∧ Vd.one v ∧ RelC W (fun _ => False) v (getAt (eE std fun _ => F i) j) :=
      ⟨fun i => if h : i < len then Classical.choose (each i h) else E0, fun i h => by simp only [dif_pos h]; exact Classical.choose_spec (each i h)⟩
    have hadd : ∀ i j, a.add (i * 8 + j) = (a.add (i * 8)).add j := fun i j => by
      unfold Addr.add
      by_cases h1 : i = 0
      · subst h1
        simp
      · by_cases h2 : j = 0
        · subst h2
          simp
        · rw [if_neg (by omega), if_neg h2, if_neg (show ¬ i * 8 = 0 by omega)]
          simp [Nat.add_assoc]
    let L : List (Ent) := (List.range len).map F
    have hlen : L.length = len := by simp [L]
    refine ⟨L, by rw [hlen]; omega, fun i => ?_, rfl, ?_⟩
    · by_cases hi : i < len
      · have e : L.getD i E0 = F i := by simp [L, List.getD_eq_getElem?_getD, hi]
        rw [e]; exact (hF i hi).1
      · have e : L.getD i E0 = E0 := by rw [List.getD_eq_getElem?_getD, List.getElem?_eq_none (by rw [hlen]; omega)]; rfl
        rw [e]; exact enB_0
    show RelC W (fun _ => False) _ (.slc L.length 8 (rowF eE E0 std fun _ => L))
    rw [hlen]
    have hget : ∀ i, i < len → L.getD i E0 = F i := fun i hi => by simp [L, List.getD_eq_getElem?_getD, hi]
    refine .slc (some a) len cap 8 _ (fun i j => (W.cell? (a.add (i * 8 + j))).getD undef) hl (fun i j hi hj => ?_) (fun h0 => ⟨a, rfl, ?_⟩) (fun i j hi hj => ?_)
    · obtain ⟨v, h1, h2, _⟩ := (hF i hi).2 j hj
      rw [hadd, h1]
      exact ⟨a, rfl, (hadd i j).symm ▸ h1, h2, fun h => h⟩
    · obtain ⟨v, h1, _⟩ := (hF 0 h0).2 0 (by omega)
      simpa [Addr.add] using World.cell?_spot h1
    · obtain ⟨v, h1, _, h3⟩ := (hF i hi).2 j hj
      simp only [hadd, h1, Option.getD_some]
      show RelC W _ v (getAt (eE std fun _ => L.getD i E0) j)
      rw [hget i hi]
      exact h3
theorem tbs_list {α : Type} {cs : List α} (h : cs.length = 1) : ∃ c0, cs = [c0] := by
  match cs, h with
  | [c0], _ => exact ⟨c0, rfl⟩
theorem tbs_one {W : World} {ad : Addr} {n : Nat} {el : DataW H × List MemPlace} {e : TypeId} {q : TypeId} (hE : P.underlying e = some (.slice q)) (hC : P.cellsOf e = 1) {f0 f1 f2 f3 f4 f5 f6 g00 g01 : Field} (hs : P.underlying q = some (.struct #[f0, f1, f2, f3, f4, f5, f6])) (hC2 : P.cellsOf q = 8)
    (o0 : f0.offset = 0) (k0 : P.cellsOf f0.type = 2) (hs0 : P.underlying f0.type = some (.struct #[g00, g01])) (hone0 : oneCellFields P #[g00, g01] = true) (o1 : f1.offset = 2) (k1 : P.cellsOf f1.type = 1) (o2 : f2.offset = 3) (k2 : P.cellsOf f2.type = 1) (o3 : f3.offset = 4) (k3 : P.cellsOf f3.type = 1) (o4 : f4.offset = 5) (k4 : P.cellsOf f4.type = 1) (o5 : f5.offset = 6) (k5 : P.cellsOf f5.type = 1) (o6 : f6.offset = 7) (k6 : P.cellsOf f6.type = 1) (u0 : P.underlying g00.type = some (.int .u32)) (u1 : P.underlying g01.type = some (.string)) (u2 : P.underlying f1.type = some (.int .i64)) (u3 : P.underlying f2.type = some (.string)) (u4 : P.underlying f3.type = some (.int .u64)) (u5 : P.underlying f4.type = some (.string)) (u6 : P.underlying f5.type = some (.int .i64)) (u7 : P.underlying f6.type = some (.int .i64)) 
    (h : (W.cells? 0 ad 1).bind (DataW.trod enc P W 0 (fun _ => true) true n e) = some el) :
    ∃ x : List Ent, tbB x ∧ ∀ j, j < 1 → ∃ v, W.cell? (ad.add j) = some v ∧ Vd.one v ∧ RelC W (fun _ => False) v (getAt (eEs std fun _ => x) j) := by
  obtain ⟨cs, hcs, hf⟩ := Option.bind_eq_some_iff.1 h
  obtain ⟨_, hlen, hcell⟩ := World.cells?_some hcs
  obtain ⟨c0, rfl⟩ := tbs_list hlen
  obtain ⟨L, hL, hB, h1, hr⟩ := open_enb_trod hE hs hC2 o0 k0 hs0 hone0 o1 k1 o2 k2 o3 k3 o4 k4 o5 k5 o6 k6 u0 u1 u2 u3 u4 u5 u6 u7 hf
  refine ⟨L, ⟨hL, hB⟩, fun j hj => ?_⟩
  obtain rfl : j = 0 := by omega
  exact ⟨c0, by simpa using hcell 0 (by omega), h1, hr⟩
theorem open_tbs_trod {W : World} {t e : TypeId} {v : Value} {fuel : Nat} {x : DataW H × List MemPlace} (ht : P.underlying t = some (.slice e)) {q : TypeId} (hE : P.underlying e = some (.slice q)) (hC : P.cellsOf e = 1) {f0 f1 f2 f3 f4 f5 f6 g00 g01 : Field} (hs : P.underlying q = some (.struct #[f0, f1, f2, f3, f4, f5, f6])) (hC2 : P.cellsOf q = 8)
    (o0 : f0.offset = 0) (k0 : P.cellsOf f0.type = 2) (hs0 : P.underlying f0.type = some (.struct #[g00, g01])) (hone0 : oneCellFields P #[g00, g01] = true) (o1 : f1.offset = 2) (k1 : P.cellsOf f1.type = 1) (o2 : f2.offset = 3) (k2 : P.cellsOf f2.type = 1) (o3 : f3.offset = 4) (k3 : P.cellsOf f3.type = 1) (o4 : f4.offset = 5) (k4 : P.cellsOf f4.type = 1) (o5 : f5.offset = 6) (k5 : P.cellsOf f5.type = 1) (o6 : f6.offset = 7) (k6 : P.cellsOf f6.type = 1) (u0 : P.underlying g00.type = some (.int .u32)) (u1 : P.underlying g01.type = some (.string)) (u2 : P.underlying f1.type = some (.int .i64)) (u3 : P.underlying f2.type = some (.string)) (u4 : P.underlying f3.type = some (.int .u64)) (u5 : P.underlying f4.type = some (.string)) (u6 : P.underlying f5.type = some (.int .i64)) (u7 : P.underlying f6.type = some (.int .i64)) 
    (h : DataW.trod enc P W 0 (fun _ => true) true fuel t [v] = some x) :
    ∃ L : List (List Ent), L.length ≤ maxLen ∧ (∀ i, tbB (L.getD i [])) ∧ Vd.one v ∧ RelC W (fun _ => False) v (rowS eEs [] 1 std fun _ => L) := by
  rcases DataW.trod_slice ht h with ⟨hcs, _⟩ | ⟨a, len, cap, elems, rest, n, _, hcs, _, _, hl, hm, hel, hx, _, _⟩
  · simp only [List.cons.injEq, and_true] at hcs
    subst hcs
    exact ⟨[], Nat.zero_le _, fun i => tbB_0, rfl, .slc none 0 0 1 _ (fun _ _ => undef) (Nat.le_refl _) (fun i j hi => absurd hi (by omega)) (fun h => absurd h (by omega)) (fun i j hi => absurd hi (by omega))⟩
  · simp only [List.cons.injEq, and_true] at hcs
    subst hcs
    rw [hC] at hx
    have each : ∀ i, i < len → ∃ x : List Ent, tbB x ∧ ∀ j, j < 1 → ∃ v, W.cell? ((a.add (i * 1)).add j) = some v ∧ Vd.one v ∧ RelC W (fun _ => False) v (getAt (eEs std fun _ => x) j) := by
      intro i hi
      have h1 := hx i hi
      rw [List.getElem?_eq_getElem (by omega)] at h1
      exact tbs_one hE hC hs hC2 o0 k0 hs0 hone0 o1 k1 o2 k2 o3 k3 o4 k4 o5 k5 o6 k6 u0 u1 u2 u3 u4 u5 u6 u7 h1
    obtain ⟨F, hF⟩ : ∃ F : Nat → List Ent, ∀ i, i < len → tbB (F i) ∧ ∀ j, j < 1 → ∃ v, W.cell? ((a.add (i * 1)).add j) = some v ∧ Vd.one v ∧ RelC W (fun _ => False) v (getAt (eEs std fun _ => F i) j) :=
      ⟨fun i => if h : i < len then Classical.choose (each i h) else [], fun i h => by simp only [dif_pos h]; exact Classical.choose_spec (each i h)⟩
    have hadd : ∀ i j, a.add (i * 1 + j) = (a.add (i * 1)).add j := fun i j => by
      unfold Addr.add
      by_cases h1 : i = 0
      · subst h1
        simp
      · by_cases h2 : j = 0
        · subst h2
          simp
        · rw [if_neg (by omega), if_neg h2, if_neg (show ¬ i * 1 = 0 by omega)]
          simp [Nat.add_assoc]
    let L : List (List Ent) := (List.range len).map F
    have hlen : L.length = len := by simp [L]
    refine ⟨L, by rw [hlen]; omega, fun i => ?_, rfl, ?_⟩
    · by_cases hi : i < len
      · have e : L.getD i [] = F i := by simp [L, List.getD_eq_getElem?_getD, hi]
        rw [e]; exact (hF i hi).1
      · have e : L.getD i [] = [] := by rw [List.getD_eq_getElem?_getD, List.getElem?_eq_none (by rw [hlen]; omega)]; rfl
        rw [e]; exact tbB_0
    show RelC W (fun _ => False) _ (.slc L.length 1 (rowF eEs [] std fun _ => L))
    rw [hlen]
    have hget : ∀ i, i < len → L.getD i [] = F i := fun i hi => by simp [L, List.getD_eq_getElem?_getD, hi]
    refine .slc (some a) len cap 1 _ (fun i j => (W.cell? (a.add (i * 1 + j))).getD undef) hl (fun i j hi hj => ?_) (fun h0 => ⟨a, rfl, ?_⟩) (fun i j hi hj => ?_)
    · obtain ⟨v, h1, h2, _⟩ := (hF i hi).2 j hj
      rw [hadd, h1]
      exact ⟨a, rfl, (hadd i j).symm ▸ h1, h2, fun h => h⟩
    · obtain ⟨v, h1, _⟩ := (hF 0 h0).2 0 (by omega)
      simpa [Addr.add] using World.cell?_spot h1
    · obtain ⟨v, h1, _, h3⟩ := (hF i hi).2 j hj
      simp only [hadd, h1, Option.getD_some]
      show RelC W _ v (getAt (eEs std fun _ => L.getD i []) j)
      rw [hget i hi]
      exact h3
end
end Go.Vd

