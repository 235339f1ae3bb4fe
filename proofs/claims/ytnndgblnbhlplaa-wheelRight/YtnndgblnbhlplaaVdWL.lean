/- Wheels: the reference's list of timers; the same wheel; a short one. -/
import Derived.Test.YtnndgblnbhlplaaVdWF
import Derived.Test.YtnndgblnbhlplaaVdWC
import Derived.WalkKit
import Derived.LoopTactic
import Derived.LoopN
import Derived.StillTailTactics
import Derived.Shelf.SlSortCmp.WholeK
import Derived.Test.YtnndgblnbhlplaaProg
import Derived.StillTail
import Derived.Deep.Quiet
import Derived.Shelf.SlGeneric
import Derived.Ground.SlsfProg
import Derived.Shelf.SlSortCmp.NoneTotal
set_option linter.unusedVariables false
set_option linter.unusedSimpArgs false
set_option maxRecDepth 100000
set_option maxHeartbeats 8000000
namespace Go.Vd
open Go.Proofs
theorem foldT_len (M L : List Tm) : (M.foldl insT L).length = L.length + M.length := by rw [(foldT_perm M L).length_eq, List.length_append]
theorem foldT_snoc {L : List Tm} {k : Nat} (h : k < L.length) (M : List Tm) : (L.take (k + 1)).foldl insT M = insT ((L.take k).foldl insT M) (L.getD k T0) := by
  rw [← take_snoc (d := T0) h, List.foldl_append]
  rfl
attribute [local irreducible] vc
theorem good_rListT (n m : Int) (I O : Sl) (hQ : whQ I O) : GoodP Try.prog gl0 15 [whS std n m I O] (rowS eT T0 3 std fun _ => lstW I O) := by
  refine fn_sound' (T := seatT) (G := gwg) (X := noX) seatT_ok gwg_ok noX_ok noI_ok mixed Try.func15 (.none) (fun A => [whS A n m I O]) (fun A => rowS eT T0 3 A fun _ => lstW I O) fun A hA => ?_
  cbv
  repeat' (first | with_reducible exact True.intro | with_reducible exact dr_ok hA (by kernel_rfl) | with_reducible exact eqv_refl hA _ | with_reducible refine And.intro ?_ ?_ | (intro hc; cbv))
  refine ⟨⟨{p : Nat × List Tm // p.1 ≤ 64 ∧ p.2 = (allN I O p.1).foldl insT []}, fun b p => [(3, rowS eT T0 3 A fun _ => p.1.2), (4, .int .i64 (p.1.1 : Nat))], fun b p => [], fun p => 64 - p.1.1, true⟩, ⟨⟨(0, []), Nat.zero_le _, rfl⟩, ?_⟩, ?_⟩
  · cbv
    subst hA
    simp [-List.getD_eq_getElem?_getD, sS]
  · rintro ⟨⟨i, M⟩, hx⟩
    have hi : i ≤ 64 := hx.1
    have hM : M = (allN I O i).foldl insT [] := hx.2
    rcases Nat.lt_or_ge i 64 with hlt | hge
    · obtain ⟨i', hi'⟩ : ∃ i', i' = i + 1 := ⟨_, rfl⟩
      obtain ⟨L, hL⟩ : ∃ L, L = sl I i := ⟨_, rfl⟩
      obtain ⟨L', hL'⟩ : ∃ L', L' = sl O i := ⟨_, rfl⟩
      have e1 : I.getD i [] = L := hL.symm
      have e2 : O.getD i [] = L' := hL'.symm
      have hb : L.length + L'.length + M.length ≤ 100000 := by
        have := wh_at hQ hlt
        rw [← hL, ← hL'] at this
        rw [hM, foldT_len]
        simpa using this
      cbv
      repeat' (first | with_reducible exact True.intro | with_reducible exact dr_ok hA (by kernel_rfl) | with_reducible exact eqv_refl hA _ | with_reducible refine And.intro ?_ ?_ | (intro hc; cbv))
      all_goals first
        | (fail_if_success (refine Exists.intro ?_ ?_)
           subst hA
           simp only [sS, Int.ofNat_eq_natCast, Int.toNat_natCast, e1] at *
           first
             | exact ⟨by omega, by omega⟩
             | (exfalso; have := of_decide_eq_false hc; omega))
        | skip
      refine ⟨⟨{q : Nat × List Tm // q.1 ≤ L.length ∧ q.2 = (L.take q.1).foldl insT M}, fun b q => [(3, rowS eT T0 3 A fun _ => q.1.2), (5, .int .i64 (q.1.1 : Nat))], fun b q => [], fun q => L.length - q.1.1, true⟩, ⟨⟨(0, M), Nat.zero_le _, rfl⟩, ?_⟩, ?_⟩
      · cbv
        subst hA
        simp [-List.getD_eq_getElem?_getD, sS]
      · rintro ⟨⟨k, N⟩, hy⟩
        have hk : k ≤ L.length := hy.1
        have hN : N = (L.take k).foldl insT M := hy.2
        have hNl : N.length = M.length + k := by rw [hN, foldT_len, List.length_take]; omega
        rcases Nat.lt_or_ge k L.length with hltk | hgek
        · obtain ⟨k', hk'⟩ : ∃ k', k' = k + 1 := ⟨_, rfl⟩
          obtain ⟨x, hxe⟩ : ∃ x, x = L.getD k T0 := ⟨_, rfl⟩
          have hgx : L.getD k { s := 0, r := [], u := 0 } = x := hxe.symm
          obtain ⟨N', hN'⟩ : ∃ N', N' = insT N x := ⟨_, rfl⟩
          have hNN : N' = (L.take k').foldl insT M := by rw [hk', foldT_snoc hltk, ← hN, ← hxe, hN']
          cbv
          repeat' (first | with_reducible exact True.intro | with_reducible exact dr_ok hA (by kernel_rfl) | with_reducible exact eqv_refl hA _ | with_reducible refine And.intro ?_ ?_ | (intro hc; cbv))
          all_goals first
            | (exfalso
               subst hA
               simp only [sS, Int.ofNat_eq_natCast, Int.toNat_natCast, e1] at *
               have hq : decide ((k : Int) < (L.length : Int)) = false := by assumption
               have := of_decide_eq_false hq
               omega)
            | (fail_if_success (refine Exists.intro ?_ ?_)
               subst hA
               simp only [sS, Int.ofNat_eq_natCast, Int.toNat_natCast, e1, isRow_M, lstOf_M] at *
               first
                 | exact ⟨by omega, by omega⟩
                 | exact ⟨trivial, by omega⟩
                 | trace_state)
            | (refine ⟨⟨(k', N'), by show k' ≤ L.length; omega, hNN⟩, ?_, show L.length - k' < L.length - k by omega⟩
               cbv
               subst hA
               simp [-List.getD_eq_getElem?_getD, sS, e1, hgx, isRow_M, lstOf_M, eta_T, ← hN']
               exact w_succ' hk' (by omega))
            | trace_state
        · have hke : k = L.length := by omega
          rw [hke, List.take_length] at hN
          cbv
          repeat' (first | with_reducible exact True.intro | with_reducible exact dr_ok hA (by kernel_rfl) | with_reducible exact eqv_refl hA _ | with_reducible refine And.intro ?_ ?_ | (intro hc; cbv))
          all_goals first
            | (exfalso
               subst hA
               simp only [sS, Int.ofNat_eq_natCast, Int.toNat_natCast, e1] at *
               have hq : decide ((k : Int) < (L.length : Int)) = true := by assumption
               have := of_decide_eq_true hq
               omega)
            | (fail_if_success (refine Exists.intro ?_ ?_)
               subst hA
               simp only [sS, Int.ofNat_eq_natCast, Int.toNat_natCast, e1] at *
               first
                 | exact ⟨by omega, by omega⟩
                 | trace_state)
            | skip
          refine ⟨⟨{q : Nat × List Tm // q.1 ≤ L'.length ∧ q.2 = (L'.take q.1).foldl insT N}, fun b q => [(3, rowS eT T0 3 A fun _ => q.1.2), (6, .int .i64 (q.1.1 : Nat))], fun b q => [], fun q => L'.length - q.1.1, true⟩, ⟨⟨(0, N), Nat.zero_le _, rfl⟩, ?_⟩, ?_⟩
          · cbv
            subst hA
            simp [-List.getD_eq_getElem?_getD, sS]
          · rintro ⟨⟨k, N2⟩, hy⟩
            have hk : k ≤ L'.length := hy.1
            have hN2 : N2 = (L'.take k).foldl insT N := hy.2
            have hNl2 : N2.length = N.length + k := by rw [hN2, foldT_len, List.length_take]; omega
            rcases Nat.lt_or_ge k L'.length with hltk | hgek
            · obtain ⟨k', hk'⟩ : ∃ k', k' = k + 1 := ⟨_, rfl⟩
              obtain ⟨x, hxe⟩ : ∃ x, x = L'.getD k T0 := ⟨_, rfl⟩
              have hgx : L'.getD k { s := 0, r := [], u := 0 } = x := hxe.symm
              obtain ⟨N', hN'⟩ : ∃ N', N' = insT N2 x := ⟨_, rfl⟩
              have hNN : N' = (L'.take k').foldl insT N := by rw [hk', foldT_snoc hltk, ← hN2, ← hxe, hN']
              cbv
              repeat' (first | with_reducible exact True.intro | with_reducible exact dr_ok hA (by kernel_rfl) | with_reducible exact eqv_refl hA _ | with_reducible refine And.intro ?_ ?_ | (intro hc; cbv))
              all_goals first
                | (exfalso
                   subst hA
                   simp only [sS, Int.ofNat_eq_natCast, Int.toNat_natCast, e2] at *
                   have hq : decide ((k : Int) < (L'.length : Int)) = false := by assumption
                   have := of_decide_eq_false hq
                   omega)
                | (fail_if_success (refine Exists.intro ?_ ?_)
                   subst hA
                   simp only [sS, Int.ofNat_eq_natCast, Int.toNat_natCast, e2, isRow_M, lstOf_M] at *
                   first
                     | exact ⟨by omega, by omega⟩
                     | exact ⟨trivial, by omega⟩
                     | trace_state)
                | (refine ⟨⟨(k', N'), by show k' ≤ L'.length; omega, hNN⟩, ?_, show L'.length - k' < L'.length - k by omega⟩
                   cbv
                   subst hA
                   simp [-List.getD_eq_getElem?_getD, sS, e2, hgx, isRow_M, lstOf_M, eta_T, ← hN']
                   exact w_succ' hk' (by omega))
                | trace_state
            · have hke : k = L'.length := by omega
              rw [hke, List.take_length] at hN2
              cbv
              repeat' (first | with_reducible exact True.intro | with_reducible exact dr_ok hA (by kernel_rfl) | with_reducible exact eqv_refl hA _ | with_reducible refine And.intro ?_ ?_ | (intro hc; cbv))
              all_goals first
                | (exfalso
                   subst hA
                   simp only [sS, Int.ofNat_eq_natCast, Int.toNat_natCast, e2] at *
                   have hq : decide ((k : Int) < (L'.length : Int)) = true := by assumption
                   have := of_decide_eq_true hq
                   omega)
                | (fail_if_success (refine Exists.intro ?_ ?_)
                   subst hA
                   simp only [sS, Int.ofNat_eq_natCast, Int.toNat_natCast, e2] at *
                   first
                     | exact ⟨by omega, by omega⟩
                     | trace_state)
                | skip
              have hfin : N2 = (allN I O i').foldl insT [] := by rw [hN2, hN, hM, hi']; show _ = (allN I O i ++ (sl I i ++ sl O i)).foldl insT []; rw [List.foldl_append, List.foldl_append, ← hL, ← hL']
              refine ⟨⟨(i', N2), by show i' ≤ 64; omega, hfin⟩, ?_, show 64 - i' < 64 - i by omega⟩
              cbv
              subst hA
              simp [-List.getD_eq_getElem?_getD, sS]
              exact w_succ' hi' (by omega)

    · have hie : i = 64 := by omega
      subst hie
      have hML : M = lstW I O := by rw [hM, ← allT_eq]; rfl
      cbv
      repeat' (first | with_reducible exact True.intro | with_reducible exact dr_ok hA (by kernel_rfl) | with_reducible exact eqv_refl hA _ | with_reducible refine And.intro ?_ ?_ | (intro hc; cbv))
      all_goals first
        | (exfalso
           subst hA
           simp only [sS, Int.ofNat_eq_natCast, Int.toNat_natCast] at *
           have hq : decide ((64 : Int) < 64) = true := by assumption
           have := of_decide_eq_true hq
           omega)
        | (subst hA
           simp only [sS, hML]
           first
             | done
             | exact eqrS_rfl)
        | trace_state
noncomputable def c_rListT : Ct := fun A args => match args with
  | [.agg [.int .u64 n, .int .i64 m, .run 64 f, .run 64 g]] => some (some (A.tp fun _ => (isRow eTs [] 1 64 f ∧ isRow eTs [] 1 64 g) ∧ whQ (lstOf eTs [] 1 64 f) (lstOf eTs [] 1 64 g)), rowS eT T0 3 A fun _ => lstW (lstOf eTs [] 1 64 f) (lstOf eTs [] 1 64 g))
  | _ => none
noncomputable def gwh : Ar → Pu := addC 15 c_rListT (gwg)
theorem gwh_ok : PuOk Try.prog gl0 (gwh std) := by
  refine addC_ok (gwg_ok) ⟨_, Try.func15, rfl, by decide⟩ ?_
  · intro args p r h hp
    unfold c_rListT at h
    split at h <;> cases h
    exact good_sv (good_rListT _ _ _ _ hp.2) ⟨whS_sv hp.1.1 hp.1.2, trivial⟩
end Go.Vd

set_option linter.unusedVariables false
set_option linter.unusedSimpArgs false
set_option maxRecDepth 100000
set_option maxHeartbeats 8000000
namespace Go.Vd
open Go.Proofs
@[irreducible] def eqSl (I J : Sl) : Bool := decide (I = J)
theorem eqSl_iff {I J : Sl} : eqSl I J = true ↔ I = J := by unfold eqSl; exact decide_eq_true_iff
@[irreducible] def eqW (n m : Int) (I O : Sl) (n' m' : Int) (I' O' : Sl) : Bool := (eqSl I I' && eqSl O O') && (decide (n = n') && decide (m = m'))
theorem eqW_iff {n m n' m' : Int} {I O I' O' : Sl} : eqW n m I O n' m' I' O' = true ↔ (I = I' ∧ O = O') ∧ n = n' ∧ m = m' := by
  unfold eqW
  rw [Bool.and_eq_true, Bool.and_eq_true, Bool.and_eq_true, eqSl_iff, eqSl_iff, decide_eq_true_eq, decide_eq_true_eq]
theorem eqW_no {n m n' m' : Int} {I O I' O' : Sl} (h : ¬(I = I' ∧ O = O')) : eqW n m I O n' m' I' O' = false := by
  cases hb : eqW n m I O n' m' I' O'
  · rfl
  · exact absurd (eqW_iff.1 hb).1 h
theorem eqW_end {n m n' m' : Int} {I O I' O' : Sl} (h : I = I' ∧ O = O') : eqW n m I O n' m' I' O' = (bif n == n' then m == m' else false) := by
  rw [Bool.eq_iff_iff, eqW_iff]
  by_cases h1 : n = n' <;> by_cases h2 : m = m' <;> simp [h, h1, h2]
attribute [local irreducible] vc
theorem good_rSameW (n m n' m' : Int) (I O I' O' : Sl) (hQ : whQ I O) (hQ' : whQ I' O') : GoodP Try.prog gl0 11 [whS std n m I O, whS std n' m' I' O'] (.bool (std.tb fun _ => eqW n m I O n' m' I' O')) := by
  refine fn_sound' (T := seatT) (G := gwh) (X := noX) seatT_ok gwh_ok noX_ok noI_ok mixed Try.func11 (.one) (fun A => [whS A n m I O, whS A n' m' I' O']) (fun A => .bool (A.tb fun _ => eqW n m I O n' m' I' O')) fun A hA => ?_
  cbv
  repeat' (first | with_reducible exact True.intro | with_reducible exact dr_ok hA (by kernel_rfl) | with_reducible exact eqv_refl hA _ | with_reducible refine And.intro ?_ ?_ | (intro hc; cbv))
  refine ⟨⟨{i : Nat // i ≤ 64 ∧ ∀ j, j < i → sl I j = sl I' j ∧ sl O j = sl O' j}, fun b i => [(5, .int .i64 (i.1 : Nat))], fun b i => [], fun i => 64 - i.1, true⟩, ⟨⟨0, Nat.zero_le _, fun j hj => absurd hj (by omega)⟩, ?_⟩, ?_⟩
  · cbv
    subst hA
    simp [-List.getD_eq_getElem?_getD, sS]
  · rintro ⟨i, hx⟩
    have hi : i ≤ 64 := hx.1
    have hj := hx.2
    rcases Nat.lt_or_ge i 64 with hlt | hge
    · obtain ⟨i', hi'⟩ : ∃ i', i' = i + 1 := ⟨_, rfl⟩
      obtain ⟨L1, hL1⟩ : ∃ L, L = sl I i := ⟨_, rfl⟩
      obtain ⟨L2, hL2⟩ : ∃ L, L = sl O i := ⟨_, rfl⟩
      obtain ⟨M1, hM1⟩ : ∃ L, L = sl I' i := ⟨_, rfl⟩
      obtain ⟨M2, hM2⟩ : ∃ L, L = sl O' i := ⟨_, rfl⟩
      have e1 : I.getD i [] = L1 := hL1.symm
      have e2 : O.getD i [] = L2 := hL2.symm
      have e3 : I'.getD i [] = M1 := hM1.symm
      have e4 : O'.getD i [] = M2 := hM2.symm
      have hb := wh_at hQ hlt
      have hb' := wh_at hQ' hlt
      rw [← hL1, ← hL2] at hb
      rw [← hM1, ← hM2] at hb'
      have hyes : L1 = M1 → L2 = M2 → ∀ j, j < i' → sl I j = sl I' j ∧ sl O j = sl O' j := fun h1 h2 j h3 => by
        rcases Nat.lt_or_ge j i with h4 | h4
        · exact hj j h4
        · obtain rfl : j = i := by omega
          rw [← hL1, ← hL2, ← hM1, ← hM2]; exact ⟨h1, h2⟩
      have hno : ¬(L1 = M1 ∧ L2 = M2) → eqW n m I O n' m' I' O' = false := fun h => eqW_no fun e => h (by rw [hL1, hL2, hM1, hM2, e.1, e.2]; exact ⟨rfl, rfl⟩)
      obtain ⟨b1, hb1⟩ : ∃ b, b = eqT L1 M1 := ⟨_, rfl⟩
      obtain ⟨b2, hb2⟩ : ∃ b, b = eqT L2 M2 := ⟨_, rfl⟩
      have hbb : (b1 = true ∧ b2 = true) ↔ (L1 = M1 ∧ L2 = M2) := by rw [hb1, hb2, eqT_iff, eqT_iff]
      cbv
      repeat' (first | with_reducible exact True.intro | with_reducible exact dr_ok hA (by kernel_rfl) | with_reducible exact eqv_refl hA _ | with_reducible refine And.intro ?_ ?_ | (intro hc; cbv))
      all_goals first
        | (exfalso
           subst hA
           simp only [sS, Int.ofNat_eq_natCast, Int.toNat_natCast] at *
           have hq : decide ((i : Int) < 64) = false := by assumption
           have := of_decide_eq_false hq
           omega)
        | (fail_if_success (refine Exists.intro ?_ ?_)
           subst hA
           clear hyes
           simp only [sS, Int.ofNat_eq_natCast, Int.toNat_natCast, e1, e2, e3, e4, isRow_M, lstOf_M, ← hb1, ← hb2] at *
           first
             | exact ⟨by omega, by omega⟩
             | exact ⟨⟨trivial, trivial⟩, by omega, by omega⟩
             | exact fun h => h
             | exact fun h => ⟨h, h⟩
             | exact fun h => ⟨h, by omega, by omega⟩
             | exact fun h => ⟨⟨h, h⟩, by omega, by omega⟩
             | exact fun h => ⟨⟨h, h⟩, ⟨trivial, trivial⟩, by omega, by omega⟩
             | exact fun h => by rw [h]; rfl
             | (refine (hno fun e => ?_).symm
                have h1 := hbb.2 e
                rw [h1.1, h1.2] at hc
                cases hc)
             | trace_state)
        | (have hn : b1 = true ∧ b2 = true := by
             subst hA
             clear hyes hno
             simp only [sS, Int.ofNat_eq_natCast, Int.toNat_natCast, e1, e2, e3, e4, isRow_M, lstOf_M, ← hb1, ← hb2] at *
             cases b1
             · cases hc
             · cases b2
               · cases hc
               · exact ⟨rfl, rfl⟩
           have hn2 := hbb.1 hn
           refine ⟨⟨i', by omega, hyes hn2.1 hn2.2⟩, ?_, show 64 - i' < 64 - i by omega⟩
           cbv
           subst hA
           simp [-List.getD_eq_getElem?_getD, sS]
           exact w_succ' hi' (by omega))
        | trace_state
    · have hie : i = 64 := by omega
      subst hie
      have hfin := eqW_end (n := n) (m := m) (n' := n') (m' := m') (show I = I' ∧ O = O' from ⟨sl_ext hQ.1.1 hQ'.1.1 fun j h => (hj j h).1, sl_ext hQ.1.2 hQ'.1.2 fun j h => (hj j h).2⟩)
      cbv
      repeat' (first | with_reducible exact True.intro | with_reducible exact dr_ok hA (by kernel_rfl) | with_reducible exact eqv_refl hA _ | with_reducible refine And.intro ?_ ?_ | (intro hc; cbv))
      all_goals first
        | (exfalso
           subst hA
           simp only [sS, Int.ofNat_eq_natCast, Int.toNat_natCast] at *
           have hq : decide ((64 : Int) < 64) = true := by assumption
           have := of_decide_eq_true hq
           omega)
        | (subst hA
           simp only [sS, hfin]
           first
             | done
             | exact fun h => h
             | exact fun h => ⟨h, h⟩
             | (intro h; rw [h]; rfl)
             | (intro h; rw [h]; exact ⟨rfl, rfl⟩))
        | trace_state
noncomputable def c_rSameW : Ct := fun A args => match args with
  | [.agg [.int .u64 n, .int .i64 m, .run 64 f, .run 64 g], .agg [.int .u64 n', .int .i64 m', .run 64 f', .run 64 g']] => some (some (A.tp fun _ => ((isRow eTs [] 1 64 f ∧ isRow eTs [] 1 64 g) ∧ whQ (lstOf eTs [] 1 64 f) (lstOf eTs [] 1 64 g)) ∧ ((isRow eTs [] 1 64 f' ∧ isRow eTs [] 1 64 g') ∧ whQ (lstOf eTs [] 1 64 f') (lstOf eTs [] 1 64 g'))), .bool (A.tb fun _ => eqW n m (lstOf eTs [] 1 64 f) (lstOf eTs [] 1 64 g) n' m' (lstOf eTs [] 1 64 f') (lstOf eTs [] 1 64 g')))
  | _ => none
noncomputable def gwi : Ar → Pu := addC 11 c_rSameW (gwh)
theorem gwi_ok : PuOk Try.prog gl0 (gwi std) := by
  refine addC_ok (gwh_ok) ⟨_, Try.func11, rfl, by decide⟩ ?_
  · intro args p r h hp
    unfold c_rSameW at h
    split at h <;> cases h
    exact good_sv (good_rSameW _ _ _ _ _ _ _ _ hp.1.2 hp.2.2) ⟨whS_sv hp.1.1.1 hp.1.1.2, whS_sv hp.2.1.1 hp.2.1.2, trivial⟩
end Go.Vd

set_option linter.unusedVariables false
set_option linter.unusedSimpArgs false
set_option maxRecDepth 100000
set_option maxHeartbeats 8000000
namespace Go.Vd
open Go.Proofs
/-- The rows of slots, each the call's own. -/
def kdW (A : Ar) (fam n : Nat) (I : Sl) : Blk := .kids ⟨58, 3, n, fun x => A.tn fun _ => (I.getD x []).length, fun x => rowF eT T0 A fun _ => I.getD x [], none, fam, none⟩
/-- The loop that copies them: i slots of each level are copied; all of them. -/
def lpFresh (A : Ar) (n m : Int) (I O : Sl) (kb : Nat) (ls : Nat) : Lp := ⟨Option {i : Nat // i < 64},
  fun b x => match x with
    | some i => [(ls, .int .i64 (i.1 : Nat))]
    | none => [(ls, .int .i64 64)],
  fun b x => match x with
    | some i => [(b, kdW A (b + 1) i.1 I), (b + 2, kdW A (b + 3) i.1 O), (kb, .box 26 [.int .u64 n, .int .i64 m, .mrun b (b + 1) i.1 64 (rowF eTs [] A fun _ => I), .mrun (b + 2) (b + 3) i.1 64 (rowF eTs [] A fun _ => O)])]
    | none => [(b, kdW A (b + 1) 64 I), (b + 2, kdW A (b + 3) 64 O), (kb, .box 26 [.int .u64 n, .int .i64 m, .krun b (b + 1) 64, .krun (b + 2) (b + 3) 64])],
  fun x => match x with
    | some i => 64 - i.1
    | none => 0, true⟩
theorem kd_eqr (I : Sl) {n : Nat} : eqrS n 1 (fun i _ => SV.slc ((I.getD i []).length) 3 (rowF eT T0 std fun _ => I.getD i [])) (rowF eTs [] std fun _ => I) := fun i j hi hj => by
  obtain rfl : j = 0 := by omega
  exact .refl _
theorem eqrS_refl (n k : Nat) (f : Nat → Nat → SV) : eqrS n k f f = True := eq_true fun i j _ _ => .refl _
theorem set_kd (I : Sl) (i n : Nat) : eqrS n 1 (fun x _ => SV.slc (if x = i then (I.getD i []).length else (I.getD x []).length) 3 (if x = i then rowF eT { s := 0, r := [], u := 0 } std fun _ => I.getD i [] else rowF eT T0 std fun _ => I.getD x [])) (fun x _ => SV.slc ((I.getD x []).length) 3 (rowF eT T0 std fun _ => I.getD x [])) = True := eq_true fun x j _ _ => by
  by_cases h : x = i
  · subst h; simp only [if_true]; exact .refl _
  · simp only [if_neg h]; exact .refl _
attribute [local irreducible] vc
end Go.Vd

set_option linter.unusedVariables false
set_option linter.unusedSimpArgs false
set_option maxRecDepth 100000
set_option maxHeartbeats 8000000
namespace Go.Vd
open Go.Proofs
/-- A wheel, its slots kept as they are said. -/
def whT (A : Ar) (n m : Int) (I O : Unit → Sl) : SV := .agg [.int .u64 n, .int .i64 m, .run 64 (rowF eTs [] A I), .run 64 (rowF eTs [] A O)]
theorem bI_nil (n : Int) (i : Nat) : sl (bI n []) i = [] := by
  rcases Nat.lt_or_ge i 64 with h | h
  · rw [bI_at h]; rfl
  · unfold sl; rw [List.getD_eq_getElem?_getD, List.getElem?_eq_none (by rw [bI_len]; exact h)]; rfl
theorem bO_nil (n : Int) (i : Nat) : sl (bO n []) i = [] := by
  rcases Nat.lt_or_ge i 64 with h | h
  · rw [bO_at h]; rfl
  · unfold sl; rw [List.getD_eq_getElem?_getD, List.getElem?_eq_none (by rw [bO_len]; exact h)]; rfl
theorem bI_snoc {n : Int} {L : List Tm} {t : Tm} (hq : t.u / 64 = n / 64) {s : Nat} (hs : (s : Int) = t.u % 64) : bI n (L ++ [t]) = (bI n L).set s (sl (bI n L) s ++ [t]) ∧ bO n (L ++ [t]) = bO n L := by
  have hs2 : s < 64 := by omega
  constructor
  · refine sl_ext (bI_len _ _) (by rw [List.length_set]; exact bI_len _ _) fun i hi => ?_
    rw [bI_at hi, sl_set (bI_len _ _) hs2, bI_at hs2, bI_at hi, List.filter_append]
    by_cases e : i = s
    · subst e
      rw [if_pos rfl, List.filter_cons_of_pos (by unfold inI; rw [decide_eq_true_eq]; omega)]
      rfl
    · rw [if_neg e, List.filter_cons_of_neg (by unfold inI; rw [decide_eq_true_eq]; omega)]
      simp
  · refine sl_ext (bO_len _ _) (bO_len _ _) fun i hi => ?_
    rw [bO_at hi, bO_at hi, List.filter_append, List.filter_cons_of_neg (by unfold inO; rw [decide_eq_true_eq]; omega)]
    simp
theorem bO_snoc {n : Int} {L : List Tm} {t : Tm} (hq : ¬t.u / 64 = n / 64) {s : Nat} (hs : (s : Int) = t.u / 64 % 64) : bO n (L ++ [t]) = (bO n L).set s (sl (bO n L) s ++ [t]) ∧ bI n (L ++ [t]) = bI n L := by
  have hs2 : s < 64 := by omega
  constructor
  · refine sl_ext (bO_len _ _) (by rw [List.length_set]; exact bO_len _ _) fun i hi => ?_
    rw [bO_at hi, sl_set (bO_len _ _) hs2, bO_at hs2, bO_at hi, List.filter_append]
    by_cases e : i = s
    · subst e
      rw [if_pos rfl, List.filter_cons_of_pos (by unfold inO; rw [decide_eq_true_eq]; omega)]
      rfl
    · rw [if_neg e, List.filter_cons_of_neg (by unfold inO; rw [decide_eq_true_eq]; omega)]
      simp
  · refine sl_ext (bI_len _ _) (bI_len _ _) fun i hi => ?_
    rw [bI_at hi, bI_at hi, List.filter_append, List.filter_cons_of_neg (by unfold inI; rw [decide_eq_true_eq]; omega)]
    simp
theorem kd_app {B B' : Sl} {s : Nat} {t : Tm} (hs : s < 64) (hl : B.length = 64) (h : B' = B.set s (sl B s ++ [t])) : eqrS 64 1 (fun x _ => SV.slc (if x = s then (B.getD s []).length + 1 else (B.getD x []).length) 3 (if x = s then catS (B.getD s []).length (rowF eT { s := 0, r := [], u := 0 } std fun _ => B.getD s []) (lstS [[SV.int IntKind.u32 t.s, SV.str t.r, SV.int IntKind.u64 t.u]]) else rowF eT T0 std fun _ => B.getD x [])) (fun x _ => SV.slc ((B'.getD x []).length) 3 (rowF eT T0 std fun _ => B'.getD x [])) := fun x j hx _ => by
  have e : B'.getD x [] = if x = s then B.getD s [] ++ [t] else B.getD x [] := by rw [h]; exact sl_set hl hs _ x
  by_cases hxs : x = s
  · simp only [if_pos hxs] at e ⊢
    rw [e, List.length_append]
    exact .slc _ _ _ _ (eqr_of ((Reps.lit (B.getD s [])).cat (Reps.one (cell_eT t))) rfl rfl)
  · simp only [if_neg hxs] at e ⊢
    rw [e]
    exact .refl _
attribute [local irreducible] vc
theorem good_rBuildW (n m : Int) (L : List Tm) (hL : L.length ≤ 1000000) (hn : 0 ≤ n ∧ n < 18446744073709551616) (hT : ∀ t ∈ L, tmQ t) : GoodP Try.prog gl0 24 [.int .u64 n, .int .i64 m, rowS eT T0 3 std fun _ => L] (whS std n m (bI n L) (bO n L)) := by
  refine fn_sound' (T := seatT) (G := gwi) (X := noX) seatT_ok gwi_ok noX_ok noI_ok mixed Try.func24 (.none) (fun A => [.int .u64 n, .int .i64 m, rowS eT T0 3 A fun _ => L]) (fun A => whS A n m (bI n L) (bO n L)) fun A hA => ?_
  obtain ⟨FI, hFI⟩ : ∃ e, e = bI n L := ⟨_, rfl⟩
  obtain ⟨FO, hFO⟩ : ∃ e, e = bO n L := ⟨_, rfl⟩
  obtain ⟨eI, heI⟩ : ∃ e, e = bI n [] := ⟨_, rfl⟩
  obtain ⟨eO, heO⟩ : ∃ e, e = bO n [] := ⟨_, rfl⟩
  have hI0 : ∀ i, eI.getD i [] = [] := fun i => by rw [heI]; exact bI_nil n i
  have hO0 : ∀ i, eO.getD i [] = [] := fun i => by rw [heO]; exact bO_nil n i
  rw [← hFI, ← hFO]
  cbv
  repeat' (first | with_reducible exact True.intro | with_reducible exact dr_ok hA (by kernel_rfl) | with_reducible exact eqv_refl hA _ | with_reducible refine And.intro ?_ ?_ | (intro hc; cbv))
  refine ⟨⟨{p : Nat × Sl × Sl // p.1 ≤ L.length ∧ p.2.1 = bI n (L.take p.1) ∧ p.2.2 = bO n (L.take p.1)}, fun b p => [(8, .int .i64 (p.1.1 : Nat))], fun b p => [(b, kdW A (b + 1) 64 p.1.2.1), (b + 2, kdW A (b + 3) 64 p.1.2.2), (4, .box 26 [.int .u64 n, .int .i64 m, .krun b (b + 1) 64, .krun (b + 2) (b + 3) 64])], fun p => L.length - p.1.1, true⟩, ⟨⟨(0, eI, eO), Nat.zero_le _, by rw [List.take_zero]; exact heI, by rw [List.take_zero]; exact heO⟩, ?_⟩, ?_⟩
  · cbv
    subst hA
    simp [-List.getD_eq_getElem?_getD, sS, eqrS_refl, hI0, hO0]
  · rintro ⟨⟨i, BI, BO⟩, hx⟩
    have hi : i ≤ L.length := hx.1
    have hBI : BI = bI n (L.take i) := hx.2.1
    have hBO : BO = bO n (L.take i) := hx.2.2
    rcases Nat.lt_or_ge i L.length with hlt | hge
    · obtain ⟨i', hi'⟩ : ∃ i', i' = i + 1 := ⟨_, rfl⟩
      obtain ⟨t, ht⟩ : ∃ t, t = L.getD i T0 := ⟨_, rfl⟩
      have hgt : L.getD i { s := 0, r := [], u := 0 } = t := ht.symm
      have htQ : tmQ t := hT t (ht ▸ mem_at hlt)
      have h1 := htQ.1
      have h2 := htQ.2
      have q1 : IntKind.u64.wrap (t.u.tdiv 64) = t.u / 64 := by rw [Int.tdiv_eq_ediv_of_nonneg h1, wU (by omega)]
      have q2 : IntKind.u64.wrap (n.tdiv 64) = n / 64 := by rw [Int.tdiv_eq_ediv_of_nonneg hn.1, wU (by omega)]
      have q3 : t.u.tmod 64 = t.u % 64 := Int.tmod_eq_emod_of_nonneg h1
      have q4 : (t.u / 64).tmod 64 = t.u / 64 % 64 := Int.tmod_eq_emod_of_nonneg (by omega)
      have q5 : ∀ s : Nat, (BI.getD s []).length ≤ i := fun s => by
        rcases Nat.lt_or_ge s 64 with h | h
        · have : BI.getD s [] = (L.take i).filter (inI n s) := by rw [hBI]; exact bI_at h
          rw [this]
          exact Nat.le_trans (List.length_filter_le _ _) (by rw [List.length_take]; omega)
        · rw [List.getD_eq_getElem?_getD, List.getElem?_eq_none (by rw [hBI, bI_len]; exact h)]; exact Nat.zero_le _
      have q6 : ∀ s : Nat, (BO.getD s []).length ≤ i := fun s => by
        rcases Nat.lt_or_ge s 64 with h | h
        · have : BO.getD s [] = (L.take i).filter (inO n s) := by rw [hBO]; exact bO_at h
          rw [this]
          exact Nat.le_trans (List.length_filter_le _ _) (by rw [List.length_take]; omega)
        · rw [List.getD_eq_getElem?_getD, List.getElem?_eq_none (by rw [hBO, bO_len]; exact h)]; exact Nat.zero_le _
      obtain ⟨s, hs⟩ : ∃ s : Nat, (s : Int) = t.u % 64 := ⟨(t.u % 64).toNat, by omega⟩
      obtain ⟨z, hz⟩ : ∃ z : Nat, (z : Int) = t.u / 64 % 64 := ⟨(t.u / 64 % 64).toNat, by omega⟩
      have q7 : (t.u % 64).toNat = s := by omega
      have q8 : (t.u / 64 % 64).toNat = z := by omega
      obtain ⟨BI', hBI'⟩ : ∃ B, B = BI.set s (sl BI s ++ [t]) := ⟨_, rfl⟩
      obtain ⟨BO', hBO'⟩ : ∃ B, B = BO.set z (sl BO z ++ [t]) := ⟨_, rfl⟩
      have e0 : L.take i' = L.take i ++ [t] := by rw [hi', ht, take_snoc hlt]
      have hyes : t.u / 64 = n / 64 → BI' = bI n (L.take i') ∧ BO = bO n (L.take i') := fun h => by
        rw [e0, (bI_snoc h hs).1, (bI_snoc h hs).2, hBI', ← hBI, ← hBO]; exact ⟨rfl, rfl⟩
      have hno : ¬t.u / 64 = n / 64 → BI = bI n (L.take i') ∧ BO' = bO n (L.take i') := fun h => by
        rw [e0, (bO_snoc h hz).1, (bO_snoc h hz).2, hBO', ← hBI, ← hBO]; exact ⟨rfl, rfl⟩
      cbv
      repeat' (first | with_reducible exact True.intro | with_reducible exact dr_ok hA (by kernel_rfl) | with_reducible exact eqv_refl hA _ | with_reducible refine And.intro ?_ ?_ | (intro hc; cbv))
      all_goals first
        | (exfalso
           subst hA
           simp only [sS, Int.ofNat_eq_natCast, Int.toNat_natCast] at *
           have hq : decide ((i : Int) < (L.length : Int)) = false := by assumption
           have := of_decide_eq_false hq
           omega)
        | (fail_if_success (refine Exists.intro ?_ ?_)
           subst hA
           simp only [sS, Int.ofNat_eq_natCast, Int.toNat_natCast, hgt, q1, q2, q3, q4, q7, q8] at *
           first
             | done
             | decide
             | exact ⟨by omega, by omega⟩
             | (have := q5 s; exact ⟨by omega, by omega⟩)
             | (have := q6 z; exact ⟨by omega, by omega⟩)
             | trace_state)
        | (have hd : t.u / 64 = n / 64 := by
             subst hA
             simp only [sS, Int.ofNat_eq_natCast, Int.toNat_natCast, hgt, q1, q2, q3, q4, q7, q8] at *
             simpa using hc
           obtain ⟨r1, r2⟩ := hyes hd
           refine ⟨⟨(i', BI', BO), by show i' ≤ L.length; omega, r1, r2⟩, ?_, show L.length - i' < L.length - i by omega⟩
           cbv
           subst hA
           simp [-List.getD_eq_getElem?_getD, sS, hgt, q3, q7, eqrS_refl]
           exact ⟨w_succ' hi' (by omega), kd_app (by omega) (by rw [hBI]; exact bI_len _ _) hBI'⟩)
        | (have hd : ¬t.u / 64 = n / 64 := by
             subst hA
             simp only [sS, Int.ofNat_eq_natCast, Int.toNat_natCast, hgt, q1, q2, q3, q4, q7, q8] at *
             simpa using hc
           obtain ⟨r1, r2⟩ := hno hd
           refine ⟨⟨(i', BI, BO'), by show i' ≤ L.length; omega, r1, r2⟩, ?_, show L.length - i' < L.length - i by omega⟩
           cbv
           subst hA
           simp [-List.getD_eq_getElem?_getD, sS, hgt, q1, q4, q8, eqrS_refl]
           exact ⟨w_succ' hi' (by omega), kd_app (by omega) (by rw [hBO]; exact bO_len _ _) hBO'⟩)
        | trace_state
    · have hie : i = L.length := by omega
      rw [hie, List.take_length] at hBI hBO
      rw [← hFI] at hBI
      rw [← hFO] at hBO
      cbv
      repeat' (first | with_reducible exact True.intro | with_reducible exact dr_ok hA (by kernel_rfl) | with_reducible exact eqv_refl hA _ | with_reducible refine And.intro ?_ ?_ | (intro hc; cbv))
      all_goals first
        | (exfalso
           subst hA
           simp only [sS, Int.ofNat_eq_natCast, Int.toNat_natCast] at *
           have hq : decide ((i : Int) < (L.length : Int)) = true := by assumption
           have := of_decide_eq_true hq
           omega)
        | (subst hA
           simp only [sS, hBI, hBO]
           first
             | done
             | exact kd_eqr _)
        | trace_state
noncomputable def c_rBuildW : Ct := fun A args => match args with
  | [.int .u64 n, .int .i64 m, .slc k 3 f] => some (some (A.tp fun _ => ((isRow eT T0 3 k f ∧ k ≤ 1000000) ∧ (∀ t ∈ lstOf eT T0 3 k f, tmQ t)) ∧ 0 ≤ n ∧ n < 18446744073709551616), whT A n m (fun _ => bI n (lstOf eT T0 3 k f)) (fun _ => bO n (lstOf eT T0 3 k f)))
  | _ => none
noncomputable def gwj : Ar → Pu := addC 24 c_rBuildW (gwi)
theorem gwj_ok : PuOk Try.prog gl0 (gwj std) := by
  refine addC_ok (gwi_ok) ⟨_, Try.func24, rfl, by decide⟩ ?_
  · intro args p r h hp
    unfold c_rBuildW at h
    split at h <;> cases h
    exact good_sv (good_rBuildW _ _ _ (by rw [lstOf_length hp.1.1.1]; exact hp.1.1.2) hp.2 hp.1.2) ⟨rfl, rfl, hp.1.1.1.sv, trivial⟩
theorem whQ_b {n : Int} {L : List Tm} (hl : L.length ≤ 100000) (hT : ∀ t ∈ L, tmQ t) : whQ (bI n L) (bO n L) :=
  ⟨⟨bI_len _ _, bO_len _ _⟩, by rw [(bIO_all n L).length_eq]; exact hl, fun t ht => hT t ((bIO_all n L).mem_iff.1 ht)⟩
theorem isRow_bI (n : Int) (L : List Tm) : isRow eTs [] 1 64 (rowF eTs [] std fun _ => bI n L) := isRow_X64 (bI_len _ _)
theorem isRow_bO (n : Int) (L : List Tm) : isRow eTs [] 1 64 (rowF eTs [] std fun _ => bO n L) := isRow_X64 (bO_len _ _)
theorem lstOf_bI (n : Int) (L : List Tm) : lstOf eTs [] 1 64 (rowF eTs [] std fun _ => bI n L) = bI n L := lstOf_X64 (bI_len _ _)
theorem lstOf_bO (n : Int) (L : List Tm) : lstOf eTs [] 1 64 (rowF eTs [] std fun _ => bO n L) = bO n L := lstOf_X64 (bO_len _ _)
/-- What the reference asks of the first timers. -/
def rgK (L : List Tm) (i k : Nat) : Prop := ∀ j, j < k → unlT (L.getD j T0) (L.getD i T0)
def rgP (n : Int) (L : List Tm) (i : Nat) : Prop := ∀ j, j < i → tmOk n (L.getD j T0) ∧ rgK L j j
theorem rg_all {n : Int} {L : List Tm} (h : rgP n L L.length) : (∀ t ∈ L, tmOk n t) ∧ unlQ L := by
  constructor
  · intro t ht
    obtain ⟨i, hi, rfl⟩ := List.getElem_of_mem ht
    have := (h i hi).1
    rwa [List.getD_eq_getElem?_getD, List.getElem?_eq_getElem hi] at this
  · unfold unlQ
    rw [List.pairwise_iff_getElem]
    intro i j hi hj hij
    have := (h j hj).2 i hij
    rwa [List.getD_eq_getElem?_getD, List.getElem?_eq_getElem hi, List.getD_eq_getElem?_getD, List.getElem?_eq_getElem hj] at this
theorem rg_of {n : Int} {L : List Tm} (h1 : ∀ t ∈ L, tmOk n t) (h2 : unlQ L) : rgP n L L.length := fun j hj => by
  refine ⟨h1 _ (mem_at hj), fun k hk => ?_⟩
  have := List.pairwise_iff_getElem.1 h2 k j (by omega) hj hk
  rwa [List.getD_eq_getElem?_getD, List.getElem?_eq_getElem (show k < L.length by omega), List.getD_eq_getElem?_getD, List.getElem?_eq_getElem hj]
theorem rw_no {n m : Int} {I O : Sl} (hI : I.length = 64) (hO : O.length = 64) (h : ¬(okRm m = true ∧ ((lstW I O).length : Int) ≤ m)) : wR n m I O = false :=
  wR_no fun hw => h (by have := (rwOk_iff hI hO).2 hw; exact ⟨this.1, this.2.1⟩)
theorem rw_no2 {n m : Int} {I O : Sl} (hI : I.length = 64) (hO : O.length = 64) (h : ¬rgP n (lstW I O) (lstW I O).length) : wR n m I O = false :=
  wR_no fun hw => h (by have := (rwOk_iff hI hO).2 hw; exact rg_of this.2.2.1 this.2.2.2.1)
theorem rw_end {n m : Int} {I O : Sl} (hI : I.length = 64) (hO : O.length = 64) (h0 : okRm m = true ∧ ((lstW I O).length : Int) ≤ m) (h : rgP n (lstW I O) (lstW I O).length) : wR n m I O = eqW n m I O n m (bI n (lstW I O)) (bO n (lstW I O)) := by
  rw [Bool.eq_iff_iff, wR_iff, ← rwOk_iff hI hO, eqW_iff]
  obtain ⟨h1, h2⟩ := rg_all h
  constructor
  · intro hw; exact ⟨hw.2.2.2.2, rfl, rfl⟩
  · intro hw; exact ⟨h0.1, h0.2, h1, h2, hw.1⟩
end Go.Vd

set_option linter.unusedVariables false
set_option linter.unusedSimpArgs false
set_option maxRecDepth 100000
set_option maxHeartbeats 8000000
namespace Go.Vd
open Go.Proofs
theorem okRm_iff {m : Int} : okRm m = true ↔ 0 ≤ m ∧ m ≤ 256 := by unfold okRm; exact decide_eq_true_iff
attribute [local irreducible] vc
theorem good_rRightW (n m : Int) (I O : Sl) (hQ : whQ I O) (hn : 0 ≤ n ∧ n < 18446744073709551616) : GoodP Try.prog gl0 9 [whS std n m I O] (.bool (std.tb fun _ => wR n m I O)) := by
  refine fn_sound' (T := seatT) (G := gwj) (X := noX) seatT_ok gwj_ok noX_ok noI_ok mixed Try.func9 (.one) (fun A => [whS A n m I O]) (fun A => .bool (A.tb fun _ => wR n m I O)) fun A hA => ?_
  obtain ⟨L, hL⟩ : ∃ L, L = lstW I O := ⟨_, rfl⟩
  have hLl : L.length ≤ 100000 := by rw [hL]; unfold lstW; rw [srtT_len]; exact hQ.2.1
  have hLT : ∀ t ∈ L, tmQ t := fun t ht => hQ.2.2 t (srtT_mem.1 (by rw [hL] at ht; exact ht))
  have hbad := rw_no (n := n) (m := m) hQ.1.1 hQ.1.2
  have hbad2 := rw_no2 (n := n) (m := m) hQ.1.1 hQ.1.2
  have hfin := rw_end (n := n) (m := m) hQ.1.1 hQ.1.2
  rw [← hL] at hbad hbad2 hfin
  cbv
  repeat' (first | with_reducible exact True.intro | with_reducible exact dr_ok hA (by kernel_rfl) | with_reducible exact eqv_refl hA _ | with_reducible refine And.intro ?_ ?_ | (intro hc; cbv))
  · subst hA; simp only [sS, isRow_X64 hQ.1.1, isRow_X64 hQ.1.2, lstOf_X64 hQ.1.1, lstOf_X64 hQ.1.2] at *; exact ⟨⟨trivial, trivial⟩, hQ⟩
  all_goals (try ((fail_if_success (refine Exists.intro ?_ ?_)); subst hA; simp only [sS]; (first | exact fun h => h | exact fun h => ⟨h, h⟩ | (intro h; rw [h]; rfl))))
  · subst hA
    simp only [sS, lstOf_X64 hQ.1.1, lstOf_X64 hQ.1.2, ← hL] at *
    refine (hbad fun h => ?_).symm
    have h1 := okRm_iff.1 h.1
    have h2 : ((L.length : Nat) : Int) ≤ m := h.2
    rw [decide_eq_false (show ¬m < 0 by omega), decide_eq_false (show ¬256 < m by omega), decide_eq_false (show ¬m < (L.length : Int) by omega)] at hc
    cases hc
  have hok : okRm m = true ∧ (L.length : Int) ≤ m := by
    subst hA
    simp only [sS, lstOf_X64 hQ.1.1, lstOf_X64 hQ.1.2, ← hL] at hc
    simp at hc
    rw [okRm_iff]
    omega
  clear hc
  refine ⟨⟨{i : Nat // i ≤ L.length ∧ rgP n L i}, fun b i => [(3, rowS eT T0 3 A fun _ => L), (4, .int .i64 (i.1 : Nat))], fun b i => [], fun i => L.length - i.1, true⟩, ⟨⟨0, Nat.zero_le _, fun j hj => absurd hj (by omega)⟩, ?_⟩, ?_⟩
  · cbv
    subst hA
    simp [-List.getD_eq_getElem?_getD, sS, lstOf_X64 hQ.1.1, lstOf_X64 hQ.1.2, ← hL]
  · rintro ⟨i, hx⟩
    have hi : i ≤ L.length := hx.1
    have hP : rgP n L i := hx.2
    rcases Nat.lt_or_ge i L.length with hlt | hge
    · obtain ⟨i', hi'⟩ : ∃ i', i' = i + 1 := ⟨_, rfl⟩
      obtain ⟨t, ht⟩ : ∃ t, t = L.getD i T0 := ⟨_, rfl⟩
      have hgt : L.getD i { s := 0, r := [], u := 0 } = t := ht.symm
      have htQ : tmQ t := hLT t (ht ▸ mem_at hlt)
      have h1 := htQ.1
      have h2 := htQ.2
      have q1 : IntKind.u64.wrap (t.u.tdiv 64) = t.u / 64 := by rw [Int.tdiv_eq_ediv_of_nonneg h1, wU (by omega)]
      have q2 : IntKind.u64.wrap (n.tdiv 64) = n / 64 := by rw [Int.tdiv_eq_ediv_of_nonneg hn.1, wU (by omega)]
      have hno : ¬tmOk n t → wR n m I O = false := fun h => hbad2 fun hr => h (by rw [ht]; exact (hr i hlt).1)
      have hno2 : ∀ k, k < i → ¬unlT (L.getD k T0) t → wR n m I O = false := fun k hk h => hbad2 fun hr => h (by rw [ht]; exact (hr i hlt).2 k hk)
      have hnext : tmOk n t → rgK L i i → rgP n L i' := fun g1 g2 j hj => by
        rcases Nat.lt_or_ge j i with h4 | h4
        · exact hP j h4
        · obtain rfl : j = i := by omega
          exact ⟨ht ▸ g1, g2⟩
      clear hbad hbad2 hfin
      cbv
      repeat' (first | with_reducible exact True.intro | with_reducible exact dr_ok hA (by kernel_rfl) | with_reducible exact eqv_refl hA _ | with_reducible refine And.intro ?_ ?_ | (intro hc; cbv))
      all_goals first
        | (exfalso
           subst hA
           simp only [sS, Int.ofNat_eq_natCast, Int.toNat_natCast] at *
           have hq : decide ((i : Int) < (L.length : Int)) = false := by assumption
           have := of_decide_eq_false hq
           omega)
        | (fail_if_success (refine Exists.intro ?_ ?_)
           subst hA
           clear hnext
           simp only [sS, Int.ofNat_eq_natCast, Int.toNat_natCast, hgt, q1, q2] at *
           first
             | done
             | decide
             | exact ⟨by omega, by omega⟩
             | exact fun h => h
             | exact fun h => ⟨h, h⟩
             | exact fun h => ⟨h, by decide⟩
             | exact fun h => ⟨⟨h, h⟩, by omega, by omega⟩
             | exact fun h => ⟨h, by omega, by omega⟩
             | (intro h; rw [h]; rfl)
             | (refine (hno fun e => ?_).symm
                unfold tmOk at e
                rw [decide_eq_false (show ¬t.u ≤ n by omega), wU (by omega), decide_eq_false (show ¬63 < t.u / 64 - n / 64 by omega)] at hc
                cases hc)
             | trace_state)
        | skip
      have hok2 : tmOk n t := by
        subst hA
        clear hnext hno hno2
        simp only [sS, Int.ofNat_eq_natCast, Int.toNat_natCast, hgt, q1, q2] at *
        unfold tmOk
        rcases Int.lt_or_le n t.u with h3 | h3
        · rw [decide_eq_false (show ¬t.u ≤ n by omega), wU (by omega)] at hc
          have := of_decide_eq_false (p := 63 < t.u / 64 - n / 64) hc
          omega
        · rw [decide_eq_true h3] at hc; cases hc
      refine ⟨⟨{k : Nat // k ≤ i ∧ rgK L i k}, fun b k => [(5, .int .i64 (k.1 : Nat))], fun b k => [], fun k => i - k.1, true⟩, ⟨⟨0, Nat.zero_le _, fun j hj => absurd hj (by omega)⟩, ?_⟩, ?_⟩
      · cbv
        subst hA
        simp [-List.getD_eq_getElem?_getD, sS]
      · rintro ⟨k, hy⟩
        have hk : k ≤ i := hy.1
        have hK : rgK L i k := hy.2
        rcases Nat.lt_or_ge k i with hltk | hgek
        · obtain ⟨k', hk'⟩ : ∃ k', k' = k + 1 := ⟨_, rfl⟩
          obtain ⟨x, hxe⟩ : ∃ x, x = L.getD k T0 := ⟨_, rfl⟩
          have hgx : L.getD k { s := 0, r := [], u := 0 } = x := hxe.symm
          have hno3 : ¬unlT x t → wR n m I O = false := fun h => hno2 k hltk (by rw [← hxe]; exact h)
          have hnext2 : unlT x t → rgK L i k' := fun h j hj => by
            rcases Nat.lt_or_ge j k with h4 | h4
            · exact hK j h4
            · obtain rfl : j = k := by omega
              rw [← hxe, ← ht]; exact h
          clear hno2 hno hnext
          cbv
          repeat' (first | with_reducible exact True.intro | with_reducible exact dr_ok hA (by kernel_rfl) | with_reducible exact eqv_refl hA _ | with_reducible refine And.intro ?_ ?_ | (intro hc; cbv))
          all_goals first
            | (exfalso
               subst hA
               simp only [sS, Int.ofNat_eq_natCast, Int.toNat_natCast] at *
               have hq : decide ((k : Int) < (i : Int)) = false := by assumption
               have := of_decide_eq_false hq
               omega)
            | (fail_if_success (refine Exists.intro ?_ ?_)
               subst hA
               simp only [sS, Int.ofNat_eq_natCast, Int.toNat_natCast, hgt, hgx] at *
               first
                 | exact ⟨by omega, by omega⟩
                 | (refine (hno3 fun e => ?_).symm
                    simp at hc
                    exact e hc)
                 | trace_state)
            | (have hu : unlT x t := by
                 subst hA
                 simp only [sS, Int.ofNat_eq_natCast, Int.toNat_natCast, hgt, hgx] at *
                 simp at hc
                 exact fun e => hc e.1 e.2
               refine ⟨⟨k', by omega, hnext2 hu⟩, ?_, show i - k' < i - k by omega⟩
               cbv
               subst hA
               simp [-List.getD_eq_getElem?_getD, sS]
               exact w_succ' hk' (by omega))
            | trace_state
        · have hke : k = i := by omega
          rw [hke] at hK
          have hP' := hnext hok2 hK
          cbv
          repeat' (first | with_reducible exact True.intro | with_reducible exact dr_ok hA (by kernel_rfl) | with_reducible exact eqv_refl hA _ | with_reducible refine And.intro ?_ ?_ | (intro hc; cbv))
          all_goals first
            | (exfalso
               subst hA
               simp only [sS, Int.ofNat_eq_natCast, Int.toNat_natCast] at *
               have hq : decide ((k : Int) < (i : Int)) = true := by assumption
               have := of_decide_eq_true hq
               omega)
            | (refine ⟨⟨i', by omega, hP'⟩, ?_, show L.length - i' < L.length - i by omega⟩
               cbv
               subst hA
               simp [-List.getD_eq_getElem?_getD, sS]
               exact w_succ' hi' (by omega))
            | trace_state
    · have hie : i = L.length := by omega
      rw [hie] at hP
      have hF := hfin hok hP
      have hQb : whQ (bI n L) (bO n L) := whQ_b hLl hLT
      cbv
      repeat' (first | with_reducible exact True.intro | with_reducible exact dr_ok hA (by kernel_rfl) | with_reducible exact eqv_refl hA _ | with_reducible refine And.intro ?_ ?_ | (intro hc; cbv))
      all_goals first
        | (exfalso
           subst hA
           simp only [sS, Int.ofNat_eq_natCast, Int.toNat_natCast] at *
           have hq : decide ((i : Int) < (L.length : Int)) = true := by assumption
           have := of_decide_eq_true hq
           omega)
        | (subst hA
           simp only [sS, isRow_X64 hQ.1.1, isRow_X64 hQ.1.2, lstOf_X64 hQ.1.1, lstOf_X64 hQ.1.2, isRow_M, lstOf_M, isRow_bI, isRow_bO, lstOf_bI, lstOf_bO] at *
           first
             | exact hF.symm
             | exact ⟨⟨⟨trivial, by omega⟩, hLT⟩, hn⟩
             | exact ⟨⟨⟨trivial, trivial⟩, hQ⟩, ⟨trivial, trivial⟩, hQb⟩
             | trace_state)
        | trace_state
noncomputable def c_rRightW : Ct := fun A args => match args with
  | [.agg [.int .u64 n, .int .i64 m, .run 64 f, .run 64 g]] => some (some (A.tp fun _ => ((isRow eTs [] 1 64 f ∧ isRow eTs [] 1 64 g) ∧ whQ (lstOf eTs [] 1 64 f) (lstOf eTs [] 1 64 g)) ∧ 0 ≤ n ∧ n < 18446744073709551616), .bool (A.tb fun _ => wR n m (lstOf eTs [] 1 64 f) (lstOf eTs [] 1 64 g)))
  | _ => none
noncomputable def gwk : Ar → Pu := addC 9 c_rRightW (gwj)
theorem gwk_ok : PuOk Try.prog gl0 (gwk std) := by
  refine addC_ok (gwj_ok) ⟨_, Try.func9, rfl, by decide⟩ ?_
  · intro args p r h hp
    unfold c_rRightW at h
    split at h <;> cases h
    exact good_sv (good_rRightW _ _ _ _ hp.1.2 hp.2) ⟨whS_sv hp.1.1.1 hp.1.1.2, trivial⟩
end Go.Vd

set_option linter.unusedVariables false
set_option linter.unusedSimpArgs false
set_option maxRecDepth 100000
set_option maxHeartbeats 4000000
namespace Go.Proofs
open Go.RowKit Go.Lib Go.Vd Go.Sort
theorem nan32_w (a : Int) (w : World) : Calls Try.prog 76 #[.int .u32 a] w fun e w' => e = .returned (.bool false) ∧ w' = w := by
  go_enter Try.func76, Try.ntmps76
  go_wp2
  go_ret
  exact ⟨rfl, rfl⟩
theorem nanS_w (a : ByteArray) (w : World) : Calls Try.prog 77 #[.string a] w fun e w' => e = .returned (.bool false) ∧ w' = w := by
  go_enter Try.func77, Try.ntmps77
  go_wp2
  go_ret
  exact ⟨rfl, rfl⟩
theorem cmp32_w (a b : Int) (w : World) : Calls Try.prog 65 #[.int .u32 a, .int .u32 b] w fun e w' => e = .returned (.int .i64 (ordI a b)) ∧ w' = w := by
  by_cases h1 : a < b
  · go_enter Try.func65, Try.ntmps65
    go_wp2_with (go_at_call 76; refine (nan32_w _ _).mono ?_; rintro e w' ⟨rfl, rfl⟩)
    go_ret
    exact ⟨by rw [show ordI a b = -1 by unfold ordI; rw [if_pos h1]]; rfl, rfl⟩
  · by_cases h2 : b < a
    · go_enter Try.func65, Try.ntmps65
      go_wp2_with (go_at_call 76; refine (nan32_w _ _).mono ?_; rintro e w' ⟨rfl, rfl⟩)
      go_ret
      exact ⟨by rw [show ordI a b = 1 by unfold ordI; rw [if_neg (by omega), if_pos h2]]; rfl, rfl⟩
    · go_enter Try.func65, Try.ntmps65
      go_wp2_with (go_at_call 76; refine (nan32_w _ _).mono ?_; rintro e w' ⟨rfl, rfl⟩)
      go_ret
      exact ⟨by rw [show ordI a b = 0 by unfold ordI; rw [if_neg (by omega), if_neg (by omega)]]; rfl, rfl⟩
theorem cmpS_w (a b : ByteArray) (w : World) : Calls Try.prog 66 #[.string a, .string b] w fun e w' => e = .returned (.int .i64 (ordS a.data.toList b.data.toList)) ∧ w' = w := by
  have e1 : Op.bytesLess a.toList b.toList = decide (a.data.toList < b.data.toList) := by rw [ByteArray.toList_eq, ByteArray.toList_eq]; exact bytesLess_eq _ _
  have e2 : Op.bytesLess b.toList a.toList = decide (b.data.toList < a.data.toList) := by rw [ByteArray.toList_eq, ByteArray.toList_eq]; exact bytesLess_eq _ _
  have e3 : (a.toList == b.toList) = decide (a.data.toList = b.data.toList) := by
    rw [ByteArray.toList_eq, ByteArray.toList_eq, Bool.eq_iff_iff]
    simp only [beq_iff_eq, decide_eq_true_eq]
  have hg : ∀ W, (binOp BinOp.gtr 9 (.string a) (.string b)).run Try.prog W = .ok (.bool (!(Op.bytesLess a.toList b.toList || (a.toList == b.toList)))) W := fun W => by simp [go_sem, binOp, Op.stringOp]
  rcases triS a.data.toList b.data.toList with ⟨h1, h2, h3⟩ | ⟨h1, h3⟩ | ⟨h1, h2, h3⟩
  · rw [decide_eq_true h1] at e1
    rw [h3]
    go_enter Try.func66, Try.ntmps66
    go_wp2_with (go_at_call 77; refine (nanS_w _ _).mono ?_; rintro e w' ⟨rfl, rfl⟩)
    all_goals try (rename_i hx; exfalso; rw [e1] at hx; exact Bool.noConfusion hx)
    go_ret
    exact ⟨rfl, rfl⟩
  · have e4 : Op.bytesLess a.toList b.toList = false := by rw [e1, h1]; exact decide_eq_false (List.lt_irrefl _)
    have e5 : (a.toList == b.toList) = true := by rw [e3]; exact decide_eq_true h1
    rw [e4, e5] at hg
    rw [h3]
    clear e1 e3 h1 h3
    go_enter Try.func66, Try.ntmps66
    go_wp2_with (go_at_call 77; refine (nanS_w _ _).mono ?_; rintro e w' ⟨rfl, rfl⟩)
    go_ret
    exact ⟨rfl, rfl⟩
  · have e4 : Op.bytesLess a.toList b.toList = false := by rw [e1]; exact decide_eq_false (List.lt_asymm h1)
    have e5 : (a.toList == b.toList) = false := by rw [e3]; exact decide_eq_false h2
    rw [e4, e5] at hg
    rw [h3]
    clear e1 e3 h1 h3
    go_enter Try.func66, Try.ntmps66
    go_wp2_with (go_at_call 77; refine (nanS_w _ _).mono ?_; rintro e w' ⟨rfl, rfl⟩)
    go_ret
    exact ⟨rfl, rfl⟩
theorem cOr_w (x y : Int) (g : Nat) (W : World) (h0 : W.cell? ⟨g, 0, none⟩ = some (.int .i64 x)) (h1 : W.cell? ⟨g, 1, none⟩ = some (.int .i64 y)) :
    Calls Try.prog 43 #[.slice (some ⟨g, 0, none⟩) 2 2] W fun e w' => e = .returned (.int .i64 (orL [x, y])) ∧ w' = W := by
  by_cases hx : x = 0
  · subst hx
    by_cases hy : y = 0
    · subst hy
      rw [show orL [0, 0] = 0 from rfl]
      go_enter Try.func43, Try.ntmps43
      go_wp2
      refine wp_loop_rounds 3 ?_
      rw [rounds_succ]
      go_wp2
      try rw [rounds_succ]
      go_wp2
      try rw [rounds_succ]
      go_wp2
      go_ret
      exact ⟨rfl, rfl⟩
    · rw [show orL [0, y] = y by simp [orL, hy]]
      go_enter Try.func43, Try.ntmps43
      go_wp2
      refine wp_loop_rounds 2 ?_
      rw [rounds_succ]
      go_wp2
      try rw [rounds_succ]
      go_wp2
      go_ret
      exact ⟨rfl, rfl⟩
  · rw [show orL [x, y] = x by simp [orL, hx]]
    go_enter Try.func43, Try.ntmps43
    go_wp2
    refine wp_loop_rounds 1 ?_
    rw [rounds_succ]
    go_wp2
    go_ret
    exact ⟨rfl, rfl⟩
theorem grown3 (W : World) (A B C : Obj) : ((W.alloc A).alloc B).drew.alloc C = grow (W.drewN 1) #[A, B, C] := by
  simp only [World.alloc, World.drew, World.drewN, grow, World.mk.injEq, and_true, true_and]
  first | done | (apply Array.ext'; simp)
theorem grown2 (W : World) (A B : Obj) (n : Nat) (os : Array Obj) : grow (((W.alloc A).alloc B).drewN n) os = grow (W.drewN n) (#[A, B] ++ os) := by
  simp only [World.alloc, World.drew, World.drewN, grow, World.mk.injEq, and_true, true_and]
  first | done | (apply Array.ext'; simp)
theorem kOrder_w (s t : Int) (r q : ByteArray) (W : World) : Calls Try.prog 45 #[.agg #[.int .u32 s, .string r], .agg #[.int .u32 t, .string q]] W fun e w' => e = .returned (.int .i64 (ordK s r.data.toList t q.data.toList)) ∧ ∃ n os', w' = grow (W.drewN n) os' := by
  have hp := ordK_or s r.data.toList t q.data.toList
  generalize hres : ordK s r.data.toList t q.data.toList = res at hp ⊢
  go_enter Try.func45, Try.ntmps45
  go_wp2
  have c0 : ((W.alloc (Obj.cells #[Value.int IntKind.u32 s, Value.string r] 29)).alloc (Obj.cells #[Value.int IntKind.u32 t, Value.string q] 29)).cell? ⟨W.heap.size, 0, none⟩ = some (.int .u32 s) := by simp
  have c1 : ((W.alloc (Obj.cells #[Value.int IntKind.u32 s, Value.string r] 29)).alloc (Obj.cells #[Value.int IntKind.u32 t, Value.string q] 29)).cell? ⟨W.heap.size, 1, none⟩ = some (.string r) := by simp
  have c2 : ((W.alloc (Obj.cells #[Value.int IntKind.u32 s, Value.string r] 29)).alloc (Obj.cells #[Value.int IntKind.u32 t, Value.string q] 29)).cell? ⟨W.heap.size + 1, 0, none⟩ = some (.int .u32 t) := by simp
  have c3 : ((W.alloc (Obj.cells #[Value.int IntKind.u32 s, Value.string r] 29)).alloc (Obj.cells #[Value.int IntKind.u32 t, Value.string q] 29)).cell? ⟨W.heap.size + 1, 1, none⟩ = some (.string q) := by simp
  generalize hW2 : ((W.alloc (Obj.cells #[Value.int IntKind.u32 s, Value.string r] 29)).alloc (Obj.cells #[Value.int IntKind.u32 t, Value.string q] 29)) = W2 at c0 c1 c2 c3 ⊢
  go_still_tail 10, (by kernel_rfl)
  still_call (cmp32_w _ _ _)
  repeat still_step
  still_call (cmpS_w _ _ _)
  refine wpStill_nil ?_
  change wpList _ _ _ _ _ W2.drew
  have hor := fun W h0 h1 => cOr_w (ordI s t) (ordS r.data.toList q.data.toList) W2.heap.size W h0 h1
  rw [hp] at hor
  go_wp2_with (go_at_call 43; refine (hor _ (by simp) (by simp)).mono ?_; rintro e w' ⟨rfl, rfl⟩)
  go_ret
  refine ⟨rfl, ?_⟩
  subst hW2
  exact ⟨1, _, grown3 ..⟩
end Go.Proofs

set_option linter.unusedVariables false
namespace Go.Vd
open Go
section
variable {P : Program} {md : Region.Mode} {ops : Array Oper} {C : World → Prop}
/-- Of the first n, whatever order they are taken in; then L. -/
def headQ (P : Program) (md : Region.Mode) (ops : Array Oper) (C : World → Prop) (n : Nat) (L : Array Bool → Act → Prop) : Nat → Array Bool → Act → Prop
  | 0, d, a => L d a
  | f + 1, d, a => Region.ready md ops d ≠ [] ∧ ∀ i ∈ Region.ready md ops d, i < n ∧ qOp P ops C i (headQ P md ops C n L f (d.setIfInBounds i true)) a
theorem headQ_any {n g : Nat} {L : Array Bool → Act → Prop} {Q : Exit → Act → World → Prop} (hL : ∀ d a w, C w → L d a → wpAny P md ops Q g d a w) :
    ∀ (f : Nat) (d : Array Bool) (a : Act) (w : World), C w → headQ P md ops C n L f d a → wpAny P md ops Q (f + g) d a w
  | 0, d, a, w, hw, h => by rw [Nat.zero_add]; exact hL d a w hw h
  | f + 1, d, a, w, hw, h => by
    rw [show f + 1 + g = (f + g) + 1 by omega]
    exact ⟨fun e => absurd e h.1, fun i hi => wpOp_of_qOp hw (fun a' w' hw' h' => headQ_any hL f _ a' w' hw' h') (h.2 i hi).2⟩
theorem headQ_first {n i : Nat} {o : Oper} {v : Value} {L : Array Bool → Act → Prop} (ho : ops[i]? = some o) (hsel : ∀ (j : Nat) (o : Oper) cs b, ops[j]? = some o → o.op ≠ .select cs b)
    (h1 : Region.sinkB md ops n = true) (h2 : Region.chainB md ops n = true) (hn : n < ops.size) (hin : i < n) (hL : ∀ d a, L d a → ∀ j ∈ Region.ready md ops d, n ≤ j) :
    ∀ (f : Nat) (d : Array Bool) (a : Act), HeadInv md ops n d →
      (∀ j oj, ops[j]? = some oj → j ≠ i → d.getD j true = false → (∀ e ∈ oj.after, Region.binds md e = true → e.on ≠ i) → o.apart ops oj = true) →
      i ∈ Region.ready md ops d → YieldsIn P ops C o v a → headQ P md ops C n L f (d.setIfInBounds i true) (a.put o.dst v) → headQ P md ops C n L (f + 1) d a := by
  intro f
  induction f with
  | zero =>
    intro d a inv _ hr hy H
    have hun := (mem_ready.1 hr).1
    refine ⟨fun e => (by rw [e] at hr; cases hr), fun j hj => ?_⟩
    have hjn : j < n := Nat.lt_of_not_le fun h => tail_waits h1 h2 hn inv _ i rfl hin hun j h hj
    refine ⟨hjn, ?_⟩
    by_cases e : j = i
    · subst e; exact hy.qOp ho H
    · have := hL _ _ H j (ready_mono hj e)
      omega
  | succ f ih =>
    intro d a inv hfree hr hy H
    have hun := (mem_ready.1 hr).1
    refine ⟨fun e => (by rw [e] at hr; cases hr), fun j hj => ?_⟩
    have hjn : j < n := Nat.lt_of_not_le fun h => tail_waits h1 h2 hn inv _ i rfl hin hun j h hj
    refine ⟨hjn, ?_⟩
    by_cases e : j = i
    · subst e; exact hy.qOp ho H
    · have h3 := (H.2 j (ready_mono hj e)).2
      obtain ⟨hju, oj, hoj, hall⟩ := mem_ready.1 hj
      have hnot : ∀ x ∈ oj.after, Region.binds md x = true → x.on ≠ i := fun x hx hb he => by
        have h4 := hall x hx hb
        rw [he, getD_both hun] at h4
        cases h4
      have h5 := qOp_put hoj (hfree j oj hoj e hju hnot) (fun cs b => hsel i o cs b ho) (fun cs b => hsel j oj cs b hoj) hy h3
      refine qOp_mono (fun a' h6 => ih (d.setIfInBounds j true) a' (inv.set hj hjn) (fun k ok hk hki hku hno => ?_) (ready_mono hr (Ne.symm e)) h6.1 ?_) h5
      · refine hfree k ok hk hki ?_ hno
        by_cases e2 : j = k
        · subst e2; exact hju
        · rwa [getD_set_ne true e2] at hku
      · rw [Array.setIfInBounds_comm _ _ e]
        exact h6.2
theorem headQ_lex {n g : Nat} {R : Act → Prop} (hsel : Region.noSelect ops = true) (h1 : Region.sinkB md ops n = true) (h2 : Region.chainB md ops n = true) (hn : n < ops.size) :
    ∀ (l : List Oper) (k : Nat) (d : Array Bool) (a : Act), (∀ j, j < l.length → l[j]? = ops[k + j]?) → k + l.length = n → HeadInv md ops n d →
      Region.lexHead md ops g l.length k d = true → wpQuiet P ops C R l a → headQ P md ops C n (fun d' a' => Region.seqB md ops g n d' = true ∧ R a') l.length d a
  | [], k, d, a, _, hk, _, hB, h => by
    obtain rfl : k = n := by simpa using hk
    exact ⟨by simpa [Region.lexHead] using hB, h⟩
  | o :: l, k, d, a, hl, hk, inv, hB, h => by
    have h0 : ops[k]? = some o := by simpa using (hl 0 (by simp)).symm
    simp only [List.length_cons, Region.lexHead, Bool.and_eq_true] at hB
    simp only [List.length_cons] at hk
    have hr : k ∈ Region.ready md ops d := by simpa using hB.1.1
    have hq : qOp P ops C k (wpQuiet P ops C R l) a := by unfold qOp; simp only [h0]; exact h
    obtain ⟨v, hy, hK⟩ := yieldsIn_of_qOp h0 hq
    refine headQ_first h0 (Region.noSelect_spec hsel) h1 h2 hn (by omega) (fun d' a' hd => seqB_ready hd.1) l.length d a inv (Region.free_spec h0 hB.1.2) hr hy ?_
    exact headQ_lex hsel h1 h2 hn l (k + 1) _ _ (fun j hj => by have := hl (j + 1) (by simp; omega); simpa [Nat.add_assoc, Nat.add_comm 1 j] using this) (by omega) (inv.set hr (by omega)) hB.2 hK
/-- The first n in the text's order; then, in every world of the class, the others one by one. -/
theorem wp_region_quiet_tail {id : Nat} {Q : Exit → Act → World → Prop} {a : Act} {w : World} {l : List Oper} (n : Nat) (hm : P.follows .mixedOrders = true) (hB : Region.lexTailB .any l.toArray n = true)
    (hC : C { w with drawn := w.drawn + 1 }) (h : wpQuiet P l.toArray C (fun a' => ∀ w', C w' → wpList P l.toArray Q (l.drop n) a' w') (l.take n) a) : (Code.region id l.toArray true).wp P Q a w := by
  simp only [Region.lexTailB, Bool.and_eq_true, decide_eq_true_eq] at hB
  obtain ⟨⟨⟨⟨hsel, hn⟩, h1⟩, h2⟩, hlex⟩ := hB
  have hn' : n < l.length := by simpa using hn
  have htl : (l.take n).length = n := by simp; omega
  have hdl : (l.drop n).length = l.toArray.size - n := by simp
  have inv0 : HeadInv .any l.toArray n (Array.replicate l.toArray.size false) :=
    ⟨by simp, fun j oj _ hl => (by rw [getD_replicate_false] at hl; cases hl), fun t _ ht => getD_in (by simpa using ht) (getD_replicate_false _ _)⟩
  have H := headQ_lex (md := .any) (g := l.toArray.size - n) (R := fun a' => ∀ w', C w' → wpList P l.toArray Q (l.drop n) a' w') hsel h1 h2 hn (l.take n) 0 _ a (fun j hj => by
    have hj' : j < n := by rw [htl] at hj; exact hj
    simp [hj']) (by simpa using htl) inv0 (by rw [htl]; exact hlex) h
  refine wp_region_any hm ?_
  have := headQ_any (Q := Q) (g := l.toArray.size - n) (fun d a' w' hw' hd => by
    have := wpAny_of_seq (md := .any) (Q' := Q) (l.drop n) n d a' w' (fun j => by simp [List.getElem?_drop]) (by rw [hdl]; exact hd.1) (hd.2 w' hw')
    rwa [hdl] at this) _ _ _ _ hC H
  rw [htl, show n + (l.toArray.size - n) = l.toArray.size by omega] at this
  exact this
end
end Go.Vd

set_option linter.unusedVariables false
set_option linter.unusedSimpArgs false
set_option maxRecDepth 100000
set_option maxHeartbeats 4000000
namespace Go.Proofs
open Go.RowKit Go.Lib Go.Vd Go.Sort
theorem nan64_w (a : Int) (w : World) : Calls Try.prog 64 #[.int .u64 a] w fun e w' => e = .returned (.bool false) ∧ w' = w := by
  go_enter Try.func64, Try.ntmps64
  go_wp2
  go_ret
  exact ⟨rfl, rfl⟩
theorem cmp64_w (a b : Int) (w : World) : Calls Try.prog 44 #[.int .u64 a, .int .u64 b] w fun e w' => e = .returned (.int .i64 (ordI a b)) ∧ w' = w := by
  by_cases h1 : a < b
  · go_enter Try.func44, Try.ntmps44
    go_wp2_with (go_at_call 64; refine (nan64_w _ _).mono ?_; rintro e w' ⟨rfl, rfl⟩)
    go_ret
    exact ⟨by rw [show ordI a b = -1 by unfold ordI; rw [if_pos h1]]; rfl, rfl⟩
  · by_cases h2 : b < a
    · go_enter Try.func44, Try.ntmps44
      go_wp2_with (go_at_call 64; refine (nan64_w _ _).mono ?_; rintro e w' ⟨rfl, rfl⟩)
      go_ret
      exact ⟨by rw [show ordI a b = 1 by unfold ordI; rw [if_neg (by omega), if_pos h2]]; rfl, rfl⟩
    · go_enter Try.func44, Try.ntmps44
      go_wp2_with (go_at_call 64; refine (nan64_w _ _).mono ?_; rintro e w' ⟨rfl, rfl⟩)
      go_ret
      exact ⟨by rw [show ordI a b = 0 by unfold ordI; rw [if_neg (by omega), if_neg (by omega)]]; rfl, rfl⟩
theorem cmp64_g (a b : Int) (w : World) : Calls Try.prog 44 #[.int .u64 a, .int .u64 b] w fun e w' => e = .returned (.int .i64 (ordI a b)) ∧ ∃ q os', w' = grow (w.drewN q) os' :=
  (cmp64_w a b w).mono fun e w' ⟨h1, h2⟩ => ⟨h1, 0, #[], by rw [h2, grow_empty]; rfl⟩
theorem order_w (s t u v : Int) (r q : ByteArray) (W : World) : Calls Try.prog 29 #[.agg #[.int .u32 s, .string r, .int .u64 u], .agg #[.int .u32 t, .string q, .int .u64 v]] W fun e w' => e = .returned (.int .i64 (ordT ⟨s, r.data.toList, u⟩ ⟨t, q.data.toList, v⟩)) ∧ ∃ n os', w' = grow (W.drewN n) os' := by
  have hp := ordT_or ⟨s, r.data.toList, u⟩ ⟨t, q.data.toList, v⟩
  have hk := fun W => kOrder_w s t r q W
  simp only at hp
  generalize ordT ⟨s, r.data.toList, u⟩ ⟨t, q.data.toList, v⟩ = res at hp ⊢
  generalize ordK s r.data.toList t q.data.toList = ky at hp hk
  go_enter Try.func29, Try.ntmps29
  go_wp2
  generalize hW2 : ((W.alloc (Obj.cells #[Value.int IntKind.u32 s, Value.string r, Value.int IntKind.u64 u] 58)).alloc (Obj.cells #[Value.int IntKind.u32 t, Value.string q, Value.int IntKind.u64 v] 58)) = W2
  have hs2 : W2.heap.size = W.heap.size + 2 := by rw [← hW2]; simp
  have c0 : ∀ n os, (grow (W2.drewN n) os).cell? ⟨W.heap.size, 0, none⟩ = some (.int .u32 s) := cell_grown (by rw [hs2]; show W.heap.size < _; omega) (by rw [← hW2]; simp)
  have c1 : ∀ n os, (grow (W2.drewN n) os).cell? ⟨W.heap.size, 1, none⟩ = some (.string r) := cell_grown (by rw [hs2]; show W.heap.size < _; omega) (by rw [← hW2]; simp)
  have c2 : ∀ n os, (grow (W2.drewN n) os).cell? ⟨W.heap.size, 2, none⟩ = some (.int .u64 u) := cell_grown (by rw [hs2]; show W.heap.size < _; omega) (by rw [← hW2]; simp)
  have d0 : ∀ n os, (grow (W2.drewN n) os).cell? ⟨W.heap.size + 1, 0, none⟩ = some (.int .u32 t) := cell_grown (by rw [hs2]; show W.heap.size + 1 < _; omega) (by rw [← hW2]; simp)
  have d1 : ∀ n os, (grow (W2.drewN n) os).cell? ⟨W.heap.size + 1, 1, none⟩ = some (.string q) := cell_grown (by rw [hs2]; show W.heap.size + 1 < _; omega) (by rw [← hW2]; simp)
  have d2 : ∀ n os, (grow (W2.drewN n) os).cell? ⟨W.heap.size + 1, 2, none⟩ = some (.int .u64 v) := cell_grown (by rw [hs2]; show W.heap.size + 1 < _; omega) (by rw [← hW2]; simp)
  refine wp_region_quiet_tail (C := fun w' => ∃ p : GrownBy, w' = grow (W2.drewN p.n) p.os) 10 (by kernel_rfl) (by kernel_rfl) ⟨⟨1, #[]⟩, by rw [grow_empty]; rfl⟩ ?_
  simp only [List.take_succ_cons, List.take_zero, List.drop_succ_cons, List.drop_zero]
  repeat (quiet_step (first | (go_at_call 44; refine Calls.grown_of (cmp64_g _ _ _)) | (go_at_call 45; refine Calls.grown_of (hk _))))
  refine wpQuiet_nil ?_
  intro w' hw'
  obtain ⟨⟨nq, osq⟩, rfl⟩ := hw'
  simp only
  generalize hW3 : grow (W2.drewN nq) osq = W3
  have hor := fun W h0 h1 => cOr_w (ordI u v) ky W3.heap.size W h0 h1
  rw [hp] at hor
  go_wp2_with (go_at_call 43; refine (hor _ (by simp) (by simp)).mono ?_; rintro e w' ⟨rfl, rfl⟩)
  go_ret
  refine ⟨rfl, ?_⟩
  subst hW3 hW2
  rw [grown2, alloc_eq_grow, grow_grow]
  exact ⟨_, _, rfl⟩
end Go.Proofs

namespace Go.Proofs
open Go.Shelf
def Try.sortTm_ren : Go.Shelf.Ren := ⟨fun | 6 => 28 | 15 => 42 | 14 => 41 | 28 => 62 | 29 => 63 | 20 => 54 | 21 => 55 | 22 => 56 | 23 => 57 | 24 => 58 | 25 => 59 | 26 => 60 | 27 => 61 | 46 => 71 | 47 => 72 | 48 => 73 | 49 => 74 | 50 => 75 | 57 => 79 | n => n, fun | 22 => 23 | 24 => 58 | 25 => 62 | 3 => 3 | 39 => 80 | 0 => 0 | 53 => 27 | 55 => 22 | 4 => 4 | 46 => 93 | 45 => 92 | 50 => 87 | 5 => 5 | 9 => 9 | 66 => 107 | 70 => 111 | 76 => 115 | 77 => 116 | n => n, fun | n => n⟩
theorem Try.sortTm : Go.Proofs.SlLaysF0.n6 Try.prog Try.sortTm_ren := {
  mixed := by kernel_rfl
  f6 := ⟨Try.f28.name, by decide, Try.func28.trans (congrArg some (by kernel_rfl))⟩
  f14 := ⟨Try.f41.name, by decide, Try.func41.trans (congrArg some (by kernel_rfl))⟩
  f15 := Try.func42.trans (congrArg some (by kernel_rfl))
  f20 := ⟨Try.f54.name, by decide, Try.func54.trans (congrArg some (by kernel_rfl))⟩
  f21 := ⟨Try.f55.name, by decide, Try.func55.trans (congrArg some (by kernel_rfl))⟩
  f22 := ⟨Try.f56.name, by decide, Try.func56.trans (congrArg some (by kernel_rfl))⟩
  f23 := ⟨Try.f57.name, by decide, Try.func57.trans (congrArg some (by kernel_rfl))⟩
  f24 := ⟨Try.f58.name, by decide, Try.func58.trans (congrArg some (by kernel_rfl))⟩
  f25 := ⟨Try.f59.name, by decide, Try.func59.trans (congrArg some (by kernel_rfl))⟩
  f26 := ⟨Try.f60.name, by decide, Try.func60.trans (congrArg some (by kernel_rfl))⟩
  f27 := ⟨Try.f61.name, by decide, Try.func61.trans (congrArg some (by kernel_rfl))⟩
  f28 := Try.func62.trans (congrArg some (by kernel_rfl))
  f29 := Try.func63.trans (congrArg some (by kernel_rfl))
  f46 := ⟨Try.f71.name, by decide, Try.func71.trans (congrArg some (by kernel_rfl))⟩
  f47 := Try.func72.trans (congrArg some (by kernel_rfl))
  f48 := Try.func73.trans (congrArg some (by kernel_rfl))
  f49 := ⟨Try.f74.name, by decide, Try.func74.trans (congrArg some (by kernel_rfl))⟩
  f50 := ⟨Try.f75.name, by decide, Try.func75.trans (congrArg some (by kernel_rfl))⟩
  f57 := ⟨Try.f79.name, by decide, Try.func79.trans (congrArg some (by kernel_rfl))⟩
  t0 := Try.underlying0
  a0 := Try.isAgg0
  z0 := Try.sizeOf0
  v0 := Try.zeroValue0
  t3 := Try.underlying3
  a3 := Try.isAgg3
  z3 := Try.sizeOf3
  v3 := Try.zeroValue3
  t4 := Try.underlying4
  a4 := Try.isAgg4
  z4 := Try.sizeOf4
  v4 := Try.zeroValue4
  t5 := Try.underlying5
  a5 := Try.isAgg5
  z5 := Try.sizeOf5
  v5 := Try.zeroValue5
  t9 := Try.underlying9
  a9 := Try.isAgg9
  z9 := Try.sizeOf9
  v9 := Try.zeroValue9
  t22 := Try.underlying23
  a22 := Try.isAgg23
  z22 := Try.sizeOf23
  v22 := Try.zeroValue23
  t25 := Try.underlying62
  a25 := Try.isAgg62
  z25 := Try.sizeOf62
  v25 := Try.zeroValue62
  t39 := Try.underlying80
  a39 := Try.isAgg80
  z39 := Try.sizeOf80
  v39 := Try.zeroValue80
  t45 := Try.underlying92
  a45 := Try.isAgg92
  z45 := Try.sizeOf92
  v45 := Try.zeroValue92
  t46 := Try.underlying93
  a46 := Try.isAgg93
  z46 := Try.sizeOf93
  v46 := Try.zeroValue93
  t50 := Try.underlying87
  a50 := Try.isAgg87
  z50 := Try.sizeOf87
  v50 := Try.zeroValue87
  t53 := Try.underlying27
  a53 := Try.isAgg27
  z53 := Try.sizeOf27
  v53 := Try.zeroValue27
  t55 := Try.underlying22
  a55 := Try.isAgg22
  z55 := Try.sizeOf22
  v55 := Try.zeroValue22
  t66 := Try.underlying107
  a66 := Try.isAgg107
  z66 := Try.sizeOf107
  v66 := Try.zeroValue107
  t70 := Try.underlying111
  a70 := Try.isAgg111
  z70 := Try.sizeOf111
  v70 := Try.zeroValue111
  t76 := Try.underlying115
  a76 := Try.isAgg115
  z76 := Try.sizeOf115
  v76 := Try.zeroValue115
  t77 := Try.underlying116
  a77 := Try.isAgg116
  z77 := Try.sizeOf116
  v77 := Try.zeroValue116 }
end Go.Proofs

set_option linter.unusedVariables false
set_option linter.unusedSimpArgs false
set_option maxRecDepth 100000
set_option maxHeartbeats 4000000
namespace Go.Proofs
open Go.Shelf Go.RowKit Go.Lib Go.Vd Go.Sort
instance tmInh : Inhabited Tm := ⟨T0⟩
def encM (t : Tm) : List Value := [.int .u32 t.s, .string ⟨t.r.toArray⟩, .int .u64 t.u]
noncomputable def srtAM (L : List Tm) : Array Tm := pdq (ltOf ordT) L.toArray 0 L.toArray.size (Lib.bitLen L.toArray.size) true true
noncomputable def srtM (L : List Tm) : List Tm := (srtAM L).toList
theorem ltM_iff (x y : Tm) : ltOf ordT x y = true ↔ ltT x y := by unfold ltOf; rw [decide_eq_true_eq, ordT_lt]
theorem ltM_no (x y : Tm) : ltOf ordT x y = false ↔ ¬ltT x y := by rw [← ltM_iff, Bool.not_eq_true]
theorem swoM : SWO (ltOf ordT) where
  irrefl x := (ltM_no x x).2 (ltT_irr x)
  trans x y z h1 h2 := (ltM_iff x z).2 (ltT_trans ((ltM_iff x y).1 h1) ((ltM_iff y z).1 h2))
  ntrans x y z h1 h2 := by
    rw [ltM_no] at *
    intro h
    rcases ltT_tri x y with h3 | h3 | h3
    · exact h1 h3
    · subst h3; exact h2 h
    · exact h2 (ltT_trans h3 h)
theorem srtM_sorts (L : List Tm) : (srtM L).length = L.length ∧ (srtM L).Perm L ∧ ∀ i j, i < j → j < L.length → ltOf ordT ((srtM L).getD j T0) ((srtM L).getD i T0) = false := by
  have h := pdq_sorts (ltOf ordT) swoM L.toArray 0 L.toArray.size (Lib.bitLen L.toArray.size) true true (Nat.zero_le _) (Nat.le_refl _) (Or.inl rfl)
  have hs : (srtAM L).size = L.length := h.1.1.trans (by simp)
  have hb : ∀ j, (srtAM L)[j]! = (srtM L).getD j T0 := fun j => by
    unfold srtM
    rw [List.getD_eq_getElem?_getD, Array.getElem?_toList, Array.getElem!_eq_getD, Array.getD_eq_getD_getElem?]
    rfl
  refine ⟨?_, ?_, fun i j hij hj => ?_⟩
  · unfold srtM; rw [Array.length_toList, hs]
  · have hp := h.1.2.2
    have e1 : ((srtAM L).extract 0 L.toArray.size).toList = srtM L := by
      rw [← h.1.1]; unfold srtM; exact congrArg Array.toList (Array.extract_size ..)
    have e2 : (L.toArray.extract 0 L.toArray.size).toList = L := by rw [Array.extract_size]
    rw [e2] at hp
    rw [← e1]
    exact hp
  · rw [← hb, ← hb]
    exact h.2 i j (Nat.zero_le _) hij (by simpa using hj)
theorem one_encM (x : Tm) : ∀ v ∈ encM x, v.oneCell' = true := fun v hv => by
  simp only [encM, List.mem_cons, List.not_mem_nil, or_false] at hv
  rcases hv with rfl | rfl | rfl <;> rfl
theorem three {j : Nat} (hj : j < 3) : j = 0 ∨ j = 1 ∨ j = 2 := by omega
theorem baM_eq (s : ByteArray) : (⟨s.data.toList.toArray⟩ : ByteArray) = s := by apply ByteArray.ext; simp
theorem relM_str {w : World} {rw : Nat → Prop} {L : List UInt8} {v : Value} (h : RelC w rw v (.str L)) : v = .string ⟨L.toArray⟩ := by
  generalize hs : SV.str L = t at h
  cases h with
  | str s => cases hs; rw [baM_eq]
  | _ => cases hs
theorem relM_int {w : World} {rw : Nat → Prop} {k : IntKind} {n : Int} {v : Value} (h : RelC w rw v (.int k n)) : v = .int k n := by
  generalize hs : SV.int k n = t at h
  cases h with
  | int => cases hs; rfl
  | _ => cases hs
theorem encM_get {w : World} {rw : Nat → Prop} {e : Tm} {j : Nat} (hj : j < 3) {v : Value} (h : RelC w rw v (getAt (eT std fun _ => e) j)) : (encM e)[j]? = some v := by
  rcases three hj with rfl | rfl | rfl
  all_goals
    simp only [eT, getAt, sS] at h
    first
      | (rw [relM_int h]; rfl)
      | (rw [relM_str h]; rfl)
theorem encM_rel (w : World) (rw : Nat → Prop) (e : Tm) {j : Nat} (hj : j < 3) {v : Value} (h : (encM e)[j]? = some v) : RelC w rw v (getAt (eT std fun _ => e) j) := by
  rcases three hj with rfl | rfl | rfl <;> cases h
  · exact .int _ _
  · exact .str ⟨e.r.toArray⟩
  · exact .int _ _
theorem flatM_get (L : List Tm) {i j : Nat} (hi : i < L.length) (hj : j < 3) : (flatK encM 3 L.toArray)[i * 3 + j]? = (encM (L.getD i T0))[j]? := by
  have h3a : (encM (L.getD i T0)).length = 3 := rfl
  have hlt : i * 3 + j < (flatK encM 3 L.toArray).size := by rw [size_flatK]; simp; omega
  have h := get_flatK encM 3 L.toArray (i * 3 + j) (by rw [size_flatK] at hlt; exact hlt)
  rw [show (i * 3 + j) / 3 = i by omega, show (i * 3 + j) % 3 = j by omega, getElem!_pos (flatK encM 3 L.toArray) (i * 3 + j) hlt] at h
  rw [Array.getElem?_eq_getElem hlt, h]
  have e1 : L.toArray[i]! = L.getD i T0 := by
    rw [getElem!_pos L.toArray i (by simpa using hi), List.getD_eq_getElem?_getD, List.getElem?_eq_getElem hi]
    simp
  rw [e1, List.getElem?_eq_getElem (by omega), getElem!_pos (encM (L.getD i T0)) j (by omega)]
theorem cmpM_lays (blk off size : Nat) (w : World) : CmpLays Try.prog 29 #[] encM 3 ordT blk off size w :=
  fun _ _ _ _ x y => order_w x.s y.s x.u y.u ⟨x.r.toArray⟩ ⟨y.r.toArray⟩ _
theorem sortM_ok (gl : Nat → SV) (n : Nat) (g : Nat → Nat → SV) (hr : isRow eT T0 3 n g) (hn0 : n ≤ 1000000) :
    GoodS Try.prog gl 28 58 3 n g [.clo 29 []] (rowF eT T0 std fun _ => srtM (lstOf eT T0 3 n g)) := by
  intro w ρ rw N v vs xs hrw hgl hv hown hone hrel hargs
  obtain ⟨L, hL⟩ : ∃ L, L = lstOf eT T0 3 n g := ⟨_, rfl⟩
  have hRep : Reps eT T0 3 n g L := hL ▸ hr.reps
  rw [← hL]
  clear hL hr
  have hn := hRep.1
  subst hn
  match vs, hargs with
  | [v1], ⟨r1, _⟩ =>
    have e1 : v1 = .func (.func 29) #[] #[] := by
      generalize hs : SV.clo 29 [] = t at r1
      cases r1 with
      | clo f cs l hl h hm =>
        cases hs
        have : cs = #[] := Array.eq_empty_of_size_eq_zero hl
        rw [this]
      | _ => cases hs
    subst e1
    have hxl : xs.length = L.length * 3 := hown.1
    have hxs : xs = (flatK encM 3 L.toArray).toList := by
      apply List.ext_getElem?
      intro t
      rcases Nat.lt_or_ge t (L.length * 3) with ht | ht
      · have h1 := flatM_get L (i := t / 3) (j := t % 3) (by omega) (Nat.mod_lt _ (by decide))
        rw [show t / 3 * 3 + t % 3 = t by omega] at h1
        have h3 : (flatK encM 3 L.toArray).toList[t]? = (flatK encM 3 L.toArray)[t]? := Array.getElem?_toList
        rw [h3, h1, List.getElem?_eq_getElem (show t < xs.length by omega)]
        have h2 := hrel (t / 3) (t % 3) xs[t] (by omega) (Nat.mod_lt _ (by decide)) (by rw [show t / 3 * 3 + t % 3 = t by omega]; exact List.getElem?_eq_getElem (by omega))
        exact (encM_get (Nat.mod_lt _ (by decide)) (RelC.ceq (hRep.2 _ _ (by omega) (Nat.mod_lt _ (by decide))) h2)).symm
      · rw [List.getElem?_eq_none (by omega), List.getElem?_eq_none (by simp; omega)]
    rcases hown.2 with ⟨⟨a, rfl⟩, h0⟩ | ⟨blk, cap, cur, rfl, hc0, hC, hnc, hcm, hcs, htk⟩
    · have hl0 : L = [] := List.eq_nil_of_length_eq_zero h0
      subst hl0
      refine (AnyF.slices_SortFunc_none Try.sortTm a 0 _ w).mono fun en w' hq => ?_
      obtain ⟨rfl, rfl⟩ := hq
      exact ⟨rfl, xs, hown, hone, ⟨rfl, rfl, rfl, Nat.le_refl _, fun _ _ _ => rfl⟩, fun _ _ i j u hi => absurd hi (Nat.not_lt_zero _)⟩
    · obtain ⟨mk, hh, hmk⟩ := hC
      obtain rfl : mk = (0, 0) := by
        rcases hmk with h | ⟨_, h⟩
        · exact h
        · exact absurd h (by decide)
      have hblk : blk < w.heap.size := (Array.getElem?_eq_some_iff.1 hh).1
      have hH : HoldsK encM 3 w blk 0 L.toArray := fun t ht => by
        rw [size_flatK] at ht
        have ht' : t < L.length * 3 := by simpa using ht
        have h3 : (flatK encM 3 L.toArray)[t]? = cur[t]? := by
          have h4 : (flatK encM 3 L.toArray)[t]? = xs[t]? := by rw [hxs]; exact Array.getElem?_toList.symm
          rw [h4, ← htk, List.getElem?_take_of_lt ht', Array.getElem?_toList]
        have ht2 : t < (flatK encM 3 L.toArray).size := by rw [size_flatK]; exact ht
        refine ⟨?_, ?_⟩
        · rw [Nat.zero_add, getElem!_pos (flatK encM 3 L.toArray) t ht2, World.cell?]
          simp only [hh]
          rw [← h3, Array.getElem?_eq_getElem ht2]
          rfl
        · rw [World.frozen?]
          simp only [hh]
          simp
      have hsrt := srtM_sorts L
      have h := AnyQ.slices_SortFunc_eq Try.sortTm 3 Try.isAgg58 Try.sizeOf58 encM (fun _ => rfl) one_encM ordT swoM 29 #[] blk 0 cap L.toArray w (enters_of Try.func29 (by kernel_rfl) rfl) (cmpM_lays blk 0 L.toArray.size w) hH hblk (by simp; omega)
      rw [show L.toArray.size = L.length by simp] at h
      refine h.mono fun en w' hq => ?_
      obtain ⟨rfl, m, os, rfl⟩ := hq
      rw [show pdq (ltOf ordT) L.toArray 0 L.length (Lib.bitLen L.length) true true = srtAM L by unfold srtAM; rw [show L.toArray.size = L.length by simp]]
      obtain ⟨D, hD⟩ : ∃ D, D = srtM L := ⟨_, rfl⟩
      have hA : srtAM L = D.toArray := by rw [hD]; unfold srtM; simp
      rw [← hD] at hsrt ⊢
      rw [hA]
      clear hD hA h
      obtain ⟨F, hF⟩ : ∃ F, F = flatK encM 3 D.toArray := ⟨_, rfl⟩
      have hFs : F.size = L.length * 3 := by rw [hF, size_flatK]; simp [hsrt.1]
      have hcl : L.length * 3 ≤ cur.size := by rw [hcs]; exact Nat.mul_le_mul_right 3 hnc
      obtain ⟨cur2, hcur2⟩ : ∃ cur2, cur2 = putCells id 0 F cur := ⟨_, rfl⟩
      have hz2 : cur2.size = cur.size := by rw [hcur2]; simp [putCells]
      have htk2 : cur2.toList.take (L.length * 3) = F.toList := by
        apply List.ext_getElem?
        intro t
        rcases Nat.lt_or_ge t (L.length * 3) with ht | ht
        · rw [List.getElem?_take_of_lt ht, Array.getElem?_toList, Array.getElem?_toList, hcur2]
          simp only [putCells, Array.getElem?_mapIdx]
          rw [Array.getElem?_eq_getElem (show t < cur.size by omega), Array.getElem?_eq_getElem (show t < F.size by omega), Option.map_some, if_pos ⟨Nat.zero_le _, by omega⟩, Nat.sub_zero, getElem!_pos F t (by omega)]
          rfl
        · rw [List.getElem?_eq_none (by rw [List.length_take]; omega), List.getElem?_eq_none (by rw [Array.length_toList, hFs]; exact ht)]
      have hhp : ∀ b, b < w.heap.size → (sortWorldK encM 3 w blk 0 m D.toArray os).heap[b]? = if b = blk then some (.cells cur2 58 (0, 0)) else w.heap[b]? := fun b hb => by
        unfold sortWorldK
        rw [heap_grow_old _ _ (by show b < (putRow id _ blk 0 _).heap.size; rw [size_putRow]; exact hb)]
        show (w.heap.modify blk (onCells (putCells id 0 (flatK encM 3 D.toArray))))[b]? = _
        rw [Array.getElem?_modify]
        by_cases e : b = blk
        · subst e
          rw [if_pos rfl, if_pos rfl, hh, hcur2, hF]
          rfl
        · rw [if_neg (fun e' => e e'.symm), if_neg e]
      refine ⟨rfl, F.toList, ⟨by rw [Array.length_toList, hFs], .inr ⟨blk, cap, cur2, rfl, hc0, .of ((hhp blk hblk).trans (if_pos rfl)), hnc, hcm, hz2.trans hcs, htk2⟩⟩, ?_, ⟨rfl, rfl, rfl, ?_, fun b hb hne => ?_⟩, ?_⟩
      · intro u hu
        obtain ⟨t, ht⟩ := List.mem_iff_getElem?.1 hu
        have hts : t < L.length * 3 := by
          have := (List.getElem?_eq_some_iff.1 ht).1
          rw [Array.length_toList, hFs] at this
          exact this
        have h1 := flatM_get D (i := t / 3) (j := t % 3) (by omega) (Nat.mod_lt _ (by decide))
        rw [show t / 3 * 3 + t % 3 = t by omega, ← hF, ← Array.getElem?_toList, ht] at h1
        exact one_encM _ u (List.mem_of_getElem? h1.symm)
      · unfold sortWorldK
        rw [size_grow]
        show w.heap.size ≤ (putRow id _ blk 0 _).heap.size + _
        rw [size_putRow]
        exact Nat.le_add_right _ _
      · rw [hhp b hb, if_neg (fun e => hne (by rw [e, blkNo_slice hc0]))]
      · intro rw' _ i j u hi hj hu
        rw [Array.getElem?_toList, hF, flatM_get D (by omega) hj] at hu
        exact encM_rel _ _ _ hj hu
end Go.Proofs

set_option linter.unusedVariables false
set_option linter.unusedSimpArgs false
set_option maxRecDepth 100000
set_option maxHeartbeats 8000000
namespace Go.Vd
open Go.Proofs
/-- slices.Insert of one timer, slices.SortFunc of timers in their order; fresh.Wheel is gone into. -/
noncomputable def xW : Ar → Xt := fun A => { wl := [50], sl := [28], go := [32, 27, 34, 35], meth := fun _ _ => none, wt := (fun f e k n g rest => bif Nat.beq f 50 && (Nat.beq e 58 && Nat.beq k 3) then (match rest with
  | [.int .i64 i, .slc 1 3 h] => some (some (A.tp fun _ => (0 ≤ i ∧ i ≤ (n : Int)) ∧ n ≤ 1000000), A.nadd n 1, A.cat (A.toNat i) g (A.cat 1 h (A.shift g (A.toNat i))))
  | _ => none) else bif Nat.beq f 28 && (Nat.beq e 58 && Nat.beq k 3) then (match rest with
  | [.clo c []] => bif Nat.beq c 29 then some (some (A.tp fun _ => isRow eT T0 3 n g ∧ n ≤ 1000000), n, rowF eT T0 A fun _ => srtM (lstOf eT T0 3 n g)) else none
  | _ => none) else none) }
theorem insM_cat (g : Nat → Nat → SV) (k : Nat) (h : Nat → Nat → SV) : insS g k h = catS k g (catS 1 h (shiftS g k)) := by
  funext a b
  unfold insS catS shiftS
  by_cases h1 : a < k
  · rw [if_pos h1, if_pos h1]
  · rw [if_neg h1, if_neg h1]
    by_cases h2 : a = k
    · rw [if_pos h2, if_pos (by omega), show a - k = 0 by omega]
    · rw [if_neg h2, if_neg (by omega), show k + (a - k - 1) = a - 1 by omega]
theorem xW_ok : XtOk Try.prog gl0 (xW std) := by
  refine ⟨(fun t name f h => by cases h), ?_⟩
  intro f e k n g rest p n' g' hw hp
  unfold xW at hw
  simp only at hw
  cases hb : (Nat.beq f 50 && (Nat.beq e 58 && Nat.beq k 3)) <;> rw [hb] at hw <;> simp only [cond_true, cond_false] at hw
  · cases hb3 : (Nat.beq f 28 && (Nat.beq e 58 && Nat.beq k 3)) <;> rw [hb3] at hw <;> simp only [cond_true, cond_false, reduceCtorEq] at hw
    simp only [Bool.and_eq_true] at hb3
    obtain rfl := Nat.eq_of_beq_eq_true hb3.1
    obtain rfl := Nat.eq_of_beq_eq_true hb3.2.1
    obtain rfl := Nat.eq_of_beq_eq_true hb3.2.2
    split at hw
    · rename_i c
      cases hb2 : Nat.beq c 29 <;> rw [hb2] at hw <;> simp only [cond_true, cond_false, reduceCtorEq, Option.some.injEq, Prod.mk.injEq] at hw
      obtain rfl := Nat.eq_of_beq_eq_true hb2
      obtain ⟨rfl, rfl, rfl⟩ := hw
      refine ⟨⟨_, Try.func28, rfl, by decide⟩, ?_⟩
      have h2 := sortM_ok gl0 n g hp.1 hp.2
      rw [show inW 28 (xW std).sl = true from rfl]
      exact h2
    · cases hw
  · simp only [Bool.and_eq_true] at hb
    obtain rfl := Nat.eq_of_beq_eq_true hb.1
    obtain rfl := Nat.eq_of_beq_eq_true hb.2.1
    obtain rfl := Nat.eq_of_beq_eq_true hb.2.2
    split at hw
    · simp only [Option.some.injEq, Prod.mk.injEq] at hw
      obtain ⟨rfl, rfl, rfl⟩ := hw
      rename_i i h
      have h2 := insM_ok gl0 n g i h hp.1 hp.2
      rw [insM_cat] at h2
      refine ⟨⟨_, Try.func50, rfl, by decide⟩, ?_⟩
      rw [show inW 50 (xW std).sl = false from rfl]
      exact h2
    · cases hw
/-! ### All timers, in order -/
noncomputable def tmsW (n m : Int) (I O : Sl) : List Tm := if wR n m I O = true then lstW I O else []
theorem tms_y {n m : Int} {I O : Sl} (h : wR n m I O = true) : tmsW n m I O = lstW I O := by unfold tmsW; rw [if_pos h]
theorem tms_n {n m : Int} {I O : Sl} (h : wR n m I O = false) : tmsW n m I O = [] := by unfold tmsW; rw [h]; rfl
theorem srtM_eq {M : List Tm} (h : unlQ M) : srtM M = srtT M := by
  obtain ⟨h1, h2, h3⟩ := srtM_sorts M
  have hu : unlQ (srtM M) := (h2.pairwise_iff fun {a b} => unlT_symm).2 h
  refine (srtT_uniq h ?_ fun x => h2.mem_iff).symm
  unfold ascT
  unfold unlQ at hu
  rw [List.pairwise_iff_getElem] at hu ⊢
  intro i j hi hj hij
  have a := unlT_ne (hu i j hi hj hij)
  have b := (ltM_no _ _).1 (h3 i j hij (by omega))
  rw [List.getD_eq_getElem?_getD, List.getD_eq_getElem?_getD, List.getElem?_eq_getElem hi, List.getElem?_eq_getElem hj] at b
  simp only [Option.getD_some] at b
  rcases ltT_tri (srtM M)[i] (srtM M)[j] with h4 | h4 | h4
  · exact h4
  · exact absurd h4 a
  · exact absurd h4 b
attribute [local irreducible] vc
theorem good_wTimers (n m : Int) (I O : Sl) (hQ : whQ I O) (hn : 0 ≤ n) : GoodP Try.prog gl0 12 [whS std n m I O] (rowS eT T0 3 std fun _ => tmsW n m I O) := by
  refine fn_sound' (T := seatT) (G := gwk) (X := xW) seatT_ok gwk_ok xW_ok noI_ok mixed Try.func12 (.none) (fun A => [whS A n m I O]) (fun A => rowS eT T0 3 A fun _ => tmsW n m I O) fun A hA => ?_
  cbv
  repeat' (first | with_reducible exact True.intro | with_reducible exact dr_ok hA (by kernel_rfl) | with_reducible exact eqv_refl hA _ | with_reducible refine And.intro ?_ ?_ | (intro hc; cbv))
  all_goals (subst hA; simp only [sS, isRow_X64 hQ.1.1, isRow_X64 hQ.1.2, lstOf_X64 hQ.1.1, lstOf_X64 hQ.1.2, isRow_M, lstOf_M] at *)
  all_goals first
    | exact ⟨⟨⟨trivial, trivial⟩, hQ⟩, hn⟩
    | exact ⟨⟨trivial, trivial⟩, hQ⟩
    | (have h1 := tms_n (nb_f hc)
       rw [h1]
       first
         | rfl
         | simp)
    | (have hR := nb_t hc
       have h1 := tms_y hR
       have h2 := wR_iff.1 hR
       have h3 : srtM (allT I O) = lstW I O := srtM_eq h2.2.2.1
       have h4 : (lstW I O).length = (allT I O).length := srtT_len _
       have h5 := hQ.2.1
       first
         | exact ⟨trivial, by omega⟩
         | (rw [h1, h4]; done)
         | (rw [h1, h4, h3]; exact (Reps.lit _).eqr' h4.symm)
         | (rw [h1, h3]; exact (Reps.lit _).eqr' h4.symm)
         | trace_state)
    | trace_state
noncomputable def c_wTimers : Ct := fun A args => match args with
  | [.agg [.int .u64 n, .int .i64 m, .run 64 f, .run 64 g]] => some (some (A.tp fun _ => ((isRow eTs [] 1 64 f ∧ isRow eTs [] 1 64 g) ∧ whQ (lstOf eTs [] 1 64 f) (lstOf eTs [] 1 64 g)) ∧ 0 ≤ n), rowS eT T0 3 A fun _ => tmsW n m (lstOf eTs [] 1 64 f) (lstOf eTs [] 1 64 g))
  | _ => none
noncomputable def fndU (n m : Int) (I O : Sl) (s : Int) (r : List UInt8) : Int := if wR n m I O = true then fdT (allT I O) s r else 0
noncomputable def fndB (n m : Int) (I O : Sl) (s : Int) (r : List UInt8) : Bool := if wR n m I O = true then hkT (allT I O) s r else false
theorem fnd_y {n m : Int} {I O : Sl} (h : wR n m I O = true) (s : Int) (r : List UInt8) : fndU n m I O s r = fdT (allT I O) s r ∧ fndB n m I O s r = hkT (allT I O) s r := by unfold fndU fndB; rw [if_pos h, if_pos h]; exact ⟨rfl, rfl⟩
theorem fnd_n {n m : Int} {I O : Sl} (h : wR n m I O = false) (s : Int) (r : List UInt8) : fndU n m I O s r = 0 ∧ fndB n m I O s r = false := by unfold fndU fndB; rw [h]; exact ⟨rfl, rfl⟩
theorem good_wFind (n m s : Int) (I O : Sl) (r : List UInt8) (hQ : whQ I O) (hn : 0 ≤ n) : GoodP Try.prog gl0 13 [whS std n m I O, sKey std s r] (.tup [.int .u64 (std.ti fun _ => fndU n m I O s r), .bool (std.tb fun _ => fndB n m I O s r)]) := by
  refine fn_sound' (T := seatT) (G := gwk) (X := noX) seatT_ok gwk_ok noX_ok noI_ok mixed Try.func13 (.one) (fun A => [whS A n m I O, sKey A s r]) (fun A => .tup [.int .u64 (A.ti fun _ => fndU n m I O s r), .bool (A.tb fun _ => fndB n m I O s r)]) fun A hA => ?_
  cbv
  repeat' (first | with_reducible exact True.intro | with_reducible exact dr_ok hA (by kernel_rfl) | with_reducible exact eqv_refl hA _ | with_reducible refine And.intro ?_ ?_ | (intro hc; cbv))
  all_goals (subst hA; simp only [sS, isRow_X64 hQ.1.1, isRow_X64 hQ.1.2, lstOf_X64 hQ.1.1, lstOf_X64 hQ.1.2] at *)
  all_goals first
    | exact ⟨⟨⟨trivial, trivial⟩, hQ⟩, hn⟩
    | exact ⟨⟨trivial, trivial⟩, hQ⟩
    | (have h1 := fnd_n (nb_f hc) s r
       first
         | exact h1.1.symm
         | exact h1.2.symm)
    | (have h1 := fnd_y (nb_t hc) s r
       first
         | exact h1.1.symm
         | exact h1.2.symm)
    | trace_state
noncomputable def c_wFind : Ct := fun A args => match args with
  | [.agg [.int .u64 n, .int .i64 m, .run 64 f, .run 64 g], .agg [.int .u32 s, .str r]] => some (some (A.tp fun _ => ((isRow eTs [] 1 64 f ∧ isRow eTs [] 1 64 g) ∧ whQ (lstOf eTs [] 1 64 f) (lstOf eTs [] 1 64 g)) ∧ 0 ≤ n), .tup [.int .u64 (A.ti fun _ => fndU n m (lstOf eTs [] 1 64 f) (lstOf eTs [] 1 64 g) s r), .bool (A.tb fun _ => fndB n m (lstOf eTs [] 1 64 f) (lstOf eTs [] 1 64 g) s r)])
  | _ => none
noncomputable def gwl : Ar → Pu := addC 12 c_wTimers (addC 13 c_wFind (gwk))
theorem gwl_ok : PuOk Try.prog gl0 (gwl std) := by
  refine addC_ok (addC_ok (gwk_ok) ⟨_, Try.func13, rfl, by decide⟩ ?_) ⟨_, Try.func12, rfl, by decide⟩ ?_
  · intro args p r h hp
    unfold c_wFind at h
    split at h <;> cases h
    exact good_sv (good_wFind _ _ _ _ _ _ hp.1.2 hp.2) ⟨whS_sv hp.1.1.1 hp.1.1.2, ⟨_, rfl, rfl, rfl, trivial⟩, trivial⟩
  · intro args p r h hp
    unfold c_wTimers at h
    split at h <;> cases h
    exact good_sv (good_wTimers _ _ _ _ hp.1.2 hp.2) ⟨whS_sv hp.1.1.1 hp.1.1.2, trivial⟩
end Go.Vd

set_option linter.unusedVariables false
set_option linter.unusedSimpArgs false
set_option maxRecDepth 100000
set_option maxHeartbeats 8000000
namespace Go.Vd
open Go.Proofs
/-- Whether it comes ahead of x. -/
def ahT (x y : Tm) : Bool := decide (ordT y x < 0)
theorem ahT_iff {x y : Tm} : ahT x y = true ↔ ltT y x := by unfold ahT; rw [decide_eq_true_eq, ordT_lt]
def posT (L : List Tm) (x : Tm) : Nat := (L.takeWhile (ahT x)).length
theorem posT_le : ∀ (L : List Tm) (x : Tm), posT L x ≤ L.length
  | [], x => Nat.le_refl _
  | y :: L, x => by
    have := posT_le L x
    unfold posT at this ⊢
    rw [List.takeWhile_cons]
    split
    · simpa using this
    · simp
theorem posT_eq : ∀ {L : List Tm} {x : Tm} {i : Nat}, i ≤ L.length → (∀ t, t < i → ahT x (L.getD t T0) = true) → (i < L.length → ahT x (L.getD i T0) = false) → posT L x = i
  | [], x, i, h, _, _ => by simp at h; subst h; rfl
  | y :: L, x, 0, _, _, h => by
    have := h (by simp)
    simp only [List.getD_cons_zero] at this
    unfold posT
    rw [List.takeWhile_cons, this]
    rfl
  | y :: L, x, i + 1, h, h1, h2 => by
    have h0 := h1 0 (by omega)
    simp only [List.getD_cons_zero] at h0
    have ih := posT_eq (L := L) (x := x) (i := i) (by simpa using h) (fun t ht => by simpa using h1 (t + 1) (by omega)) (fun hh => by simpa using h2 (by simpa using hh))
    unfold posT at ih ⊢
    rw [List.takeWhile_cons, h0, if_pos rfl, List.length_cons, ih]
def srT (L : List Tm) (x : Tm) (i j : Nat) : Prop := i ≤ j ∧ j ≤ L.length ∧ (∀ t, t < i → ahT x (L.getD t T0) = true) ∧ ∀ t, j ≤ t → t < L.length → ahT x (L.getD t T0) = false
theorem asc_at {L : List Tm} (h : ascT L) {i j : Nat} (hij : i < j) (hj : j < L.length) : ltT (L.getD i T0) (L.getD j T0) := by
  have := List.pairwise_iff_getElem.1 h i j (by omega) hj hij
  rwa [List.getD_eq_getElem?_getD, List.getD_eq_getElem?_getD, List.getElem?_eq_getElem hj, List.getElem?_eq_getElem (show i < L.length by omega)]
theorem ah_up {L : List Tm} (h : ascT L) {x : Tm} {i j : Nat} (hij : i ≤ j) (hj : j < L.length) (hl : ahT x (L.getD j T0) = true) : ahT x (L.getD i T0) = true := by
  rcases Nat.lt_or_ge i j with h2 | h2
  · rw [ahT_iff] at *
    exact ltT_trans (asc_at h h2 hj) hl
  · obtain rfl : i = j := by omega
    exact hl
theorem midW_eq {i j m : Nat} (hm : m = (i + j) / 2) (hi : i ≤ 1000000000) (hj : j ≤ 1000000000) : std.conv .i64 (std.shr .u64 (std.conv .u64 (std.add .i64 (Int.ofNat i) (Int.ofNat j))) 1) = Int.ofNat m := by
  show IntKind.i64.wrap ((IntKind.u64.wrap (IntKind.i64.wrap ((i : Int) + (j : Int)))).fdiv (2 ^ (min (1 : Int).toNat IntKind.u64.bits))) = (m : Int)
  have e0 : IntKind.i64.wrap ((i : Int) + (j : Int)) = (i : Int) + (j : Int) := w64 (by omega)
  have e1 : IntKind.u64.wrap ((i : Int) + (j : Int)) = (i : Int) + (j : Int) := by rw [IntKind.wrap_u64]; omega
  have e2 : (2 : Int) ^ (min (1 : Int).toNat IntKind.u64.bits) = 2 := by decide
  rw [e0, e1, e2, Int.fdiv_eq_ediv_of_nonneg _ (by decide), w64 (by omega)]
  omega
attribute [local irreducible] vc
theorem good_bsT (L : List Tm) (x : Tm) (hL : L.length ≤ 1000000) (hasc : ascT L) : GoodP Try.prog gl0 49 [rowS eT T0 3 std fun _ => L, tmS std x, .clo 29 []] (.tup [.int .i64 (std.ti fun _ => (posT L x : Int)), .any]) := by
  refine fn_sound' (T := seatT) (G := gwl) (X := noX) seatT_ok gwl_ok noX_ok noI_ok mixed Try.func49 (.one) (fun A => [rowS eT T0 3 A fun _ => L, tmS A x, .clo 29 []]) (fun A => .tup [.int .i64 (A.ti fun _ => (posT L x : Int)), .any]) fun A hA => ?_
  cbv
  repeat' (first | with_reducible exact True.intro | with_reducible exact dr_ok hA (by kernel_rfl) | with_reducible exact eqv_refl hA _ | with_reducible refine And.intro ?_ ?_ | (intro hc; cbv))
  obtain ⟨n0, hn0⟩ : ∃ n0, n0 = L.length := ⟨_, rfl⟩
  refine ⟨⟨{p : Nat × Nat // srT L x p.1 p.2}, fun b p => [(9, .int .i64 (p.1.1 : Nat)), (10, .int .i64 (p.1.2 : Nat))], fun b p => [], fun p => p.1.2 - p.1.1, true⟩, ⟨⟨(0, n0), by omega, by omega, (fun t ht => absurd ht (by omega)), fun t h1 h2 => absurd h1 (by omega)⟩, ?_⟩, ?_⟩
  · cbv
    subst hA
    simp [-List.getD_eq_getElem?_getD, sS, hn0]
  · rintro ⟨⟨i, j⟩, hx⟩
    have hij : i ≤ j := hx.1
    have hjL : j ≤ L.length := hx.2.1
    have h1 : ∀ t, t < i → ahT x (L.getD t T0) = true := hx.2.2.1
    have h2 : ∀ t, j ≤ t → t < L.length → ahT x (L.getD t T0) = false := hx.2.2.2
    rcases Nat.lt_or_ge i j with hlt | hge
    · obtain ⟨m, hm⟩ : ∃ m, m = (i + j) / 2 := ⟨_, rfl⟩
      have hmi : i ≤ m := by omega
      have hmj : m < j := by omega
      have hmL : m < L.length := by omega
      obtain ⟨e, he⟩ : ∃ e, e = L.getD m T0 := ⟨_, rfl⟩
      have hg : L.getD m { s := 0, r := [], u := 0 } = e := he.symm
      obtain ⟨m', hm'⟩ : ∃ m', m' = m + 1 := ⟨_, rfl⟩
      have hyes : ordT e x < 0 → srT L x m' j := fun hk => by
        have hk : ahT x e = true := decide_eq_true hk
        exact ⟨by omega, hjL, fun t ht => ah_up hasc (show t ≤ m by omega) hmL (he ▸ hk), h2⟩
      have hno : ¬ordT e x < 0 → srT L x i m := fun hk => by
        have hk : ahT x e = false := decide_eq_false hk
        refine ⟨hmi, by omega, h1, fun t ht1 ht2 => ?_⟩
        cases hq : ahT x (L.getD t T0)
        · rfl
        · have := ah_up hasc ht1 ht2 hq
          rw [← he, hk] at this
          cases this
      have hmid := midW_eq hm (by omega) (by omega)
      clear h1 h2
      cbv
      repeat' (first | with_reducible exact True.intro | with_reducible exact dr_ok hA (by kernel_rfl) | with_reducible exact eqv_refl hA _ | with_reducible refine And.intro ?_ ?_ | (intro hc; cbv))
      all_goals first
        | (fail_if_success (refine Exists.intro ?_ ?_)
           clear hyes hno
           subst hA
           simp only [hmid] at *
           simp only [sS, Int.ofNat_eq_natCast, Int.toNat_natCast, hg, eta_T] at *
           first
             | done
             | exact ⟨(show (0 : Int) ≤ ((m : Nat) : Int) by omega), (show ((m : Nat) : Int) < ((L.length : Nat) : Int) by omega)⟩
             | decide
             | omega
             | (exfalso
                have hq : decide ((i : Int) < (j : Int)) = false := by assumption
                have := of_decide_eq_false hq
                omega)
             | trace_state)
        | (have hk : ordT e x < 0 := by
             clear hyes hno
             subst hA
             simp only [hmid] at hc
             simp only [sS, Int.ofNat_eq_natCast, Int.toNat_natCast, hg, eta_T] at hc
             exact of_decide_eq_true hc
           refine ⟨⟨(m', j), hyes hk⟩, ?_, show j - m' < j - i by omega⟩
           cbv
           subst hA
           simp only [hmid]
           simp [-List.getD_eq_getElem?_getD, sS]
           exact w_succ' hm' (by omega))
        | (have hk : ¬ordT e x < 0 := by
             clear hyes hno
             subst hA
             simp only [hmid] at hc
             simp only [sS, Int.ofNat_eq_natCast, Int.toNat_natCast, hg, eta_T] at hc
             exact of_decide_eq_false hc
           refine ⟨⟨(i, m), hno hk⟩, ?_, show m - i < j - i by omega⟩
           cbv
           subst hA
           simp only [hmid]
           simp [-List.getD_eq_getElem?_getD, sS])
        | trace_state
    · obtain rfl : i = j := by omega
      have hp : posT L x = i := posT_eq hjL h1 fun h => h2 i (Nat.le_refl _) h
      clear h1 h2
      cbv
      repeat' (first | with_reducible exact True.intro | with_reducible exact dr_ok hA (by kernel_rfl) | with_reducible exact eqv_refl hA _ | with_reducible refine And.intro ?_ ?_ | (intro hc; cbv))
      all_goals first
        | (exfalso
           subst hA
           simp only [sS, Int.ofNat_eq_natCast, Int.toNat_natCast] at *
           have hq : decide ((i : Int) < (i : Int)) = true := by assumption
           have := of_decide_eq_true hq
           omega)
        | (subst hA
           simp only [sS, Int.ofNat_eq_natCast, Int.toNat_natCast, hp] at *
           first
             | done
             | exact fun h => h
             | exact fun h => ⟨h, h⟩
             | (intro h; have h2 : i < L.length := by simpa using h
                first
                  | exact ⟨⟨h, h⟩, (show (0 : Int) ≤ ((i : Nat) : Int) by omega), (show ((i : Nat) : Int) < ((L.length : Nat) : Int) by omega)⟩
                  | exact ⟨h, h⟩
                  | exact ⟨h, h, h⟩)
             | (intro h; rw [h]; rfl)
             | trace_state)
        | trace_state
noncomputable def c_bsT : Ct := fun A args => match args with
  | [.slc n 3 f, .agg [.int .u32 s, .str r, .int .u64 u], .clo 29 []] => some (some (A.tp fun _ => (isRow eT T0 3 n f ∧ n ≤ 1000000) ∧ ascT (lstOf eT T0 3 n f)), .tup [.int .i64 (A.ti fun _ => (posT (lstOf eT T0 3 n f) ⟨s, r, u⟩ : Int)), .any])
  | _ => none
noncomputable def gwm : Ar → Pu := addC 49 c_bsT (gwl)
theorem gwm_ok : PuOk Try.prog gl0 (gwm std) := by
  refine addC_ok (gwl_ok) ⟨_, Try.func49, rfl, by decide⟩ ?_
  · intro args p r h hp
    unfold c_bsT at h
    split at h <;> cases h
    exact good_sv (good_bsT _ ⟨_, _, _⟩ (by rw [lstOf_length hp.1.1]; exact hp.1.2) hp.2) ⟨hp.1.1.sv, ⟨_, rfl, rfl, rfl, rfl, trivial⟩, rfl, trivial⟩
end Go.Vd

