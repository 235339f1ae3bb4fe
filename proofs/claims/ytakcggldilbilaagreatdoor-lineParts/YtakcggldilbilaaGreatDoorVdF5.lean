/- Messages: Read. -/
import Derived.Test.YtakcggldilbilaaGreatDoorVdM2
import Derived.Test.YtakcggldilbilaaGreatDoorVdSeat
set_option linter.unusedVariables false
set_option linter.unusedSimpArgs false
set_option maxRecDepth 100000
set_option maxHeartbeats 4000000
namespace Go.Vd
open Go.Proofs
/-- Fields and their bytes, as items. -/
def iE (F : List Int) (B : List UInt8) : Int := if F = [] then 3 else if ¬(itF F B).1 = 0 then (itF F B).1 else if (itF F B).2.2 = [] then 0 else 4
def iL (F : List Int) (B : List UInt8) : List It := if iE F B = 0 then (itF F B).2.1 else []
theorem iE_1 {F : List Int} {B : List UInt8} (h : F = []) : iE F B = 3 ∧ iL F B = [] := by
  have e : iE F B = 3 := if_pos h
  exact ⟨e, by unfold iL; rw [e]; rfl⟩
theorem iE_2 {F : List Int} {B : List UInt8} (h : ¬F = []) (h1 : ¬(itF F B).1 = 0) : iE F B = (itF F B).1 ∧ iL F B = [] := by
  have e : iE F B = (itF F B).1 := by unfold iE; rw [if_neg h, if_pos h1]
  exact ⟨e, by unfold iL; rw [e, if_neg h1]⟩
theorem iE_3 {F : List Int} {B : List UInt8} (h : ¬F = []) (h1 : (itF F B).1 = 0) (h2 : ¬(itF F B).2.2 = []) : iE F B = 4 ∧ iL F B = [] := by
  have e : iE F B = 4 := by unfold iE; rw [if_neg h, if_neg (fun e => e h1), if_neg h2]
  exact ⟨e, by unfold iL; rw [e]; rfl⟩
theorem iE_4 {F : List Int} {B : List UInt8} (h : ¬F = []) (h1 : (itF F B).1 = 0) (h2 : (itF F B).2.2 = []) : iE F B = 0 ∧ iL F B = (itF F B).2.1 := by
  have e : iE F B = 0 := by unfold iE; rw [if_neg h, if_neg (fun e => e h1), if_pos h2]
  exact ⟨e, by unfold iL; rw [if_pos e]⟩
theorem itF_take {F : List Int} {B : List UInt8} {k : Nat} (h : k < F.length) : itF (F.take (k + 1)) B = itStep (itF (F.take k) B) (F.getD k 0) := by
  rw [← take_snoc (d := 0) h, itF_snoc]
theorem itF_stop {F : List Int} {B : List UInt8} {k : Nat} (h : ¬(itF (F.take k) B).1 = 0) : itF F B = itF (F.take k) B := by
  conv => lhs; rw [← List.take_append_drop k F]
  unfold itF at *
  rw [List.foldl_append, it_stop _ _ h]
theorem it_len : ∀ (F : List Int) (o : Int × List It × List UInt8), (F.foldl itStep o).2.1.length ≤ o.2.1.length + F.length ∧ (F.foldl itStep o).2.2.length ≤ o.2.2.length
  | [], o => ⟨by simp, by simp⟩
  | f :: F, o => by
    rw [List.foldl_cons]
    have h1 := it_len F (itStep o f)
    have h2 : (itStep o f).2.1.length ≤ o.2.1.length + 1 ∧ (itStep o f).2.2.length ≤ o.2.2.length := by
      unfold itStep
      split
      · split
        · exact ⟨by simp, by simp⟩
        · exact ⟨by simp, by simp⟩
      · exact ⟨by omega, by omega⟩
    rw [List.length_cons]
    omega
theorem itF_len (F : List Int) (B : List UInt8) : (itF F B).2.1.length ≤ F.length ∧ (itF F B).2.2.length ≤ B.length := by
  have h := it_len F (0, [], B)
  exact ⟨by have := h.1; simp only [List.length_nil, Nat.zero_add] at this; exact this, h.2⟩
theorem rd_le (n : Int) (B : List UInt8) : (fRd n B).2.1 ≤ B.length := by
  by_cases h : (fRd n B).2.2 = 0
  · exact (fR_good h).2.1
  · rw [(fR_bad h).2]; omega
theorem good_items (F : List Int) (B : List UInt8) (hF : F.length ≤ 1000) (hB : B.length ≤ 1000000) : GoodP Tryz.prog gl0 85 [rowS eZ 0 1 std fun _ => F, rowS eB 0 1 std fun _ => B] (.tup [rowS eI (0, []) 2 std fun _ => iL F B, .int .i64 (std.ti fun _ => iE F B)]) := by
  refine fn_sound' (T := seatT) (G := gM2) (X := noX) seatT_ok gM2_ok noX_ok noI_ok mixed Tryz.func85 (.none) (fun A => [rowS eZ 0 1 A fun _ => F, rowS eB 0 1 A fun _ => B]) (fun A => .tup [rowS eI (0, []) 2 A fun _ => iL F B, .int .i64 (A.ti fun _ => iE F B)]) fun A hA => ?_
  cbv
  repeat' (first | with_reducible exact True.intro | with_reducible exact dr_ok hA (by kernel_rfl) | with_reducible refine And.intro ?_ ?_ | (intro hc; cbv))
  all_goals first
    | (fail_if_success (refine Exists.intro ?_ ?_)
       subst hA
       simp [sS] at *
       first
         | (rw [(iE_1 hc).1]; done)
         | (rw [(iE_1 hc).2]; rfl)
         | trace_state)
    | skip
  have hne : ¬F = [] := by subst hA; simp [sS] at hc; exact hc
  clear hc
  refine ⟨⟨{p : Nat × List It × List UInt8 // p.1 ≤ F.length ∧ itF (F.take p.1) B = (0, p.2.1, p.2.2)}, fun b p => [(17, .int .i64 (p.1.1 : Nat)), (6, .own b), (1, rowS eB 0 1 A fun _ => p.1.2.2)], fun b p => [(b, .row 107 2 (A.tn fun _ => p.1.2.1.length) (rowF eI (0, []) A fun _ => p.1.2.1))], fun p => F.length - p.1.1, true⟩, ⟨⟨(0, [], B), by simp [itF]⟩, ?_⟩, ?_⟩
  · cbv
    subst hA
    simp [-List.getD_eq_getElem?_getD, sS]
  · rintro ⟨⟨i, L, C⟩, hi, hL⟩
    simp only at hi hL
    cbv
    repeat' (first | with_reducible exact True.intro | with_reducible exact dr_ok hA (by kernel_rfl) | with_reducible refine And.intro ?_ ?_ | (intro hc; cbv))
    all_goals first
      | (fail_if_success (refine Exists.intro ?_ ?_)
         have hlt : i < F.length := by (subst hA; simp [sS] at *; omega)
         have hst := itF_take (B := B) hlt
         rw [hL] at hst
         have hlen := itF_len (F.take i) B
         rw [hL] at hlen
         simp only [List.length_take] at hlen
         have hrl := rd_le (F.getD i 0) C
         subst hA
         simp [-List.getD_eq_getElem?_getD, sS, strOf_lit, lstOf_lit inj_eB, lstOf_lit inj_eZ, lstOf_lit inj_eBs, lstOf_lit inj_eS, isRow_lit, isB_lit, isRow_nil, lstOf_nil inj_eB, lstOf_nil inj_eZ, lstOf_nil inj_eBs, lstOf_nil inj_eS] at *
         first
           | done
           | omega
           | assumption
           | (constructor <;> omega)
           | exact Int.ofNat_lt.2 (Nat.lt_succ_of_le (rd_le _ _))
           | (rw [it_no hc] at hst
              have h1 := itF_stop (B := B) (F := F) (k := i + 1) (by rw [hst]; exact hc)
              rw [hst] at h1
              have h2 := iE_2 (B := B) hne (by rw [h1]; exact hc)
              rw [h1] at h2
              first
                | (rw [h2.1]; done)
                | (rw [h2.2]; done)
                | (rw [h2.2]; rfl))
           | trace_state)
      | (fail_if_success (refine Exists.intro ?_ ?_)
         have hie : i = F.length := by (subst hA; simp [sS] at *; omega)
         rw [hie, List.take_length] at hL
         subst hA
         simp [-List.getD_eq_getElem?_getD, sS, strOf_lit, lstOf_lit inj_eB, lstOf_lit inj_eZ, lstOf_lit inj_eBs, lstOf_lit inj_eS, isRow_lit, isB_lit, isRow_nil, lstOf_nil inj_eB, lstOf_nil inj_eZ, lstOf_nil inj_eBs, lstOf_nil inj_eS] at *
         first
           | (have hC : C = [] := by assumption
              have h2 := iE_4 (B := B) hne (by rw [hL]) (by rw [hL]; exact hC)
              rw [hL] at h2
              first
                | (rw [h2.1]; done)
                | (rw [h2.2]; done)
                | (rw [h2.2]; exact (Reps.lit _).eqr))
           | (have hC : ¬C = [] := by first | assumption | (intro e; rw [e] at hc; simp at hc)
              have h2 := iE_3 (B := B) hne (by rw [hL]) (by rw [hL]; exact hC)
              first
                | (rw [h2.1]; done)
                | (rw [h2.2]; done)
                | (rw [h2.2]; rfl))
           | trace_state)
      | (have hlt : i < F.length := by (subst hA; simp [sS] at *; omega)
         have hst := itF_take (B := B) hlt
         rw [hL] at hst
         have hz : (fRd (F.getD i 0) C).2.2 = 0 := by (subst hA; simp [-List.getD_eq_getElem?_getD, sS, strOf_lit, lstOf_lit inj_eB, lstOf_lit inj_eZ, lstOf_lit inj_eBs, lstOf_lit inj_eS, isRow_lit, isB_lit, isRow_nil, lstOf_nil inj_eB, lstOf_nil inj_eZ, lstOf_nil inj_eBs, lstOf_nil inj_eS] at *; assumption)
         rw [it_yes hz] at hst
         have hrl := rd_le (F.getD i 0) C
         obtain ⟨i', hi'⟩ : ∃ i', i' = i + 1 := ⟨_, rfl⟩
         obtain ⟨L', hL'⟩ : ∃ L', L' = L ++ [(F.getD i 0, (fRd (F.getD i 0) C).1)] := ⟨_, rfl⟩
         obtain ⟨C', hC'⟩ : ∃ C', C' = C.drop (fRd (F.getD i 0) C).2.1 := ⟨_, rfl⟩
         refine ⟨⟨(i', L', C'), by omega, by rw [hi', hst, hL', hC']⟩, ?_, show F.length - i' < F.length - i by omega⟩
         cbv
         subst hA
         simp [-List.getD_eq_getElem?_getD, sS, strOf_lit, lstOf_lit inj_eB, lstOf_lit inj_eZ, lstOf_lit inj_eBs, lstOf_lit inj_eS, isRow_lit, isB_lit, isRow_nil, lstOf_nil inj_eB, lstOf_nil inj_eZ, lstOf_nil inj_eBs, lstOf_nil inj_eS]
         first
           | exact ⟨⟨⟨by rw [hC']; simp, eqr_of (rep_drop C _) (by rw [hC']; simp) hC'.symm⟩, (w64 (by omega)).trans (by omega)⟩, by rw [hL']; simp, snoc_row rfl (cell_eI _ _) hL'.symm (by rw [hL']; simp)⟩
           | trace_state)
      | trace_state
noncomputable def c_items : Ct := fun A args => match args with
  | [.slc n 1 f, .slc m 1 g] => some (some (A.tp fun _ => isRow eZ 0 1 n f ∧ isRow eB 0 1 m g ∧ n ≤ 1000 ∧ m ≤ 1000000), .tup [rowS eI (0, []) 2 A fun _ => iL (lstOf eZ 0 1 n f) (lstOf eB 0 1 m g), .int .i64 (A.ti fun _ => iE (lstOf eZ 0 1 n f) (lstOf eB 0 1 m g))])
  | _ => none
noncomputable def gM3 : Ar → Pu := addC 85 c_items (gM2)
theorem gM3_ok : PuOk Tryz.prog gl0 (gM3 std) := by
  refine addC_ok (gM2_ok) ⟨_, Tryz.func85, rfl, by decide⟩ ?_
  · intro args p r h hp
    unfold c_items at h
    split at h <;> cases h
    exact good_sv (good_items _ _ (by rw [lstOf_length hp.1]; exact hp.2.2.1) (by rw [lstOf_length hp.2.1]; exact hp.2.2.2)) ⟨hp.1.sv, hp.2.1.sv, trivial⟩
theorem bfields_len (h l : Nat) : (bfields h l).length ≤ 129 := bfieldsTo_len h l 129
theorem brN_le (L : List UInt8) : 0 ≤ brN L ∧ brN L ≤ 16 ∧ (brE L = 0 → brN L ≤ L.length) := by
  refine ⟨?_, ?_, fun h => (read_bytes L h).2.2.2.1⟩
  · unfold brN; split
    · split <;> omega
    · omega
  · unfold brN; split
    · split <;> omega
    · omega
theorem cut4 (B : List UInt8) : List.drop (IntKind.i64.wrap (4 + brN (List.drop 4 B))).toNat B = (mC B).drop (brN (mC B)).toNat := by
  have h := brN_le (List.drop 4 B)
  rw [w64 (by omega)]
  unfold mC
  rw [List.drop_drop]
  congr 1
  omega
theorem mre_it {B : List UInt8} (h : ¬B.length < 4) (h1 : mT (B.take 4) = true) (h2 : brE (mC B) = 0) : mRe B = iE (mFs B) ((mC B).drop (brN (mC B)).toNat) ∧ mRL B = iL (mFs B) ((mC B).drop (brN (mC B)).toNat) := by
  have e : mRe B = iE (mFs B) ((mC B).drop (brN (mC B)).toNat) := by
    unfold iE
    by_cases h3 : mFs B = []
    · rw [mRe_4 h h1 h2 h3, if_pos h3]
    · rw [if_neg h3]
      by_cases h4 : (mIt B).1 = 0
      · rw [mRe_6 h h1 h2 h3 h4]
        have h5 : (itF (mFs B) ((mC B).drop (brN (mC B)).toNat)).1 = 0 := h4
        rw [if_neg (show ¬¬(itF (mFs B) ((mC B).drop (brN (mC B)).toNat)).1 = 0 from fun e => e h5)]
        rfl
      · rw [mRe_5 h h1 h2 h3 h4]
        have h5 : ¬(itF (mFs B) ((mC B).drop (brN (mC B)).toNat)).1 = 0 := h4
        rw [if_pos h5]
        rfl
  refine ⟨e, ?_⟩
  unfold mRL iL
  rw [← e]
  rfl
theorem br_r64 {L : List UInt8} (h : brE L = 0) : r64 (br1 L : Nat) ∧ r64 (br2 L : Nat) := by
  obtain ⟨_, _, _, _, h5, h6⟩ := read_bytes L h
  exact ⟨r64_of h5, r64_of h6⟩
theorem good_mRead (B : List UInt8) (hB : B.length ≤ 1000000) : GoodP Tryz.prog gl0 41 [rowS eB 0 1 std fun _ => B] (.tup [.agg [.str (std.ts fun _ => mRT B), rowS eI (0, []) 2 std fun _ => mRL B], .int .i64 (std.ti fun _ => mRe B)]) := by
  refine fn_sound' (T := seatT) (G := gM3) (X := noX) seatT_ok gM3_ok noX_ok noI_ok mixed Tryz.func41 (.none) (fun A => [rowS eB 0 1 A fun _ => B]) (fun A => .tup [.agg [.str (A.ts fun _ => mRT B), rowS eI (0, []) 2 A fun _ => mRL B], .int .i64 (A.ti fun _ => mRe B)]) fun A hA => ?_
  cbv
  repeat' (first | with_reducible exact True.intro | with_reducible exact dr_ok hA (by kernel_rfl) | with_reducible refine And.intro ?_ ?_ | (intro hc; cbv))
  all_goals (have hN := brN_le (List.drop 4 B))
  all_goals (have hcut := cut4 B)
  all_goals (have hw : IntKind.i64.wrap (4 + brN (List.drop 4 B)) = 4 + brN (List.drop 4 B) := w64 (by omega))
  all_goals (have hfl := bfields_len (br1 (List.drop 4 B)) (br2 (List.drop 4 B)))
  all_goals (subst hA; simp [-List.getD_eq_getElem?_getD, sS, strOf_lit, lstOf_lit inj_eB, lstOf_lit inj_eZ, lstOf_lit inj_eBs, lstOf_lit inj_eS, isRow_lit, isB_lit, isRow_nil, lstOf_nil inj_eB, lstOf_nil inj_eZ, lstOf_nil inj_eBs, lstOf_nil inj_eS, lst_drop, row_drop] at *)
  all_goals first
    | omega
    | exact isB_any B 4
    | (have h4 : B.length < 4 := by omega
       have h := mRe_1 h4
       have hb := mR_bad (B := B) (by rw [h]; decide)
       first
         | (rw [h]; done)
         | (rw [hb.1]; done)
         | (rw [hb.2]; done)
         | (rw [hb.2]; rfl))
    | (have h4 : ¬B.length < 4 := by omega
       have hT : strOfS 4 (rowF eB 0 std fun _ => B) = B.take 4 := cutS B (by omega)
       try simp only [hT] at *
       first
         | (have h1 : mT (B.take 4) = false := by assumption
            have h := mRe_2 h4 h1
            have hb := mR_bad (B := B) (by rw [h]; decide)
            first
              | (rw [h]; done)
              | (rw [hb.1]; done)
              | (rw [hb.2]; done)
              | (rw [hb.2]; rfl))
         | (have h1 : mT (B.take 4) = true := by assumption
            have h2 : ¬brE (mC B) = 0 := by assumption
            have h := mRe_3 h4 h1 h2
            have hb := mR_bad (B := B) (by rw [h]; exact h2)
            first
              | (rw [h]; done)
              | (rw [h]; rfl)
              | (rw [hb.1]; done)
              | (rw [hb.2]; done)
              | (rw [hb.2]; rfl))
         | (have h1 : mT (B.take 4) = true := by assumption
            have h2 : brE (mC B) = 0 := by assumption
            have h := mre_it h4 h1 h2
            have h3 := hN.2.2 h2
            first
              | exact br_r64 h2
              | (rw [hw]; omega)
              | (rw [hw]; constructor <;> omega)
              | (rw [hw]; rw [List.length_drop] at h3; constructor <;> omega)
              | (simp only [hcut] at *
                 first
                   | (have hb := mR_bad (B := B) (by rw [h.1]; assumption)
                      first
                        | (rw [hb.1]; done)
                        | (rw [hb.2]; done)
                        | (rw [hb.2]; rfl)
                        | (rw [h.1]; rfl))
                   | (have h0 : mRe B = 0 := by (rw [h.1]; assumption)
                      first
                        | (rw [h0]; done)
                        | (unfold mRT; rw [if_pos h0]; done)
                        | (rw [h.2]; done)
                        | (rw [h.2]; rfl)
                        | (rw [h.2]; exact (Reps.lit _).eqr))))
         | trace_state)
    | trace_state
noncomputable def c_mRead : Ct := fun A args => match args with
  | [.slc n 1 f] => some (some (A.tp fun _ => isRow eB 0 1 n f ∧ n ≤ 1000000), .tup [.agg [.str (A.ts fun _ => mRT (lstOf eB 0 1 n f)), rowS eI (0, []) 2 A fun _ => mRL (lstOf eB 0 1 n f)], .int .i64 (A.ti fun _ => mRe (lstOf eB 0 1 n f))])
  | _ => none
noncomputable def gM4 : Ar → Pu := addC 41 c_mRead (gM3)
theorem gM4_ok : PuOk Tryz.prog gl0 (gM4 std) := by
  refine addC_ok (gM3_ok) ⟨_, Tryz.func41, rfl, by decide⟩ ?_
  · intro args p r h hp
    unfold c_mRead at h
    split at h <;> cases h
    exact good_sv (good_mRead _ (by rw [lstOf_length hp.1]; exact hp.2)) ⟨hp.1.sv, trivial⟩
end Go.Vd

set_option linter.unusedVariables false
namespace Go.Vd
def svn1 : SV → SV → Prop
  | .slc n k f, t => (∃ g, t = .slc n k g ∧ ∀ i j, i < n → j < k → Ceq (f i j) (g i j)) ∨ (n = 0 ∧ ∃ k' g, t = .slc 0 k' g)
  | .nils, t => ∃ k g, t = .slc 0 k g
  | s, t => s = t
theorem svn1_rel {w : World} {ρ : Nat → Value} {rw N : Nat → Prop} {v : Value} {s t : SV} (h : Rel w ρ rw N v s) (e : svn1 s t) : Rel w ρ rw N v t := by
  cases s with
  | slc n k f =>
    rcases e with e | ⟨rfl, k', g, rfl⟩
    · exact sv1_rel h e
    · cases h with
      | slc a _ c _ _ g2 hn hc ha hr => exact .slc a 0 c k' g (fun _ _ => undef) hn (fun i j hi => absurd hi (by omega)) (fun h => absurd h (by omega)) (fun i j hi => absurd hi (by omega))
  | nils =>
    obtain ⟨k, g, rfl⟩ := e
    cases h with
    | nils => exact .slc none 0 0 k g (fun _ _ => undef) (Nat.le_refl _) (fun i j hi => absurd hi (by omega)) (fun h => absurd h (by omega)) (fun i j hi => absurd hi (by omega))
  | _ => cases e; exact h
def svn2 : SV → SV → Prop
  | .agg l, t => ∃ m, t = .agg m ∧ All2 svn1 l m
  | s, t => svn1 s t
theorem svn2_rel {w : World} {ρ : Nat → Value} {rw N : Nat → Prop} {v : Value} {s t : SV} (h : Rel w ρ rw N v s) (e : svn2 s t) : Rel w ρ rw N v t := by
  cases s with
  | agg l =>
    obtain ⟨m, rfl, he⟩ := e
    generalize hs : SV.agg l = s at h
    cases h with
    | agg cs l' hl h1 hh =>
      cases hs
      have hlen := he.length
      refine .agg _ _ (by omega) h1 fun i v t hv ht => ?_
      have hi : i < l.length := by have := (List.getElem?_eq_some_iff.1 ht).1; omega
      exact svn1_rel (hh i v _ hv (List.getElem?_eq_getElem hi)) (he.get i _ t (List.getElem?_eq_getElem hi) ht)
    | _ => cases hs
  | _ => exact svn1_rel h e
theorem good_svn {P : Program} {gl : Nat → SV} {f : FuncId} {args args' : List SV} {r : SV} (h : GoodP P gl f args' r) (he : All2 svn2 args args') : GoodP P gl f args r := by
  intro w ρ rw N vs hfr hrw hg hargs
  refine h w ρ rw N vs hfr hrw hg ?_
  have key : ∀ {vs : List Value} {l m : List SV}, All2 (Rel w ρ rw N) vs l → All2 svn2 l m → All2 (Rel w ρ rw N) vs m := by
    intro vs
    induction vs with
    | nil => intro l m h1 h2; cases l with
      | nil => cases m with
        | nil => trivial
        | cons => exact h2.elim
      | cons => exact h1.elim
    | cons v vs ih => intro l m h1 h2; cases l with
      | nil => exact h1.elim
      | cons s l => cases m with
        | nil => exact h2.elim
        | cons t m => exact ⟨svn2_rel h1.1 h2.1, ih h1.2 h2.2⟩
  exact key hargs he
end Go.Vd

set_option linter.unusedVariables false
set_option linter.unusedSimpArgs false
set_option maxRecDepth 100000
set_option maxHeartbeats 8000000
namespace Go.Vd
open Go.Proofs
/-- Not too much for a look. -/
def mSh (T : List UInt8) (L : List It) : Bool := decide ((T.length : Int) ≤ 300) && (decide ((L.length : Int) ≤ 200) && L.all fun x => decide (x.2.length ≤ 1200))
theorem mSh_iff {T : List UInt8} {L : List It} : mSh T L = true ↔ T.length ≤ 300 ∧ L.length ≤ 200 ∧ ∀ x ∈ L, x.2.length ≤ 1200 := by
  simp only [mSh, Bool.and_eq_true, decide_eq_true_eq, List.all_eq_true]
  constructor
  · rintro ⟨h1, h2, h3⟩; exact ⟨by omega, by omega, h3⟩
  · rintro ⟨h1, h2, h3⟩; exact ⟨by omega, by omega, h3⟩
theorem mSh_getD {T : List UInt8} {L : List It} (h : mSh T L = true) (i : Nat) : (L.getD i (0, [])).2.length ≤ 1200 := by
  rw [List.getD_eq_getElem?_getD]
  rcases Nat.lt_or_ge i L.length with hi | hi
  · rw [List.getElem?_eq_getElem hi]; exact (mSh_iff.1 h).2.2 _ (List.getElem_mem hi)
  · rw [List.getElem?_eq_none hi]; simp
theorem mSh_no {T : List UInt8} {L : List It} {i : Nat} (hi : i < L.length) (h : 1200 < (L.getD i (0, [])).2.length) : mSh T L = false := by
  rw [Bool.eq_false_iff]
  intro e
  have := mSh_getD e i
  omega
theorem mSh_yes {T : List UInt8} {L : List It} {i : Nat} (hi : L.length ≤ i ∨ 200 ≤ i) (h : ∀ j, j < i → (L.getD j (0, [])).2.length ≤ 1200) : mSh T L = (decide ((T.length : Int) ≤ 300) && decide ((L.length : Int) ≤ 200)) := by
  unfold mSh
  by_cases h2 : (L.length : Int) ≤ 200
  · have : L.all (fun x => decide (x.2.length ≤ 1200)) = true := by
      rw [List.all_eq_true]
      intro x hx
      obtain ⟨j, hj, rfl⟩ := List.mem_iff_getElem.1 hx
      have := h j (by omega)
      rw [List.getD_eq_getElem?_getD, List.getElem?_eq_getElem hj] at this
      exact decide_eq_true this
    rw [this, Bool.and_true]
  · rw [decide_eq_false h2]; simp
theorem pair_eq {L M : List It} {i : Nat} : L.getD i (0, []) = M.getD i (0, []) ↔ (L.getD i (0, [])).1 = (M.getD i (0, [])).1 ∧ (L.getD i (0, [])).2 = (M.getD i (0, [])).2 := Prod.ext_iff
noncomputable def gM5a : Ar → Pu := gM4
theorem gM5a_ok : PuOk Tryz.prog gl0 (gM5a std) := by
  refine gM4_ok
noncomputable def c_rSame : Ct := fun A args => match args with
  | [.agg [.str T, .slc n 2 f], .agg [.str U, .slc m 2 g]] => some (some (A.tp fun _ => isRow eI (0, []) 2 n f ∧ isRow eI (0, []) 2 m g ∧ n ≤ 1000000), .bool (A.tb fun _ => decide (T = U ∧ lstOf eI (0, []) 2 n f = lstOf eI (0, []) 2 m g)))
  | [.agg [.str T, .slc n 2 f], .agg [.str U, .slc m 1 g]] => some (some (A.tp fun _ => isRow eI (0, []) 2 n f ∧ m = 0 ∧ n ≤ 1000000), .bool (A.tb fun _ => decide (T = U ∧ lstOf eI (0, []) 2 n f = [])))
  | _ => none
noncomputable def gM5 : Ar → Pu := gM5a
theorem gM5_ok : PuOk Tryz.prog gl0 (gM5 std) := gM5a_ok
theorem app1_reps (L : List UInt8) {z : Int} {x : UInt8} (hz : z = x.toNat) {g : Nat → Nat → SV} : Reps eB 0 1 (0 + L.length + 1) (catS (0 + L.length) (catS 0 g (rowF eB 0 std fun _ => L)) (lstS [[SV.int IntKind.u8 z]])) (L ++ [x]) := by
  have h1 : Reps eB 0 1 (0 + L.length) (catS 0 g (rowF eB 0 std fun _ => L)) L := by
    have := (Reps.nil (enc := eB) (d := 0) (k := 1) (f := g)).cat (Reps.lit L)
    simpa using this
  exact h1.cat (Reps.one (cell_eB hz))
def mT0 : List UInt8 := [48, 52, 51, 48]
def mL0 : List It := [(11, [48, 48, 48, 48, 48, 49]), (39, [48, 48])]
def mB0 : List UInt8 := [48, 52, 51, 48, 0, 32, 0, 0, 2, 0, 0, 0, 48, 48, 48, 48, 48, 49, 48, 48]
theorem mq0 : Reps eI (0, []) 2 2 (lstS [[SV.int IntKind.i64 11, SV.str [48, 48, 48, 48, 48, 49]], [SV.int IntKind.i64 39, SV.str [48, 48]]]) mL0 :=
  Reps.lst (l := [[SV.int .i64 11, SV.str [48, 48, 48, 48, 48, 49]], [SV.int .i64 39, SV.str [48, 48]]]) ⟨cell_eI _ _, cell_eI _ _, trivial⟩
theorem ml0 : lstOf eI (0, []) 2 2 (lstS [[SV.int IntKind.i64 11, SV.str [48, 48, 48, 48, 48, 49]], [SV.int IntKind.i64 39, SV.str [48, 48]]]) = mL0 := lstOf_eq inj_eI mq0
theorem mw0 : mWx [48, 52, 51, 48] mL0 = mB0 ∧ mWe [48, 52, 51, 48] mL0 = 0 ∧ mR [48, 52, 51, 48] mL0 = true := by decide +kernel
theorem mr0 : mRe mB0 = 0 ∧ mRT mB0 = [48, 52, 51, 48] ∧ mRL mB0 = mL0 ∧ mRe (mB0 ++ [48]) = 4 := by decide +kernel
theorem mg0 : mG mL0 39 = [48, 48] ∧ mH mL0 39 = true := by decide +kernel
theorem ma0 : lstOf eB 0 1 (0 + mB0.length + 1) (catS (0 + mB0.length) (catS 0 (fun _ _ => SV.any) (rowF eB 0 std fun _ => mB0)) (lstS [[SV.int IntKind.u8 48]])) = mB0 ++ [48] := lstOf_eq inj_eB (app1_reps mB0 (x := 48) rfl)
theorem ma1 : isRow eB 0 1 (0 + mB0.length + 1) (catS (0 + mB0.length) (catS 0 (fun _ _ => SV.any) (rowF eB 0 std fun _ => mB0)) (lstS [[SV.int IntKind.u8 48]])) := ⟨_, app1_reps mB0 (x := 48) rfl⟩
theorem ms0 : ∀ i, (mL0.getD i (0, [])).2.length ≤ 1000000 := fun i => Nat.le_trans (mSh_getD (T := mT0) (L := mL0) (by decide) i) (by decide)
noncomputable def gM6 : Ar → Pu := gM5
theorem gM6_ok : PuOk Tryz.prog gl0 (gM6 std) := by
  refine gM5_ok
end Go.Vd

set_option linter.unusedVariables false
set_option linter.unusedSimpArgs false
set_option maxRecDepth 100000
set_option maxHeartbeats 8000000
namespace Go.Vd
open Go.Proofs
theorem mW_len {T : List UInt8} {L : List It} (h : mR T L = true) : (mW T L).length ≤ 20 + L.length * 1002 := by
  obtain ⟨h1, h2, h3, h4⟩ := mR_iff.1 h
  have hT := mT_len h1
  obtain ⟨b1, b2, b3, b4, b5, b6⟩ := bof_ups h4 (fs_bf h3)
  have hb := bb_len b2
  have := body_len h3
  unfold mW mBits
  rw [List.length_append, List.length_append, hb]
  split <;> omega
theorem mRL_len (B : List UInt8) : (mRL B).length ≤ 129 := by
  unfold mRL
  split
  · exact Nat.le_trans (itF_len _ _).1 (bfields_len _ _)
  · simp
theorem rr_len {n : Int} {s : List UInt8} (h : rr n s = true) : s.length ≤ 999 := by
  have h1 := rr_ok h
  have h2 := dOk_b h1.1
  omega
theorem val_len {T : List UInt8} {L : List It} (h : mR T L = true) (i : Nat) : (L.getD i (0, [])).2.length ≤ 999 := by
  rcases Nat.lt_or_ge i L.length with hi | hi
  · exact rr_len (rr_at (mR_iff.1 h).2.2.1 hi)
  · rw [List.getD_eq_getElem?_getD, List.getElem?_eq_none hi]; simp
theorem lst_cut (L : List UInt8) {k : Nat} (h : k ≤ L.length) : lstOf eB 0 1 k (rowF eB 0 std fun _ => L) = L.take k := lstOf_eq inj_eB (.cut L k h)
theorem row_cut (L : List UInt8) {k : Nat} (h : k ≤ L.length) : isRow eB 0 1 k (rowF eB 0 std fun _ => L) := ⟨_, .cut L k h⟩
theorem app2_reps (L : List UInt8) {z : Int} {x : UInt8} (hz : z = x.toNat) {g : Nat → Nat → SV} : Reps eB 0 1 (L.length + 1) (catS L.length (catS 0 g (rowF eB 0 std fun _ => L)) (lstS [[SV.int IntKind.u8 z]])) (L ++ [x]) := by
  have := app1_reps L hz (g := g)
  simpa using this
theorem mod_cut {c : Int} (hc : 0 ≤ c ∧ c < 65536) {n : Nat} (hn : 0 < n) : ∃ k : Nat, k < n ∧ (IntKind.i64.wrap c).tmod (n : Int) = (k : Int) := by
  rw [w64 (by omega)]
  have t1 := Int.tmod_nonneg (n : Int) hc.1
  have t2 := Int.tmod_lt_of_pos c (show (0 : Int) < n by omega)
  exact ⟨(c.tmod n).toNat, by omega, by omega⟩
/-- What comes of writing. -/
theorem mw_facts {T : List UInt8} {L : List It} (h : mWe T L = 0) : mR T L = true ∧ mRe (mWx T L) = 0 ∧ mRT (mWx T L) = T ∧ mRL (mWx T L) = L ∧ (∀ k, k < (mWx T L).length → mRe ((mWx T L).take k) = 2) ∧ (∀ x, mRe (mWx T L ++ [x]) = 4) ∧ 12 ≤ (mWx T L).length ∧ (mWx T L).length ≤ 20 + L.length * 1002 := by
  have hr : mR T L = true := by
    cases e : mR T L
    · rw [(mw_no e).2] at h; cases h
    · rfl
  have hw := mw_yes hr
  rw [hw.1]
  have hb := mR_back hr
  exact ⟨hr, hb.1, hb.2.1, hb.2.2, fun k hk => mR_cut hr hk, fun x => mR_more hr x, mW_ne hr, mW_len hr⟩
theorem mw_two {T U : List UInt8} {L M : List It} (h : mWe T L = 0) (h' : mWe U M = 0) : mWx T L = mWx U M ↔ T = U ∧ L = M := by
  have a := (mw_facts h).1
  have b := (mw_facts h').1
  rw [(mw_yes a).1, (mw_yes b).1]
  exact mW_inj a b
theorem rd_facts {B : List UInt8} (h : mRe B = 0) : mR (mRT B) (mRL B) = true ∧ mWe (mRT B) (mRL B) = 0 ∧ mWx (mRT B) (mRL B) = B := by
  have := mR_good h
  exact ⟨this.1, (mw_yes this.1).2, (mw_yes this.1).1.trans this.2⟩
end Go.Vd

set_option linter.unusedVariables false
set_option linter.unusedSimpArgs false
set_option maxRecDepth 100000
set_option maxHeartbeats 8000000
namespace Go.Vd
open Go.Proofs
noncomputable def c_oTells : Ct := fun A args => match args with
  | [.int .i64 k] => some (none, .bool (A.tb fun _ => decide (k = 5) || decide (k = 6)))
  | _ => none
noncomputable def c_oAsks : Ct := fun A args => match args with
  | [.int .i64 k] => some (none, .bool (A.tb fun _ => dAsks k))
  | _ => none
noncomputable def c_oRight : Ct := fun A args => match args with
  | [.agg [.int .i64 k, .str p, .int .u64 a, .int .u32 s, .str r, .str c]] => some (some (A.tp fun _ => p.length ≤ 100000 ∧ r.length ≤ 1000000 ∧ c.length ≤ 1000000), .bool (A.tb fun _ => dR k a s p r c))
  | _ => none
noncomputable def gO0 : Ar → Pu := addC 91 c_oTells (addC 60 c_oAsks (addC 21 c_oRight (gM4)))
theorem gO0_ok : PuOk Tryz.prog gl0 (gO0 std) := by
  refine addC_ok (addC_ok (addC_ok (gM4_ok) ⟨_, Tryz.func21, rfl, by decide⟩ ?_) ⟨_, Tryz.func60, rfl, by decide⟩ ?_) ⟨_, Tryz.func91, rfl, by decide⟩ ?_
  · intro args p r h hp
    unfold c_oRight at h
    split at h <;> cases h
    exact good_dRight _ _ _ _ _ _ hp.1 hp.2.1 hp.2.2
  · intro args p r h hp
    unfold c_oAsks at h
    split at h <;> cases h
    exact good_dAsks _
  · intro args p r h hp
    unfold c_oTells at h
    split at h <;> cases h
    exact good_dTells _
theorem kd_at {T : List UInt8} {i : Nat} (hi : i < 7) (h : typesL.getD i [] = T) : kdOf T = (i : Int) + 1 := by
  subst h
  have h : ∀ i : Fin 7, kdOf (typesL.getD i.val []) = (i.val : Int) + 1 := by decide
  exact h ⟨i, hi⟩
theorem kd_none {T : List UInt8} (h : ∀ j, j < 7 → ¬typesL.getD j [] = T) : kdOf T = 0 := by
  unfold kdOf
  rw [if_neg (fun e => h 0 (by omega) e.symm), if_neg (fun e => h 1 (by omega) e.symm), if_neg (fun e => h 2 (by omega) e.symm), if_neg (fun e => h 3 (by omega) e.symm), if_neg (fun e => h 4 (by omega) e.symm), if_neg (fun e => h 5 (by omega) e.symm), if_neg (fun e => h 6 (by omega) e.symm)]
theorem ty_at {i : Nat} (hi : i < 7) : getAt [SV.str [48, 49, 48, 48], SV.str [48, 49, 49, 48], SV.str [48, 52, 48, 48], SV.str [48, 52, 49, 48], SV.str [48, 52, 50, 48], SV.str [48, 52, 50, 49], SV.str [48, 52, 51, 48]] i = .str (typesL.getD i []) := by
  rcases (show i = 0 ∨ i = 1 ∨ i = 2 ∨ i = 3 ∨ i = 4 ∨ i = 5 ∨ i = 6 by omega) with rfl | rfl | rfl | rfl | rfl | rfl | rfl <;> rfl
theorem good_kdOf (T : List UInt8) : GoodP Tryz.prog gl0 87 [.str T] (.int .i64 (std.ti fun _ => kdOf T)) := by
  refine fn_sound' (T := seatT) (G := noC) (X := noX) seatT_ok noC_ok noX_ok noI_ok mixed Tryz.func87 (.one) (fun A => [.str T]) (fun A => .int .i64 (A.ti fun _ => kdOf T)) fun A hA => ?_
  cbv
  repeat' (first | with_reducible exact True.intro | with_reducible exact dr_ok hA (by kernel_rfl) | with_reducible refine And.intro ?_ ?_ | (intro hc; cbv))
  refine ⟨⟨{i : Nat // i ≤ 7 ∧ ∀ j, j < i → ¬typesL.getD j [] = T}, fun b i => [(6, .int .i64 (i.1 : Nat))], fun b i => [], fun i => 7 - i.1, true⟩, ⟨⟨0, by omega, fun j hj => absurd hj (by omega)⟩, ?_⟩, ?_⟩
  · cbv
    subst hA
    simp [-List.getD_eq_getElem?_getD, sS]
  · rintro ⟨i, hi, h0⟩
    cbv
    repeat' (first | with_reducible exact True.intro | with_reducible exact dr_ok hA (by kernel_rfl) | with_reducible refine And.intro ?_ ?_ | (intro hc; cbv))
    all_goals first
      | (fail_if_success (refine Exists.intro ?_ ?_)
         have hlt : i < 7 := by (clear h0; subst hA; simp [-List.getD_eq_getElem?_getD, sS] at *; omega)
         subst hA
         simp [-List.getD_eq_getElem?_getD, sS, ty_at hlt] at *
         first
           | done
           | omega
           | (rw [kd_at hlt hc, w64 (by omega)]; omega)
           | trace_state)
      | (fail_if_success (refine Exists.intro ?_ ?_)
         have hie : i = 7 := by (clear h0; subst hA; simp [-List.getD_eq_getElem?_getD, sS] at *; omega)
         have := kd_none (T := T) (fun j hj => h0 j (by omega))
         subst hA
         simp only [sS, this])
      | (have hlt : i < 7 := by (clear h0; subst hA; simp [-List.getD_eq_getElem?_getD, sS] at *; omega)
         have hne : ¬typesL.getD i [] = T := by (clear h0; subst hA; simp [-List.getD_eq_getElem?_getD, sS, ty_at hlt] at *; exact hc)
         refine ⟨⟨i + 1, by omega, fun j hj => ?_⟩, ?_, show 7 - (i + 1) < 7 - i by omega⟩
         · by_cases e : j = i
           · subst e; exact hne
           · exact h0 j (by omega)
         cbv
         subst hA
         simp [sS]
         exact (w64 (by omega)).trans (by omega))
      | trace_state
theorem fo_1 {k : Int} (h : k = 5 ∨ k = 6) : fOf k = [2, 4, 11, 37, 90] := if_pos h
theorem fo_2 {k : Int} (h : ¬(k = 5 ∨ k = 6)) (h1 : dAsks k = true) : fOf k = [2, 4, 11, 37] := by unfold fOf; rw [if_neg h, if_pos h1]
theorem fo_3 {k : Int} (h : ¬(k = 5 ∨ k = 6)) (h1 : dAsks k = false) : fOf k = [11, 37, 39] := by unfold fOf; rw [if_neg h, if_neg (by rw [h1]; simp)]
theorem z_rep (L : List Int) : Reps eZ 0 1 L.length (lstS (L.map fun z => [SV.int .i64 z])) L := by
  have h := Reps.lst (enc := eZ) (d := 0) (k := 1) (all2_map L)
  rw [List.length_map] at h
  exact h
theorem good_fieldsOf (k : Int) : GoodP Tryz.prog gl0 53 [.int .i64 k] (rowS eZ 0 1 std fun _ => fOf k) := by
  refine fn_sound' (T := seatT) (G := gO0) (X := noX) seatT_ok gO0_ok noX_ok noI_ok mixed Tryz.func53 (.none) (fun A => [.int .i64 k]) (fun A => rowS eZ 0 1 A fun _ => fOf k) fun A hA => ?_
  cbv
  repeat' (first | with_reducible exact True.intro | with_reducible exact dr_ok hA (by kernel_rfl) | with_reducible refine And.intro ?_ ?_ | (intro hc; cbv))
  all_goals (subst hA; simp [sS] at *)
  all_goals first
    | (rw [fo_1 (by omega)]; rfl)
    | (rw [fo_1 (by omega)]; exact (z_rep [2, 4, 11, 37, 90]).eqr)
    | (rw [fo_2 (by omega) (by assumption)]; rfl)
    | (rw [fo_2 (by omega) (by assumption)]; exact (z_rep [2, 4, 11, 37]).eqr)
    | (rw [fo_3 (by omega) (by assumption)]; rfl)
    | (rw [fo_3 (by omega) (by assumption)]; exact (z_rep [11, 37, 39]).eqr)
    | trace_state
theorem good_digitsOf (v n : Int) (hv : 0 ≤ v ∧ v < 18446744073709551616) (hn : -9223372036854775808 ≤ n ∧ n < 9223372036854775808) : GoodP Tryz.prog gl0 104 [.int .u64 v, .int .i64 n] (.str (std.ts fun _ => puS v n)) := by
  refine fn_sound' (T := seatT) (G := gO0) (X := noX) seatT_ok gO0_ok noX_ok noI_ok mixed Tryz.func104 (.one) (fun A => [.int .u64 v, .int .i64 n]) (fun A => .str (A.ts fun _ => puS v n)) fun A hA => ?_
  cbv
  repeat' (first | with_reducible exact True.intro | with_reducible exact dr_ok hA (by kernel_rfl) | with_reducible refine And.intro ?_ ?_ | (intro hc; cbv))
  all_goals (subst hA; simp [sS] at *)
  all_goals first
    | omega
    | trace_state
theorem rep32 : Lib.repeatL [48] 32 = List.replicate 32 48 := repl_eq 32
theorem good_first (x : List UInt8) (hx : x.length ≤ 1000) : GoodP Tryz.prog gl0 105 [.str x] (.str (std.ts fun _ => frst x)) := by
  refine fn_sound' (T := seatT) (G := gO0) (X := noX) seatT_ok gO0_ok noX_ok noI_ok mixed Tryz.func105 (.one) (fun A => [.str x]) (fun A => .str (A.ts fun _ => frst x)) fun A hA => ?_
  cbv
  repeat' (first | with_reducible exact True.intro | with_reducible exact dr_ok hA (by kernel_rfl) | with_reducible refine And.intro ?_ ?_ | (intro hc; cbv))
  all_goals (subst hA; simp [sS, rep32] at *)
  all_goals first
    | omega
    | (simp [frst]; done)
    | trace_state
noncomputable def c_fieldsOf : Ct := fun A args => match args with
  | [.int .i64 k] => some (none, rowS eZ 0 1 A fun _ => fOf k)
  | _ => none
noncomputable def c_kdOf : Ct := fun A args => match args with
  | [.str T] => some (none, .int .i64 (A.ti fun _ => kdOf T))
  | _ => none
noncomputable def c_digitsOf : Ct := fun A args => match args with
  | [.int .u64 v, .int .i64 n] => some (some (A.tp fun _ => (0 ≤ v ∧ v < 18446744073709551616) ∧ (-9223372036854775808 ≤ n ∧ n < 9223372036854775808)), .str (A.ts fun _ => puS v n))
  | _ => none
noncomputable def c_first : Ct := fun A args => match args with
  | [.str x] => some (some (A.tp fun _ => x.length ≤ 1000), .str (A.ts fun _ => frst x))
  | _ => none
noncomputable def gO1 : Ar → Pu := addC 53 c_fieldsOf (addC 87 c_kdOf (addC 104 c_digitsOf (addC 105 c_first (gO0))))
theorem gO1_ok : PuOk Tryz.prog gl0 (gO1 std) := by
  refine addC_ok (addC_ok (addC_ok (addC_ok (gO0_ok) ⟨_, Tryz.func105, rfl, by decide⟩ ?_) ⟨_, Tryz.func104, rfl, by decide⟩ ?_) ⟨_, Tryz.func87, rfl, by decide⟩ ?_) ⟨_, Tryz.func53, rfl, by decide⟩ ?_
  · intro args p r h hp
    unfold c_first at h
    split at h <;> cases h
    exact good_first _ hp
  · intro args p r h hp
    unfold c_digitsOf at h
    split at h <;> cases h
    exact good_digitsOf _ _ hp.1 hp.2
  · intro args p r h hp
    unfold c_kdOf at h
    split at h <;> cases h
    exact good_kdOf _
  · intro args p r h hp
    unfold c_fieldsOf at h
    split at h <;> cases h
    exact good_fieldsOf _
def vOf (a s : Int) (p r c : List UInt8) (f : Int) : List UInt8 := if f = 2 then p else if f = 4 then puS a 12 else if f = 11 then puS s 6 else if f = 37 then r else if f = 39 then c else frst (puS s 6)
theorem dIs_map (k a s : Int) (p r c : List UInt8) : dIs k a s p r c = (fOf k).map fun f => (f, vOf a s p r c f) := by
  unfold dIs fOf
  split
  · rfl
  · split <;> rfl
theorem u64_32 {s : Int} (hs : 0 ≤ s ∧ s < 4294967296) : IntKind.u64.wrap s = s := wU64' (by omega)
theorem good_valueOf (k a s f : Int) (p r c : List UInt8) (ha : 0 ≤ a ∧ a < 18446744073709551616) (hs : 0 ≤ s ∧ s < 4294967296) : GoodP Tryz.prog gl0 54 [.agg [.int .i64 k, .str p, .int .u64 a, .int .u32 s, .str r, .str c], .int .i64 f] (.str (std.ts fun _ => vOf a s p r c f)) := by
  refine fn_sound' (T := seatT) (G := gO1) (X := noX) seatT_ok gO1_ok noX_ok noI_ok mixed Tryz.func54 (.one) (fun A => [.agg [.int .i64 k, .str p, .int .u64 a, .int .u32 s, .str r, .str c], .int .i64 f]) (fun A => .str (A.ts fun _ => vOf a s p r c f)) fun A hA => ?_
  cbv
  repeat' (first | with_reducible exact True.intro | with_reducible exact dr_ok hA (by kernel_rfl) | with_reducible refine And.intro ?_ ?_ | (intro hc; cbv))
  all_goals (have h6 := puS_len s 6)
  all_goals (subst hA; simp [sS, u64_32 hs] at *)
  all_goals first
    | omega
    | (unfold vOf; simp [*]; done)
    | trace_state
noncomputable def c_valueOf : Ct := fun A args => match args with
  | [.agg [.int .i64 k, .str p, .int .u64 a, .int .u32 s, .str r, .str c], .int .i64 f] => some (some (A.tp fun _ => (0 ≤ a ∧ a < 18446744073709551616) ∧ (0 ≤ s ∧ s < 4294967296)), .str (A.ts fun _ => vOf a s p r c f))
  | _ => none
noncomputable def gO2 : Ar → Pu := addC 54 c_valueOf (gO1)
theorem gO2_ok : PuOk Tryz.prog gl0 (gO2 std) := by
  refine addC_ok (gO1_ok) ⟨_, Tryz.func54, rfl, by decide⟩ ?_
  · intro args p r h hp
    unfold c_valueOf at h
    split at h <;> cases h
    exact good_valueOf _ _ _ _ _ _ _ hp.1 hp.2
theorem dIs_len (k a s : Int) (p r c : List UInt8) : (dIs k a s p r c).length = (fOf k).length := by rw [dIs_map, List.length_map]
theorem fOf_len (k : Int) : 3 ≤ (fOf k).length ∧ (fOf k).length ≤ 5 := by
  unfold fOf
  split
  · decide
  · split <;> decide
theorem dIs_take {k a s : Int} {p r c : List UInt8} {i : Nat} (h : i < (fOf k).length) : (dIs k a s p r c).take (i + 1) = (dIs k a s p r c).take i ++ [((fOf k).getD i 0, vOf a s p r c ((fOf k).getD i 0))] := by
  rw [dIs_map, ← List.map_take, ← List.map_take, ← take_snoc (d := 0) h, List.map_append]
  rfl
def dWT (k a s : Int) (p r c : List UInt8) : List UInt8 := if dR k a s p r c = true then tyOf k else []
def dWL (k a s : Int) (p r c : List UInt8) : List It := if dR k a s p r c = true then dIs k a s p r c else []
def dWe (k a s : Int) (p r c : List UInt8) : Int := if dR k a s p r c = true then 0 else 1
theorem dw_no {k a s : Int} {p r c : List UInt8} (h : dR k a s p r c = false) : dWT k a s p r c = [] ∧ dWL k a s p r c = [] ∧ dWe k a s p r c = 1 := by unfold dWT dWL dWe; rw [h]; exact ⟨rfl, rfl, rfl⟩
theorem dw_yes {k a s : Int} {p r c : List UInt8} (h : dR k a s p r c = true) : dWT k a s p r c = tyOf k ∧ dWL k a s p r c = dIs k a s p r c ∧ dWe k a s p r c = 0 := by unfold dWT dWL dWe; rw [h]; exact ⟨rfl, rfl, rfl⟩
theorem good_dWrite (k a s : Int) (p r c : List UInt8) (ha : 0 ≤ a ∧ a < 18446744073709551616) (hs : 0 ≤ s ∧ s < 4294967296) (hp : p.length ≤ 100000) (hr : r.length ≤ 1000000) (hcc : c.length ≤ 1000000) : GoodP Tryz.prog gl0 19 [.agg [.int .i64 k, .str p, .int .u64 a, .int .u32 s, .str r, .str c]] (.tup [.agg [.str (std.ts fun _ => dWT k a s p r c), rowS eI (0, []) 2 std fun _ => dWL k a s p r c], .int .i64 (std.ti fun _ => dWe k a s p r c)]) := by
  refine fn_sound' (T := seatT) (G := gO2) (X := noX) seatT_ok gO2_ok noX_ok noI_ok mixed Tryz.func19 (.none) (fun A => [.agg [.int .i64 k, .str p, .int .u64 a, .int .u32 s, .str r, .str c]]) (fun A => .tup [.agg [.str (A.ts fun _ => dWT k a s p r c), rowS eI (0, []) 2 A fun _ => dWL k a s p r c], .int .i64 (A.ti fun _ => dWe k a s p r c)]) fun A hA => ?_
  cbv
  repeat' (first | with_reducible exact True.intro | with_reducible exact dr_ok hA (by kernel_rfl) | with_reducible refine And.intro ?_ ?_ | (intro hc; cbv))
  all_goals first
    | (fail_if_success (refine Exists.intro ?_ ?_)
       subst hA
       simp [-List.getD_eq_getElem?_getD, sS] at *
       first
         | done
         | exact ⟨hp, hr, hcc⟩
         | (rw [(dw_no hc).1]; done)
         | (rw [(dw_no hc).2.1]; done)
         | (rw [(dw_no hc).2.1]; rfl)
         | (rw [(dw_no hc).2.2]; done)
         | (have hk := (dR_iff.1 hc).1
            rw [w64 (by omega)]
            omega)
         | trace_state)
    | skip
  have hd : dR k a s p r c = true := by
    subst hA
    simpa [sS] using hc
  have hk := (dR_iff.1 hd).1
  have hw := dw_yes hd
  clear hc
  refine ⟨⟨{q : Nat × List It // q.1 ≤ (fOf k).length ∧ q.2 = (dIs k a s p r c).take q.1}, fun b q => [(21, .int .i64 (q.1.1 : Nat))], fun b q => [(b, .row 107 2 (A.tn fun _ => q.1.2.length) (rowF eI (0, []) A fun _ => q.1.2)), (12, .box 51 [.str (A.ts fun _ => tyOf k), .own b])], fun q => (fOf k).length - q.1.1, true⟩, ⟨⟨(0, []), by simp⟩, ?_⟩, ?_⟩
  · cbv
    subst hA
    simp only [sS]
    rcases (show k = 1 ∨ k = 2 ∨ k = 3 ∨ k = 4 ∨ k = 5 ∨ k = 6 ∨ k = 7 by omega) with rfl | rfl | rfl | rfl | rfl | rfl | rfl
    all_goals first
      | decide
      | (simp [tyOf, sS]; done)
      | (simp [tyOf, sS]; rfl)
      | trace_state
  · rintro ⟨⟨i, M⟩, hi, hM⟩
    simp only at hi hM
    have hf5 := fOf_len k
    have hMl : M.length = i := by rw [hM, List.length_take, dIs_len]; omega
    cbv
    repeat' (first | with_reducible exact True.intro | with_reducible exact dr_ok hA (by kernel_rfl) | with_reducible refine And.intro ?_ ?_ | (intro hc; cbv))
    all_goals first
      | (fail_if_success (refine Exists.intro ?_ ?_)
         have hlt : i < (fOf k).length := by (clear hM hMl hw hd hk; subst hA; simp [sS] at *; omega)
         subst hA
         simp [-List.getD_eq_getElem?_getD, sS] at *
         first
           | done
           | omega
           | assumption
           | exact ⟨ha, hs⟩
           | (constructor <;> omega)
           | trace_state)
      | (fail_if_success (refine Exists.intro ?_ ?_)
         have hie : i = (fOf k).length := by (clear hM hMl hw hd hk; subst hA; simp [sS] at *; omega)
         have hM2 : M = dIs k a s p r c := by rw [hM, hie, ← dIs_len k a s p r c, List.take_length]
         subst hA
         simp only [sS]
         first
           | exact hw.1.symm
           | (rw [hw.1]; done)
           | (rw [hw.2.1, hM2]; done)
           | (rw [hw.2.1, hM2]; exact (Reps.lit _).eqr)
           | exact hw.2.2.symm
           | trace_state)
      | (have hlt : i < (fOf k).length := by (clear hM hMl hw hd hk; subst hA; simp [sS] at *; omega)
         obtain ⟨i', hi'⟩ : ∃ i', i' = i + 1 := ⟨_, rfl⟩
         obtain ⟨M', hM'⟩ : ∃ M', M' = (dIs k a s p r c).take i' := ⟨_, rfl⟩
         refine ⟨⟨(i', M'), by omega, hM'⟩, ?_, show (fOf k).length - i' < (fOf k).length - i by omega⟩
         rw [hi', dIs_take hlt, ← hM] at hM'
         cbv
         subst hA
         simp [-List.getD_eq_getElem?_getD, sS, strOf_lit, lstOf_lit inj_eB, lstOf_lit inj_eZ, lstOf_lit inj_eBs, lstOf_lit inj_eS, isRow_lit, isB_lit, isRow_nil, lstOf_nil inj_eB, lstOf_nil inj_eZ, lstOf_nil inj_eBs, lstOf_nil inj_eS]
         first
           | exact ⟨(w64 (by omega)).trans (by omega), by rw [hM']; simp, snoc_row rfl (cell_eI _ _) hM'.symm (by rw [hM']; simp)⟩
           | trace_state)
      | trace_state
end Go.Vd

set_option linter.unusedVariables false
set_option linter.unusedSimpArgs false
set_option maxRecDepth 100000
set_option maxHeartbeats 8000000
namespace Go.Vd
open Go.Proofs
theorem fs_ext {L : List It} {F : List Int} (hl : L.length = F.length) (h : ∀ j, j < L.length → (L.getD j (0, [])).1 = F.getD j 0) : fs L = F := by
  refine List.ext_getElem (by simp [fs, hl]) fun j h1 h2 => ?_
  have h3 : j < L.length := by simpa [fs] using h1
  have := h j h3
  rw [List.getD_eq_getElem?_getD, List.getD_eq_getElem?_getD, List.getElem?_eq_getElem h3, List.getElem?_eq_getElem h2] at this
  simpa [fs] using this
theorem fs_no {L : List It} {F : List Int} {i : Nat} (hi : i < L.length) (h : ¬(L.getD i (0, [])).1 = F.getD i 0) : ¬fs L = F := by
  rintro rfl
  apply h
  rw [List.getD_eq_getElem?_getD, List.getD_eq_getElem?_getD, List.getElem?_eq_getElem hi, List.getElem?_eq_getElem (by simpa [fs] using hi)]
  simp [fs]
noncomputable def iEq : Nat → Option Func := addI 134 Tryz.f134 (addI 135 Tryz.f135 noI)
theorem iEq_ok : InOk Tryz.prog iEq := addI_ok (addI_ok noI_ok Tryz.func135 (by kernel_rfl)) Tryz.func134 (by kernel_rfl)
theorem good_hasJust (T : List UInt8) (L : List It) (F : List Int) (hL : L.length ≤ 1000000) (hF : F.length ≤ 1000000) : GoodP Tryz.prog gl0 88 [.agg [.str T, rowS eI (0, []) 2 std fun _ => L], rowS eZ 0 1 std fun _ => F] (.bool (std.tb fun _ => decide (fs L = F))) := by
  refine fn_sound' (T := seatT) (G := gO2) (X := noX) seatT_ok gO2_ok noX_ok iEq_ok mixed Tryz.func88 (.one) (fun A => [.agg [.str T, rowS eI (0, []) 2 A fun _ => L], rowS eZ 0 1 A fun _ => F]) (fun A => .bool (A.tb fun _ => decide (fs L = F))) fun A hA => ?_
  cbv
  repeat' (first | with_reducible exact True.intro | with_reducible exact dr_ok hA (by kernel_rfl) | with_reducible refine And.intro ?_ ?_ | (intro hc; cbv))
  all_goals first
    | (fail_if_success (refine Exists.intro ?_ ?_)
       subst hA
       simp [-List.getD_eq_getElem?_getD, std_add, std_sub, std_mul, std_quo, std_rem, std_band, std_bor, std_bxor, std_shl, std_shr, std_eq, std_ne, std_lt, std_le, std_conv, std_not, std_beq, std_bne, std_ite, std_want, std_and2, std_sadd, std_seq, std_sne, std_slt, std_sle, std_sgt, std_sge, std_slen, std_sget, std_scut, std_ofNat, std_toNat, std_nsub, std_nadd, std_lenOf, std_nz, std_nneg, std_inb, std_upto, std_slt63, std_grow, std_imp, std_impN, std_tr, std_tb, std_ti, std_ts, std_tn, std_tp, std_nmin, std_makes, std_room, std_zeros, std_nilq, std_notq, std_eqi, std_eqn, std_eqb, std_eqs, std_eqv, std_cat, std_lst, std_rset, std_rcopy, std_shift, std_eqr, std_strOf, std_bytesOf, std_isB, std_zOf, zOf_int, std_isI, isI_int, std_getL, std_nmul, std_sOf, sOf_str, std_isS, isS_str] at *
       first
         | done
         | (intro e; rw [← e] at hc; simp [fs] at hc; done)
         | trace_state)
    | skip
  have hl : L.length = F.length := by
    subst hA
    simp [std_add, std_sub, std_mul, std_quo, std_rem, std_band, std_bor, std_bxor, std_shl, std_shr, std_eq, std_ne, std_lt, std_le, std_conv, std_not, std_beq, std_bne, std_ite, std_want, std_and2, std_sadd, std_seq, std_sne, std_slt, std_sle, std_sgt, std_sge, std_slen, std_sget, std_scut, std_ofNat, std_toNat, std_nsub, std_nadd, std_lenOf, std_nz, std_nneg, std_inb, std_upto, std_slt63, std_grow, std_imp, std_impN, std_tr, std_tb, std_ti, std_ts, std_tn, std_tp, std_nmin, std_makes, std_room, std_zeros, std_nilq, std_notq, std_eqi, std_eqn, std_eqb, std_eqs, std_eqv, std_cat, std_lst, std_rset, std_rcopy, std_shift, std_eqr, std_strOf, std_bytesOf, std_isB, std_zOf, zOf_int, std_isI, isI_int, std_getL, std_nmul, std_sOf, sOf_str, std_isS, isS_str] at hc
    omega
  clear hc
  refine ⟨⟨{i : Nat // i ≤ L.length ∧ ∀ j, j < i → (L.getD j (0, [])).1 = F.getD j 0}, fun b i => [(17, .int .i64 (i.1 : Nat))], fun b i => [], fun i => L.length - i.1, true⟩, ⟨⟨0, by omega, fun j hj => absurd hj (by omega)⟩, ?_⟩, ?_⟩
  · cbv
    subst hA
    simp [-List.getD_eq_getElem?_getD, std_add, std_sub, std_mul, std_quo, std_rem, std_band, std_bor, std_bxor, std_shl, std_shr, std_eq, std_ne, std_lt, std_le, std_conv, std_not, std_beq, std_bne, std_ite, std_want, std_and2, std_sadd, std_seq, std_sne, std_slt, std_sle, std_sgt, std_sge, std_slen, std_sget, std_scut, std_ofNat, std_toNat, std_nsub, std_nadd, std_lenOf, std_nz, std_nneg, std_inb, std_upto, std_slt63, std_grow, std_imp, std_impN, std_tr, std_tb, std_ti, std_ts, std_tn, std_tp, std_nmin, std_makes, std_room, std_zeros, std_nilq, std_notq, std_eqi, std_eqn, std_eqb, std_eqs, std_eqv, std_cat, std_lst, std_rset, std_rcopy, std_shift, std_eqr, std_strOf, std_bytesOf, std_isB, std_zOf, zOf_int, std_isI, isI_int, std_getL, std_nmul, std_sOf, sOf_str, std_isS, isS_str]
  · rintro ⟨i, hi, h0⟩
    cbv
    repeat' (first | with_reducible exact True.intro | with_reducible exact dr_ok hA (by kernel_rfl) | with_reducible refine And.intro ?_ ?_ | (intro hc; cbv))
    all_goals first
      | (fail_if_success (refine Exists.intro ?_ ?_)
         subst hA
         simp [-List.getD_eq_getElem?_getD, std_add, std_sub, std_mul, std_quo, std_rem, std_band, std_bor, std_bxor, std_shl, std_shr, std_eq, std_ne, std_lt, std_le, std_conv, std_not, std_beq, std_bne, std_ite, std_want, std_and2, std_sadd, std_seq, std_sne, std_slt, std_sle, std_sgt, std_sge, std_slen, std_sget, std_scut, std_ofNat, std_toNat, std_nsub, std_nadd, std_lenOf, std_nz, std_nneg, std_inb, std_upto, std_slt63, std_grow, std_imp, std_impN, std_tr, std_tb, std_ti, std_ts, std_tn, std_tp, std_nmin, std_makes, std_room, std_zeros, std_nilq, std_notq, std_eqi, std_eqn, std_eqb, std_eqs, std_eqv, std_cat, std_lst, std_rset, std_rcopy, std_shift, std_eqr, std_strOf, std_bytesOf, std_isB, std_zOf, zOf_int, std_isI, isI_int, std_getL, std_nmul, std_sOf, sOf_str, std_isS, isS_str] at *
         first
           | done
           | omega
           | exact fs_no (by omega) hc
           | (have hie : i = L.length := by omega
              subst hie
              exact fs_ext hl h0)
           | trace_state)
      | (have hlt : i < L.length := by (clear h0; subst hA; simp [-List.getD_eq_getElem?_getD, std_add, std_sub, std_mul, std_quo, std_rem, std_band, std_bor, std_bxor, std_shl, std_shr, std_eq, std_ne, std_lt, std_le, std_conv, std_not, std_beq, std_bne, std_ite, std_want, std_and2, std_sadd, std_seq, std_sne, std_slt, std_sle, std_sgt, std_sge, std_slen, std_sget, std_scut, std_ofNat, std_toNat, std_nsub, std_nadd, std_lenOf, std_nz, std_nneg, std_inb, std_upto, std_slt63, std_grow, std_imp, std_impN, std_tr, std_tb, std_ti, std_ts, std_tn, std_tp, std_nmin, std_makes, std_room, std_zeros, std_nilq, std_notq, std_eqi, std_eqn, std_eqb, std_eqs, std_eqv, std_cat, std_lst, std_rset, std_rcopy, std_shift, std_eqr, std_strOf, std_bytesOf, std_isB, std_zOf, zOf_int, std_isI, isI_int, std_getL, std_nmul, std_sOf, sOf_str, std_isS, isS_str] at *; omega)
         have hne : (L.getD i (0, [])).1 = F.getD i 0 := by (clear h0; subst hA; simp [-List.getD_eq_getElem?_getD, std_add, std_sub, std_mul, std_quo, std_rem, std_band, std_bor, std_bxor, std_shl, std_shr, std_eq, std_ne, std_lt, std_le, std_conv, std_not, std_beq, std_bne, std_ite, std_want, std_and2, std_sadd, std_seq, std_sne, std_slt, std_sle, std_sgt, std_sge, std_slen, std_sget, std_scut, std_ofNat, std_toNat, std_nsub, std_nadd, std_lenOf, std_nz, std_nneg, std_inb, std_upto, std_slt63, std_grow, std_imp, std_impN, std_tr, std_tb, std_ti, std_ts, std_tn, std_tp, std_nmin, std_makes, std_room, std_zeros, std_nilq, std_notq, std_eqi, std_eqn, std_eqb, std_eqs, std_eqv, std_cat, std_lst, std_rset, std_rcopy, std_shift, std_eqr, std_strOf, std_bytesOf, std_isB, std_zOf, zOf_int, std_isI, isI_int, std_getL, std_nmul, std_sOf, sOf_str, std_isS, isS_str] at *; exact hc)
         refine ⟨⟨i + 1, by omega, fun j hj => ?_⟩, ?_, show L.length - (i + 1) < L.length - i by omega⟩
         · by_cases e : j = i
           · subst e; exact hne
           · exact h0 j (by omega)
         cbv
         subst hA
         simp [std_add, std_sub, std_mul, std_quo, std_rem, std_band, std_bor, std_bxor, std_shl, std_shr, std_eq, std_ne, std_lt, std_le, std_conv, std_not, std_beq, std_bne, std_ite, std_want, std_and2, std_sadd, std_seq, std_sne, std_slt, std_sle, std_sgt, std_sge, std_slen, std_sget, std_scut, std_ofNat, std_toNat, std_nsub, std_nadd, std_lenOf, std_nz, std_nneg, std_inb, std_upto, std_slt63, std_grow, std_imp, std_impN, std_tr, std_tb, std_ti, std_ts, std_tn, std_tp, std_nmin, std_makes, std_room, std_zeros, std_nilq, std_notq, std_eqi, std_eqn, std_eqb, std_eqs, std_eqv, std_cat, std_lst, std_rset, std_rcopy, std_shift, std_eqr, std_strOf, std_bytesOf, std_isB, std_zOf, zOf_int, std_isI, isI_int, std_getL, std_nmul, std_sOf, sOf_str, std_isS, isS_str]
         exact (w64 (by omega)).trans (by omega))
      | trace_state
theorem good_number (T : List UInt8) (L : List It) (n : Int) (hL : L.length ≤ 1000000) : GoodP Tryz.prog gl0 89 [.agg [.str T, rowS eI (0, []) 2 std fun _ => L], .int .i64 n] (.int .u64 (std.ti fun _ => (gVal (mG L n) : Int))) := by
  refine fn_sound' (T := seatT) (G := gO2) (X := noX) seatT_ok gO2_ok noX_ok noI_ok mixed Tryz.func89 (.one) (fun A => [.agg [.str T, rowS eI (0, []) 2 A fun _ => L], .int .i64 n]) (fun A => .int .u64 (A.ti fun _ => (gVal (mG L n) : Int))) fun A hA => ?_
  cbv
  repeat' (first | with_reducible exact True.intro | with_reducible exact dr_ok hA (by kernel_rfl) | with_reducible refine And.intro ?_ ?_ | (intro hc; cbv))
  all_goals (subst hA; simp [std_add, std_sub, std_mul, std_quo, std_rem, std_band, std_bor, std_bxor, std_shl, std_shr, std_eq, std_ne, std_lt, std_le, std_conv, std_not, std_beq, std_bne, std_ite, std_want, std_and2, std_sadd, std_seq, std_sne, std_slt, std_sle, std_sgt, std_sge, std_slen, std_sget, std_scut, std_ofNat, std_toNat, std_nsub, std_nadd, std_lenOf, std_nz, std_nneg, std_inb, std_upto, std_slt63, std_grow, std_imp, std_impN, std_tr, std_tb, std_ti, std_ts, std_tn, std_tp, std_nmin, std_makes, std_room, std_zeros, std_nilq, std_notq, std_eqi, std_eqn, std_eqb, std_eqs, std_eqv, std_cat, std_lst, std_rset, std_rcopy, std_shift, std_eqr, std_strOf, std_bytesOf, std_isB, std_zOf, zOf_int, std_isI, isI_int, std_getL, std_nmul, std_sOf, sOf_str, std_isS, isS_str, lstOf_lit inj_eI, isRow_lit] at *)
  all_goals first
    | omega
    | trace_state
theorem good_namesFirst (T : List UInt8) (L : List It) (hL : L.length ≤ 1000000) (h11 : (mG L 11).length ≤ 1000) : GoodP Tryz.prog gl0 92 [.agg [.str T, rowS eI (0, []) 2 std fun _ => L]] (.bool (std.tb fun _ => decide (mG L 90 = frst (mG L 11)))) := by
  refine fn_sound' (T := seatT) (G := gO2) (X := noX) seatT_ok gO2_ok noX_ok noI_ok mixed Tryz.func92 (.one) (fun A => [.agg [.str T, rowS eI (0, []) 2 A fun _ => L]]) (fun A => .bool (A.tb fun _ => decide (mG L 90 = frst (mG L 11)))) fun A hA => ?_
  cbv
  repeat' (first | with_reducible exact True.intro | with_reducible exact dr_ok hA (by kernel_rfl) | with_reducible refine And.intro ?_ ?_ | (intro hc; cbv))
  all_goals (subst hA; simp [std_add, std_sub, std_mul, std_quo, std_rem, std_band, std_bor, std_bxor, std_shl, std_shr, std_eq, std_ne, std_lt, std_le, std_conv, std_not, std_beq, std_bne, std_ite, std_want, std_and2, std_sadd, std_seq, std_sne, std_slt, std_sle, std_sgt, std_sge, std_slen, std_sget, std_scut, std_ofNat, std_toNat, std_nsub, std_nadd, std_lenOf, std_nz, std_nneg, std_inb, std_upto, std_slt63, std_grow, std_imp, std_impN, std_tr, std_tb, std_ti, std_ts, std_tn, std_tp, std_nmin, std_makes, std_room, std_zeros, std_nilq, std_notq, std_eqi, std_eqn, std_eqb, std_eqs, std_eqv, std_cat, std_lst, std_rset, std_rcopy, std_shift, std_eqr, std_strOf, std_bytesOf, std_isB, std_zOf, zOf_int, std_isI, isI_int, std_getL, std_nmul, std_sOf, sOf_str, std_isS, isS_str, lstOf_lit inj_eI, isRow_lit] at *)
  all_goals first
    | omega
    | (rw [Bool.eq_iff_iff]; simp; done)
    | trace_state
noncomputable def c_hasJust : Ct := fun A args => match args with
  | [.agg [.str T, .slc n 2 f], .slc m 1 g] => some (some (A.tp fun _ => isRow eI (0, []) 2 n f ∧ isRow eZ 0 1 m g ∧ n ≤ 1000000 ∧ m ≤ 1000000), .bool (A.tb fun _ => decide (fs (lstOf eI (0, []) 2 n f) = lstOf eZ 0 1 m g)))
  | _ => none
noncomputable def c_number : Ct := fun A args => match args with
  | [.agg [.str T, .slc n 2 f], .int .i64 z] => some (some (A.tp fun _ => isRow eI (0, []) 2 n f ∧ n ≤ 1000000), .int .u64 (A.ti fun _ => (gVal (mG (lstOf eI (0, []) 2 n f) z) : Int)))
  | _ => none
noncomputable def c_namesFirst : Ct := fun A args => match args with
  | [.agg [.str T, .slc n 2 f]] => some (some (A.tp fun _ => isRow eI (0, []) 2 n f ∧ n ≤ 1000000 ∧ (mG (lstOf eI (0, []) 2 n f) 11).length ≤ 1000), .bool (A.tb fun _ => decide (mG (lstOf eI (0, []) 2 n f) 90 = frst (mG (lstOf eI (0, []) 2 n f) 11))))
  | _ => none
noncomputable def gO3 : Ar → Pu := addC 88 c_hasJust (addC 89 c_number (addC 92 c_namesFirst (gO2)))
theorem gO3_ok : PuOk Tryz.prog gl0 (gO3 std) := by
  refine addC_ok (addC_ok (addC_ok (gO2_ok) ⟨_, Tryz.func92, rfl, by decide⟩ ?_) ⟨_, Tryz.func89, rfl, by decide⟩ ?_) ⟨_, Tryz.func88, rfl, by decide⟩ ?_
  · intro args p r h hp
    unfold c_namesFirst at h
    split at h <;> cases h
    exact good_sv (good_namesFirst _ _ (by rw [lstOf_length hp.1]; exact hp.2.1) hp.2.2) ⟨⟨_, rfl, rfl, hp.1.sv, trivial⟩, trivial⟩
  · intro args p r h hp
    unfold c_number at h
    split at h <;> cases h
    exact good_sv (good_number _ _ _ (by rw [lstOf_length hp.1]; exact hp.2)) ⟨⟨_, rfl, rfl, hp.1.sv, trivial⟩, rfl, trivial⟩
  · intro args p r h hp
    unfold c_hasJust at h
    split at h <;> cases h
    exact good_sv (good_hasJust _ _ _ (by rw [lstOf_length hp.1]; exact hp.2.2.1) (by rw [lstOf_length hp.2.1]; exact hp.2.2.2)) ⟨⟨_, rfl, rfl, hp.1.sv, trivial⟩, hp.2.1.sv, trivial⟩
theorem de_1 {T : List UInt8} {L : List It} (h : mR T L = false) : dE T L = 1 := if_pos h
theorem de_2 {T : List UInt8} {L : List It} (h : mR T L = true) (h1 : ¬fs L = fOf (kdOf T)) : dE T L = 3 := by unfold dE; rw [if_neg (by simp [h]), if_pos h1]
theorem de_3 {T : List UInt8} {L : List It} (h : mR T L = true) (h1 : fs L = fOf (kdOf T)) (h2 : dAsks (kdOf T) = false) : dE T L = 0 := by unfold dE; rw [if_neg (by simp [h]), if_neg (by simp [h1]), if_pos h2]
theorem de_4 {T : List UInt8} {L : List It} (h : mR T L = true) (h1 : fs L = fOf (kdOf T)) (h2 : dAsks (kdOf T) = true) (h3 : lFine (mG L 2) = false) : dE T L = 3 := by unfold dE; rw [if_neg (by simp [h]), if_neg (by simp [h1]), if_neg (by simp [h2]), if_pos h3]
theorem de_5 {T : List UInt8} {L : List It} (h : mR T L = true) (h1 : fs L = fOf (kdOf T)) (h2 : dAsks (kdOf T) = true) (h3 : lFine (mG L 2) = true) (h4 : kdOf T = 5 ∨ kdOf T = 6) (h5 : ¬mG L 90 = frst (mG L 11)) : dE T L = 11 := by unfold dE; rw [if_neg (by simp [h]), if_neg (by simp [h1]), if_neg (by simp [h2]), if_neg (by simp [h3]), if_pos ⟨tl_iff.2 h4, h5⟩]
theorem de_6 {T : List UInt8} {L : List It} (h : mR T L = true) (h1 : fs L = fOf (kdOf T)) (h2 : dAsks (kdOf T) = true) (h3 : lFine (mG L 2) = true) (h4 : (kdOf T = 5 ∨ kdOf T = 6) → mG L 90 = frst (mG L 11)) : dE T L = 0 := by unfold dE; rw [if_neg (by simp [h]), if_neg (by simp [h1]), if_neg (by simp [h2]), if_neg (by simp [h3]), if_neg (fun e => e.2 (h4 (tl_iff.1 e.1)))]
theorem mG_len {T : List UInt8} {L : List It} (h : mR T L = true) (n : Int) : (mG L n).length ≤ 999 := by
  unfold mG
  cases e : L.find? (fun x => x.1 == n) with
  | none => simp
  | some x =>
    have hx := List.mem_of_find?_eq_some e
    have h2 := rr_ok ((mR_iff.1 h).2.2.1 x hx)
    have h3 := dOk_b h2.1
    show x.2.length ≤ 999
    omega
theorem mG_11 {T : List UInt8} {L : List It} (h : mR T L = true) (h1 : fs L = fOf (kdOf T)) : gVal (mG L 11) < 1000000 := by
  have hr := (mR_iff.1 h).2.2.1
  generalize kdOf T = k at h1
  have key : ∀ x, ((11 : Int), x) ∈ L → gVal x < 1000000 := fun x hx => by
    have r := rr11.1 (hr _ hx)
    exact (num_back (n := 0) (k := 6) (by omega) r.1 r.2).2
  unfold fOf at h1
  split at h1
  · obtain ⟨x1, x2, x3, x4, x5, rfl⟩ := fl5_of h1
    exact key x3 (by simp)
  · split at h1
    · obtain ⟨x1, x2, x3, x4, rfl⟩ := fl4_of h1
      exact key x3 (by simp)
    · obtain ⟨x3, x4, x5, rfl⟩ := fl3_of h1
      exact key x3 (by simp)
theorem u32_6 {z : Int} (h : 0 ≤ z ∧ z < 1000000) : IntKind.u32.wrap z = z := by
  unfold IntKind.wrap
  simp [IntKind.signed, IntKind.bits] <;> omega
theorem good_dRead (T : List UInt8) (L : List It) (hL : L.length ≤ 1000000) (hS : ∀ i, (L.getD i (0, [])).2.length ≤ 1000000) : GoodP Tryz.prog gl0 42 [.agg [.str T, rowS eI (0, []) 2 std fun _ => L]] (.tup [.agg [.int .i64 (std.ti fun _ => xK T L), .str (std.ts fun _ => xP T L), .int .u64 (std.ti fun _ => xA T L), .int .u32 (std.ti fun _ => xS T L), .str (std.ts fun _ => xR T L), .str (std.ts fun _ => xC T L)], .int .i64 (std.ti fun _ => dE T L)]) := by
  refine fn_sound' (T := seatT) (G := gO3) (X := noX) seatT_ok gO3_ok noX_ok noI_ok mixed Tryz.func42 (.one) (fun A => [.agg [.str T, rowS eI (0, []) 2 A fun _ => L]]) (fun A => .tup [.agg [.int .i64 (A.ti fun _ => xK T L), .str (A.ts fun _ => xP T L), .int .u64 (A.ti fun _ => xA T L), .int .u32 (A.ti fun _ => xS T L), .str (A.ts fun _ => xR T L), .str (A.ts fun _ => xC T L)], .int .i64 (A.ti fun _ => dE T L)]) fun A hA => ?_
  cbv
  repeat' (first | with_reducible exact True.intro | with_reducible exact dr_ok hA (by kernel_rfl) | with_reducible refine And.intro ?_ ?_ | (intro hc; cbv))
  all_goals (subst hA; simp [-List.getD_eq_getElem?_getD, std_add, std_sub, std_mul, std_quo, std_rem, std_band, std_bor, std_bxor, std_shl, std_shr, std_eq, std_ne, std_lt, std_le, std_conv, std_not, std_beq, std_bne, std_ite, std_want, std_and2, std_sadd, std_seq, std_sne, std_slt, std_sle, std_sgt, std_sge, std_slen, std_sget, std_scut, std_ofNat, std_toNat, std_nsub, std_nadd, std_lenOf, std_nz, std_nneg, std_inb, std_upto, std_slt63, std_grow, std_imp, std_impN, std_tr, std_tb, std_ti, std_ts, std_tn, std_tp, std_nmin, std_makes, std_room, std_zeros, std_nilq, std_notq, std_eqi, std_eqn, std_eqb, std_eqs, std_eqv, std_cat, std_lst, std_rset, std_rcopy, std_shift, std_eqr, std_strOf, std_bytesOf, std_isB, std_zOf, zOf_int, std_isI, isI_int, std_getL, std_nmul, std_sOf, sOf_str, std_isS, isS_str, lstOf_lit inj_eI, lstOf_lit inj_eZ, isRow_lit] at *)
  all_goals (have hfl := fOf_len (kdOf T))
  all_goals first
    | omega
    | exact ⟨hL, hS⟩
    | (constructor <;> omega)
    | (have e := de_1 (by assumption : mR T L = false)
       have b := dE_bad (T := T) (L := L) (by rw [e]; decide)
       first | exact b.1.symm | exact b.2.1.symm | exact b.2.2.1.symm | exact b.2.2.2.1 | exact b.2.2.2.2.1 | exact b.2.2.2.2.2 | exact e.symm)
    | (have e := de_2 (by assumption : mR T L = true) (by assumption)
       have b := dE_bad (T := T) (L := L) (by rw [e]; decide)
       first | exact b.1.symm | exact b.2.1.symm | exact b.2.2.1.symm | exact b.2.2.2.1 | exact b.2.2.2.2.1 | exact b.2.2.2.2.2 | exact e.symm)
    | (have hm : mR T L = true := by assumption
       have hj : fs L = fOf (kdOf T) := by assumption
       have h2 := mG_len hm 2
       have h11 := mG_len hm 11
       have hn := u32_6 (z := (gVal (mG L 11) : Int)) ⟨by omega, by have := mG_11 hm hj; omega⟩
       first
         | omega
         | exact fun h => ⟨h, by omega, by omega⟩
         | (have e := de_4 hm hj (by assumption) (by assumption)
            have b := dE_bad (T := T) (L := L) (by rw [e]; decide)
            first | exact b.1.symm | exact b.2.1.symm | exact b.2.2.1.symm | exact b.2.2.2.1 | exact b.2.2.2.2.1 | exact b.2.2.2.2.2 | exact e.symm)
         | (have e := de_5 hm hj (by assumption) (by assumption) (hc.1.imp of_decide_eq_true of_decide_eq_true) hc.2
            have b := dE_bad (T := T) (L := L) (by rw [e]; decide)
            first | exact b.1.symm | exact b.2.1.symm | exact b.2.2.1.symm | exact b.2.2.2.1 | exact b.2.2.2.2.1 | exact b.2.2.2.2.2 | exact e.symm)
         | (have ha : dAsks (kdOf T) = false := by assumption
            have e := de_3 hm hj ha
            simp [xK, xA, xS, xP, xR, xC, e, ha, hn]
            done)
         | (have ha : dAsks (kdOf T) = true := by assumption
            have e := de_6 hm hj ha (by assumption) (fun h => hc (h.imp decide_eq_true decide_eq_true))
            simp [xK, xA, xS, xP, xR, xC, e, ha, hn]
            done)
         | trace_state)
    | trace_state
noncomputable def c_dWrite : Ct := fun A args => match args with
  | [.agg [.int .i64 k, .str p, .int .u64 a, .int .u32 s, .str r, .str c]] => some (some (A.tp fun _ => (0 ≤ a ∧ a < 18446744073709551616) ∧ (0 ≤ s ∧ s < 4294967296) ∧ p.length ≤ 100000 ∧ r.length ≤ 1000000 ∧ c.length ≤ 1000000), .tup [.agg [.str (A.ts fun _ => dWT k a s p r c), rowS eI (0, []) 2 A fun _ => dWL k a s p r c], .int .i64 (A.ti fun _ => dWe k a s p r c)])
  | _ => none
noncomputable def c_dRead : Ct := fun A args => match args with
  | [.agg [.str T, .slc n 2 f]] => some (some (A.tp fun _ => isRow eI (0, []) 2 n f ∧ n ≤ 1000000 ∧ ∀ i, ((lstOf eI (0, []) 2 n f).getD i (0, [])).2.length ≤ 1000000), .tup [.agg [.int .i64 (A.ti fun _ => xK T (lstOf eI (0, []) 2 n f)), .str (A.ts fun _ => xP T (lstOf eI (0, []) 2 n f)), .int .u64 (A.ti fun _ => xA T (lstOf eI (0, []) 2 n f)), .int .u32 (A.ti fun _ => xS T (lstOf eI (0, []) 2 n f)), .str (A.ts fun _ => xR T (lstOf eI (0, []) 2 n f)), .str (A.ts fun _ => xC T (lstOf eI (0, []) 2 n f))], .int .i64 (A.ti fun _ => dE T (lstOf eI (0, []) 2 n f))])
  | _ => none
noncomputable def gO4 : Ar → Pu := addC 19 c_dWrite (addC 42 c_dRead (gO3))
theorem gO4_ok : PuOk Tryz.prog gl0 (gO4 std) := by
  refine addC_ok (addC_ok (gO3_ok) ⟨_, Tryz.func42, rfl, by decide⟩ ?_) ⟨_, Tryz.func19, rfl, by decide⟩ ?_
  · intro args p r h hp
    unfold c_dRead at h
    split at h <;> cases h
    exact good_sv (good_dRead _ _ (by rw [lstOf_length hp.1]; exact hp.2.1) hp.2.2) ⟨⟨_, rfl, rfl, hp.1.sv, trivial⟩, trivial⟩
  · intro args p r h hp
    unfold c_dWrite at h
    split at h <;> cases h
    exact good_dWrite _ _ _ _ _ _ hp.1 hp.2.1 hp.2.2.1 hp.2.2.2.1 hp.2.2.2.2
end Go.Vd

set_option linter.unusedVariables false
set_option linter.unusedSimpArgs false
set_option maxRecDepth 100000
set_option maxHeartbeats 8000000
namespace Go.Vd
open Go.Proofs
def oSh (p r c : List UInt8) : Bool := decide (p.length ≤ 300 ∧ r.length ≤ 300 ∧ c.length ≤ 300)
theorem oSh_iff {p r c : List UInt8} : oSh p r c = true ↔ p.length ≤ 300 ∧ r.length ≤ 300 ∧ c.length ≤ 300 := by simp [oSh]
theorem good_oShort (a c s : Int) (p r e : List UInt8) : GoodP Tryz.prog gl0 18 [.agg [.int .i64 a, .str p, .int .u64 c, .int .u32 s, .str r, .str e]] (.bool (std.tb fun _ => oSh p r e)) := by
  refine fn_sound' (T := seatT) (G := noC) (X := noX) seatT_ok noC_ok noX_ok noI_ok mixed Tryz.func18 (.one) (fun A => [.agg [.int .i64 a, .str p, .int .u64 c, .int .u32 s, .str r, .str e]]) (fun A => .bool (A.tb fun _ => oSh p r e)) fun A hA => ?_
  cbv
  repeat' (first | with_reducible exact True.intro | with_reducible exact dr_ok hA (by kernel_rfl) | with_reducible refine And.intro ?_ ?_ | (intro hc; cbv))
  all_goals (subst hA; simp [std_add, std_sub, std_mul, std_quo, std_rem, std_band, std_bor, std_bxor, std_shl, std_shr, std_eq, std_ne, std_lt, std_le, std_conv, std_not, std_beq, std_bne, std_ite, std_want, std_and2, std_sadd, std_seq, std_sne, std_slt, std_sle, std_sgt, std_sge, std_slen, std_sget, std_scut, std_ofNat, std_toNat, std_nsub, std_nadd, std_lenOf, std_nz, std_nneg, std_inb, std_upto, std_slt63, std_grow, std_imp, std_impN, std_tr, std_tb, std_ti, std_ts, std_tn, std_tp, std_nmin, std_makes, std_room, std_zeros, std_nilq, std_notq, std_eqi, std_eqn, std_eqb, std_eqs, std_eqv, std_cat, std_lst, std_rset, std_rcopy, std_shift, std_eqr, std_strOf, std_bytesOf, std_isB, std_zOf, zOf_int, std_isI, isI_int, std_getL, std_nmul, std_sOf, sOf_str, std_isS, isS_str, oSh] at *)
  all_goals first
    | (rw [Bool.eq_iff_iff]; simp; omega)
    | (intro _ _; constructor <;> assumption)
    | trace_state
noncomputable def c_oShort : Ct := fun A args => match args with
  | [.agg [.int .i64 a, .str p, .int .u64 c, .int .u32 s, .str r, .str e]] => some (none, .bool (A.tb fun _ => oSh p r e))
  | _ => none
noncomputable def gO5a : Ar → Pu := gO4
theorem gO5a_ok : PuOk Tryz.prog gl0 (gO5a std) := gO4_ok
noncomputable def gO5 : Ar → Pu := addC 18 c_oShort (gO5a)
theorem gO5_ok : PuOk Tryz.prog gl0 (gO5 std) := by
  refine addC_ok (gO5a_ok) ⟨_, Tryz.func18, rfl, by decide⟩ ?_
  · intro args p r h hp
    unfold c_oShort at h
    split at h <;> cases h
    exact good_oShort _ _ _ _ _ _
def dL0 : List It := [(2, [49, 56]), (4, [48, 48, 48, 48, 48, 48, 48, 48, 48, 53, 48, 48]), (11, [48, 48, 48, 48, 48, 55]), (37, [97, 98, 99, 100, 101, 102, 103, 104, 105, 106, 107, 108]), (90, [48, 49, 48, 48, 48, 48, 48, 48, 48, 55] ++ List.replicate 32 48)]
theorem dq0 : dWT 5 500 7 [49, 56] [97, 98, 99, 100, 101, 102, 103, 104, 105, 106, 107, 108] [] = [48, 52, 50, 48] ∧ dWL 5 500 7 [49, 56] [97, 98, 99, 100, 101, 102, 103, 104, 105, 106, 107, 108] [] = dL0 ∧ dWe 5 500 7 [49, 56] [97, 98, 99, 100, 101, 102, 103, 104, 105, 106, 107, 108] [] = 0 := by decide +kernel
theorem dq1 : dWT 1 0 0 [49, 57] [97, 98, 99, 100, 101, 102, 103, 104, 105, 106, 107, 108] [] = [] ∧ dWL 1 0 0 [49, 57] [97, 98, 99, 100, 101, 102, 103, 104, 105, 106, 107, 108] [] = [] ∧ dWe 1 0 0 [49, 57] [97, 98, 99, 100, 101, 102, 103, 104, 105, 106, 107, 108] [] = 1 := by decide +kernel
theorem dq2 : dE [48, 52, 50, 48] dL0 = 0 ∧ xK [48, 52, 50, 48] dL0 = 5 ∧ xA [48, 52, 50, 48] dL0 = 500 ∧ xS [48, 52, 50, 48] dL0 = 7 ∧ xP [48, 52, 50, 48] dL0 = [49, 56] ∧ xR [48, 52, 50, 48] dL0 = [97, 98, 99, 100, 101, 102, 103, 104, 105, 106, 107, 108] ∧ xC [48, 52, 50, 48] dL0 = [] := by decide +kernel
theorem dq3 : dR 5 500 7 [49, 56] [97, 98, 99, 100, 101, 102, 103, 104, 105, 106, 107, 108] [] = true ∧ dAsks 3 = true ∧ dAsks 7 = false := by decide +kernel
theorem dq4 : dL0.length = 5 ∧ (dL0.getD 1 (0, [])).2 = [48, 48, 48, 48, 48, 48, 48, 48, 48, 53, 48, 48] := ⟨rfl, rfl⟩
theorem dq5 : ∀ i, (dL0.getD i (0, [])).2.length ≤ 1000000 := fun i => Nat.le_trans (mSh_getD (T := mT0) (L := dL0) (by decide +kernel) i) (by decide)
noncomputable def gO6 : Ar → Pu := gO5
theorem gO6_ok : PuOk Tryz.prog gl0 (gO6 std) := by
  refine gO5_ok
theorem dR_len {k a s : Int} {p r c : List UInt8} (h : dR k a s p r c = true) : p.length ≤ 19 ∧ r.length ≤ 12 ∧ c.length ≤ 2 ∧ a < 1000000000000 ∧ s ≤ 999999 := by
  obtain ⟨h0, h1, h2, h3, h4⟩ := dR_iff.1 h
  have q := rr_ok h2
  rw [fo37.2.2] at q
  cases e : dAsks k
  · obtain ⟨g1, g2, g3⟩ := h4 e
    have q' := rr_ok g1
    rw [fo39.2.2] at q'
    subst g2 g3
    exact ⟨by simp, by omega, by omega, by omega, h1⟩
  · obtain ⟨g1, g2, g3, g4⟩ := h3 e
    subst g4
    exact ⟨by omega, by omega, by simp, g3, h1⟩
theorem dWe_R {k a s : Int} {p r c : List UInt8} (h : dWe k a s p r c = 0) : dR k a s p r c = true := by
  cases e : dR k a s p r c
  · rw [(dw_no e).2.2] at h; cases h
  · rfl
theorem dd_two {k a s k' a' s' : Int} {p r c p' r' c' : List UInt8} (h : dR k a s p r c = true) (h' : dR k' a' s' p' r' c' = true) (ha : 0 ≤ a) (hs : 0 ≤ s) (ha' : 0 ≤ a') (hs' : 0 ≤ s') :
    (tyOf k = tyOf k' ∧ dIs k a s p r c = dIs k' a' s' p' r' c') ↔ (k = k' ∧ p = p' ∧ a = a' ∧ s = s' ∧ r = r' ∧ c = c') := by
  constructor
  · rintro ⟨e1, e2⟩
    have b := d_back h ha hs
    have b' := d_back h' ha' hs'
    rw [e1, e2] at b
    exact ⟨b.2.1.symm.trans b'.2.1, b.2.2.2.2.1.symm.trans b'.2.2.2.2.1, b.2.2.1.symm.trans b'.2.2.1, b.2.2.2.1.symm.trans b'.2.2.2.1, b.2.2.2.2.2.1.symm.trans b'.2.2.2.2.2.1, b.2.2.2.2.2.2.symm.trans b'.2.2.2.2.2.2⟩
  · rintro ⟨rfl, rfl, rfl, rfl, rfl, rfl⟩
    exact ⟨rfl, rfl⟩
end Go.Vd

set_option linter.unusedVariables false
set_option linter.unusedSimpArgs false
set_option maxRecDepth 100000
set_option maxHeartbeats 4000000
namespace Go.Vd
open Go.Proofs
def kOk (s k : Int) : Bool := (decide (s = 1) && (decide (k = 1) || decide (k = 3))) || (decide (s = 2) && (decide (k = 2) || decide (k = 7)))
def kKd (s k : Int) : Int := if kOk s k = true then (if k = 7 then 5 else k) else 0
theorem good_lKind (s k : Int) : GoodP Tryz.prog gl0 43 [.int .i64 s, .int .i64 k] (.tup [.int .i64 (std.ti fun _ => kKd s k), .bool (std.tb fun _ => kOk s k)]) := by
  refine fn_sound' (T := seatT) (G := noC) (X := noX) seatT_ok noC_ok noX_ok noI_ok mixed Tryz.func43 (.one) (fun A => [.int .i64 s, .int .i64 k]) (fun A => .tup [.int .i64 (A.ti fun _ => kKd s k), .bool (A.tb fun _ => kOk s k)]) fun A hA => ?_
  cbv
  repeat' (first | with_reducible exact True.intro | with_reducible exact dr_ok hA (by kernel_rfl) | with_reducible refine And.intro ?_ ?_ | (intro hc; cbv))
  all_goals (subst hA; simp [std_add, std_sub, std_mul, std_quo, std_rem, std_band, std_bor, std_bxor, std_shl, std_shr, std_eq, std_ne, std_lt, std_le, std_conv, std_not, std_beq, std_bne, std_ite, std_want, std_and2, std_sadd, std_seq, std_sne, std_slt, std_sle, std_sgt, std_sge, std_slen, std_sget, std_scut, std_ofNat, std_toNat, std_nsub, std_nadd, std_lenOf, std_nz, std_nneg, std_inb, std_upto, std_slt63, std_grow, std_imp, std_impN, std_tr, std_tb, std_ti, std_ts, std_tn, std_tp, std_nmin, std_makes, std_room, std_zeros, std_nilq, std_notq, std_eqi, std_eqn, std_eqb, std_eqs, std_eqv, std_cat, std_lst, std_rset, std_rcopy, std_shift, std_eqr, std_strOf, std_bytesOf, std_isB, std_zOf, zOf_int, std_isI, isI_int, std_getL, std_nmul, std_sOf, sOf_str, std_isS, isS_str] at *)
  all_goals first
    | (obtain ⟨rfl, rfl⟩ := hc; rfl)
    | (obtain ⟨rfl, rfl⟩ := hc; decide)
    | (simp [kOk, kKd]; omega)
    | (simp [kOk, kKd, *]; done)
    | trace_state
noncomputable def c_lKind : Ct := fun A args => match args with
  | [.int .i64 s, .int .i64 k] => some (none, .tup [.int .i64 (A.ti fun _ => kKd s k), .bool (A.tb fun _ => kOk s k)])
  | _ => none
noncomputable def gP1 : Ar → Pu := addC 43 c_lKind (gO4)
theorem gP1_ok : PuOk Tryz.prog gl0 (gP1 std) := by
  refine addC_ok (gO4_ok) ⟨_, Tryz.func43, rfl, by decide⟩ ?_
  · intro args p r h hp
    unfold c_lKind at h
    split at h <;> cases h
    exact good_lKind _ _
def lOk (s : Int) (B : List UInt8) : Bool := kOk s (xK (mRT B) (mRL B))
def lKd (s : Int) (B : List UInt8) : Int := kKd s (xK (mRT B) (mRL B))
def lI (s : Int) (B : List UInt8) (z : Int) : Int := if lOk s B = true then z else 0
def lS (s : Int) (B : List UInt8) (t : List UInt8) : List UInt8 := if lOk s B = true then t else []
theorem kOk_0 (s : Int) : kOk s 0 = false := by simp [kOk]
theorem dE_0 : ¬dE [] [] = 0 := by decide
theorem xK_bad {T : List UInt8} {L : List It} (h : ¬dE T L = 0) : xK T L = 0 := (dE_bad h).1
theorem lOk_e {s : Int} {B : List UInt8} (h : ¬dE (mRT B) (mRL B) = 0) : lOk s B = false ∧ lKd s B = 0 := by
  unfold lOk lKd kKd
  rw [xK_bad h, kOk_0]
  exact ⟨rfl, rfl⟩
theorem lOk_m {s : Int} {B : List UInt8} (h : ¬mRe B = 0) : lOk s B = false ∧ lKd s B = 0 := by
  have := mR_bad h
  exact lOk_e (by rw [this.1, this.2]; exact dE_0)
theorem lI_no {s : Int} {B : List UInt8} {z : Int} (h : lOk s B = false) : lI s B z = 0 := by unfold lI; rw [h]; rfl
theorem lS_no {s : Int} {B t : List UInt8} (h : lOk s B = false) : lS s B t = [] := by unfold lS; rw [h]; rfl
theorem lI_yes {s : Int} {B : List UInt8} {z : Int} (h : lOk s B = true) : lI s B z = z := if_pos h
theorem lS_yes {s : Int} {B t : List UInt8} (h : lOk s B = true) : lS s B t = t := if_pos h
def lEvA (A : Ar) (s : Int) (B : List UInt8) : SV := .agg [.int .i64 (A.ti fun _ => lKd s B), .int .i64 (A.ti fun _ => lI s B (xK (mRT B) (mRL B))), .str (A.ts fun _ => lS s B (xP (mRT B) (mRL B))), .int .u64 (A.ti fun _ => lI s B (xA (mRT B) (mRL B))), .int .u32 (A.ti fun _ => lI s B (xS (mRT B) (mRL B))), .str (A.ts fun _ => lS s B (xR (mRT B) (mRL B))), .str (A.ts fun _ => lS s B (xC (mRT B) (mRL B)))]
def lEvT (A : Ar) (s : Int) (B : Unit → List UInt8) : SV := .agg [.int .i64 (A.ti fun _ => lKd s (B ())), .int .i64 (A.ti fun _ => lI s (B ()) (xK (mRT (B ())) (mRL (B ())))), .str (A.ts fun _ => lS s (B ()) (xP (mRT (B ())) (mRL (B ())))), .int .u64 (A.ti fun _ => lI s (B ()) (xA (mRT (B ())) (mRL (B ())))), .int .u32 (A.ti fun _ => lI s (B ()) (xS (mRT (B ())) (mRL (B ())))), .str (A.ts fun _ => lS s (B ()) (xR (mRT (B ())) (mRL (B ())))), .str (A.ts fun _ => lS s (B ()) (xC (mRT (B ())) (mRL (B ()))))]
theorem good_lEvent (s : Int) (B : List UInt8) (hB : B.length ≤ 1000000) : GoodP Tryz.prog gl0 10 [.int .i64 s, rowS eB 0 1 std fun _ => B] (.tup [lEvA std s B, .bool (std.tb fun _ => lOk s B)]) := by
  refine fn_sound' (T := seatT) (G := gP1) (X := noX) seatT_ok gP1_ok noX_ok noI_ok mixed Tryz.func10 (.one) (fun A => [.int .i64 s, rowS eB 0 1 A fun _ => B]) (fun A => .tup [lEvA A s B, .bool (A.tb fun _ => lOk s B)]) fun A hA => ?_
  cbv
  repeat' (first | with_reducible exact True.intro | with_reducible exact dr_ok hA (by kernel_rfl) | with_reducible refine And.intro ?_ ?_ | (intro hc; cbv))
  all_goals (subst hA; simp [-List.getD_eq_getElem?_getD, std_add, std_sub, std_mul, std_quo, std_rem, std_band, std_bor, std_bxor, std_shl, std_shr, std_eq, std_ne, std_lt, std_le, std_conv, std_not, std_beq, std_bne, std_ite, std_want, std_and2, std_sadd, std_seq, std_sne, std_slt, std_sle, std_sgt, std_sge, std_slen, std_sget, std_scut, std_ofNat, std_toNat, std_nsub, std_nadd, std_lenOf, std_nz, std_nneg, std_inb, std_upto, std_slt63, std_grow, std_imp, std_impN, std_tr, std_tb, std_ti, std_ts, std_tn, std_tp, std_nmin, std_makes, std_room, std_zeros, std_nilq, std_notq, std_eqi, std_eqn, std_eqb, std_eqs, std_eqv, std_cat, std_lst, std_rset, std_rcopy, std_shift, std_eqr, std_strOf, std_bytesOf, std_isB, std_zOf, zOf_int, std_isI, isI_int, std_getL, std_nmul, std_sOf, sOf_str, std_isS, isS_str, strOf_lit, lstOf_lit inj_eB, lstOf_lit inj_eZ, lstOf_lit inj_eBs, lstOf_lit inj_eS, isRow_lit, isB_lit, isRow_nil, lstOf_nil inj_eB, lstOf_nil inj_eZ, lstOf_nil inj_eBs, lstOf_nil inj_eS, lstOf_lit inj_eI] at *)
  all_goals first
    | omega
    | exact hB
    | (have h0 : ¬mRe B = 0 := by assumption
       have h := lOk_m (s := s) h0
       first
         | (rw [h.1]; done)
         | (rw [h.2]; done)
         | (rw [lI_no h.1]; done)
         | (rw [lS_no h.1]; done))
    | (have h0 : ¬dE (mRT B) (mRL B) = 0 := by assumption
       have h := lOk_e (s := s) h0
       first
         | (rw [h.1]; done)
         | (rw [h.2]; done)
         | (rw [lI_no h.1]; done)
         | (rw [lS_no h.1]; done))
    | (have h0 : mRe B = 0 := by assumption
       exact ⟨Nat.le_trans (mRL_len _) (by decide), fun i => Nat.le_trans (val_len (mR_good h0).1 i) (by decide)⟩)
    | (have h0 : kOk s (xK (mRT B) (mRL B)) = false := by assumption
       have h : lOk s B = false := h0
       have h2 : lKd s B = 0 := by unfold lKd kKd; rw [h0]; rfl
       first
         | (rw [h]; done)
         | (rw [h2]; done)
         | (rw [lI_no h]; done)
         | (rw [lS_no h]; done))
    | (have h0 : kOk s (xK (mRT B) (mRL B)) = true := by assumption
       have h : lOk s B = true := h0
       first
         | (rw [h]; done)
         | rfl
         | (rw [lI_yes h]; done)
         | (rw [lS_yes h]; done))
    | trace_state
end Go.Vd

set_option linter.unusedVariables false
set_option linter.unusedSimpArgs false
set_option maxRecDepth 100000
set_option maxHeartbeats 1000000
namespace Go.Vd
open Go.Proofs
def rClone (A : Ar) (L : Unit → List UInt8) : SV := .frs 5 1 (A.tn fun _ => (L ()).length) (rowF eB 0 A L)
theorem good_Clone (L : List UInt8) (hL : L.length ≤ 1000000) : GoodP Tryz.prog gl0 47 [rowS eB 0 1 std fun _ => L] (rClone std fun _ => L) := by
  refine fn_sound' (T := seatT) (G := noC) (X := noX) seatT_ok noC_ok noX_ok noI_ok mixed Tryz.func47 (.fresh 5 1) (fun A => [rowS eB 0 1 A fun _ => L]) (fun A => rClone A fun _ => L) fun A hA => ?_
  cbv
  repeat' (first | with_reducible exact True.intro | with_reducible exact dr_ok hA (by kernel_rfl) | with_reducible refine And.intro ?_ ?_ | (intro hc; cbv))
  all_goals (subst hA; simp only [sS] at *)
  all_goals first
    | omega
    | (constructor <;> omega)
    | (apply eqr_of; (focus (repeat' (first | with_reducible exact Reps.lit _ | with_reducible apply Reps.catE | exact Reps.nil | (simp; done) | omega))); (focus (first | (simp; done) | omega | rfl)); (focus (first | (simp; done) | rfl)))
    | (have := hc (by assumption); omega)
    | (have := hc (by assumption); exact eqr_of Reps.nil (by omega) (List.length_eq_zero_iff.1 this).symm)
noncomputable def c_Clone : Ct := fun A args => match args with
  | [.slc n 1 f] => some (some (A.tp fun _ => isRow eB 0 1 n f ∧ n ≤ 1000000), rClone A fun _ => lstOf eB 0 1 n f)
  | _ => none
noncomputable def c_ConcatF : Ct := fun A args => match args with
  | [.slc n 1 f] => some (some (A.tp fun _ => isRow eBs [] 1 n f ∧ bsSmall (lstOf eBs [] 1 n f)), rowS eB 0 1 A fun _ => (lstOf eBs [] 1 n f).flatten)
  | _ => none
noncomputable def c_fRight : Ct := fun A args => match args with
  | [.agg [.slc n 1 f, .bool br]] => some (some (A.tp fun _ => isRow eB 0 1 n f), .bool (A.tb fun _ => fOk (lstOf eB 0 1 n f) br))
  | _ => none
noncomputable def c_rfRight : Ct := fun A args => match args with
  | [.agg [.slc n 1 f, .bool br]] => some (some (A.tp fun _ => isRow eB 0 1 n f), .bool (A.tb fun _ => fOk (lstOf eB 0 1 n f) br))
  | _ => none
noncomputable def gf2 : Ar → Pu := addC 47 c_Clone (addC 52 c_ConcatF (addC 15 c_fRight (addC 48 c_rfRight (gf1))))
theorem gf2_ok : PuOk Tryz.prog gl0 (gf2 std) := by
  refine addC_ok (addC_ok (addC_ok (addC_ok (gf1_ok) ⟨_, Tryz.func48, rfl, by decide⟩ ?_) ⟨_, Tryz.func15, rfl, by decide⟩ ?_) ⟨_, Tryz.func52, rfl, by decide⟩ ?_) ⟨_, Tryz.func47, rfl, by decide⟩ ?_
  · intro args p r h hp
    unfold c_rfRight at h
    split at h <;> cases h
    exact good_sv (good_rfRight _ _) ⟨⟨_, rfl, hp.sv, rfl, trivial⟩, trivial⟩
  · intro args p r h hp
    unfold c_fRight at h
    split at h <;> cases h
    exact good_sv (good_fRight _ _) ⟨⟨_, rfl, hp.sv, rfl, trivial⟩, trivial⟩
  · intro args p r h hp
    unfold c_ConcatF at h
    split at h <;> cases h
    exact good_sv (good_Concat _ hp.2) ⟨hp.1.sv, trivial⟩
  · intro args p r h hp
    unfold c_Clone at h
    split at h <;> cases h
    exact good_sv (good_Clone _ (by rw [lstOf_length hp.1]; exact hp.2)) ⟨hp.1.sv, trivial⟩
theorem good_fReader (br : Bool) (L : List UInt8) (hL : L.length ≤ 1000000) : GoodP Tryz.prog gl0 46 [sR std (fun _ => L) br] (sR std (fun _ => L) br) := by
  refine fn_sound' (T := seatT) (G := gf2) (X := noX) seatT_ok gf2_ok noX_ok noI_ok mixed Tryz.func46 (.none) (fun A => [sR A (fun _ => L) br]) (fun A => sR A (fun _ => L) br) fun A hA => ?_
  cbv
  repeat' (first | with_reducible exact True.intro | with_reducible exact dr_ok hA (by kernel_rfl) | with_reducible refine And.intro ?_ ?_ | (intro hc; cbv))
  all_goals (subst hA; simp [-List.getD_eq_getElem?_getD, sS, strOf_lit, lstOf_lit inj_eB, lstOf_lit inj_eZ, lstOf_lit inj_eBs, lstOf_lit inj_eS, isRow_lit, isB_lit, isRow_nil, lstOf_nil inj_eB, lstOf_nil inj_eZ, lstOf_nil inj_eBs, lstOf_nil inj_eS] at *)
  exact hL
noncomputable def c_fReader : Ct := fun A args => match args with
  | [.agg [.slc n 1 f, .bool br]] => some (some (A.tp fun _ => isRow eB 0 1 n f ∧ n ≤ 1000000), sR A (fun _ => lstOf eB 0 1 n f) br)
  | _ => none
noncomputable def gf3 : Ar → Pu := addC 46 c_fReader (gf2)
theorem gf3_ok : PuOk Tryz.prog gl0 (gf3 std) := by
  refine addC_ok (gf2_ok) ⟨_, Tryz.func46, rfl, by decide⟩ ?_
  · intro args p r h hp
    unfold c_fReader at h
    split at h <;> cases h
    exact good_sv (good_fReader _ _ (by rw [lstOf_length hp.1]; exact hp.2)) ⟨⟨_, rfl, hp.1.sv, rfl, trivial⟩, trivial⟩
theorem lists_step {L M : List (List UInt8)} {i : Nat} (h : L.take i = M.take i) (hL : i < L.length) (hM : i < M.length) : L.take (i + 1) = M.take (i + 1) ↔ L.getD i [] = M.getD i [] := by
  rw [← take_snoc (d := []) hL, ← take_snoc (d := []) hM, h]
  constructor
  · intro e; simpa using e
  · intro e; rw [e]
theorem lists_end {L M : List (List UInt8)} {i : Nat} (h : L.take (i + 1) ≠ M.take (i + 1)) : L ≠ M := fun e => h (by rw [e])
theorem good_bLists (L M : List (List UInt8)) (hL : L.length ≤ 1000000) : GoodP Tryz.prog gl0 17 [rowS eBs [] 1 std fun _ => L, rowS eBs [] 1 std fun _ => M] (.bool (std.tb fun _ => decide (L = M))) := by
  refine fn_sound' (T := seatT) (G := gf3) (X := noX) seatT_ok gf3_ok noX_ok noI_ok mixed Tryz.func17 (.one) (fun A => [rowS eBs [] 1 A fun _ => L, rowS eBs [] 1 A fun _ => M]) (fun A => .bool (A.tb fun _ => decide (L = M))) fun A hA => ?_
  cbv
  repeat' (first | with_reducible exact True.intro | with_reducible exact dr_ok hA (by kernel_rfl) | with_reducible refine And.intro ?_ ?_ | (intro hc; cbv))
  · subst hA; simp [-List.getD_eq_getElem?_getD, sS, strOf_lit, lstOf_lit inj_eB, lstOf_lit inj_eZ, lstOf_lit inj_eBs, lstOf_lit inj_eS] at *
    intro e; exact hc (by rw [e])
  have hlen : L.length = M.length := by subst hA; simp [sS] at hc; omega
  refine ⟨⟨{i : Nat // i ≤ L.length ∧ L.take i = M.take i}, fun b i => [(5, .int .i64 (i.1 : Nat))], fun b i => [], fun i => L.length - i.1, true⟩, ⟨⟨0, by omega, rfl⟩, ?_⟩, ?_⟩
  · cbv
    subst hA
    simp [-List.getD_eq_getElem?_getD, sS]
  · rintro ⟨i, hi, ht⟩
    cbv
    repeat' (first | with_reducible exact True.intro | with_reducible exact dr_ok hA (by kernel_rfl) | with_reducible refine And.intro ?_ ?_ | (intro hc; cbv))
    · subst hA; simp [sS] at hc ⊢; omega
    · subst hA; exact isB_row (.lit _)
    · subst hA; simp [sS] at hc ⊢; omega
    · subst hA; exact isB_row (.lit _)
    · rename_i h1
      have hlt : i < L.length := by subst hA; simp [sS] at h1; omega
      have hne : L.getD i [] ≠ M.getD i [] := by subst hA; simpa [-List.getD_eq_getElem?_getD, sS, strOf_row (Reps.lit _)] using hc
      have := lists_end fun e => hne ((lists_step ht hlt (by omega)).1 e)
      subst hA; simp [sS, this]
    · rename_i h1
      have hlt : i < L.length := by subst hA; simp [sS] at h1; omega
      have he : L.getD i [] = M.getD i [] := by subst hA; simpa [-List.getD_eq_getElem?_getD, sS, strOf_row (Reps.lit _)] using hc
      refine ⟨⟨i + 1, by omega, (lists_step ht hlt (by omega)).2 he⟩, ?_, show L.length - (i + 1) < L.length - i by omega⟩
      cbv
      subst hA
      simp [sS]
      exact w64 (by omega)
    · have : i = L.length := by subst hA; simp [sS] at hc; omega
      subst this
      have he : L = M := by rw [List.take_length, List.take_of_length_le (by omega)] at ht; exact ht
      subst hA; simp [sS, he]
end Go.Vd

set_option linter.unusedVariables false
set_option linter.unusedSimpArgs false
set_option maxRecDepth 100000
set_option maxHeartbeats 1000000
namespace Go.Vd
open Go.Proofs
def aFeed (A : Ar) (L : List UInt8) (br : Bool) (B : List UInt8) : SV := .tup [sR A (fun _ => (fFeed L br B).rest) (A.tb fun _ => (fFeed L br B).br), rowS eBs [] 1 A fun _ => (fFeed L br B).told, .int .i64 (A.ti fun _ => (fFeed L br B).e)]
theorem two_reps (L B : List UInt8) : Reps eBs [] 1 2 (lstS [[.slc L.length 1 (rowF eB 0 std fun _ => L)], [.slc B.length 1 (rowF eB 0 std fun _ => B)]]) [L, B] :=
  Reps.lst (l := [_, _]) (L := [L, B]) ⟨cell_eBs (.lit L), cell_eBs (.lit B), trivial⟩
theorem two_row (L B : List UInt8) : isRow eBs [] 1 2 (lstS [[.slc L.length 1 (rowF eB 0 std fun _ => L)], [.slc B.length 1 (rowF eB 0 std fun _ => B)]]) := ⟨_, two_reps L B⟩
theorem two_lst (L B : List UInt8) : lstOf eBs [] 1 2 (lstS [[.slc L.length 1 (rowF eB 0 std fun _ => L)], [.slc B.length 1 (rowF eB 0 std fun _ => B)]]) = [L, B] := lstOf_eq inj_eBs (two_reps L B)
theorem cut_rep (R : List UInt8) (e : Nat) (h : 2 ≤ e) (h2 : e ≤ R.length) : Reps eB 0 1 (e - 2) (fun i j => rowF eB 0 std (fun _ => R) (2 + i) j) ((R.drop 2).take (e - 2)) :=
  (((Reps.lit (enc := eB) (d := 0) (k := 1) R).shift' 2 (by omega)).take (e - 2) (by omega))
theorem good_fFeed (br : Bool) (L B : List UInt8) (hL : L.length ≤ 20000) (hB : B.length ≤ 20000) : GoodP Tryz.prog gl0 16 [sR std (fun _ => L) br, rowS eB 0 1 std fun _ => B] (aFeed std L br B) := by
  refine fn_sound' (T := seatT) (G := gf3) (X := noX) seatT_ok gf3_ok noX_ok noI_ok mixed Tryz.func16 (.none) (fun A => [sR A (fun _ => L) br, rowS eB 0 1 A fun _ => B]) (fun A => aFeed A L br B) fun A hA => ?_
  cbv
  repeat' (first | with_reducible exact True.intro | with_reducible exact dr_ok hA (by kernel_rfl) | with_reducible refine And.intro ?_ ?_ | (intro hc; cbv))
  rotate_right
  · rename_i h1
    have h0 : br = false := by assumption
    have hok : fOk L false = true := by subst hA h0; simpa [sS, strOf_lit, lstOf_lit inj_eB, lstOf_lit inj_eZ, lstOf_lit inj_eBs, lstOf_lit inj_eS] using h1
    subst h0
    obtain ⟨Q, hQ⟩ : ∃ Q, Q = L ++ B := ⟨_, rfl⟩
    refine ⟨⟨{p : List (List UInt8) × List UInt8 // fParse (L ++ B) = (p.1 ++ (fParse p.2).1, (fParse p.2).2) ∧ p.1.length + p.2.length ≤ 40000}, fun b p => [(7, .own b), (8, rowS eB 0 1 A fun _ => p.1.2)], fun b p => [(b, .row 22 1 (A.tn fun _ => p.1.1.length) (rowF eBs [] A fun _ => p.1.1))], fun p => p.1.2.length, true⟩, ⟨⟨([], Q), by simp [hQ], by simp [hQ]; omega⟩, ?_⟩, ?_⟩
    · cbv
      subst hA
      simp [hQ, -List.getD_eq_getElem?_getD, sS, strOf_lit, lstOf_lit inj_eB, lstOf_lit inj_eZ, lstOf_lit inj_eBs, lstOf_lit inj_eS, isRow_lit, isB_lit, isRow_nil, lstOf_nil inj_eB, lstOf_nil inj_eZ, lstOf_nil inj_eBs, lstOf_nil inj_eS, two_lst]
    · rintro ⟨⟨T, R⟩, hP, hn⟩
      simp only at hP hn
      cbv
      repeat' (first | with_reducible exact True.intro | with_reducible exact dr_ok hA (by kernel_rfl) | with_reducible refine And.intro ?_ ?_ | (intro hc; cbv))
      rotate_right
      · have hF := fLen_lt R
        have hw : IntKind.i64.wrap (2 + (fLen R : Int)) = 2 + (fLen R : Int) := w64 (by omega)
        rename_i hx2 hx3
        have hx4 := hc
        have h2 : ¬R.length < 2 := by subst hA; simp [sS] at hx2; omega
        have hm : fMay (fLen R) = true := by subst hA; simpa [-List.getD_eq_getElem?_getD, sS, strOf_lit, lstOf_lit inj_eB, lstOf_lit inj_eZ, lstOf_lit inj_eBs, lstOf_lit inj_eS] using hx3
        have hl : ¬R.length < 2 + fLen R := by
          subst hA
          simp [-List.getD_eq_getElem?_getD, sS, strOf_lit, lstOf_lit inj_eB, lstOf_lit inj_eZ, lstOf_lit inj_eBs, lstOf_lit inj_eS, hw] at hx4
          omega
        obtain ⟨T', hT'⟩ : ∃ T', T' = T ++ [(R.drop 2).take (fLen R)] := ⟨_, rfl⟩
        obtain ⟨R', hR'⟩ : ∃ R', R' = R.drop (2 + fLen R) := ⟨_, rfl⟩
        have hl' : R'.length = R.length - (2 + fLen R) := by rw [hR', List.length_drop]
        refine ⟨⟨(T', R'), by rw [hP, fParse_more h2 hm hl, hT', hR']; simp, by rw [hT', List.length_append, List.length_singleton, hl']; omega⟩, ?_, show R'.length < R.length by omega⟩
        cbv
        subst hA
        simp [-List.getD_eq_getElem?_getD, sS, strOf_lit, lstOf_lit inj_eB, lstOf_lit inj_eZ, lstOf_lit inj_eBs, lstOf_lit inj_eS, isRow_lit, isB_lit, isRow_nil, lstOf_nil inj_eB, lstOf_nil inj_eZ, lstOf_nil inj_eBs, lstOf_nil inj_eS, hw]
        have e0 : (2 + (fLen R : Int)).toNat = 2 + fLen R := by omega
        refine ⟨⟨by rw [e0, hl'], ?_⟩, by rw [hT']; simp, ?_⟩
        · have e1 : (2 + (fLen R : Int)).toNat = 2 + fLen R := by omega
          rw [e1, hl', hR']
          exact (Reps.shift' (Reps.lit (enc := eB) (d := 0) (k := 1) R) (2 + fLen R) (by omega)).eqr
        · have e1 : (2 + (fLen R : Int)).toNat - 2 = fLen R := by omega
          rw [e1]
          have h3 := cut_rep R (2 + fLen R) (by omega) (by omega)
          rw [Nat.add_sub_cancel_left] at h3
          exact snoc_row rfl (cell_eBs h3) hT'.symm (by rw [hT']; simp)
      all_goals (subst hA; simp [-List.getD_eq_getElem?_getD, sS, strOf_lit, lstOf_lit inj_eB, lstOf_lit inj_eZ, lstOf_lit inj_eBs, lstOf_lit inj_eS, isRow_lit, isB_lit, isRow_nil, lstOf_nil inj_eB, lstOf_nil inj_eZ, lstOf_nil inj_eBs, lstOf_nil inj_eS] at *)
      all_goals (have hF := fLen_lt R)
      all_goals (have hw : IntKind.i64.wrap (2 + (fLen R : Int)) = 2 + (fLen R : Int) := w64 (by omega))
      all_goals (simp only [hw] at *)
      all_goals first
        | omega
        | (constructor <;> omega)
        | (have hg : fFeed L false B = ⟨R, false, T, 0⟩ := by (rw [fFeed_go hok, hP, fParse_short (by omega)]; simp)
           rw [hg]; first | done | rfl | exact (Reps.lit _).eqr)
        | (have hg : fFeed L false B = ⟨[], true, T, 12⟩ := by (rw [fFeed_go hok, hP, fParse_bad (by omega) (by assumption)]; simp)
           rw [hg]; first | done | rfl | exact (Reps.lit _).eqr)
        | (have hg : fFeed L false B = ⟨R, false, T, 0⟩ := by (rw [fFeed_go hok, hP, fParse_part (by omega) (by assumption) (by omega)]; simp)
           rw [hg]; first | done | rfl | exact (Reps.lit _).eqr)
        | trace_state
  all_goals (subst hA; simp [-List.getD_eq_getElem?_getD, sS, strOf_lit, lstOf_lit inj_eB, lstOf_lit inj_eZ, lstOf_lit inj_eBs, lstOf_lit inj_eS, isRow_lit, isB_lit, isRow_nil, lstOf_nil inj_eB, lstOf_nil inj_eZ, lstOf_nil inj_eBs, lstOf_nil inj_eS, two_lst] at *)
  all_goals first
    | omega
    | (rw [fFeed_bad hc]; first | done | rfl | exact (Reps.lit _).eqr)
    | (have hb : br = true := by assumption
       subst hb
       rw [fFeed_br hc]; first | done | rfl | exact (Reps.lit _).eqr)
    | (refine ⟨two_row L B, by simp, fun b hb => ?_⟩; (simp at hb; rcases hb with rfl | rfl <;> omega))
    | trace_state
end Go.Vd

set_option linter.unusedVariables false
set_option linter.unusedSimpArgs false
set_option maxRecDepth 100000
set_option maxHeartbeats 2000000
namespace Go.Vd
open Go.Proofs
theorem cat_get (R : List UInt8) (x : UInt8) {k : Nat} (h : k < R.length + 1) {f : Nat → Nat → SV} (hf : f = rowF eB 0 std fun _ => R) : catS R.length f (lstS [[SV.int IntKind.u8 (x.toNat : Int)]]) k 0 = .int .u8 (((R ++ [x]).getD k 0).toNat : Int) := by
  subst hf
  show (if k < R.length then rowF eB 0 std (fun _ => R) k 0 else lstS [[SV.int IntKind.u8 (x.toNat : Int)]] (k - R.length) 0) = _
  by_cases hk : k < R.length
  · rw [if_pos hk, getD_app hk]; rfl
  · obtain rfl : k = R.length := by omega
    rw [if_neg hk, Nat.sub_self]
    simp [lstS, getAt, List.getD_eq_getElem?_getD]
theorem fdrop_cons {B : List UInt8} {i : Nat} (h : i < B.length) : B.drop i = B.getD i 0 :: B.drop (i + 1) := by
  rw [List.drop_eq_getElem_cons h, List.getD_eq_getElem?_getD, List.getElem?_eq_getElem h]; rfl
theorem may_sum (S : List UInt8) : IntKind.i64.wrap (IntKind.i64.wrap (256 * IntKind.i64.wrap ((S.getD 0 0).toNat : Int)) + IntKind.i64.wrap ((S.getD 1 0).toNat : Int)) = (fLen S : Int) := flen_sum _ _
theorem good_rfFeed (br : Bool) (L B : List UInt8) (hL : L.length ≤ 20000) (hB : B.length ≤ 20000) : GoodP Tryz.prog gl0 49 [sR std (fun _ => L) br, rowS eB 0 1 std fun _ => B] (aFeed std L br B) := by
  refine fn_sound' (T := seatT) (G := gf3) (X := noX) seatT_ok gf3_ok noX_ok noI_ok mixed Tryz.func49 (.none) (fun A => [sR A (fun _ => L) br, rowS eB 0 1 A fun _ => B]) (fun A => aFeed A L br B) fun A hA => ?_
  cbv
  repeat' (first | with_reducible exact True.intro | with_reducible exact dr_ok hA (by kernel_rfl) | with_reducible refine And.intro ?_ ?_ | (intro hc; cbv))
  rotate_right
  · rename_i h1
    have h0 : br = false := by assumption
    have hok : fOk L false = true := by subst hA h0; simpa [sS, strOf_lit, lstOf_lit inj_eB, lstOf_lit inj_eZ, lstOf_lit inj_eBs, lstOf_lit inj_eS] using h1
    subst h0
    clear h1
    refine ⟨⟨{p : Nat × List (List UInt8) × List UInt8 // p.1 ≤ B.length ∧ fOk p.2.2 false = true ∧ fParse (L ++ B) = (p.2.1 ++ (fParse (p.2.2 ++ B.drop p.1)).1, (fParse (p.2.2 ++ B.drop p.1)).2) ∧ p.2.1.length ≤ p.1 ∧ p.2.2.length ≤ L.length + p.1}, fun b p => [(7, .own 12), (8, .own b), (9, .int .i64 (p.1.1 : Nat))], fun b p => [(12, .row 5 1 (A.tn fun _ => p.1.2.2.length) (rowF eB 0 A fun _ => p.1.2.2)), (b, .row 22 1 (A.tn fun _ => p.1.2.1.length) (rowF eBs [] A fun _ => p.1.2.1))], fun p => B.length - p.1.1, true⟩, ⟨⟨(0, [], L), by simp [hok]⟩, ?_⟩, ?_⟩
    · cbv
      subst hA
      simp [-List.getD_eq_getElem?_getD, sS, strOf_lit, lstOf_lit inj_eB, lstOf_lit inj_eZ, lstOf_lit inj_eBs, lstOf_lit inj_eS, isRow_lit, isB_lit, isRow_nil, lstOf_nil inj_eB, lstOf_nil inj_eZ, lstOf_nil inj_eBs, lstOf_nil inj_eS]
      exact eqr_of (Reps.nil.cat (.lit L)) (by omega) rfl
    · rintro ⟨⟨i, T, R⟩, hi, hR, hP, hn, hm⟩
      simp only at hi hR hP hn hm
      have hF := fLen_lt (R ++ [B.getD i 0])
      have hw : IntKind.i64.wrap (2 + (fLen (R ++ [B.getD i 0]) : Int)) = 2 + (fLen (R ++ [B.getD i 0]) : Int) := w64 (by omega)
      have hl : (R ++ [B.getD i 0]).length = R.length + 1 := by simp
      cbv
      repeat' (first | with_reducible exact True.intro | with_reducible exact dr_ok hA (by kernel_rfl) | with_reducible refine And.intro ?_ ?_ | (intro hc; cbv))
      all_goals first
        | (fail_if_success (refine Exists.intro ?_ ?_)
           subst hA
           simp [-List.getD_eq_getElem?_getD, sS, strOf_lit, lstOf_lit inj_eB, lstOf_lit inj_eZ, lstOf_lit inj_eBs, lstOf_lit inj_eS, isRow_lit, isB_lit, isRow_nil, lstOf_nil inj_eB, lstOf_nil inj_eZ, lstOf_nil inj_eBs, lstOf_nil inj_eS] at *
           first
             | omega
             | (rw [cat_get R (B.getD i 0) (by omega) rfl]; exact isI_int _ _)
             | (have hq : i = B.length := by omega
                have hg : fFeed L false B = ⟨R, false, T, 0⟩ := by (rw [fFeed_go hok, hP, hq, List.drop_length, List.append_nil, fParse_fix hR]; simp)
                rw [hg]; first | done | rfl | exact (Reps.lit _).eqr)
             | (rw [cat_get R (B.getD i 0) (k := 0) (by omega) rfl, cat_get R (B.getD i 0) (k := 1) (by omega) rfl] at hc
                simp only [zOf_int, may_sum] at hc
                have hg : fFeed L false B = ⟨[], true, T, 12⟩ := by (rw [fFeed_go hok, hP, fdrop_cons (by assumption), fStep_bad (by simp; omega) hc]; simp)
                rw [hg]; first | done | rfl | exact (Reps.lit _).eqr)
             | trace_state)
        | skip
      all_goals (have hlt : i < B.length := by (clear hw hl hF; (subst hA; simp [-List.getD_eq_getElem?_getD, sS] at *); omega))
      all_goals (obtain ⟨S, hS⟩ : ∃ S, S = R ++ [B.getD i 0] := ⟨_, rfl⟩)
      all_goals (rw [← hS] at hF hw hl)
      all_goals (have hcat : eqrS (R.length + 1) 1 (catS R.length (rowF eB 0 std fun _ => R) (lstS [[SV.int IntKind.u8 ((B.getD i 0).toNat : Int)]])) (rowF eB 0 std fun _ => S) := snoc_row rfl (cell_eB rfl) hS.symm rfl)
      all_goals (have hap : ∀ T0, R ++ B.getD i 0 :: T0 = S ++ T0 := fun T0 => by rw [hS]; simp)
      all_goals (have hdr := fdrop_cons hlt)
      all_goals (rw [hdr] at hP)
      all_goals (obtain ⟨i', hi'⟩ : ∃ i', i' = i + 1 := ⟨_, rfl⟩)
      · have h2 : (R ++ [B.getD i 0]).length < 2 := by rw [← hS, hl]; clear hw hl hF hP; subst hA; simp [sS] at hc; omega
        refine ⟨⟨(i', T, S), by omega, by rw [hS]; exact fStep_short h2, by rw [hP, hap, hi'], show T.length ≤ i' by omega, by simp only [hl]; omega⟩, ?_, show B.length - i' < B.length - i by omega⟩
        cbv
        subst hA
        simp [-List.getD_eq_getElem?_getD, sS, strOf_lit, lstOf_lit inj_eB, lstOf_lit inj_eZ, lstOf_lit inj_eBs, lstOf_lit inj_eS, isRow_lit, isB_lit, isRow_nil, lstOf_nil inj_eB, lstOf_nil inj_eZ, lstOf_nil inj_eBs, lstOf_nil inj_eS]
        exact ⟨(w64 (by omega)).trans (by omega), hl.symm, by rw [hl]; exact hcat⟩
      all_goals (rename_i hx1 hx2; have hx3 := hc; clear hc)
      all_goals (have h2 : ¬S.length < 2 := by (clear hw hF hP hx2 hx3; subst hA; simp [sS] at hx1; omega))
      all_goals (have h1 : fMay (fLen S) = true := by (clear hw hF hP hx3; subst hA; simp [-List.getD_eq_getElem?_getD, sS] at hx2; rw [cat_get R (B.getD i 0) (k := 0) (by omega) rfl, cat_get R (B.getD i 0) (k := 1) (by omega) rfl] at hx2; simp only [zOf_int, may_sum, ← hS] at hx2; exact hx2))
      · have h3 : S.length = 2 + fLen S := by
          clear hP hx2
          subst hA
          simp [-List.getD_eq_getElem?_getD, sS] at hx3
          rw [cat_get R (B.getD i 0) (k := 0) (by omega) rfl, cat_get R (B.getD i 0) (k := 1) (by omega) rfl] at hx3
          simp only [zOf_int, ← hS] at hx3
          rw [show IntKind.i64.wrap (IntKind.i64.wrap (256 * IntKind.i64.wrap ((S.getD 0 0).toNat : Int)) + IntKind.i64.wrap ((S.getD 1 0).toNat : Int)) = (fLen S : Int) from flen_sum _ _, hw] at hx3
          have e9 : (R.length : Int) + 1 = 2 + (fLen S : Int) := hx3
          omega
        obtain ⟨T', hT'⟩ : ∃ T', T' = T ++ [S.drop 2] := ⟨_, rfl⟩
        refine ⟨⟨(i', T', []), by omega, by simp [fOk], by rw [hP, hap, fParse_full h2 h1 h3, hT', hi']; simp, by rw [hT']; simp; omega, by simp⟩, ?_, show B.length - i' < B.length - i by omega⟩
        cbv
        subst hA
        simp [-List.getD_eq_getElem?_getD, sS, strOf_lit, lstOf_lit inj_eB, lstOf_lit inj_eZ, lstOf_lit inj_eBs, lstOf_lit inj_eS, isRow_lit, isB_lit, isRow_nil, lstOf_nil inj_eB, lstOf_nil inj_eZ, lstOf_nil inj_eBs, lstOf_nil inj_eS]
        have hr := Reps.shift (enc := eB) (d := 0) (k := 1) (m := R.length - 1) ⟨hl, hcat⟩ 2 (by omega)
        rw [List.take_of_length_le (by rw [List.length_drop]; omega)] at hr
        exact ⟨(w64 (by omega)).trans (by omega), by rw [hT']; simp, snoc_row rfl (cell_eBs hr) hT'.symm (by rw [hT']; simp)⟩
      · have h3 : ¬S.length = 2 + fLen S := by
          clear hP hx2
          subst hA
          simp [-List.getD_eq_getElem?_getD, sS] at hx3
          rw [cat_get R (B.getD i 0) (k := 0) (by omega) rfl, cat_get R (B.getD i 0) (k := 1) (by omega) rfl] at hx3
          simp only [zOf_int, ← hS] at hx3
          rw [show IntKind.i64.wrap (IntKind.i64.wrap (256 * IntKind.i64.wrap ((S.getD 0 0).toNat : Int)) + IntKind.i64.wrap ((S.getD 1 0).toNat : Int)) = (fLen S : Int) from flen_sum _ _, hw] at hx3
          have e9 : ¬(R.length : Int) + 1 = 2 + (fLen S : Int) := hx3
          omega
        refine ⟨⟨(i', T, S), by omega, by rw [hS] at h1 h2 h3 ⊢; exact fStep_part hR h2 h1 h3, by rw [hP, hap, hi'], show T.length ≤ i' by omega, by simp only [hl]; omega⟩, ?_, show B.length - i' < B.length - i by omega⟩
        cbv
        subst hA
        simp [-List.getD_eq_getElem?_getD, sS, strOf_lit, lstOf_lit inj_eB, lstOf_lit inj_eZ, lstOf_lit inj_eBs, lstOf_lit inj_eS, isRow_lit, isB_lit, isRow_nil, lstOf_nil inj_eB, lstOf_nil inj_eZ, lstOf_nil inj_eBs, lstOf_nil inj_eS]
        exact ⟨(w64 (by omega)).trans (by omega), hl.symm, by rw [hl]; exact hcat⟩
  all_goals (subst hA; simp [-List.getD_eq_getElem?_getD, sS, strOf_lit, lstOf_lit inj_eB, lstOf_lit inj_eZ, lstOf_lit inj_eBs, lstOf_lit inj_eS, isRow_lit, isB_lit, isRow_nil, lstOf_nil inj_eB, lstOf_nil inj_eZ, lstOf_nil inj_eBs, lstOf_nil inj_eS, two_lst] at *)
  all_goals first
    | omega
    | (rw [fFeed_bad hc]; first | done | rfl | exact (Reps.lit _).eqr)
    | (have hb : br = true := by assumption
       subst hb
       rw [fFeed_br hc]; first | done | rfl | (rw [fOk_br hc]; first | done | rfl | exact (Reps.lit _).eqr))
    | trace_state
end Go.Vd

