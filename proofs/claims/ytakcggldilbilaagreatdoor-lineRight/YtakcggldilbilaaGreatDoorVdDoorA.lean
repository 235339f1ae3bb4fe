/- Deals: the reference's Read; DealRight. -/
import Derived.Test.YtakcggldilbilaaGreatDoorVdO6
import Derived.Test.YtakcggldilbilaaGreatDoorVdF3
import Derived.Test.YtakcggldilbilaaGreatDoorVdM7
import Derived.Test.YtakcggldilbilaaGreatDoorVdRow2
import Derived.Lib.SmallJoins
import Derived.Test.YtakcggldilbilaaGreatDoorRows
import Derived.Test.YtakcggldilbilaaGreatDoorCards
import Derived.Test.YtakcggldilbilaaGreatDoorTie
import Derived.Test.YtakcggldilbilaaGreatDoorVdH7
import Derived.ProofKit
import Derived.LaidMore
import Derived.OpenShut
import Derived.Stop.Joined
import Derived.SevenTiedAt
import Derived.Lib.LaidTab
set_option linter.unusedVariables false
set_option linter.unusedSimpArgs false
set_option maxRecDepth 100000
set_option maxHeartbeats 8000000
namespace Go.Vd
open Go.Proofs
noncomputable def c_rRight6 : Ct := fun A args => match args with
  | [.agg [.int .i64 k, .str p, .int .u64 a, .int .u32 s, .str r, .str c]] => some (some (A.tp fun _ => p.length ≤ 100000 ∧ r.length ≤ 1000000 ∧ c.length ≤ 1000000), .bool (A.tb fun _ => dR k a s p r c))
  | _ => none
noncomputable def c_rMust6 : Ct := fun A args => match args with
  | [.int .i64 k] => some (none, rowS eZ 0 1 A fun _ => fOf k)
  | _ => none
noncomputable def c_rWrite6 : Ct := fun A args => match args with
  | [.agg [.int .i64 k, .str p, .int .u64 a, .int .u32 s, .str r, .str c]] => some (some (A.tp fun _ => (0 ≤ a ∧ a < 18446744073709551616) ∧ (0 ≤ s ∧ s < 4294967296) ∧ dR k a s p r c = true), .agg [.str (A.ts fun _ => tyOf k), rowS eI (0, []) 2 A fun _ => dIs k a s p r c])
  | _ => none
noncomputable def gO8 : Ar → Pu := addC 27 c_rRight6 (addC 99 c_rMust6 (addC 70 c_rWrite6 (gO7)))
theorem gO8_ok : PuOk Tryz.prog gl0 (gO8 std) := by
  refine addC_ok (addC_ok (addC_ok (gO7_ok) ⟨_, Tryz.func70, rfl, by decide⟩ ?_) ⟨_, Tryz.func99, rfl, by decide⟩ ?_) ⟨_, Tryz.func27, rfl, by decide⟩ ?_
  · intro args p r h hp
    unfold c_rWrite6 at h
    split at h <;> cases h
    exact good_rWrite6 _ _ _ _ _ _ hp.1 hp.2.1 hp.2.2
  · intro args p r h hp
    unfold c_rMust6 at h
    split at h <;> cases h
    exact good_rMust6 _
  · intro args p r h hp
    unfold c_rRight6 at h
    split at h <;> cases h
    exact good_rRight6 _ _ _ _ _ _ hp.1 hp.2.1 hp.2.2
def kTo (T : List UInt8) (i : Nat) : Int := if kdOf T ≤ i then kdOf T else 0
theorem kTo_0 {T : List UInt8} (h : 1 ≤ kdOf T) : kTo T 0 = 0 := if_neg (by simp; omega)
theorem kTo_7 (T : List UInt8) : kTo T 7 = kdOf T := if_pos (by have := kd_le T; simp; omega)
theorem kTo_y {T : List UInt8} {i : Nat} (h : kdOf T = (i : Int) + 1) : kTo T (i + 1) = (i : Int) + 1 := by unfold kTo; rw [h, if_pos (by simp)]
theorem kTo_n {T : List UInt8} {i : Nat} (h : ¬kdOf T = (i : Int) + 1) : kTo T (i + 1) = kTo T i := by
  unfold kTo
  by_cases e : kdOf T ≤ (i : Int)
  · rw [if_pos e, if_pos (by push_cast; omega)]
  · rw [if_neg e, if_neg (by push_cast; omega)]
abbrev D5 := Int × Int × List UInt8 × List UInt8 × List UInt8
def d5s (o : D5) (x : It) : D5 := if x.1 = 2 then (o.1, o.2.1, x.2, o.2.2.2.1, o.2.2.2.2) else if x.1 = 4 then ((gVal x.2 : Int), o.2.1, o.2.2.1, o.2.2.2.1, o.2.2.2.2) else if x.1 = 11 then (o.1, IntKind.u32.wrap (gVal x.2 : Int), o.2.2.1, o.2.2.2.1, o.2.2.2.2) else if x.1 = 37 then (o.1, o.2.1, o.2.2.1, x.2, o.2.2.2.2) else if x.1 = 39 then (o.1, o.2.1, o.2.2.1, o.2.2.2.1, x.2) else o
def d5 (L : List It) : D5 := L.foldl d5s (0, 0, [], [], [])
theorem d5_take {L : List It} {j : Nat} (h : j < L.length) : d5 (L.take (j + 1)) = d5s (d5 (L.take j)) (L.getD j (0, [])) := by
  rw [← take_snoc (d := (0, [])) h]
  unfold d5
  rw [List.foldl_append]
  rfl
theorem fo5 {k : Int} : (fOf k).length = 5 ↔ (k = 5 ∨ k = 6) := by
  unfold fOf
  split
  · rename_i e; simp [e]
  · rename_i e
    split <;> simp [e]
theorem d5_fin {L : List It} {k : Int} (h : fs L = fOf k) : d5 L = ((if dAsks k = true then (gVal (mG L 4) : Int) else 0), IntKind.u32.wrap (gVal (mG L 11) : Int), (if dAsks k = true then mG L 2 else []), mG L 37, (if dAsks k = true then [] else mG L 39)) ∧ ((k = 5 ∨ k = 6) → (L.getD 4 (0, [])).2 = mG L 90 ∧ (L.getD 2 (0, [])).2 = mG L 11) := by
  by_cases t : k = 5 ∨ k = 6
  · rw [fo_1 t] at h
    rw [if_pos (asks_tl t), if_pos (asks_tl t), if_pos (asks_tl t)]
    obtain ⟨x1, x2, x3, x4, x5, rfl⟩ := fl5_of h
    exact ⟨rfl, fun _ => ⟨rfl, rfl⟩⟩
  · cases e : dAsks k
    · rw [fo_3 t e] at h
      obtain ⟨x1, x2, x3, rfl⟩ := fl3_of h
      exact ⟨rfl, fun q => absurd q t⟩
    · rw [fo_2 t e] at h
      obtain ⟨x1, x2, x3, x4, rfl⟩ := fl4_of h
      exact ⟨rfl, fun q => absurd q t⟩
theorem d5_five {T : List UInt8} {L : List It} {q : Int} (hkq : q = kdOf T) (hfs : fs L = fOf q) (h : (fOf q).length = 5) : (kdOf T = 5 ∨ kdOf T = 6) ∧ (L.getD 4 (0, [])).2 = mG L 90 ∧ (L.getD 2 (0, [])).2 = mG L 11 := ⟨hkq ▸ fo5.1 h, (d5_fin hfs).2 (fo5.1 h)⟩
theorem good_rRead6 (T : List UInt8) (L : List It) (hL : L.length ≤ 1000000) (hS : ∀ i, (L.getD i (0, [])).2.length ≤ 1000000) : GoodP Tryz.prog gl0 45 [.agg [.str T, rowS eI (0, []) 2 std fun _ => L]] (.tup [.agg [.int .i64 (std.ti fun _ => xK T L), .str (std.ts fun _ => xP T L), .int .u64 (std.ti fun _ => xA T L), .int .u32 (std.ti fun _ => xS T L), .str (std.ts fun _ => xR T L), .str (std.ts fun _ => xC T L)], .int .i64 (std.ti fun _ => dE T L)]) := by
  refine fn_sound' (T := seatT) (G := gO8) (X := noX) seatT_ok gO8_ok noX_ok noI_ok mixed Tryz.func45 (.one) (fun A => [.agg [.str T, rowS eI (0, []) 2 A fun _ => L]]) (fun A => .tup [.agg [.int .i64 (A.ti fun _ => xK T L), .str (A.ts fun _ => xP T L), .int .u64 (A.ti fun _ => xA T L), .int .u32 (A.ti fun _ => xS T L), .str (A.ts fun _ => xR T L), .str (A.ts fun _ => xC T L)], .int .i64 (A.ti fun _ => dE T L)]) fun A hA => ?_
  cbv
  repeat' (first | with_reducible exact True.intro | with_reducible exact dr_ok hA (by kernel_rfl) | with_reducible refine And.intro ?_ ?_ | (intro hc; cbv))
  all_goals first
    | (fail_if_success (refine Exists.intro ?_ ?_)
       subst hA
       simp [-List.getD_eq_getElem?_getD, sS, lstOf_lit inj_eI, isRow_lit] at *
       first
         | done
         | exact ⟨hL, hS⟩
         | (have e := de_1 hc
            have b := dE_bad (T := T) (L := L) (by rw [e]; decide)
            first | exact b.1.symm | exact b.2.1.symm | exact b.2.2.1.symm | exact b.2.2.2.1 | exact b.2.2.2.2.1 | exact b.2.2.2.2.2 | exact e.symm)
         | trace_state)
    | skip
  have hm : mR T L = true := by
    subst hA
    simpa [sS, lstOf_lit inj_eI] using hc
  have hT := kdOf_T (mR_iff.1 hm).1
  have hkl := knR_len
  clear hc
  refine ⟨⟨{q : Nat × Int // q.1 ≤ 7 ∧ q.2 = kTo T q.1}, fun b q => [(5, .int .i64 (q.1.1 : Nat))], fun b q => [(7, .box 29 [.int .i64 q.1.2, .str [], .int .u64 0, .int .u32 0, .str [], .str []])], fun q => 7 - q.1.1, true⟩, ⟨⟨(0, 0), by omega, (kTo_0 hT.1.1).symm⟩, ?_⟩, ?_⟩
  · cbv
    subst hA
    simp [-List.getD_eq_getElem?_getD, sS]
  · rintro ⟨⟨i, q⟩, hi, hq⟩
    simp only at hi hq
    cbv
    repeat' (first | with_reducible exact True.intro | with_reducible exact dr_ok hA (by kernel_rfl) | with_reducible refine And.intro ?_ ?_ | (intro hc; cbv))
    all_goals first
      | (fail_if_success (refine Exists.intro ?_ ?_)
         subst hA
         simp [-List.getD_eq_getElem?_getD, sS, lstOf_lit inj_eI, isRow_lit] at *
         first
           | done
           | omega
           | (have hk : q = kdOf T := by rw [hq, show i = 7 by omega, kTo_7]
              have hne : ¬fs L = fOf (kdOf T) := fun e => hc (by rw [hk, ← e]; simp [fs])
              have e := de_2 hm hne
              have b := dE_bad (T := T) (L := L) (by rw [e]; decide)
              first | exact b.1.symm | exact b.2.1.symm | exact b.2.2.1.symm | exact b.2.2.2.1 | exact b.2.2.2.2.1 | exact b.2.2.2.2.2 | exact e.symm)
           | trace_state)
      | (have hlt : i < 7 := by (subst hA; simp [-List.getD_eq_getElem?_getD, sS] at *; omega)
         have hy : knR.getD i [] = T := by (subst hA; simp [-List.getD_eq_getElem?_getD, sS] at *; exact hc)
         have hk := (kd_iff hlt).1 hy
         obtain ⟨i', hi'⟩ : ∃ i', i' = i + 1 := ⟨_, rfl⟩
         obtain ⟨q', hq'⟩ : ∃ q' : Int, q' = (i : Int) + 1 := ⟨_, rfl⟩
         refine ⟨⟨(i', q'), by omega, by rw [hi', kTo_y hk]; exact hq'⟩, ?_, show 7 - i' < 7 - i by omega⟩
         cbv
         subst hA
         simp [sS]
         first
           | done
           | (have h64 : IntKind.i64.wrap ((i : Int) + 1) = (i : Int) + 1 := w64 (by omega)
              rw [h64]
              exact ⟨by omega, hq'.symm⟩)
           | trace_state)
      | (have hlt : i < 7 := by (subst hA; simp [-List.getD_eq_getElem?_getD, sS] at *; omega)
         have hy : ¬knR.getD i [] = T := by (subst hA; simp [-List.getD_eq_getElem?_getD, sS] at *; exact hc)
         have hk : ¬kdOf T = (i : Int) + 1 := fun e => hy ((kd_iff hlt).2 e)
         obtain ⟨i', hi'⟩ : ∃ i', i' = i + 1 := ⟨_, rfl⟩
         refine ⟨⟨(i', q), by omega, by rw [hi', kTo_n hk]; exact hq⟩, ?_, show 7 - i' < 7 - i by omega⟩
         cbv
         subst hA
         simp [sS]
         first
           | exact (w64 (by omega)).trans (by omega)
           | trace_state)
      | skip
    have hkq : q = kdOf T := by
      have hie : i = 7 := by (subst hA; simp [sS] at *; omega)
      rw [hq, hie, kTo_7]
    have hlen : (fOf q).length = L.length := by
      subst hA
      simp [sS] at hc
      omega
    clear hc
    have hf5 := fOf_len q
    refine ⟨⟨{x : Nat × D5 // x.1 ≤ L.length ∧ (∀ j, j < x.1 → (L.getD j (0, [])).1 = (fOf q).getD j 0) ∧ x.2 = d5 (L.take x.1)}, fun b x => [(7, .int .i64 (x.1.1 : Nat))], fun b x => [(7, .box 29 [.int .i64 q, .str x.1.2.2.2.1, .int .u64 x.1.2.1, .int .u32 x.1.2.2.1, .str x.1.2.2.2.2.1, .str x.1.2.2.2.2.2])], fun x => L.length - x.1.1, true⟩, ⟨⟨(0, (0, 0, [], [], [])), by omega, fun j hj => absurd hj (by omega), rfl⟩, ?_⟩, ?_⟩
    · cbv
      subst hA
      simp [-List.getD_eq_getElem?_getD, sS]
    · rintro ⟨⟨j, xa, xs, xp, xr, xc⟩, hj, h0, hx⟩
      simp only at hj h0 hx
      rcases Nat.lt_or_ge j L.length with hjl | hjl
      · have hst := d5_take hjl
        rw [← hx] at hst
        cbv
        repeat' (first | with_reducible exact True.intro | with_reducible exact dr_ok hA (by kernel_rfl) | with_reducible refine And.intro ?_ ?_ | (intro hc; cbv))
        all_goals first
          | (fail_if_success (refine Exists.intro ?_ ?_)
             have hno := fun (h : ¬(L.getD j (0, [])).1 = (fOf q).getD j 0) => de_2 hm (hkq ▸ fs_no hjl h)
             clear hx hst h0
             subst hA
             simp [-List.getD_eq_getElem?_getD, sS] at *
             first
               | done
               | omega
               | (have e := hno (by assumption)
                  have b := dE_bad (T := T) (L := L) (by rw [e]; decide)
                  first | exact b.1.symm | exact b.2.1.symm | exact b.2.2.1.symm | exact b.2.2.2.1 | exact b.2.2.2.2.1 | exact b.2.2.2.2.2 | exact e.symm)
               | (exfalso; omega)
               | trace_state)
          | skip
        all_goals (have hne : (L.getD j (0, [])).1 = (fOf q).getD j 0 := by (clear h0 hst hx; subst hA; simp [-List.getD_eq_getElem?_getD, sS] at *; omega))
        all_goals first
        | (have e : (L.getD j (0, [])).1 = 2 := by (clear h0 hst hx; subst hA; simp [-List.getD_eq_getElem?_getD, sS] at *; omega)
           have hD : d5s (xa, xs, xp, xr, xc) (L.getD j (0, [])) = (xa, xs, (L.getD j (0, [])).2, xr, xc) := by unfold d5s; simp [-List.getD_eq_getElem?_getD, e]
           obtain ⟨y, hy⟩ : ∃ y : List UInt8, y = (L.getD j (0, [])).2 := ⟨_, rfl⟩
           rw [hD, ← hy] at hst
           obtain ⟨j', hj'⟩ : ∃ j', j' = j + 1 := ⟨_, rfl⟩
           refine ⟨⟨(j', xa, xs, y, xr, xc), by omega, fun m hm' => ?_, by rw [hj', hst]⟩, ?_, show L.length - j' < L.length - j by omega⟩
           · by_cases e : m = j
             · subst e; exact hne
             · exact h0 m (by omega)
           cbv
           subst hA
           simp [-List.getD_eq_getElem?_getD, sS]
           first
             | done
             | exact ⟨(w64 (by omega)).trans (by omega), hy.symm⟩
             | exact (w64 (by omega)).trans (by omega)
             | trace_state)
        | (have e : (L.getD j (0, [])).1 = 4 := by (clear h0 hst hx; subst hA; simp [-List.getD_eq_getElem?_getD, sS] at *; omega)
           have hD : d5s (xa, xs, xp, xr, xc) (L.getD j (0, [])) = ((gVal (L.getD j (0, [])).2 : Int), xs, xp, xr, xc) := by unfold d5s; simp [-List.getD_eq_getElem?_getD, e]
           obtain ⟨y, hy⟩ : ∃ y : Int, y = (gVal (L.getD j (0, [])).2 : Int) := ⟨_, rfl⟩
           rw [hD, ← hy] at hst
           obtain ⟨j', hj'⟩ : ∃ j', j' = j + 1 := ⟨_, rfl⟩
           refine ⟨⟨(j', y, xs, xp, xr, xc), by omega, fun m hm' => ?_, by rw [hj', hst]⟩, ?_, show L.length - j' < L.length - j by omega⟩
           · by_cases e : m = j
             · subst e; exact hne
             · exact h0 m (by omega)
           cbv
           subst hA
           simp [-List.getD_eq_getElem?_getD, sS]
           first
             | done
             | exact ⟨(w64 (by omega)).trans (by omega), hy.symm⟩
             | exact (w64 (by omega)).trans (by omega)
             | trace_state)
        | (have e : (L.getD j (0, [])).1 = 11 := by (clear h0 hst hx; subst hA; simp [-List.getD_eq_getElem?_getD, sS] at *; omega)
           have hD : d5s (xa, xs, xp, xr, xc) (L.getD j (0, [])) = (xa, IntKind.u32.wrap (gVal (L.getD j (0, [])).2 : Int), xp, xr, xc) := by unfold d5s; simp [-List.getD_eq_getElem?_getD, e]
           obtain ⟨y, hy⟩ : ∃ y : Int, y = IntKind.u32.wrap (gVal (L.getD j (0, [])).2 : Int) := ⟨_, rfl⟩
           rw [hD, ← hy] at hst
           obtain ⟨j', hj'⟩ : ∃ j', j' = j + 1 := ⟨_, rfl⟩
           refine ⟨⟨(j', xa, y, xp, xr, xc), by omega, fun m hm' => ?_, by rw [hj', hst]⟩, ?_, show L.length - j' < L.length - j by omega⟩
           · by_cases e : m = j
             · subst e; exact hne
             · exact h0 m (by omega)
           cbv
           subst hA
           simp [-List.getD_eq_getElem?_getD, sS]
           first
             | done
             | exact ⟨(w64 (by omega)).trans (by omega), hy.symm⟩
             | exact (w64 (by omega)).trans (by omega)
             | trace_state)
        | (have e : (L.getD j (0, [])).1 = 37 := by (clear h0 hst hx; subst hA; simp [-List.getD_eq_getElem?_getD, sS] at *; omega)
           have hD : d5s (xa, xs, xp, xr, xc) (L.getD j (0, [])) = (xa, xs, xp, (L.getD j (0, [])).2, xc) := by unfold d5s; simp [-List.getD_eq_getElem?_getD, e]
           obtain ⟨y, hy⟩ : ∃ y : List UInt8, y = (L.getD j (0, [])).2 := ⟨_, rfl⟩
           rw [hD, ← hy] at hst
           obtain ⟨j', hj'⟩ : ∃ j', j' = j + 1 := ⟨_, rfl⟩
           refine ⟨⟨(j', xa, xs, xp, y, xc), by omega, fun m hm' => ?_, by rw [hj', hst]⟩, ?_, show L.length - j' < L.length - j by omega⟩
           · by_cases e : m = j
             · subst e; exact hne
             · exact h0 m (by omega)
           cbv
           subst hA
           simp [-List.getD_eq_getElem?_getD, sS]
           first
             | done
             | exact ⟨(w64 (by omega)).trans (by omega), hy.symm⟩
             | exact (w64 (by omega)).trans (by omega)
             | trace_state)
        | (have e : (L.getD j (0, [])).1 = 39 := by (clear h0 hst hx; subst hA; simp [-List.getD_eq_getElem?_getD, sS] at *; omega)
           have hD : d5s (xa, xs, xp, xr, xc) (L.getD j (0, [])) = (xa, xs, xp, xr, (L.getD j (0, [])).2) := by unfold d5s; simp [-List.getD_eq_getElem?_getD, e]
           obtain ⟨y, hy⟩ : ∃ y : List UInt8, y = (L.getD j (0, [])).2 := ⟨_, rfl⟩
           rw [hD, ← hy] at hst
           obtain ⟨j', hj'⟩ : ∃ j', j' = j + 1 := ⟨_, rfl⟩
           refine ⟨⟨(j', xa, xs, xp, xr, y), by omega, fun m hm' => ?_, by rw [hj', hst]⟩, ?_, show L.length - j' < L.length - j by omega⟩
           · by_cases e : m = j
             · subst e; exact hne
             · exact h0 m (by omega)
           cbv
           subst hA
           simp [-List.getD_eq_getElem?_getD, sS]
           first
             | done
             | exact ⟨(w64 (by omega)).trans (by omega), hy.symm⟩
             | exact (w64 (by omega)).trans (by omega)
             | trace_state)
        | (have e : ¬(L.getD j (0, [])).1 = 2 ∧ ¬(L.getD j (0, [])).1 = 4 ∧ ¬(L.getD j (0, [])).1 = 11 ∧ ¬(L.getD j (0, [])).1 = 37 ∧ ¬(L.getD j (0, [])).1 = 39 := by (clear h0 hst hx; subst hA; simp [-List.getD_eq_getElem?_getD, sS] at *; omega)
           have hD : d5s (xa, xs, xp, xr, xc) (L.getD j (0, [])) = (xa, xs, xp, xr, xc) := by unfold d5s; simp [-List.getD_eq_getElem?_getD, e]
           rw [hD] at hst
           obtain ⟨j', hj'⟩ : ∃ j', j' = j + 1 := ⟨_, rfl⟩
           refine ⟨⟨(j', xa, xs, xp, xr, xc), by omega, fun m hm' => ?_, by rw [hj', hst]⟩, ?_, show L.length - j' < L.length - j by omega⟩
           · by_cases e : m = j
             · subst e; exact hne
             · exact h0 m (by omega)
           cbv
           subst hA
           simp [-List.getD_eq_getElem?_getD, sS]
           first
             | done
             | exact ⟨(w64 (by omega)).trans (by omega), hy.symm⟩
             | exact (w64 (by omega)).trans (by omega)
             | trace_state)
        | trace_state
      · have hfs : fs L = fOf q := fs_ext hlen.symm (fun m hm' => h0 m (by omega))
        have hfin := d5_fin hfs
        have hjL : L.take j = L := by rw [List.take_of_length_le hjl]
        rw [hjL, hfin.1] at hx
        simp only [Prod.mk.injEq] at hx
        obtain ⟨e1, e2, e3, e4, e5⟩ := hx
        have hfs' : fs L = fOf (kdOf T) := hkq ▸ hfs
        have g2 := mG_len hm 2
        have g11 := mG_len hm 11
        have hn := u32_6 (z := (gVal (mG L 11) : Int)) ⟨by omega, by have := mG_11 hm hfs'; omega⟩
        rw [hn] at e2
        cases ha : dAsks q
        · have ha' : dAsks (kdOf T) = false := hkq ▸ ha
          have e := de_3 hm hfs' ha'
          have hF5 : ¬(fOf q).length = 5 := fun e => by have := asks_tl (fo5.1 e); rw [ha] at this; cases this
          rw [ha] at e1 e3 e5
          simp only [Bool.false_eq_true, if_false] at e1 e3 e5
          cbv
          repeat' (first | with_reducible exact True.intro | with_reducible exact dr_ok hA (by kernel_rfl) | with_reducible refine And.intro ?_ ?_ | (intro hc; cbv))
          all_goals first
            | (exfalso; clear h0; subst hA; simp [-List.getD_eq_getElem?_getD, sS] at *; omega)
            | skip
          all_goals (clear h0; subst hA; simp [-List.getD_eq_getElem?_getD, sS, ha] at *)
          all_goals first
            | done
            | omega
            | (simp [xK, xA, xS, xP, xR, xC, e, ha', *]; done)
            | (unfold xK; rw [if_pos e]; exact hkq)
            | trace_state
        · have ha' : dAsks (kdOf T) = true := hkq ▸ ha
          rw [ha] at e1 e3 e5
          simp only [if_true] at e1 e3 e5
          clear hfin
          cbv
          repeat' (first | with_reducible exact True.intro | with_reducible exact dr_ok hA (by kernel_rfl) | with_reducible refine And.intro ?_ ?_ | (intro hc; cbv))
          all_goals first
            | (exfalso; clear h0; subst hA; simp [-List.getD_eq_getElem?_getD, sS] at *; omega)
            | skip
          all_goals (clear h0; subst hA; simp [-List.getD_eq_getElem?_getD, sS, ha] at *)
          all_goals first
            | done
            | omega
            | (rw [e3]; omega)
            | (have e := de_4 hm hfs' ha' (by rw [← e3]; exact hc)
               have b := dE_bad (T := T) (L := L) (by rw [e]; decide)
               first | exact b.1.symm | exact b.2.1.symm | exact b.2.2.1.symm | exact b.2.2.2.1 | exact b.2.2.2.2.1 | exact b.2.2.2.2.2 | exact e.symm)
            | exact fun h => ⟨h, by have q5 := d5_five hkq hfs (by omega); rw [q5.2.2]; omega⟩
            | (have q5 := d5_five hkq hfs (by omega)
               rw [q5.2.1, q5.2.2] at hc
               have e := de_5 hm hfs' ha' (by rw [← e3]; assumption) q5.1 hc.2
               have b := dE_bad (T := T) (L := L) (by rw [e]; decide)
               first | exact b.1.symm | exact b.2.1.symm | exact b.2.2.1.symm | exact b.2.2.2.1 | exact b.2.2.2.2.1 | exact b.2.2.2.2.2 | exact e.symm)
            | (have e := de_6 hm hfs' ha' (by rw [← e3]; assumption) (fun t => by
                 have h5 : (fOf q).length = 5 := fo5.2 (hkq ▸ t)
                 have q5 := d5_five hkq hfs h5
                 have := hc (by omega)
                 rw [q5.2.1, q5.2.2] at this
                 exact this)
               first
                 | (unfold xK; rw [if_pos e]; exact hkq)
                 | (unfold xA; rw [if_pos e, if_pos ha']; exact e1)
                 | (unfold xP; rw [if_pos e, if_pos ha']; exact e3)
                 | (unfold xS; rw [if_pos e]; exact e2)
                 | (unfold xR; rw [if_pos e]; exact e4)
                 | (unfold xC; rw [if_pos e, if_pos ha']; exact e5)
                 | exact e.symm)
            | trace_state
end Go.Vd

set_option linter.unusedVariables false
set_option linter.unusedSimpArgs false
set_option maxRecDepth 100000
set_option maxHeartbeats 8000000
namespace Go.Vd
open Go.Proofs
noncomputable def c_rRead4 : Ct := fun A args => match args with
  | [.slc n 1 f] => some (some (A.tp fun _ => isRow eB 0 1 n f ∧ n ≤ 1000000), .tup [.agg [.str (A.ts fun _ => mRT (lstOf eB 0 1 n f)), rowS eI (0, []) 2 A fun _ => mRL (lstOf eB 0 1 n f)], .int .i64 (A.ti fun _ => mRe (lstOf eB 0 1 n f))])
  | _ => none
noncomputable def c_rRead69 : Ct := fun A args => match args with
  | [.agg [.str T, .slc n 2 f]] => some (some (A.tp fun _ => isRow eI (0, []) 2 n f ∧ n ≤ 1000000 ∧ ∀ i, ((lstOf eI (0, []) 2 n f).getD i (0, [])).2.length ≤ 1000000), .tup [.agg [.int .i64 (A.ti fun _ => xK T (lstOf eI (0, []) 2 n f)), .str (A.ts fun _ => xP T (lstOf eI (0, []) 2 n f)), .int .u64 (A.ti fun _ => xA T (lstOf eI (0, []) 2 n f)), .int .u32 (A.ti fun _ => xS T (lstOf eI (0, []) 2 n f)), .str (A.ts fun _ => xR T (lstOf eI (0, []) 2 n f)), .str (A.ts fun _ => xC T (lstOf eI (0, []) 2 n f))], .int .i64 (A.ti fun _ => dE T (lstOf eI (0, []) 2 n f))])
  | _ => none
noncomputable def gP7 : Ar → Pu := addC 45 c_rRead69 (addC 44 c_rRead4 (gO8))
theorem gP7_ok : PuOk Tryz.prog gl0 (gP7 std) := by
  refine addC_ok (addC_ok (gO8_ok) ⟨_, Tryz.func44, rfl, by decide⟩ ?_) ⟨_, Tryz.func45, rfl, by decide⟩ ?_
  · intro args p r h hp
    unfold c_rRead4 at h
    split at h <;> cases h
    exact good_sv (good_rRead4 _ (by rw [lstOf_length hp.1]; exact hp.2)) ⟨hp.1.sv, trivial⟩
  · intro args p r h hp
    unfold c_rRead69 at h
    split at h <;> cases h
    exact good_sv (good_rRead6 _ _ (by rw [lstOf_length hp.1]; exact hp.2.1) hp.2.2) ⟨⟨_, rfl, rfl, hp.1.sv, trivial⟩, trivial⟩
theorem kOk_iff {s k : Int} : kOk s k = true ↔ (s = 1 ∧ (k = 1 ∨ k = 3)) ∨ (s = 2 ∧ (k = 2 ∨ k = 7)) := by simp [kOk]
theorem good_rEvent (s : Int) (B : List UInt8) (hB : B.length ≤ 1000000) : GoodP Tryz.prog gl0 11 [.int .i64 s, rowS eB 0 1 std fun _ => B] (.tup [lEvA std s B, .bool (std.tb fun _ => lOk s B)]) := by
  refine fn_sound' (T := seatT) (G := gP7) (X := noX) seatT_ok gP7_ok noX_ok noI_ok mixed Tryz.func11 (.one) (fun A => [.int .i64 s, rowS eB 0 1 A fun _ => B]) (fun A => .tup [lEvA A s B, .bool (A.tb fun _ => lOk s B)]) fun A hA => ?_
  cbv
  repeat' (first | with_reducible exact True.intro | with_reducible exact dr_ok hA (by kernel_rfl) | with_reducible refine And.intro ?_ ?_ | (intro hc; cbv))
  all_goals (subst hA; simp [-List.getD_eq_getElem?_getD, std_add, std_sub, std_mul, std_quo, std_rem, std_band, std_bor, std_bxor, std_shl, std_shr, std_eq, std_ne, std_lt, std_le, std_conv, std_not, std_beq, std_bne, std_ite, std_want, std_and2, std_sadd, std_seq, std_sne, std_slt, std_sle, std_sgt, std_sge, std_slen, std_sget, std_scut, std_ofNat, std_toNat, std_nsub, std_nadd, std_lenOf, std_nz, std_nneg, std_inb, std_upto, std_slt63, std_grow, std_imp, std_impN, std_tr, std_tb, std_ti, std_ts, std_tn, std_tp, std_nmin, std_makes, std_room, std_zeros, std_nilq, std_notq, std_eqi, std_eqn, std_eqb, std_eqs, std_eqv, std_cat, std_lst, std_rset, std_rcopy, std_shift, std_eqr, std_strOf, std_bytesOf, std_isB, std_zOf, zOf_int, std_isI, isI_int, std_getL, std_nmul, std_sOf, sOf_str, std_isS, isS_str, strOf_lit, lstOf_lit inj_eB, lstOf_lit inj_eZ, lstOf_lit inj_eBs, lstOf_lit inj_eS, isRow_lit, isB_lit, isRow_nil, lstOf_nil inj_eB, lstOf_nil inj_eZ, lstOf_nil inj_eBs, lstOf_nil inj_eS, lstOf_lit inj_eI] at *)
  all_goals first
    | exact hB
    | (have h0 : ¬mRe B = 0 := by assumption
       have h := lOk_m (s := s) h0
       first
         | (rw [h.1]; done)
         | (rw [h.2]; done)
         | (rw [lI_no h.1]; done)
         | (rw [lS_no h.1]; done))
    | (have h0 : ¬dE (mRT B) (mRL B) = 0 := by assumption
       have h := lOk_e (s := s) h0
       first
         | (rw [h.1]; done)
         | (rw [h.2]; done)
         | (rw [lI_no h.1]; done)
         | (rw [lS_no h.1]; done))
    | (have h0 : mRe B = 0 := by assumption
       exact ⟨Nat.le_trans (mRL_len _) (by decide), fun i => Nat.le_trans (val_len (mR_good h0).1 i) (by decide)⟩)
    | (cases hk : kOk s (xK (mRT B) (mRL B))
       · have h : lOk s B = false := hk
         have h2 : lKd s B = 0 := by unfold lKd kKd; rw [hk]; rfl
         have q := mt kOk_iff.2 (fun e => Bool.noConfusion (hk.symm.trans e))
         first
           | (exfalso; omega)
           | (rw [h]; done)
           | (rw [h2]; done)
           | (rw [lI_no h]; done)
           | (rw [lS_no h]; done)
           | trace_state
       · have h : lOk s B = true := hk
         have h2 : lKd s B = if xK (mRT B) (mRL B) = 7 then 5 else xK (mRT B) (mRL B) := by unfold lKd kKd; rw [hk]; rfl
         have q := kOk_iff.1 hk
         first
           | (exfalso; omega)
           | (rw [h]; done)
           | (rw [h2]; split <;> omega)
           | (rw [lI_yes h]; done)
           | (rw [lS_yes h]; done)
           | trace_state)
    | trace_state
noncomputable def c_rEvent : Ct := fun A args => match args with
  | [.int .i64 s, .slc n 1 f] => some (some (A.tp fun _ => isRow eB 0 1 n f ∧ n ≤ 1000000), .tup [lEvT A s (fun _ => lstOf eB 0 1 n f), .bool (A.tb fun _ => lOk s (lstOf eB 0 1 n f))])
  | _ => none
def aNxA (A : Ar) (R : List UInt8) (br : Bool) (B : List UInt8) : SV := .agg [rowS eB 0 1 A fun _ => (nNx R br B).rest, .bool (A.tb fun _ => (nNx R br B).br), rowS eB 0 1 A fun _ => (nNx R br B).left, rowS eB 0 1 A fun _ => (nNx R br B).fr, .int .i64 (A.ti fun _ => (nNx R br B).e)]
theorem good_rNext (br : Bool) (R B : List UInt8) (hR : R.length ≤ 10000) (hB : B.length ≤ 10000) : GoodP Tryz.prog gl0 13 [sR std (fun _ => R) br, rowS eB 0 1 std fun _ => B] (aNxA std R br B) := by
  refine fn_sound' (T := seatT) (G := gf4) (X := noX) seatT_ok gf4_ok noX_ok noI_ok mixed Tryz.func13 (.none) (fun A => [sR A (fun _ => R) br, rowS eB 0 1 A fun _ => B]) (fun A => aNxA A R br B) fun A hA => ?_
  cbv
  repeat' (first | with_reducible exact True.intro | with_reducible exact dr_ok hA (by kernel_rfl) | with_reducible refine And.intro ?_ ?_ | (intro hc; cbv))
  all_goals first
    | (fail_if_success (refine Exists.intro ?_ ?_)
       subst hA; simp [-List.getD_eq_getElem?_getD, std_add, std_sub, std_mul, std_quo, std_rem, std_band, std_bor, std_bxor, std_shl, std_shr, std_eq, std_ne, std_lt, std_le, std_conv, std_not, std_beq, std_bne, std_ite, std_want, std_and2, std_sadd, std_seq, std_sne, std_slt, std_sle, std_sgt, std_sge, std_slen, std_sget, std_scut, std_ofNat, std_toNat, std_nsub, std_nadd, std_lenOf, std_nz, std_nneg, std_inb, std_upto, std_slt63, std_grow, std_imp, std_impN, std_tr, std_tb, std_ti, std_ts, std_tn, std_tp, std_nmin, std_makes, std_room, std_zeros, std_nilq, std_notq, std_eqi, std_eqn, std_eqb, std_eqs, std_eqv, std_cat, std_lst, std_rset, std_rcopy, std_shift, std_eqr, std_strOf, std_bytesOf, std_isB, std_zOf, zOf_int, std_isI, isI_int, std_getL, std_nmul, std_sOf, sOf_str, std_isS, isS_str, strOf_lit, lstOf_lit inj_eB, lstOf_lit inj_eZ, lstOf_lit inj_eBs, lstOf_lit inj_eS, isRow_lit, isB_lit, isRow_nil, lstOf_nil inj_eB, lstOf_nil inj_eZ, lstOf_nil inj_eBs, lstOf_nil inj_eS] at *
       first
         | done
         | omega
         | (rw [nNx_bad (by assumption)]; first | done | rfl | exact (Reps.lit _).eqr)
         | (have hb : br = true := by assumption
            subst hb
            rw [nNx_br (by assumption)]; first | done | rfl | exact (Reps.lit _).eqr)
         | trace_state)
    | skip
  rename_i hf0
  have hok : fOk R false = true := by subst hA; subst hc; simpa [std_add, std_sub, std_mul, std_quo, std_rem, std_band, std_bor, std_bxor, std_shl, std_shr, std_eq, std_ne, std_lt, std_le, std_conv, std_not, std_beq, std_bne, std_ite, std_want, std_and2, std_sadd, std_seq, std_sne, std_slt, std_sle, std_sgt, std_sge, std_slen, std_sget, std_scut, std_ofNat, std_toNat, std_nsub, std_nadd, std_lenOf, std_nz, std_nneg, std_inb, std_upto, std_slt63, std_grow, std_imp, std_impN, std_tr, std_tb, std_ti, std_ts, std_tn, std_tp, std_nmin, std_makes, std_room, std_zeros, std_nilq, std_notq, std_eqi, std_eqn, std_eqb, std_eqs, std_eqv, std_cat, std_lst, std_rset, std_rcopy, std_shift, std_eqr, std_strOf, std_bytesOf, std_isB, std_zOf, zOf_int, std_isI, isI_int, std_getL, std_nmul, std_sOf, sOf_str, std_isS, isS_str, strOf_lit, lstOf_lit inj_eB, lstOf_lit inj_eZ, lstOf_lit inj_eBs, lstOf_lit inj_eS] using hf0
  subst hc
  clear hf0
  refine ⟨⟨{p : Nat × List UInt8 // p.1 ≤ B.length ∧ fOk p.2 false = true ∧ nGo p.2 (B.drop p.1) = nGo R B}, fun b p => [(5, .int .i64 (p.1.1 : Nat))], fun b p => [(0, .box 24 [rowS eB 0 1 A fun _ => p.1.2, .bool false])], fun p => B.length - p.1.1, true⟩, ⟨⟨(0, R), by omega, hok, rfl⟩, ?_⟩, ?_⟩
  · cbv
    subst hA
    simp [-List.getD_eq_getElem?_getD, std_add, std_sub, std_mul, std_quo, std_rem, std_band, std_bor, std_bxor, std_shl, std_shr, std_eq, std_ne, std_lt, std_le, std_conv, std_not, std_beq, std_bne, std_ite, std_want, std_and2, std_sadd, std_seq, std_sne, std_slt, std_sle, std_sgt, std_sge, std_slen, std_sget, std_scut, std_ofNat, std_toNat, std_nsub, std_nadd, std_lenOf, std_nz, std_nneg, std_inb, std_upto, std_slt63, std_grow, std_imp, std_impN, std_tr, std_tb, std_ti, std_ts, std_tn, std_tp, std_nmin, std_makes, std_room, std_zeros, std_nilq, std_notq, std_eqi, std_eqn, std_eqb, std_eqs, std_eqv, std_cat, std_lst, std_rset, std_rcopy, std_shift, std_eqr, std_strOf, std_bytesOf, std_isB, std_zOf, zOf_int, std_isI, isI_int, std_getL, std_nmul, std_sOf, sOf_str, std_isS, isS_str, strOf_lit, lstOf_lit inj_eB, lstOf_lit inj_eZ, lstOf_lit inj_eBs, lstOf_lit inj_eS, isRow_lit, isB_lit, isRow_nil, lstOf_nil inj_eB, lstOf_nil inj_eZ, lstOf_nil inj_eBs, lstOf_nil inj_eS]
  · rintro ⟨⟨i, S⟩, hi, hS, hG⟩
    simp only at hi hS hG
    have hlen := fOk_len hS
    have hN := nNx_go (B := B) hok
    rcases Nat.lt_or_ge i B.length with hlt | hge
    · have hw1 : IntKind.i64.wrap ((i : Int) + 1) = (i : Int) + 1 := w64 (by omega)
      have hb1 : 0 ≤ IntKind.i64.wrap ((i : Int) + 1) ∧ IntKind.i64.wrap ((i : Int) + 1) < (B.length : Int) + 1 := by rw [hw1]; constructor <;> omega
      have hwn : (IntKind.i64.wrap ((i : Int) + 1)).toNat = i + 1 := by rw [hw1]; omega
      have hr2 := Reps.shift' (Reps.lit (enc := eB) (d := 0) (k := 1) B) (i + 1) (by omega)
      have h3 := lstOf_eq inj_eB hr2
      have h4 : isRow eB 0 1 (B.length - (i + 1)) (fun k => rowF eB 0 std (fun _ => B) (i + 1 + k)) := ⟨_, hr2⟩
      have h1 := one_lst B hlt
      have h2 := one_row B hlt
      have hx := ng_cons (R := S) hlt
      rw [hx] at hG
      cbv
      repeat' (first | with_reducible exact True.intro | with_reducible exact dr_ok hA (by kernel_rfl) | with_reducible refine And.intro ?_ ?_ | (intro hc; cbv))
      all_goals first
        | (fail_if_success (refine Exists.intro ?_ ?_)
           subst hA
           simp [-List.getD_eq_getElem?_getD, std_add, std_sub, std_mul, std_quo, std_rem, std_band, std_bor, std_bxor, std_shl, std_shr, std_eq, std_ne, std_lt, std_le, std_conv, std_not, std_beq, std_bne, std_ite, std_want, std_and2, std_sadd, std_seq, std_sne, std_slt, std_sle, std_sgt, std_sge, std_slen, std_sget, std_scut, std_ofNat, std_toNat, std_nsub, std_nadd, std_lenOf, std_nz, std_nneg, std_inb, std_upto, std_slt63, std_grow, std_imp, std_impN, std_tr, std_tb, std_ti, std_ts, std_tn, std_tp, std_nmin, std_makes, std_room, std_zeros, std_nilq, std_notq, std_eqi, std_eqn, std_eqb, std_eqs, std_eqv, std_cat, std_lst, std_rset, std_rcopy, std_shift, std_eqr, std_strOf, std_bytesOf, std_isB, std_zOf, zOf_int, std_isI, isI_int, std_getL, std_nmul, std_sOf, sOf_str, std_isS, isS_str, strOf_lit, lstOf_lit inj_eB, lstOf_lit inj_eZ, lstOf_lit inj_eBs, lstOf_lit inj_eS, isRow_lit, isB_lit, isRow_nil, lstOf_nil inj_eB, lstOf_nil inj_eZ, lstOf_nil inj_eBs, lstOf_nil inj_eS, hwn, h1, h2, h3, h4] at *
           first
             | done
             | omega
             | (constructor <;> omega)
             | (have he : ¬(fFeed S false [B.getD i 0]).e = 0 := by assumption
                rw [hN, ← hG, nGo_err he]; first | done | rfl | exact (Reps.lit _).eqr)
             | (have he : (fFeed S false [B.getD i 0]).e = 0 := by assumption
                have ht : ¬(fFeed S false [B.getD i 0]).told = [] := fun e => absurd hc (by rw [e]; exact Nat.lt_irrefl 0)
                rw [hN, ← hG, nGo_told he ht]; first | done | rfl | exact (Reps.lit _).eqr | exact hr2.eqr)
             | exact hb1
             | exact ⟨hb1.1, hb1.2⟩
             | (have he : (fFeed S false [B.getD i 0]).e = 0 := by assumption
                have ht : ¬(fFeed S false [B.getD i 0]).told = [] := fun e => absurd hc (by rw [e]; exact Nat.lt_irrefl 0)
                rw [hN, ← hG, nGo_told he ht]
                simp only [List.length_drop]
                try exact eqr_of hr2 (by simp) rfl)
             | trace_state)
        | (have he : (fFeed S false [B.getD i 0]).e = 0 := by (clear hN hG hx; subst hA; simp [-List.getD_eq_getElem?_getD, std_add, std_sub, std_mul, std_quo, std_rem, std_band, std_bor, std_bxor, std_shl, std_shr, std_eq, std_ne, std_lt, std_le, std_conv, std_not, std_beq, std_bne, std_ite, std_want, std_and2, std_sadd, std_seq, std_sne, std_slt, std_sle, std_sgt, std_sge, std_slen, std_sget, std_scut, std_ofNat, std_toNat, std_nsub, std_nadd, std_lenOf, std_nz, std_nneg, std_inb, std_upto, std_slt63, std_grow, std_imp, std_impN, std_tr, std_tb, std_ti, std_ts, std_tn, std_tp, std_nmin, std_makes, std_room, std_zeros, std_nilq, std_notq, std_eqi, std_eqn, std_eqb, std_eqs, std_eqv, std_cat, std_lst, std_rset, std_rcopy, std_shift, std_eqr, std_strOf, std_bytesOf, std_isB, std_zOf, zOf_int, std_isI, isI_int, std_getL, std_nmul, std_sOf, sOf_str, std_isS, isS_str, strOf_lit, lstOf_lit inj_eB, lstOf_lit inj_eZ, lstOf_lit inj_eBs, lstOf_lit inj_eS, isRow_lit, isB_lit, isRow_nil, lstOf_nil inj_eB, lstOf_nil inj_eZ, lstOf_nil inj_eBs, lstOf_nil inj_eS, hwn, h1, h2, h3, h4] at *; assumption)
           have ht : (fFeed S false [B.getD i 0]).told = [] := by (clear hN hG hx; subst hA; simp [-List.getD_eq_getElem?_getD, std_add, std_sub, std_mul, std_quo, std_rem, std_band, std_bor, std_bxor, std_shl, std_shr, std_eq, std_ne, std_lt, std_le, std_conv, std_not, std_beq, std_bne, std_ite, std_want, std_and2, std_sadd, std_seq, std_sne, std_slt, std_sle, std_sgt, std_sge, std_slen, std_sget, std_scut, std_ofNat, std_toNat, std_nsub, std_nadd, std_lenOf, std_nz, std_nneg, std_inb, std_upto, std_slt63, std_grow, std_imp, std_impN, std_tr, std_tb, std_ti, std_ts, std_tn, std_tp, std_nmin, std_makes, std_room, std_zeros, std_nilq, std_notq, std_eqi, std_eqn, std_eqb, std_eqs, std_eqv, std_cat, std_lst, std_rset, std_rcopy, std_shift, std_eqr, std_strOf, std_bytesOf, std_isB, std_zOf, zOf_int, std_isI, isI_int, std_getL, std_nmul, std_sOf, sOf_str, std_isS, isS_str, strOf_lit, lstOf_lit inj_eB, lstOf_lit inj_eZ, lstOf_lit inj_eBs, lstOf_lit inj_eS, isRow_lit, isB_lit, isRow_nil, lstOf_nil inj_eB, lstOf_nil inj_eZ, lstOf_nil inj_eBs, lstOf_nil inj_eS, hwn, h1, h2, h3, h4] at *; (first | assumption | exact List.length_eq_zero_iff.1 (by omega) | trace_state))
           have hb := byte_br hS he
           have hg := nGo_on (B := B.drop (i + 1)) he ht
           rw [hG] at hg
           obtain ⟨i', hi'⟩ : ∃ i', i' = i + 1 := ⟨_, rfl⟩
           obtain ⟨S', hS'⟩ : ∃ S', S' = (fFeed S false [B.getD i 0]).rest := ⟨_, rfl⟩
           refine ⟨⟨(i', S'), by omega, by rw [hS']; exact hb.2, by rw [hS', hi']; exact hg.symm⟩, ?_, show B.length - i' < B.length - i by omega⟩
           cbv
           subst hA
           simp [-List.getD_eq_getElem?_getD, std_add, std_sub, std_mul, std_quo, std_rem, std_band, std_bor, std_bxor, std_shl, std_shr, std_eq, std_ne, std_lt, std_le, std_conv, std_not, std_beq, std_bne, std_ite, std_want, std_and2, std_sadd, std_seq, std_sne, std_slt, std_sle, std_sgt, std_sge, std_slen, std_sget, std_scut, std_ofNat, std_toNat, std_nsub, std_nadd, std_lenOf, std_nz, std_nneg, std_inb, std_upto, std_slt63, std_grow, std_imp, std_impN, std_tr, std_tb, std_ti, std_ts, std_tn, std_tp, std_nmin, std_makes, std_room, std_zeros, std_nilq, std_notq, std_eqi, std_eqn, std_eqb, std_eqs, std_eqv, std_cat, std_lst, std_rset, std_rcopy, std_shift, std_eqr, std_strOf, std_bytesOf, std_isB, std_zOf, zOf_int, std_isI, isI_int, std_getL, std_nmul, std_sOf, sOf_str, std_isS, isS_str, strOf_lit, lstOf_lit inj_eB, lstOf_lit inj_eZ, lstOf_lit inj_eBs, lstOf_lit inj_eS, isRow_lit, isB_lit, isRow_nil, lstOf_nil inj_eB, lstOf_nil inj_eZ, lstOf_nil inj_eBs, lstOf_nil inj_eS, hwn, h1, h2, h3, h4]
           first
             | exact ⟨hw1.trans (by omega), ⟨by rw [hS'], by rw [hS']; exact (Reps.lit _).eqr⟩, hb.1⟩
             | trace_state)
        | trace_state
    · have hie : i = B.length := by omega
      have hin : ¬i < B.length := by omega
      rw [hie, List.drop_length, nGo_nil] at hG
      cbv
      repeat' (first | with_reducible exact True.intro | with_reducible exact dr_ok hA (by kernel_rfl) | with_reducible refine And.intro ?_ ?_ | (intro hc; cbv))
      all_goals first
        | (subst hA
           simp [-List.getD_eq_getElem?_getD, std_add, std_sub, std_mul, std_quo, std_rem, std_band, std_bor, std_bxor, std_shl, std_shr, std_eq, std_ne, std_lt, std_le, std_conv, std_not, std_beq, std_bne, std_ite, std_want, std_and2, std_sadd, std_seq, std_sne, std_slt, std_sle, std_sgt, std_sge, std_slen, std_sget, std_scut, std_ofNat, std_toNat, std_nsub, std_nadd, std_lenOf, std_nz, std_nneg, std_inb, std_upto, std_slt63, std_grow, std_imp, std_impN, std_tr, std_tb, std_ti, std_ts, std_tn, std_tp, std_nmin, std_makes, std_room, std_zeros, std_nilq, std_notq, std_eqi, std_eqn, std_eqb, std_eqs, std_eqv, std_cat, std_lst, std_rset, std_rcopy, std_shift, std_eqr, std_strOf, std_bytesOf, std_isB, std_zOf, zOf_int, std_isI, isI_int, std_getL, std_nmul, std_sOf, sOf_str, std_isS, isS_str, strOf_lit, lstOf_lit inj_eB, lstOf_lit inj_eZ, lstOf_lit inj_eBs, lstOf_lit inj_eS, isRow_lit, isB_lit, isRow_nil, lstOf_nil inj_eB, lstOf_nil inj_eZ, lstOf_nil inj_eBs, lstOf_nil inj_eS] at *
           first
             | done
             | omega
             | exact absurd (by omega) hc
             | exact absurd (congrArg Nat.cast hie) (by assumption)
             | (rw [hN, ← hG]; first | done | rfl | exact (Reps.lit _).eqr)
             | trace_state)
        | trace_state
def aNxAT (A : Ar) (R : Unit → List UInt8) (br : Bool) (B : Unit → List UInt8) : SV := .agg [rowS eB 0 1 A fun _ => (nNx (R ()) br (B ())).rest, .bool (A.tb fun _ => (nNx (R ()) br (B ())).br), rowS eB 0 1 A fun _ => (nNx (R ()) br (B ())).left, rowS eB 0 1 A fun _ => (nNx (R ()) br (B ())).fr, .int .i64 (A.ti fun _ => (nNx (R ()) br (B ())).e)]
noncomputable def c_rNext : Ct := fun A args => match args with
  | [.agg [.slc n 1 f, .bool br], .slc m 1 g] => some (some (A.tp fun _ => (isRow eB 0 1 n f ∧ isRow eB 0 1 m g) ∧ n ≤ 10000 ∧ m ≤ 10000), aNxAT A (fun _ => lstOf eB 0 1 n f) br (fun _ => lstOf eB 0 1 m g))
  | _ => none
end Go.Vd

set_option linter.unusedVariables false
set_option linter.unusedSimpArgs false
set_option maxRecDepth 100000
set_option maxHeartbeats 8000000
namespace Go.Vd
open Go.Proofs
noncomputable def c_lAwake7 : Ct := fun A args => match args with
  | [] => some (none, .bool true)
  | _ => none
noncomputable def c_rEvent7 : Ct := fun A args => match args with
  | [.int .i64 s, .slc n 1 f] => some (some (A.tp fun _ => isRow eB 0 1 n f ∧ n ≤ 1000000), .tup [lEvT A s (fun _ => lstOf eB 0 1 n f), .bool (A.tb fun _ => lOk s (lstOf eB 0 1 n f))])
  | _ => none
noncomputable def c_rNext7 : Ct := fun A args => match args with
  | [.agg [.slc n 1 f, .bool br], .slc m 1 g] => some (some (A.tp fun _ => (isRow eB 0 1 n f ∧ isRow eB 0 1 m g) ∧ n ≤ 10000 ∧ m ≤ 10000), aNxAT A (fun _ => lstOf eB 0 1 n f) br (fun _ => lstOf eB 0 1 m g))
  | _ => none
noncomputable def c_fSame7 : Ct := fun A args => match args with
  | [.agg [.slc n 1 f, .bool br], .agg [.slc m 1 g, .bool bs]] => some (some (A.tp fun _ => isRow eB 0 1 n f ∧ isRow eB 0 1 m g), .bool (A.tb fun _ => decide (br = bs ∧ lstOf eB 0 1 n f = lstOf eB 0 1 m g)))
  | _ => none
noncomputable def gP8 : Ar → Pu := addC 9 c_lAwake7 (addC 11 c_rEvent7 (addC 13 c_rNext7 (addC 14 c_fSame7 (gP3))))
theorem gP8_ok : PuOk Tryz.prog gl0 (gP8 std) := by
  refine addC_ok (addC_ok (addC_ok (addC_ok (gP3_ok) ⟨_, Tryz.func14, rfl, by decide⟩ ?_) ⟨_, Tryz.func13, rfl, by decide⟩ ?_) ⟨_, Tryz.func11, rfl, by decide⟩ ?_) ⟨_, Tryz.func9, rfl, by decide⟩ ?_
  · intro args p r h hp
    unfold c_fSame7 at h
    split at h <;> cases h
    exact good_sv (good_fSame _ _ _ _) ⟨⟨_, rfl, hp.1.sv, rfl, trivial⟩, ⟨_, rfl, hp.2.sv, rfl, trivial⟩, trivial⟩
  · intro args p r h hp
    unfold c_rNext7 at h
    split at h <;> cases h
    exact good_sv (good_rNext _ _ _ (by rw [lstOf_length hp.1.1]; exact hp.2.1) (by rw [lstOf_length hp.1.2]; exact hp.2.2)) ⟨⟨_, rfl, hp.1.1.sv, rfl, trivial⟩, hp.1.2.sv, trivial⟩
  · intro args p r h hp
    unfold c_rEvent7 at h
    split at h <;> cases h
    exact good_sv (good_rEvent _ _ (by rw [lstOf_length hp.1]; exact hp.2)) ⟨rfl, hp.1.sv, trivial⟩
  · intro args p r h hp
    unfold c_lAwake7 at h
    split at h <;> cases h
    exact good_lAwake
theorem good_LineRight (s : Int) (br : Bool) (B R : List UInt8) : GoodP Tryz.prog gl0 3 [.int .i64 s, rowS eB 0 1 std fun _ => B, sR std (fun _ => R) br] (.bool true) := by
  refine fn_sound' (T := seatT) (G := gP8) (X := noX) seatT_ok gP8_ok noX_ok noI_ok mixed Tryz.func3 (.one) (fun A => [.int .i64 s, rowS eB 0 1 A fun _ => B, sR A (fun _ => R) br]) (fun A => .bool true) fun A hA => ?_
  cbv
  repeat' (first | with_reducible exact True.intro | with_reducible exact dr_ok hA (by kernel_rfl) | with_reducible refine And.intro ?_ ?_ | (intro hc; cbv))
  all_goals (subst hA; simp [-List.getD_eq_getElem?_getD, std_add, std_sub, std_mul, std_quo, std_rem, std_band, std_bor, std_bxor, std_shl, std_shr, std_eq, std_ne, std_lt, std_le, std_conv, std_not, std_beq, std_bne, std_ite, std_want, std_and2, std_sadd, std_seq, std_sne, std_slt, std_sle, std_sgt, std_sge, std_slen, std_sget, std_scut, std_ofNat, std_toNat, std_nsub, std_nadd, std_lenOf, std_nz, std_nneg, std_inb, std_upto, std_slt63, std_grow, std_imp, std_impN, std_tr, std_tb, std_ti, std_ts, std_tn, std_tp, std_nmin, std_makes, std_room, std_zeros, std_nilq, std_notq, std_eqi, std_eqn, std_eqb, std_eqs, std_eqv, std_cat, std_lst, std_rset, std_rcopy, std_shift, std_eqr, std_strOf, std_bytesOf, std_isB, std_zOf, zOf_int, std_isI, isI_int, std_getL, std_nmul, std_sOf, sOf_str, std_isS, isS_str, strOf_lit, lstOf_lit inj_eB, lstOf_lit inj_eZ, lstOf_lit inj_eBs, lstOf_lit inj_eS, isRow_lit, isB_lit, isRow_nil, lstOf_nil inj_eB, lstOf_nil inj_eZ, lstOf_nil inj_eBs, lstOf_nil inj_eS] at *)
  all_goals first
    | omega
    | exact ⟨by omega, by omega⟩
    | trace_state
end Go.Vd

set_option linter.unusedVariables false
namespace Go.Vd
open Go.Proofs Go.ChangeShapes Go.WideShapes Go.ChangeAt Go.RowKit Go.Joins Go.Deep Go.WideElems
theorem u16_wf {z : Int} (h : (Lit.int .u16 z).wf = true) : 0 ≤ z ∧ z < 65536 := by
  simp [Lit.wf] at h
  have e1 : IntKind.u16.min = 0 := by decide
  have e2 : IntKind.u16.max = 65535 := by decide
  rw [e1, e2] at h
  exact ⟨h.1, by omega⟩
section
variable {H : Type} {enc : TypeId × Value → H} {P : Program}
theorem open_eB_trod {W : World} {t e : TypeId} {v : Value} {fuel : Nat} {x : DataW H × List MemPlace} (ht : P.underlying t = some (.slice e)) (he : P.underlying e = some (.int .u8)) (hc : P.cellsOf e = 1)
    (h : DataW.trod enc P W 0 (fun _ => true) true fuel t [v] = some x) : ∃ L : List UInt8, L.length ≤ maxLen ∧ one v ∧ RelC W (fun _ => False) v (rowS eB 0 1 std fun _ => L) := by
  rcases open_ints ht he hc h with ⟨hcs, hx⟩ | ⟨a, len, cap, zs, hcs, _, hl, hm, hz, hx, hcell, hwz⟩
  · simp only [List.cons.injEq, and_true] at hcs
    subst hcs
    exact ⟨[], Nat.zero_le _, rfl, .slc none 0 0 1 _ (fun _ _ => undef) (Nat.le_refl _) (fun i j hi => absurd hi (by omega)) (fun h => absurd h (by omega)) (fun i j hi => absurd hi (by omega))⟩
  · simp only [List.cons.injEq, and_true] at hcs
    subst hcs
    simp only [if_true] at hz
    have hlen : ((zs.take len).map fun n => UInt8.ofNat n.toNat).length = len := by simp; omega
    refine ⟨(zs.take len).map fun n => UInt8.ofNat n.toNat, by rw [hlen]; omega, rfl, ?_⟩
    show RelC W (fun _ => False) _ (.slc ((zs.take len).map fun n => UInt8.ofNat n.toNat).length 1 (rowF eB 0 std fun _ => (zs.take len).map fun n => UInt8.ofNat n.toNat))
    rw [hlen]
    refine .slc (some a) len cap 1 _ (fun i _ => .int .u8 (zs.getD i 0)) hl (fun i j hi hj => ⟨a, rfl, ?_, rfl, fun h => h⟩) (fun h => ⟨a, rfl, ?_⟩) (fun i j hi hj => ?_)
    · rw [show i * 1 + j = i by omega]
      exact hcell i (by omega)
    · simpa [Addr.add] using World.cell?_spot (hcell 0 (by omega))
    · obtain rfl : j = 0 := by omega
      have hw := u8_wf (hwz (zs.getD i 0) (by rw [List.getD_eq_getElem?_getD, List.getElem?_eq_getElem (by omega)]; simp))
      have : (zs.getD i 0) = (((zs.take len).map fun n => UInt8.ofNat n.toNat).getD i 0).toNat := by
        rw [List.getD_eq_getElem?_getD, List.getD_eq_getElem?_getD, List.getElem?_map, List.getElem?_take_of_lt hi]
        rw [List.getD_eq_getElem?_getD] at hw
        rw [List.getElem?_eq_getElem (by omega)] at hw ⊢
        simp at hw ⊢
        omega
      show RelC W _ _ (SV.int .u8 _)
      rw [this]
      exact .int _ _
theorem array6 {α : Type} {cs : Array α} (h : cs.size = 6) : ∃ c0 c1 c2 c3 c4 c5, cs = #[c0, c1, c2, c3, c4, c5] := by
  obtain ⟨l⟩ := cs
  match l, h with
  | [c0, c1, c2, c3, c4, c5], _ => exact ⟨c0, c1, c2, c3, c4, c5, rfl⟩
theorem open_agg6 {W : World} {b0 base : Nat} {spare : Nat → Bool} {held : Bool} {r : Reach} {t : TypeId} {f0 f1 f2 f3 f4 f5 : Field} {v : Value} {d : DataW H} {p : List MemPlace} (hs : P.underlying t = some (.struct #[f0, f1, f2, f3, f4, f5])) (hone : oneCellFields P #[f0, f1, f2, f3, f4, f5] = true) (hC : P.cellsOf t = 6)
    (hv : Value.okWide P W r b0 t v) (h : DataW.Trod enc P W base spare held t v d p) :
    ∃ (v0 v1 v2 v3 v4 v5 : Value) (y0 y1 y2 y3 y4 y5 : DataW H × List MemPlace) (n : Nat), v = .agg #[v0, v1, v2, v3, v4, v5] ∧ d = .agg [y0.1, y1.1, y2.1, y3.1, y4.1, y5.1] ∧ p = y0.2 ++ (y1.2 ++ (y2.2 ++ (y3.2 ++ (y4.2 ++ y5.2)))) ∧
      DataW.trod enc P W base spare held n f0.type [v0] = some y0 ∧ DataW.trod enc P W base spare held n f1.type [v1] = some y1 ∧ DataW.trod enc P W base spare held n f2.type [v2] = some y2 ∧ DataW.trod enc P W base spare held n f3.type [v3] = some y3 ∧ DataW.trod enc P W base spare held n f4.type [v4] = some y4 ∧ DataW.trod enc P W base spare held n f5.type [v5] = some y5 := by
  obtain ⟨cs, rfl, hsz⟩ := okWide_struct hs hv
  obtain ⟨c0, c1, c2, c3, c4, c5, rfl⟩ := array6 (hsz.trans hC)
  obtain ⟨fuel, hf⟩ := h
  obtain ⟨xs, n, _, hx, hl, hlen, hf⟩ := DataW.trod_struct hs hf
  match xs, hlen with
  | [y0, y1, y2, y3, y4, y5], _ =>
    obtain ⟨o0, k0⟩ := hone_of hone 0 f0 rfl
    have h0 := hf 0 f0 rfl
    obtain ⟨o1, k1⟩ := hone_of hone 1 f1 rfl
    have h1 := hf 1 f1 rfl
    obtain ⟨o2, k2⟩ := hone_of hone 2 f2 rfl
    have h2 := hf 2 f2 rfl
    obtain ⟨o3, k3⟩ := hone_of hone 3 f3 rfl
    have h3 := hf 3 f3 rfl
    obtain ⟨o4, k4⟩ := hone_of hone 4 f4 rfl
    have h4 := hf 4 f4 rfl
    obtain ⟨o5, k5⟩ := hone_of hone 5 f5 rfl
    have h5 := hf 5 f5 rfl
    simp only [Prod.mk.injEq] at hx
    exact ⟨c0, c1, c2, c3, c4, c5, y0, y1, y2, y3, y4, y5, n, rfl, by simpa using hx.1, by simpa using hx.2, by simpa [Value.cells, o0, k0] using h0, by simpa [Value.cells, o1, k1] using h1, by simpa [Value.cells, o2, k2] using h2, by simpa [Value.cells, o3, k3] using h3, by simpa [Value.cells, o4, k4] using h4, by simpa [Value.cells, o5, k5] using h5⟩
theorem rel_agg6 {w : World} {ρ : Nat → Value} {rw N : Nat → Prop} {u0 u1 u2 u3 u4 u5 : Value} {s0 s1 s2 s3 s4 s5 : SV} (h0 : one u0) (h1 : one u1) (h2 : one u2) (h3 : one u3) (h4 : one u4) (h5 : one u5)
    (r0 : Rel w ρ rw N u0 s0) (r1 : Rel w ρ rw N u1 s1) (r2 : Rel w ρ rw N u2 s2) (r3 : Rel w ρ rw N u3 s3) (r4 : Rel w ρ rw N u4 s4) (r5 : Rel w ρ rw N u5 s5) : Rel w ρ rw N (.agg #[u0, u1, u2, u3, u4, u5]) (.agg [s0, s1, s2, s3, s4, s5]) := by
  refine .agg _ _ rfl ?_ ?_
  · intro v hv
    simp at hv
    rcases hv with rfl | rfl | rfl | rfl | rfl | rfl <;> assumption
  · intro i v s hv hs
    match i with
    | 0 => simp at hv hs; subst hv hs; exact r0
    | 1 => simp at hv hs; subst hv hs; exact r1
    | 2 => simp at hv hs; subst hv hs; exact r2
    | 3 => simp at hv hs; subst hv hs; exact r3
    | 4 => simp at hv hs; subst hv hs; exact r4
    | 5 => simp at hv hs; subst hv hs; exact r5
    | n + 6 => simp at hv
theorem u32_wf {z : Int} (h : (Lit.int .u32 z).wf = true) : 0 ≤ z ∧ z < 4294967296 := by
  simp [Lit.wf] at h
  have e1 : IntKind.u32.min = 0 := by decide
  have e2 : IntKind.u32.max = 4294967295 := by decide
  rw [e1, e2] at h
  exact ⟨h.1, by omega⟩
end
end Go.Vd

set_option linter.unusedVariables false
namespace Go.Vd
theorem u64_wf {z : Int} (h : (Lit.int .u64 z).wf = true) : 0 ≤ z ∧ z < 18446744073709551616 := by
  simp [Lit.wf] at h
  have e1 : IntKind.u64.min = 0 := by decide
  have e2 : IntKind.u64.max = 18446744073709551615 := by decide
  rw [e1, e2] at h
  omega
theorem i64_wf {z : Int} (h : (Lit.int .i64 z).wf = true) : -9223372036854775808 ≤ z ∧ z < 9223372036854775808 := by
  simp [Lit.wf] at h
  have e1 : IntKind.i64.min = -9223372036854775808 := by decide
  have e2 : IntKind.i64.max = 9223372036854775807 := by decide
  (try rw [e1] at h)
  (try rw [e2] at h)
  omega
theorem i16_wf {z : Int} (h : (Lit.int .i16 z).wf = true) : -32768 ≤ z ∧ z < 32768 := by
  simp [Lit.wf] at h
  have e1 : IntKind.i16.min = -32768 := by decide
  have e2 : IntKind.i16.max = 32767 := by decide
  (try rw [e1] at h)
  (try rw [e2] at h)
  omega
section
open Go.Proofs Go.ChangeShapes Go.WideShapes Go.ChangeAt Go.RowKit Go.Joins
variable {H : Type} {enc : TypeId × Value → H} {P : Program} {w : World} {base : Nat} {spare : Nat → Bool} {held : Bool}
theorem trodAll_five {t0 t1 t2 t3 t4 : TypeId} {args : Array Value} {ds : List (DataW H)} {ps : List MemPlace} (h : DataW.TrodAll enc P w base spare held [t0, t1, t2, t3, t4] args.toList ds ps) :
    ∃ v0 v1 v2 v3 v4 d0 d1 d2 d3 d4 p0 p1 p2 p3 p4, args = #[v0, v1, v2, v3, v4] ∧ ds = [d0, d1, d2, d3, d4] ∧ ps = p0 ++ p1 ++ p2 ++ p3 ++ p4 ∧ DataW.Trod enc P w base spare held t0 v0 d0 p0 ∧ DataW.Trod enc P w base spare held t1 v1 d1 p1 ∧ DataW.Trod enc P w base spare held t2 v2 d2 p2 ∧ DataW.Trod enc P w base spare held t3 v3 d3 p3 ∧ DataW.Trod enc P w base spare held t4 v4 d4 p4 := by
  obtain ⟨v0, vs0, d0, ds0, p0, q0, hargs, rfl, rfl, hd0, r0⟩ := trodAll_cons h
  obtain ⟨v1, vs1, d1, ds1, p1, q1, rfl, rfl, rfl, hd1, r1⟩ := trodAll_cons r0
  obtain ⟨v2, vs2, d2, ds2, p2, q2, rfl, rfl, rfl, hd2, r2⟩ := trodAll_cons r1
  obtain ⟨v3, vs3, d3, ds3, p3, q3, rfl, rfl, rfl, hd3, r3⟩ := trodAll_cons r2
  obtain ⟨v4, vs4, d4, ds4, p4, q4, rfl, rfl, rfl, hd4, r4⟩ := trodAll_cons r3
  obtain ⟨rfl, rfl, rfl⟩ := trodAll_nil r4
  exact ⟨v0, v1, v2, v3, v4, d0, d1, d2, d3, d4, p0, p1, p2, p3, p4, by cases args; simp_all, rfl, by simp, hd0, hd1, hd2, hd3, hd4⟩
end
end Go.Vd

set_option linter.unusedVariables false
set_option maxRecDepth 100000
namespace Go.Vd
open Go.Proofs Go.ChangeShapes Go.WideShapes Go.ChangeAt Go.RowKit Go.Joins Go.Deep Go.WideElems
section
variable {H : Type} {enc : TypeId × Value → H} {P : Program} {w : World} {base : Nat} {sp : Nat → Bool} {held : Bool}
/-- A struct of three numbers, as it is read. -/
theorem trod3 {fuel : Nat} {e : TypeId} {f0 f1 f2 : Field} {cs : List Value} {a b c : Int} {p : List MemPlace} (hs : P.underlying e = some (.struct #[f0, f1, f2])) (hone : oneCellFields P #[f0, f1, f2] = true)
    (h0 : P.underlying f0.type = some (.int .i64)) (h1 : P.underlying f1.type = some (.int .i64)) (h2 : P.underlying f2.type = some (.int .i64)) (hC : P.cellsOf e = 3)
    (h : DataW.trod enc P w base sp held fuel e cs = some (.agg [.lit (.int .i64 a), .lit (.int .i64 b), .lit (.int .i64 c)], p)) : cs = [.int .i64 a, .int .i64 b, .int .i64 c] := by
  obtain ⟨xs, n, _, hx, hl, hlen, hf⟩ := DataW.trod_struct hs h
  rw [hC] at hl
  match xs, hlen with
  | [y0, y1, y2], _ =>
    match cs, hl with
    | [c0, c1, c2], _ =>
      obtain ⟨o0, k0⟩ := hone_of hone 0 f0 rfl
      have g0 := hf 0 f0 rfl
      obtain ⟨o1, k1⟩ := hone_of hone 1 f1 rfl
      have g1 := hf 1 f1 rfl
      obtain ⟨o2, k2⟩ := hone_of hone 2 f2 rfl
      have g2 := hf 2 f2 rfl
      rw [o0, k0] at g0
      rw [o1, k1] at g1
      rw [o2, k2] at g2
      obtain ⟨z0, e0, i0, _⟩ := DataW.trod_int h0 g0
      obtain ⟨z1, e1, i1, _⟩ := DataW.trod_int h1 g1
      obtain ⟨z2, e2, i2, _⟩ := DataW.trod_int h2 g2
      simp only [Prod.mk.injEq] at hx
      have hx1 := hx.1
      simp at e0 e1 e2
      subst i0 i1 i2
      simp at hx1
      obtain ⟨r0, r1, r2⟩ := hx1
      subst r0 r1 r2 e0 e1 e2
      rfl
/-- A row of such. -/
theorem cells_of_known {fuel n : Nat} {t e : TypeId} {f0 f1 f2 : Field} {cs : List Value} {L : List (Int × Int × Int)} {p : List MemPlace} (ht : P.underlying t = some (.array n e)) (hs : P.underlying e = some (.struct #[f0, f1, f2])) (hone : oneCellFields P #[f0, f1, f2] = true)
    (h0 : P.underlying f0.type = some (.int .i64)) (h1 : P.underlying f1.type = some (.int .i64)) (h2 : P.underlying f2.type = some (.int .i64)) (hC : P.cellsOf e = 3)
    (h : DataW.trod enc P w base sp held fuel t cs = some (.agg (L.map fun x => .agg [.lit (.int .i64 x.1), .lit (.int .i64 x.2.1), .lit (.int .i64 x.2.2)]), p)) :
    cs.length = P.cellsOf t ∧ L.length = n ∧ ∀ i x, L[i]? = some x → (cs.drop (i * 3)).take 3 = [.int .i64 x.1, .int .i64 x.2.1, .int .i64 x.2.2] := by
  obtain ⟨xs, m, _, hx, hl, hlen, hf⟩ := DataW.trod_array ht h
  simp only [Prod.mk.injEq] at hx
  have hx1 : L.map (fun x => (DataW.agg [.lit (.int .i64 x.1), .lit (.int .i64 x.2.1), .lit (.int .i64 x.2.2)] : DataW H)) = xs.map (·.1) := by simpa using hx.1
  have hLl : L.length = n := by
    have := congrArg List.length hx1
    simp at this
    omega
  refine ⟨hl, hLl, fun i x hi => ?_⟩
  have hin : i < n := by
    rw [← hLl]
    exact (List.getElem?_eq_some_iff.1 hi).1
  have g := hf i hin
  rw [hC] at g
  have hxi : xs[i]? = some xs[i] := List.getElem?_eq_getElem (by omega)
  rw [hxi] at g
  have h3 : (DataW.agg [.lit (.int .i64 x.1), .lit (.int .i64 x.2.1), .lit (.int .i64 x.2.2)] : DataW H) = xs[i].1 := by
    have := congrArg (·[i]?) hx1
    simp [hi, hxi] at this
    exact this
  have g' : DataW.trod enc P w base sp held m e ((cs.drop (i * 3)).take 3) = some (.agg [.lit (.int .i64 x.1), .lit (.int .i64 x.2.1), .lit (.int .i64 x.2.2)], xs[i].2) := by
    rw [g, h3]
  exact trod3 hs hone h0 h1 h2 hC g'
end
def knownT : List (Int × Int × Int) := [(2, 3, 19), (3, 1, 6), (4, 1, 12), (7, 1, 10), (11, 1, 6), (12, 1, 6), (37, 2, 12), (38, 2, 6), (39, 2, 2), (41, 2, 8), (44, 4, 25), (48, 5, 999), (49, 1, 3), (90, 1, 42), (120, 5, 999)]
theorem gKnown : Tryz.prog.globalNamed "paydesk/field.known" = some 1 := by kernel_rfl
/-- What is known of the fields' own variable. -/
def KnownIs (w : World) : Prop := ∃ cs, w.var? Tryz.prog "paydesk/field.known" = some cs ∧ cs.size = 45 ∧ ∀ j, j < 45 → cs[j]? = some (.int .i64 (knownL.getD j 0))
theorem known_at : ∀ j, j < 45 → ∃ x, knownT[j / 3]? = some x ∧ ([x.1, x.2.1, x.2.2] : List Int)[j % 3]? = some (knownL.getD j 0) := by
  intro j hj
  have h : ∀ j : Fin 45, ∃ x : Fin 15, knownT[j.val / 3]? = knownT[x.val]? ∧ ((knownT[x.val]?).bind fun x => ([x.1, x.2.1, x.2.2] : List Int)[j.val % 3]?) = some (knownL.getD j.val 0) := by decide +kernel
  obtain ⟨x, h1, h2⟩ := h ⟨j, hj⟩
  simp only at h1 h2
  rw [← h1] at h2
  obtain ⟨y, h3, h4⟩ := Option.bind_eq_some_iff.1 h2
  exact ⟨y, h3, h4⟩
theorem gTypes : Tryz.prog.globalNamed "paydesk/deal.types" = some 0 := by kernel_rfl
def TypesIs (w : World) : Prop := ∃ cs, w.var? Tryz.prog "paydesk/deal.types" = some cs ∧ cs.size = 7 ∧ ∀ j, j < 7 → cs[j]? = some (.string ⟨(typesL.getD j []).toArray⟩)
section
variable {H : Type} {enc : TypeId × Value → H} {P : Program} {w : World} {base : Nat} {sp : Nat → Bool} {held : Bool}
theorem cells_of_types {fuel n : Nat} {t e : TypeId} {cs : List Value} {L : List (List UInt8)} {p : List MemPlace} (ht : P.underlying t = some (.array n e)) (he : P.underlying e = some .string) (hC : P.cellsOf e = 1)
    (h : DataW.trod enc P w base sp held fuel t cs = some (.agg (L.map fun x => .lit (.string x)), p)) :
    cs.length = P.cellsOf t ∧ L.length = n ∧ ∀ (i : Nat) (x : List UInt8), L[i]? = some x → cs[i]? = some (.string ⟨x.toArray⟩) := by
  obtain ⟨xs, m, _, hx, hl, hlen, hf⟩ := DataW.trod_array ht h
  simp only [Prod.mk.injEq] at hx
  have hx1 : L.map (fun x => (DataW.lit (.string x) : DataW H)) = xs.map (·.1) := by simpa using hx.1
  have hLl : L.length = n := by
    have := congrArg List.length hx1
    simp at this
    omega
  refine ⟨hl, hLl, fun i x hi => ?_⟩
  have hin : i < n := by
    rw [← hLl]
    exact (List.getElem?_eq_some_iff.1 hi).1
  have g := hf i hin
  rw [hC] at g
  have hxi : xs[i]? = some xs[i] := List.getElem?_eq_getElem (by omega)
  rw [hxi] at g
  have h3 : (DataW.lit (.string x) : DataW H) = xs[i].1 := by
    have := congrArg (·[i]?) hx1
    simp [hi, hxi] at this
    exact this
  obtain ⟨s, e1, e2, _⟩ := DataW.trod_string he g
  have e3 : (DataW.lit (.string x) : DataW H) = .lit (.string s.data.toList) := h3.trans (congrArg Prod.fst e2)
  injection e3 with e3
  injection e3 with e3
  have e4 := congrArg (·[0]?) e1
  simp [List.getElem?_drop] at e4
  rw [e4, e3]
end
/-- What the tables give of the package's variables. -/
theorem gl0_all {w : World} (hh : Lib.TabIs Tryz.prog w "internal/strconv.uint64pow10" .u64 Lib.pow10Tab ∧ KnownIs w ∧ TypesIs w) : GlOk gl0 w fun _ => False := by
  obtain ⟨h, ⟨cs0, hv0, hz0, hc0⟩, cs1, hv1, hz1, hc1⟩ := hh
  have hne : ∀ g, g ≠ 1 → g ≠ 0 → g ≠ 2 → gl0 g = .val (.pointer (some ⟨g, 0, none⟩)) := fun g hg hg0 hg1 => by
    unfold gl0
    split
    · first | exact absurd rfl hg0 | exact absurd rfl hg | exact absurd rfl hg1
    · first | exact absurd rfl hg0 | exact absurd rfl hg | exact absurd rfl hg1
    · first | exact absurd rfl hg0 | exact absurd rfl hg | exact absurd rfl hg1
    · rfl
  refine ⟨fun g ρ N => ?_, fun g k f e => ?_⟩
  · by_cases hg : g = 0
    · subst hg
      show Rel w ρ (fun _ => False) N _ (.rop 7 fun j => .str (typesL.getD j []))
      refine .rop ⟨0, 0, none⟩ 7 _ (fun j => .string ⟨(typesL.getD j []).toArray⟩) rfl (fun j hj => ⟨?_, rfl, fun e => e⟩) (fun j _ => by have := RelC.str (w := w) (rw := fun _ => False) ⟨(typesL.getD j []).toArray⟩; simpa using this)
      rw [Lib.add_plain, Nat.zero_add, World.var?_cell gTypes hv1]
      exact hc1 j hj
    · by_cases hg0 : g = 1
      · subst hg0
        show Rel w ρ (fun _ => False) N _ (.rop 45 fun j => .int .i64 (knownL.getD j 0))
        refine .rop ⟨1, 0, none⟩ 45 _ (fun j => .int .i64 (knownL.getD j 0)) rfl (fun j hj => ⟨?_, rfl, fun e => e⟩) (fun j _ => .int _ _)
        rw [Lib.add_plain, Nat.zero_add, World.var?_cell gKnown hv0]
        exact hc0 j hj
      · by_cases hg1 : g = 2
        · subst hg1
          show Rel w ρ (fun _ => False) N _ (.rop 20 fun j => .int .u64 (Lib.pow10Tab.getD j 0))
          refine .rop ⟨2, 0, none⟩ 20 _ (fun j => .int .u64 (Lib.pow10Tab.getD j 0)) rfl (fun j hj => ⟨?_, rfl, fun e => e⟩) (fun j _ => .int _ _)
          rw [Lib.add_plain, Nat.zero_add]
          exact h.cell gTab j (by rw [Lib.pow10Tab_length]; exact hj)
        · rw [hne g hg0 hg hg1]; exact .val _
  · by_cases hg : g = 0
    · subst hg
      have e2 : (SV.rop 7 fun j => .str (typesL.getD j [])) = .rop k f := e
      cases e2
      refine ⟨?_, fun e => e⟩
      unfold World.var? at hv1
      rw [gTypes] at hv1
      simp only [Option.bind_some] at hv1
      split at hv1
      · rename_i cs t b hc
        injection hv1 with hv1
        exact ⟨cs, t, b, hc, by rw [hv1]; exact hz1⟩
      · cases hv1
    · by_cases hg0 : g = 1
      · subst hg0
        have e2 : (SV.rop 45 fun j => .int .i64 (knownL.getD j 0)) = .rop k f := e
        cases e2
        refine ⟨?_, fun e => e⟩
        unfold World.var? at hv0
        rw [gKnown] at hv0
        simp only [Option.bind_some] at hv0
        split at hv0
        · rename_i cs t b hc
          injection hv0 with hv0
          exact ⟨cs, t, b, hc, by rw [hv0]; exact hz0⟩
        · cases hv0
      · by_cases hg1 : g = 2
        · subst hg1
          have e2 : (SV.rop 20 fun j => .int .u64 (Lib.pow10Tab.getD j 0)) = .rop k f := e
          cases e2
          refine ⟨?_, fun e => e⟩
          unfold Lib.TabIs World.var? at h
          rw [gTab] at h
          simp only [Option.bind_some] at h
          split at h
          · rename_i cs t b hc
            injection h with h
            exact ⟨cs, t, b, hc, by rw [h]; simp [Lib.pow10Tab_length]⟩
          · cases h
        · rw [hne g hg0 hg hg1] at e; cases e
end Go.Vd
namespace Go.Proofs.YtakcggldilbilaaGreatDoor
open Go.ChangeShapes Go.WideShapes Go.ChangeAt Go.ChangeMaps Go.RowKit Go.Joins
def laidL : List (String × DataW Unit) := [("math/bits.deBruijn32tab", Rows.laid_math_bits_deBruijn32tab), ("math/bits.deBruijn64tab", Rows.laid_math_bits_deBruijn64tab), ("internal/strconv.uint64pow10", Rows.laid_internal_strconv_uint64pow10), ("paydesk/field.known", Rows.laid_paydesk_field_known), ("paydesk/deal.types", Rows.laid_paydesk_deal_types)]
theorem Tryz.own : ownKnob Tryz.prog.godebug = none := by kernel_rfl
theorem Tryz.laidOut : laidOutB Tryz.prog = true := by kernel_rfl
theorem tTab : (Tryz.prog.globals[2]?).map (·.type) = some 234 := by kernel_rfl
theorem cTab : Tryz.prog.cellsOf 234 = 20 := by kernel_rfl
theorem cTabE : Tryz.prog.cellsOf 26 = 1 := by kernel_rfl
theorem dTab : (Rows.laid_internal_strconv_uint64pow10 : DataW Unit) = Lib.tabData .u64 Lib.pow10Tab := by kernel_rfl
theorem tKn : (Tryz.prog.globals[1]?).map (·.type) = some 186 := by kernel_rfl
theorem cKn : Tryz.prog.cellsOf 186 = 45 := by kernel_rfl
theorem cKnE : Tryz.prog.cellsOf 152 = 3 := by kernel_rfl
theorem dKn : (Rows.laid_paydesk_field_known : DataW Unit) = .agg (Vd.knownT.map fun x => .agg [.lit (.int .i64 x.1), .lit (.int .i64 x.2.1), .lit (.int .i64 x.2.2)]) := by kernel_rfl
theorem tTy : (Tryz.prog.globals[0]?).map (·.type) = some 102 := by kernel_rfl
theorem cTy : Tryz.prog.cellsOf 102 = 7 := by kernel_rfl
theorem cTyE : Tryz.prog.cellsOf 9 = 1 := by kernel_rfl
theorem dTy : (Rows.laid_paydesk_deal_types : DataW Unit) = .agg (Vd.typesL.map fun x => .lit (.string x)) := by kernel_rfl
theorem door_met (os : Os) (args : Array Value) : laidMetH Tryz.prog laidL ((World.doorLaid Tryz.prog 2000 os).forCall (fun _ _ => 0) ⟨#[], args, []⟩).memory :=
  laidMetH_of_parts3 (fuel := 8) (laidMet_of_run' 8 (by kernel_rfl) (by kernel_rfl)) (by kernel_rfl) (by kernel_rfl)
theorem laid_known {W : World} (h : laidMetH Tryz.prog laidL W) : Lib.TabIs Tryz.prog W "internal/strconv.uint64pow10" .u64 Lib.pow10Tab ∧ Vd.KnownIs W ∧ Vd.TypesIs W := by
  rw [MakeChecks.laidMetH_plain _ _ _ (by kernel_rfl)] at h
  obtain ⟨ps, ⟨_, _, _, _, _, _, _, _, _, _, ⟨_, _, _, _, _, _, _, _, _, _, ⟨g2, t2, cs2, f2, p2, q2, hg2, ht2, hv2, hd2, ⟨g3, t3, cs3, f3, p3, q3, hg3, ht3, hv3, hd3, ⟨g4, t4, cs4, f4, p4, q4, hg4, ht4, hv4, hd4, _, _⟩, _⟩, _⟩, _⟩, _⟩, _, _⟩ := h
  refine ⟨?_, ?_, ?_⟩
  · obtain rfl := Option.some.inj (Vd.gTab.symm.trans hg2)
    obtain rfl := Option.some.inj (tTab.symm.trans ht2)
    unfold Lib.TabIs
    rw [dTab] at hd2
    rw [hv2, ← Lib.cells_of_tab Tryz.underlying234 Tryz.underlying26 cTabE cTab hd2]
  · obtain rfl := Option.some.inj (Vd.gKnown.symm.trans hg3)
    obtain rfl := Option.some.inj (tKn.symm.trans ht3)
    rw [dKn] at hd3
    obtain ⟨hl, hn, hx⟩ := Vd.cells_of_known Tryz.underlying186 Tryz.underlying152 (by kernel_rfl) Tryz.underlying3 Tryz.underlying3 Tryz.underlying3 cKnE hd3
    rw [cKn] at hl
    refine ⟨cs3, hv3, by simpa using hl, fun j hj => ?_⟩
    obtain ⟨x, h1, h2⟩ := Vd.known_at j hj
    have h3 := hx _ x h1
    have h4 := congrArg (·[j % 3]?) h3

    rw [List.getElem?_take_of_lt (by omega), List.getElem?_drop, show j / 3 * 3 + j % 3 = j by omega] at h4
    rw [← Array.getElem?_toList, h4]
    have h5 := congrArg (Option.map (Value.int .i64)) h2
    rw [← List.getElem?_map] at h5
    exact h5
  · obtain rfl := Option.some.inj (Vd.gTypes.symm.trans hg4)
    obtain rfl := Option.some.inj (tTy.symm.trans ht4)
    rw [dTy] at hd4
    obtain ⟨hl, hn, hx⟩ := Vd.cells_of_types Tryz.underlying102 Tryz.underlying9 cTyE hd4
    rw [cTy] at hl
    refine ⟨cs4, hv4, by simpa using hl, fun j hj => ?_⟩
    rw [← Array.getElem?_toList]
    refine hx j _ ?_
    rw [List.getD_eq_getElem?_getD, List.getElem?_eq_getElem (by exact hj)]
    rfl
end Go.Proofs.YtakcggldilbilaaGreatDoor

