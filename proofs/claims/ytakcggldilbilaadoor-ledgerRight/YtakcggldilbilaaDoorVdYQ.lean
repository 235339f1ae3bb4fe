/- Proved: for every input paydesklaw15.LedgerRight returns true, without a panic, and its input reads behind the call as it read before. No condition. -/
import Derived.Test.YtakcggldilbilaaDoorRows
import Derived.Test.YtakcggldilbilaaDoorCards
import Derived.Test.YtakcggldilbilaaDoorTie
import Derived.Test.YtakcggldilbilaaDoorVdWf7
set_option linter.unusedVariables false
set_option maxRecDepth 100000
namespace Go.Proofs.YtakcggldilbilaaDoor
open Go.ChangeShapes Go.WideShapes Go.ChangeAt Go.ChangeMaps Go.RowKit Go.Joins

theorem Tryd.cellsD : Tryd.prog.cellsOf 52 = 6 := by kernel_rfl
theorem Tryd.cellsK : Tryd.prog.cellsOf 66 = 2 := by kernel_rfl
theorem Tryd.cellsLe : Tryd.prog.cellsOf 88 = 1 := by kernel_rfl
theorem Tryd.cellsHo : Tryd.prog.cellsOf 91 = 4 := by kernel_rfl
set_option maxRecDepth 100000 in
theorem ledgerRight_lifted (os : Os) (started : os.Started) (H : Type) (enc : TypeId × Value → H) :
    ReturnsInHanded {} Tryd.checked os 12 .any (fun w args => (Rows.ledgerRightSpec.pre enc Tryd.prog Tryd.f12 [] false w args ∧ laidMetH Tryd.prog laidL w) ∧ sizedMet enc Tryd.prog Tryd.f12 (OpenSpec.ofChange Rows.ledgerRightSpec) false w args)
      (Rows.ledgerRightSpec.post enc Tryd.prog Tryd.f12 false true false false) := by
  refine returnsInHanded_of_change_and (C := Tryd.checked) (X := fun w _ => laidMetH Tryd.prog laidL w) (fun _ _ _ hh h => h.of_heap hh) Tryd.own started (by kernel_rfl) Tryd.func12
    (ChangeSpec.witness_shaped (enc := enc) (C := Tryd.checked) (os := os) (X := fun w _ => laidMetH Tryd.prog laidL w) false (World.doorLaid Tryd.prog 2000 os) #[.agg #[.slice none 0 0], .agg #[.int .i64 0, .string ⟨#[]⟩, .int .u64 0, .int .u32 0, .string ⟨#[]⟩, .string ⟨#[]⟩], .bool false, .agg #[.int .u32 0, .string ⟨#[]⟩]] 8 rfl (World.shaped_of_RefB (by kernel_rfl) (by kernel_rfl)) (by kernel_rfl) (by kernel_rfl) (by kernel_rfl) (door_met os _)) ?_
  intro W base args ds gs before hval0 hW _ _ hL _
  have hval : ∀ (j : Nat) t v, Tryd.f12.params[j]? = some t → args[j]? = some v → Value.okWide Tryd.prog W .any base t v := hval0
  have hW' := hW
  obtain ⟨p, q, hA0, hV, rfl, hfz, hnd⟩ := hW
  have hA : DataW.TrodAll enc Tryd.prog W 0 (fun _ => true) true Tryd.f12.params.toList args.toList ds p := hA0
  rw [Tryd.params12] at hA hval
  obtain ⟨v0, v1, v2, v3, d0, d1, d2, d3, p0, p1, p2, p3, rfl, rfl, rfl, h0, h1, h2, h3⟩ := trodAll_four hA
  obtain ⟨rfl, rfl⟩ := trodVars_none hV
  obtain ⟨cb0, yb0, m0, rfl, rfl, rfl, hyb0⟩ := Vd.open_agg1 Tryd.underlying88 (by kernel_rfl) Tryd.cellsLe (hval 0 88 v0 rfl rfl) h0
  obtain ⟨L0, hL0, hB0, hone0, hr0⟩ := Vd.open_hds_trod Tryd.underlying86 Tryd.underlying91 Tryd.cellsHo rfl (by kernel_rfl) Tryd.underlying66 (by kernel_rfl) rfl (by kernel_rfl) rfl (by kernel_rfl) Tryd.underlying50 Tryd.underlying9 Tryd.underlying49 Tryd.underlying3 hyb0
  obtain ⟨c0, c1, c2, c3, c4, c5, y0, y1, y2, y3, y4, y5, m, rfl, rfl, rfl, hy0, hy1, hy2, hy3, hy4, hy5⟩ := Vd.open_agg6 Tryd.underlying52 (by kernel_rfl) Tryd.cellsD (hval 1 52 v1 rfl rfl) h1
  obtain ⟨da1, e0, rfl, wa1⟩ := DataW.trod_int Tryd.underlying3 hy0
  obtain ⟨dp1, e1, rfl, wp1⟩ := DataW.trod_string Tryd.underlying9 hy1
  obtain ⟨dc1, e2, rfl, wc1⟩ := DataW.trod_int Tryd.underlying49 hy2
  obtain ⟨ds1, e3, rfl, ws1⟩ := DataW.trod_int Tryd.underlying50 hy3
  obtain ⟨dr1, e4, rfl, wr1⟩ := DataW.trod_string Tryd.underlying9 hy4
  obtain ⟨de1, e5, rfl, we1⟩ := DataW.trod_string Tryd.underlying9 hy5
  simp at e0 e1 e2 e3 e4 e5
  subst e0 e1 e2 e3 e4 e5
  obtain ⟨b2, rfl, rfl, rfl⟩ := open_bool Tryd.underlying4 (hval 2 4 v2 rfl rfl) h2
  obtain ⟨c0, c1, y0, y1, m, rfl, rfl, rfl, hy0, hy1⟩ := open_agg2 Tryd.underlying66 (by kernel_rfl) Tryd.cellsK (hval 3 66 v3 rfl rfl) h3
  obtain ⟨ks3, e0, rfl, wk3⟩ := DataW.trod_int Tryd.underlying50 hy0
  obtain ⟨kr3, e1, rfl, _⟩ := DataW.trod_string Tryd.underlying9 hy1
  simp at e0 e1
  subst e0 e1
  clear hA0 hval0
  refine (Vd.good_bool (Vd.good_LedgerRight L0 da1 dc1 ds1 ks3 dp1.data.toList dr1.data.toList de1.data.toList kr3.data.toList b2 hL0 (fun e he => by obtain ⟨i, hi, rfl⟩ := List.getElem_of_mem he; have h0 := hB0 i; rw [List.getD_eq_getElem?_getD, List.getElem?_eq_getElem hi] at h0; exact h0)) (w := W) (vs := [.agg #[cb0], .agg #[.int .i64 da1, .string dp1, .int .u64 dc1, .int .u32 ds1, .string dr1, .string de1], .bool b2, .agg #[.int .u32 ks3, .string kr3]]) (Vd.gl0_kt (laid_known hL)) ⟨Vd.rel_agg1 hone0 hr0.rel, Vd.rel_agg6 rfl rfl rfl rfl rfl rfl (.int _ _) (.str _) (.int _ _) (.int _ _) (.str _) (.str _), .bool _, Vd.rel_agg2 rfl rfl (.int _ _) (.str _), trivial⟩).mono fun e W' he => ?_
  obtain ⟨rfl, hb⟩ := he
  refine ⟨_, rfl, Vd.post_below Tryd.laidOut ?_ rfl hW' (fun _ _ _ => trodAll_mk1 (shut_bool Tryd.underlying4 _)) rfl rfl hb.below⟩
  rw [Tryd.params12]
  intro t ht
  simp at ht
  rcases ht with rfl | rfl | rfl | rfl <;> exact ⟨by kernel_rfl, of_decide_eq_true (by kernel_rfl)⟩

theorem ledgerRight_said : Rows.LedgerRightSaid :=
  OpenClaim.holds_of_wide 12 Tryd.f12 rfl rfl rfl rfl rfl rfl rfl ⟨rfl, rfl, rfl, rfl, rfl⟩ rfl rfl rfl rfl rfl (by kernel_rfl) Tryd.func12 (by kernel_rfl)
    (of_decide_eq_true (by kernel_rfl)) (by unfold Func.isWrapper; first | (rw [if_pos (by decide +kernel)]; kernel_rfl) | (rw [if_neg (by decide +kernel)]; exact ⟨rfl, rfl⟩))
    (fun os started H enc _ => ledgerRight_lifted os started H enc)
theorem ledgerRight_holds : Rows.LedgerRightCardSaid :=
  Claim7.holds_tied_plain_at .later [] [.data, .data] true (true, "dc0431b15012b6d50bf50cbd94f188abb9b55426d05de18bf82d675e7cb67dbd") false
    ledgerRight_said (fun _ h => by cases h) (by kernel_rfl) (fun _ h => by cases h) ledgerRight_row_tie rfl ⟨rfl, rfl⟩ (by kernel_rfl) rfl
    (fun f fn hf hfn => by
      obtain rfl : f = 12 := Option.some.inj ((show Tryd.prog.funcNamed "paydesk/paydesklaw15.LedgerRight" = some 12 by kernel_rfl).symm.trans hf) |>.symm
      obtain rfl : fn = Tryd.f12 := (Option.some.inj (Tryd.func12.symm.trans hfn)).symm
      exact ⟨by kernel_rfl, fun j t ht => by
        rw [Tryd.params12] at ht
        rcases j with _ | _ | _ | _ | j
        · obtain rfl : 88 = t := by simpa using ht
          exact (show Tryd.prog.wantsStandIn 88 = false by kernel_rfl)
        · obtain rfl : 52 = t := by simpa using ht
          exact (show Tryd.prog.wantsStandIn 52 = false by kernel_rfl)
        · obtain rfl : 4 = t := by simpa using ht
          exact (show Tryd.prog.wantsStandIn 4 = false by kernel_rfl)
        · obtain rfl : 66 = t := by simpa using ht
          exact (show Tryd.prog.wantsStandIn 66 = false by kernel_rfl)
        · simp at ht⟩)
    (by kernel_rfl)
end Go.Proofs.YtakcggldilbilaaDoor

