/- Proved: for every input paydesklaw15.LedgerOnce returns true, without a panic, and its input reads behind the call as it read before. No condition. -/
import Derived.Test.YtakcggldilbilaaDoorRows
import Derived.Test.YtakcggldilbilaaDoorCards
import Derived.Test.YtakcggldilbilaaDoorTie
import Derived.Test.YtakcggldilbilaaDoorVdRow4
import Derived.Test.YtakcggldilbilaaDoorVdWf7
set_option linter.unusedVariables false
set_option maxRecDepth 100000
namespace Go.Proofs.YtakcggldilbilaaDoor
open Go.ChangeShapes Go.WideShapes Go.ChangeAt Go.ChangeMaps Go.RowKit Go.Joins

theorem Tryd.cellsD : Tryd.prog.cellsOf 52 = 6 := by kernel_rfl
theorem Tryd.cellsLe : Tryd.prog.cellsOf 88 = 1 := by kernel_rfl
theorem Tryd.cellsHo : Tryd.prog.cellsOf 91 = 4 := by kernel_rfl
theorem Tryd.cellsBo : Tryd.prog.cellsOf 4 = 1 := by kernel_rfl
set_option maxRecDepth 100000 in
theorem ledgerOnce_lifted (os : Os) (started : os.Started) (H : Type) (enc : TypeId × Value → H) :
    ReturnsInHanded {} Tryd.checked os 13 .any (fun w args => (Rows.ledgerOnceSpec.pre enc Tryd.prog Tryd.f13 [] false w args ∧ laidMetH Tryd.prog laidL w) ∧ sizedMet enc Tryd.prog Tryd.f13 (OpenSpec.ofChange Rows.ledgerOnceSpec) false w args)
      (Rows.ledgerOnceSpec.post enc Tryd.prog Tryd.f13 false true false false) := by
  refine returnsInHanded_of_change_and (C := Tryd.checked) (X := fun w _ => laidMetH Tryd.prog laidL w) (fun _ _ _ hh h => h.of_heap hh) Tryd.own started (by kernel_rfl) Tryd.func13
    (ChangeSpec.witness_shaped (enc := enc) (C := Tryd.checked) (os := os) (X := fun w _ => laidMetH Tryd.prog laidL w) false (World.doorLaid Tryd.prog 2000 os) #[.agg #[.slice none 0 0], .slice none 0 0, .slice none 0 0] 8 rfl (World.shaped_of_RefB (by kernel_rfl) (by kernel_rfl)) (by kernel_rfl) (by kernel_rfl) (by kernel_rfl) (door_met os _)) ?_
  intro W base args ds gs before hval0 hW _ _ hL _
  have hval : ∀ (j : Nat) t v, Tryd.f13.params[j]? = some t → args[j]? = some v → Value.okWide Tryd.prog W .any base t v := hval0
  have hW' := hW
  obtain ⟨p, q, hA0, hV, rfl, hfz, hnd⟩ := hW
  have hA : DataW.TrodAll enc Tryd.prog W 0 (fun _ => true) true Tryd.f13.params.toList args.toList ds p := hA0
  rw [Tryd.params13] at hA hval
  obtain ⟨v0, v1, v2, d0, d1, d2, p0, p1, p2, rfl, rfl, rfl, h0, h1, h2⟩ := trodAll_three hA
  obtain ⟨rfl, rfl⟩ := trodVars_none hV
  obtain ⟨cb0, yb0, m0, rfl, rfl, rfl, hyb0⟩ := Vd.open_agg1 Tryd.underlying88 (by kernel_rfl) Tryd.cellsLe (hval 0 88 v0 rfl rfl) h0
  obtain ⟨L0, hL0, hB0, hone0, hr0⟩ := Vd.open_hds_trod Tryd.underlying86 Tryd.underlying91 Tryd.cellsHo rfl (by kernel_rfl) Tryd.underlying66 (by kernel_rfl) rfl (by kernel_rfl) rfl (by kernel_rfl) Tryd.underlying50 Tryd.underlying9 Tryd.underlying49 Tryd.underlying3 hyb0
  obtain ⟨L1, hL1, hB1, hr1⟩ := Vd.open_dls_rel (ρ := fun _ => undef) (N := fun _ => False) Tryd.underlying106 Tryd.underlying52 Tryd.cellsD rfl (by kernel_rfl) rfl (by kernel_rfl) rfl (by kernel_rfl) rfl (by kernel_rfl) rfl (by kernel_rfl) rfl (by kernel_rfl) Tryd.underlying3 Tryd.underlying9 Tryd.underlying49 Tryd.underlying50 Tryd.underlying9 Tryd.underlying9 (hval 1 106 v1 rfl rfl) h1
  obtain ⟨L2, hL2, hr2⟩ := Vd.open_bos_rel (ρ := fun _ => undef) (N := fun _ => False) Tryd.underlying107 Tryd.underlying4 Tryd.cellsBo (hval 2 107 v2 rfl rfl) h2
  clear hA0 hval0
  refine (Vd.good_bool (Vd.good_LedgerOnce L0 L1 L2 hL0 hL1 hL2) (w := W) (vs := [.agg #[cb0], v1, v2]) (Vd.gl0_kt (laid_known hL)) ⟨Vd.rel_agg1 hone0 hr0.rel, hr1, hr2, trivial⟩).mono fun e W' he => ?_
  obtain ⟨rfl, hb⟩ := he
  refine ⟨_, rfl, Vd.post_below Tryd.laidOut ?_ rfl hW' (fun _ _ _ => trodAll_mk1 (shut_bool Tryd.underlying4 _)) rfl rfl hb.below⟩
  rw [Tryd.params13]
  intro t ht
  simp at ht
  rcases ht with rfl | rfl | rfl <;> exact ⟨by kernel_rfl, of_decide_eq_true (by kernel_rfl)⟩

theorem ledgerOnce_said : Rows.LedgerOnceSaid :=
  OpenClaim.holds_of_wide 13 Tryd.f13 rfl rfl rfl rfl rfl rfl rfl ⟨rfl, rfl, rfl, rfl, rfl⟩ rfl rfl rfl rfl rfl (by kernel_rfl) Tryd.func13 (by kernel_rfl)
    (of_decide_eq_true (by kernel_rfl)) (by unfold Func.isWrapper; first | (rw [if_pos (by decide +kernel)]; kernel_rfl) | (rw [if_neg (by decide +kernel)]; exact ⟨rfl, rfl⟩))
    (fun os started H enc _ => ledgerOnce_lifted os started H enc)
theorem ledgerOnce_holds : Rows.LedgerOnceCardSaid :=
  Claim7.holds_tied_plain_at .later [] [.data, .data] true (true, "dc0431b15012b6d50bf50cbd94f188abb9b55426d05de18bf82d675e7cb67dbd") false
    ledgerOnce_said (fun _ h => by cases h) (by kernel_rfl) (fun _ h => by cases h) ledgerOnce_row_tie rfl ⟨rfl, rfl⟩ (by kernel_rfl) rfl
    (fun f fn hf hfn => by
      obtain rfl : f = 13 := Option.some.inj ((show Tryd.prog.funcNamed "paydesk/paydesklaw15.LedgerOnce" = some 13 by kernel_rfl).symm.trans hf) |>.symm
      obtain rfl : fn = Tryd.f13 := (Option.some.inj (Tryd.func13.symm.trans hfn)).symm
      exact ⟨by kernel_rfl, fun j t ht => by
        rw [Tryd.params13] at ht
        rcases j with _ | _ | _ | j
        · obtain rfl : 88 = t := by simpa using ht
          exact (show Tryd.prog.wantsStandIn 88 = false by kernel_rfl)
        · obtain rfl : 106 = t := by simpa using ht
          exact (show Tryd.prog.wantsStandIn 106 = false by kernel_rfl)
        · obtain rfl : 107 = t := by simpa using ht
          exact (show Tryd.prog.wantsStandIn 107 = false by kernel_rfl)
        · simp at ht⟩)
    (by kernel_rfl)
end Go.Proofs.YtakcggldilbilaaDoor

