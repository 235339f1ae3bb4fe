/- Proved: for every input paydesklaw12.CoreOnce returns true, without a panic, and its input reads behind the call as it read before. No condition. -/
import Derived.Test.YtcjogfdlpoablaaDoorRows
import Derived.Test.YtcjogfdlpoablaaDoorCards
import Derived.Test.YtcjogfdlpoablaaDoorTie
import Derived.Test.YtcjogfdlpoablaaDoorVdCC
import Derived.Test.YtcjogfdlpoablaaDoorVdDoorK
import Derived.Test.YtcjogfdlpoablaaDoorVdWf3
set_option linter.unusedVariables false
set_option maxRecDepth 100000
namespace Go.Proofs.YtcjogfdlpoablaaDoor
open Go.ChangeShapes Go.WideShapes Go.ChangeAt Go.ChangeMaps Go.RowKit Go.Joins

theorem Tryd.cellsK : Tryd.prog.cellsOf 62 = 2 := by kernel_rfl
theorem Tryd.cellsEv : Tryd.prog.cellsOf 83 = 7 := by kernel_rfl
set_option maxRecDepth 100000 in
theorem coreOnce_lifted (os : Os) (started : os.Started) (H : Type) (enc : TypeId × Value → H) :
    ReturnsInHanded {} Tryd.checked os 13 .any (fun w args => (Rows.coreOnceSpec.pre enc Tryd.prog Tryd.f13 [] false w args ∧ laidMetH Tryd.prog laidL w) ∧ sizedMet enc Tryd.prog Tryd.f13 (OpenSpec.ofChange Rows.coreOnceSpec) false w args)
      (Rows.coreOnceSpec.post enc Tryd.prog Tryd.f13 false true false false) := by
  refine returnsInHanded_of_change_and (C := Tryd.checked) (X := fun w _ => laidMetH Tryd.prog laidL w) (fun _ _ _ hh h => h.of_heap hh) Tryd.own started (by kernel_rfl) Tryd.func13
    (ChangeSpec.witness_shaped (enc := enc) (C := Tryd.checked) (os := os) (X := fun w _ => laidMetH Tryd.prog laidL w) false (World.doorLaid Tryd.prog 2000 os) #[.agg #[.int .u32 0, .string ⟨#[]⟩], .slice none 0 0, .int .i64 0] 8 rfl (World.shaped_of_RefB (by kernel_rfl) (by kernel_rfl)) (by kernel_rfl) (by kernel_rfl) (by kernel_rfl) (door_met os _)) ?_
  intro W base args ds gs before hval0 hW _ _ hL _
  have hval : ∀ (j : Nat) t v, Tryd.f13.params[j]? = some t → args[j]? = some v → Value.okWide Tryd.prog W .any base t v := hval0
  have hW' := hW
  obtain ⟨p, q, hA0, hV, rfl, hfz, hnd⟩ := hW
  have hA : DataW.TrodAll enc Tryd.prog W 0 (fun _ => true) true Tryd.f13.params.toList args.toList ds p := hA0
  rw [Tryd.params13] at hA hval
  obtain ⟨v0, v1, v2, d0, d1, d2, p0, p1, p2, rfl, rfl, rfl, h0, h1, h2⟩ := trodAll_three hA
  obtain ⟨rfl, rfl⟩ := trodVars_none hV
  obtain ⟨c0, c1, y0, y1, m, rfl, rfl, rfl, hy0, hy1⟩ := open_agg2 Tryd.underlying62 (by kernel_rfl) Tryd.cellsK (hval 0 62 v0 rfl rfl) h0
  obtain ⟨ks0, e0, rfl, wk0⟩ := DataW.trod_int Tryd.underlying46 hy0
  obtain ⟨kr0, e1, rfl, _⟩ := DataW.trod_string Tryd.underlying9 hy1
  simp at e0 e1
  subst e0 e1
  obtain ⟨L1, hL1, hr1⟩ := Vd.open_evs_rel (ρ := fun _ => undef) (N := fun _ => False) Tryd.underlying96 Tryd.underlying83 Tryd.cellsEv rfl (by kernel_rfl) rfl (by kernel_rfl) Tryd.underlying48 (by kernel_rfl) Tryd.underlying3 Tryd.underlying3 Tryd.underlying9 Tryd.underlying45 Tryd.underlying46 Tryd.underlying9 Tryd.underlying9 (hval 1 96 v1 rfl rfl) h1
  obtain ⟨n2, rfl, rfl, rfl, w2⟩ := open_int Tryd.underlying3 (hval 2 3 v2 rfl rfl) h2
  clear hA0 hval0
  refine (Vd.good_bool (Vd.good_CoreOnce ks0 n2 kr0.data.toList L1) (w := W) (vs := [.agg #[.int .u32 ks0, .string kr0], v1, .int .i64 n2]) (Vd.gl0_kt (laid_known hL)) ⟨Vd.rel_agg2 rfl rfl (.int _ _) (.str _), hr1, .int _ _, trivial⟩).mono fun e W' he => ?_
  obtain ⟨rfl, hb⟩ := he
  refine ⟨_, rfl, Vd.post_below Tryd.laidOut ?_ rfl hW' (fun _ _ _ => trodAll_mk1 (shut_bool Tryd.underlying4 _)) rfl rfl hb.below⟩
  rw [Tryd.params13]
  intro t ht
  simp at ht
  rcases ht with rfl | rfl | rfl <;> exact ⟨by kernel_rfl, of_decide_eq_true (by kernel_rfl)⟩

theorem coreOnce_said : Rows.CoreOnceSaid :=
  OpenClaim.holds_of_wide 13 Tryd.f13 rfl rfl rfl rfl rfl rfl rfl ⟨rfl, rfl, rfl, rfl, rfl⟩ rfl rfl rfl rfl rfl (by kernel_rfl) Tryd.func13 (by kernel_rfl)
    (of_decide_eq_true (by kernel_rfl)) (by unfold Func.isWrapper; first | (rw [if_pos (by decide +kernel)]; kernel_rfl) | (rw [if_neg (by decide +kernel)]; exact ⟨rfl, rfl⟩))
    (fun os started H enc _ => coreOnce_lifted os started H enc)
theorem coreOnce_holds : Rows.CoreOnceCardSaid :=
  Claim7.holds_tied_plain_at .later [] [.data, .data] true (true, "b9e6a41e3522b12ad6ecc3fe3e453b671602aa98c03c3738fad5db72d8614bc4") false
    coreOnce_said (fun _ h => by cases h) (by kernel_rfl) (fun _ h => by cases h) coreOnce_row_tie rfl ⟨rfl, rfl⟩ (by kernel_rfl) rfl
    (fun f fn hf hfn => by
      obtain rfl : f = 13 := Option.some.inj ((show Tryd.prog.funcNamed "paydesk/paydesklaw12.CoreOnce" = some 13 by kernel_rfl).symm.trans hf) |>.symm
      obtain rfl : fn = Tryd.f13 := (Option.some.inj (Tryd.func13.symm.trans hfn)).symm
      exact ⟨by kernel_rfl, fun j t ht => by
        rw [Tryd.params13] at ht
        rcases j with _ | _ | _ | j
        · obtain rfl : 62 = t := by simpa using ht
          exact (show Tryd.prog.wantsStandIn 62 = false by kernel_rfl)
        · obtain rfl : 96 = t := by simpa using ht
          exact (show Tryd.prog.wantsStandIn 96 = false by kernel_rfl)
        · obtain rfl : 3 = t := by simpa using ht
          exact (show Tryd.prog.wantsStandIn 3 = false by kernel_rfl)
        · simp at ht⟩)
    (by kernel_rfl)
end Go.Proofs.YtcjogfdlpoablaaDoor
