/- Proved: for every input paydesklaw17.PostBack returns true, without a panic, and its input reads behind the call as it read before. No condition. -/
import Derived.Test.YtakcggldilbilaaGreatDoorRows
import Derived.Test.YtakcggldilbilaaGreatDoorCards
import Derived.Test.YtakcggldilbilaaGreatDoorTie
import Derived.Test.YtakcggldilbilaaGreatDoorVdWf5
set_option linter.unusedVariables false
set_option maxRecDepth 100000
namespace Go.Proofs.YtakcggldilbilaaGreatDoor
open Go.ChangeShapes Go.WideShapes Go.ChangeAt Go.ChangeMaps Go.RowKit Go.Joins

theorem Tryz.cellsB : Tryz.prog.cellsOf 5 = 1 := by kernel_rfl
theorem Tryz.cellsD : Tryz.prog.cellsOf 29 = 6 := by kernel_rfl
set_option maxRecDepth 100000 in
theorem postBack_lifted (os : Os) (started : os.Started) (H : Type) (enc : TypeId × Value → H) :
    ReturnsInHanded {} Tryz.checked os 7 .any (fun w args => (Rows.postBackSpec.pre enc Tryz.prog Tryz.f7 [] false w args ∧ laidMetH Tryz.prog laidL w) ∧ sizedMet enc Tryz.prog Tryz.f7 (OpenSpec.ofChange Rows.postBackSpec) false w args)
      (Rows.postBackSpec.post enc Tryz.prog Tryz.f7 false true false false) := by
  refine returnsInHanded_of_change_and (C := Tryz.checked) (X := fun w _ => laidMetH Tryz.prog laidL w) (fun _ _ _ hh h => h.of_heap hh) Tryz.own started (by kernel_rfl) Tryz.func7
    (ChangeSpec.witness_shaped (enc := enc) (C := Tryz.checked) (os := os) (X := fun w _ => laidMetH Tryz.prog laidL w) false (World.doorLaid Tryz.prog 2000 os) #[.agg #[.int .i64 0, .string ⟨#[]⟩, .int .u64 0, .int .u32 0, .string ⟨#[]⟩, .string ⟨#[]⟩], .agg #[.int .i64 0, .string ⟨#[]⟩, .int .u64 0, .int .u32 0, .string ⟨#[]⟩, .string ⟨#[]⟩], .slice none 0 0, .slice none 0 0] 8 rfl (World.shaped_of_RefB (by kernel_rfl) (by kernel_rfl)) (by kernel_rfl) (by kernel_rfl) (by kernel_rfl) (door_met os _)) ?_
  intro W base args ds gs before hval0 hW _ _ hL _
  have hval : ∀ (j : Nat) t v, Tryz.f7.params[j]? = some t → args[j]? = some v → Value.okWide Tryz.prog W .any base t v := hval0
  have hW' := hW
  obtain ⟨p, q, hA0, hV, rfl, hfz, hnd⟩ := hW
  have hA : DataW.TrodAll enc Tryz.prog W 0 (fun _ => true) true Tryz.f7.params.toList args.toList ds p := hA0
  rw [Tryz.params7] at hA hval
  obtain ⟨v0, v1, v2, v3, d0, d1, d2, d3, p0, p1, p2, p3, rfl, rfl, rfl, h0, h1, h2, h3⟩ := trodAll_four hA
  obtain ⟨rfl, rfl⟩ := trodVars_none hV
  obtain ⟨c0, c1, c2, c3, c4, c5, y0, y1, y2, y3, y4, y5, m, rfl, rfl, rfl, hy0, hy1, hy2, hy3, hy4, hy5⟩ := Vd.open_agg6 Tryz.underlying29 (by kernel_rfl) Tryz.cellsD (hval 0 29 v0 rfl rfl) h0
  obtain ⟨da0, e0, rfl, wa0⟩ := DataW.trod_int Tryz.underlying3 hy0
  obtain ⟨dp0, e1, rfl, wp0⟩ := DataW.trod_string Tryz.underlying9 hy1
  obtain ⟨dc0, e2, rfl, wc0⟩ := DataW.trod_int Tryz.underlying26 hy2
  obtain ⟨ds0, e3, rfl, ws0⟩ := DataW.trod_int Tryz.underlying27 hy3
  obtain ⟨dr0, e4, rfl, wr0⟩ := DataW.trod_string Tryz.underlying9 hy4
  obtain ⟨de0, e5, rfl, we0⟩ := DataW.trod_string Tryz.underlying9 hy5
  simp at e0 e1 e2 e3 e4 e5
  subst e0 e1 e2 e3 e4 e5
  obtain ⟨c0, c1, c2, c3, c4, c5, y0, y1, y2, y3, y4, y5, m, rfl, rfl, rfl, hy0, hy1, hy2, hy3, hy4, hy5⟩ := Vd.open_agg6 Tryz.underlying29 (by kernel_rfl) Tryz.cellsD (hval 1 29 v1 rfl rfl) h1
  obtain ⟨da1, e0, rfl, wa1⟩ := DataW.trod_int Tryz.underlying3 hy0
  obtain ⟨dp1, e1, rfl, wp1⟩ := DataW.trod_string Tryz.underlying9 hy1
  obtain ⟨dc1, e2, rfl, wc1⟩ := DataW.trod_int Tryz.underlying26 hy2
  obtain ⟨ds1, e3, rfl, ws1⟩ := DataW.trod_int Tryz.underlying27 hy3
  obtain ⟨dr1, e4, rfl, wr1⟩ := DataW.trod_string Tryz.underlying9 hy4
  obtain ⟨de1, e5, rfl, we1⟩ := DataW.trod_string Tryz.underlying9 hy5
  simp at e0 e1 e2 e3 e4 e5
  subst e0 e1 e2 e3 e4 e5
  obtain ⟨L2, hL2, hr2⟩ := Vd.open_eB_rel (ρ := fun _ => undef) (N := fun _ => False) Tryz.underlying22 Tryz.underlying5 Tryz.cellsB (hval 2 22 v2 rfl rfl) h2
  obtain ⟨L3, hL3, hB3, hr3⟩ := Vd.open_dls_rel (ρ := fun _ => undef) (N := fun _ => False) Tryz.underlying60 Tryz.underlying29 Tryz.cellsD rfl (by kernel_rfl) rfl (by kernel_rfl) rfl (by kernel_rfl) rfl (by kernel_rfl) rfl (by kernel_rfl) rfl (by kernel_rfl) Tryz.underlying3 Tryz.underlying9 Tryz.underlying26 Tryz.underlying27 Tryz.underlying9 Tryz.underlying9 (hval 3 60 v3 rfl rfl) h3
  clear hA0 hval0
  refine (Vd.good_bool (Vd.good_PostBack da0 dc0 ds0 da1 dc1 ds1 dp0.data.toList dr0.data.toList de0.data.toList dp1.data.toList dr1.data.toList de1.data.toList L2 L3 (Vd.u64_wf wc0) (Vd.u32_wf ws0) (Vd.u64_wf wc1) (Vd.u32_wf ws1) (Nat.le_trans hL3 (by decide)) hB3) (w := W) (vs := [.agg #[.int .i64 da0, .string dp0, .int .u64 dc0, .int .u32 ds0, .string dr0, .string de0], .agg #[.int .i64 da1, .string dp1, .int .u64 dc1, .int .u32 ds1, .string dr1, .string de1], v2, v3]) (Vd.gl0_all (laid_known hL)) ⟨Vd.rel_agg6 rfl rfl rfl rfl rfl rfl (.int _ _) (.str _) (.int _ _) (.int _ _) (.str _) (.str _), Vd.rel_agg6 rfl rfl rfl rfl rfl rfl (.int _ _) (.str _) (.int _ _) (.int _ _) (.str _) (.str _), hr2, hr3, trivial⟩).mono fun e W' he => ?_
  obtain ⟨rfl, hb⟩ := he
  refine ⟨_, rfl, Vd.post_below Tryz.laidOut ?_ rfl hW' (fun _ _ _ => trodAll_mk1 (shut_bool Tryz.underlying4 _)) rfl rfl hb.below⟩
  rw [Tryz.params7]
  intro t ht
  simp at ht
  rcases ht with rfl | rfl | rfl <;> exact ⟨by kernel_rfl, of_decide_eq_true (by kernel_rfl)⟩

theorem postBack_said : Rows.PostBackSaid :=
  OpenClaim.holds_of_wide 7 Tryz.f7 rfl rfl rfl rfl rfl rfl rfl ⟨rfl, rfl, rfl, rfl, rfl⟩ rfl rfl rfl rfl rfl (by kernel_rfl) Tryz.func7 (by kernel_rfl)
    (of_decide_eq_true (by kernel_rfl)) (by unfold Func.isWrapper; first | (rw [if_pos (by decide +kernel)]; kernel_rfl) | (rw [if_neg (by decide +kernel)]; exact ⟨rfl, rfl⟩))
    (fun os started H enc _ => postBack_lifted os started H enc)
theorem postBack_holds : Rows.PostBackCardSaid :=
  Claim7.holds_tied_plain_at .later [] [.data, .data, .data, .data, .data] true (true, "6f0f3357f88b1d4df29a4da7c3d1656b3860e53e437ffb203e9206a4a6d36724") false
    postBack_said (fun _ h => by cases h) (by kernel_rfl) (fun _ h => by cases h) postBack_row_tie rfl ⟨rfl, rfl⟩ (by kernel_rfl) rfl
    (fun f fn hf hfn => by
      obtain rfl : f = 7 := Option.some.inj ((show Tryz.prog.funcNamed "paydesk/paydesklaw17.PostBack" = some 7 by kernel_rfl).symm.trans hf) |>.symm
      obtain rfl : fn = Tryz.f7 := (Option.some.inj (Tryz.func7.symm.trans hfn)).symm
      exact ⟨by kernel_rfl, fun j t ht => by
        rw [Tryz.params7] at ht
        rcases j with _ | _ | _ | _ | j
        · obtain rfl : 29 = t := by simpa using ht
          exact (show Tryz.prog.wantsStandIn 29 = false by kernel_rfl)
        · obtain rfl : 29 = t := by simpa using ht
          exact (show Tryz.prog.wantsStandIn 29 = false by kernel_rfl)
        · obtain rfl : 22 = t := by simpa using ht
          exact (show Tryz.prog.wantsStandIn 22 = false by kernel_rfl)
        · obtain rfl : 60 = t := by simpa using ht
          exact (show Tryz.prog.wantsStandIn 60 = false by kernel_rfl)
        · simp at ht⟩)
    (by kernel_rfl)
end Go.Proofs.YtakcggldilbilaaGreatDoor

