/- Proved: for every input paydesklaw21.TraceOthers returns true, without a panic, and its input reads behind the call as it read before. No condition. -/
import Derived.Test.YtakcggldilbilaaGreatDoorRows
import Derived.Test.YtakcggldilbilaaGreatDoorCards
import Derived.Test.YtakcggldilbilaaGreatDoorTie
import Derived.Test.YtakcggldilbilaaGreatDoorVdDoorA
set_option linter.unusedVariables false
set_option maxRecDepth 100000
namespace Go.Proofs.YtakcggldilbilaaGreatDoor
open Go.ChangeShapes Go.WideShapes Go.ChangeAt Go.ChangeMaps Go.RowKit Go.Joins

theorem Tryz.cellsB : Tryz.prog.cellsOf 5 = 1 := by kernel_rfl
theorem Tryz.cellsL : Tryz.prog.cellsOf 22 = 1 := by kernel_rfl
theorem Tryz.cellsD : Tryz.prog.cellsOf 29 = 6 := by kernel_rfl
theorem Tryz.cellsK : Tryz.prog.cellsOf 79 = 2 := by kernel_rfl
set_option maxRecDepth 100000 in
theorem traceOthers_lifted (os : Os) (started : os.Started) (H : Type) (enc : TypeId × Value → H) :
    ReturnsInHanded {} Tryz.checked os 8 .any (fun w args => (Rows.traceOthersSpec.pre enc Tryz.prog Tryz.f8 [] false w args ∧ laidMetH Tryz.prog laidL w) ∧ sizedMet enc Tryz.prog Tryz.f8 (OpenSpec.ofChange Rows.traceOthersSpec) false w args)
      (Rows.traceOthersSpec.post enc Tryz.prog Tryz.f8 false true false false) := by
  refine returnsInHanded_of_change_and (C := Tryz.checked) (X := fun w _ => laidMetH Tryz.prog laidL w) (fun _ _ _ hh h => h.of_heap hh) Tryz.own started (by kernel_rfl) Tryz.func8
    (ChangeSpec.witness_shaped (enc := enc) (C := Tryz.checked) (os := os) (X := fun w _ => laidMetH Tryz.prog laidL w) false (World.doorLaid Tryz.prog 2000 os) #[.slice none 0 0, .slice none 0 0, .agg #[.int .u32 0, .string ⟨#[]⟩], .agg #[.int .i64 0, .string ⟨#[]⟩, .int .u64 0, .int .u32 0, .string ⟨#[]⟩, .string ⟨#[]⟩], .int .u8 0] 8 rfl (World.shaped_of_RefB (by kernel_rfl) (by kernel_rfl)) (by kernel_rfl) (by kernel_rfl) (by kernel_rfl) (door_met os _)) ?_
  intro W base args ds gs before hval0 hW _ _ hL _
  have hval : ∀ (j : Nat) t v, Tryz.f8.params[j]? = some t → args[j]? = some v → Value.okWide Tryz.prog W .any base t v := hval0
  have hW' := hW
  obtain ⟨p, q, hA0, hV, rfl, hfz, hnd⟩ := hW
  have hA : DataW.TrodAll enc Tryz.prog W 0 (fun _ => true) true Tryz.f8.params.toList args.toList ds p := hA0
  rw [Tryz.params8] at hA hval
  obtain ⟨v0, v1, v2, v3, v4, d0, d1, d2, d3, d4, p0, p1, p2, p3, p4, rfl, rfl, rfl, h0, h1, h2, h3, h4⟩ := Vd.trodAll_five hA
  obtain ⟨rfl, rfl⟩ := trodVars_none hV
  obtain ⟨L0, hL0, hr0⟩ := Vd.open_eBs_rel (ρ := fun _ => undef) (N := fun _ => False) Tryz.underlying43 Tryz.underlying22 Tryz.underlying5 Tryz.cellsL Tryz.cellsB (hval 0 43 v0 rfl rfl) h0
  obtain ⟨L1, hL1, hr1⟩ := Vd.open_eBs_rel (ρ := fun _ => undef) (N := fun _ => False) Tryz.underlying43 Tryz.underlying22 Tryz.underlying5 Tryz.cellsL Tryz.cellsB (hval 1 43 v1 rfl rfl) h1
  obtain ⟨c0, c1, y0, y1, m, rfl, rfl, rfl, hy0, hy1⟩ := open_agg2 Tryz.underlying79 (by kernel_rfl) Tryz.cellsK (hval 2 79 v2 rfl rfl) h2
  obtain ⟨ks2, e0, rfl, wk2⟩ := DataW.trod_int Tryz.underlying27 hy0
  obtain ⟨kr2, e1, rfl, _⟩ := DataW.trod_string Tryz.underlying9 hy1
  simp at e0 e1
  subst e0 e1
  obtain ⟨c0, c1, c2, c3, c4, c5, y0, y1, y2, y3, y4, y5, m, rfl, rfl, rfl, hy0, hy1, hy2, hy3, hy4, hy5⟩ := Vd.open_agg6 Tryz.underlying29 (by kernel_rfl) Tryz.cellsD (hval 3 29 v3 rfl rfl) h3
  obtain ⟨da3, e0, rfl, wa3⟩ := DataW.trod_int Tryz.underlying3 hy0
  obtain ⟨dp3, e1, rfl, wp3⟩ := DataW.trod_string Tryz.underlying9 hy1
  obtain ⟨dc3, e2, rfl, wc3⟩ := DataW.trod_int Tryz.underlying26 hy2
  obtain ⟨ds3, e3, rfl, ws3⟩ := DataW.trod_int Tryz.underlying27 hy3
  obtain ⟨dr3, e4, rfl, wr3⟩ := DataW.trod_string Tryz.underlying9 hy4
  obtain ⟨de3, e5, rfl, we3⟩ := DataW.trod_string Tryz.underlying9 hy5
  simp at e0 e1 e2 e3 e4 e5
  subst e0 e1 e2 e3 e4 e5
  obtain ⟨n4, rfl, rfl, rfl, w4⟩ := open_int Tryz.underlying5 (hval 4 5 v4 rfl rfl) h4
  clear hA0 hval0
  refine (Vd.good_bool (Vd.good_TraceOthers L0 L1 ks2 kr2.data.toList da3 dc3 ds3 dp3.data.toList dr3.data.toList de3.data.toList n4 (Vd.u64_wf wc3) (Vd.u32_wf ws3) (Vd.u8_wf w4)) (w := W) (vs := [v0, v1, .agg #[.int .u32 ks2, .string kr2], .agg #[.int .i64 da3, .string dp3, .int .u64 dc3, .int .u32 ds3, .string dr3, .string de3], .int .u8 n4]) (Vd.gl0_all (laid_known hL)) ⟨hr0, hr1, Vd.rel_agg2 rfl rfl (.int _ _) (.str _), Vd.rel_agg6 rfl rfl rfl rfl rfl rfl (.int _ _) (.str _) (.int _ _) (.int _ _) (.str _) (.str _), .int _ _, trivial⟩).mono fun e W' he => ?_
  obtain ⟨rfl, hb⟩ := he
  refine ⟨_, rfl, Vd.post_below Tryz.laidOut ?_ rfl hW' (fun _ _ _ => trodAll_mk1 (shut_bool Tryz.underlying4 _)) rfl rfl hb.below⟩
  rw [Tryz.params8]
  intro t ht
  simp at ht
  rcases ht with rfl | rfl | rfl | rfl <;> exact ⟨by kernel_rfl, of_decide_eq_true (by kernel_rfl)⟩

theorem traceOthers_said : Rows.TraceOthersSaid :=
  OpenClaim.holds_of_wide 8 Tryz.f8 rfl rfl rfl rfl rfl rfl rfl ⟨rfl, rfl, rfl, rfl, rfl⟩ rfl rfl rfl rfl rfl (by kernel_rfl) Tryz.func8 (by kernel_rfl)
    (of_decide_eq_true (by kernel_rfl)) (by unfold Func.isWrapper; first | (rw [if_pos (by decide +kernel)]; kernel_rfl) | (rw [if_neg (by decide +kernel)]; exact ⟨rfl, rfl⟩))
    (fun os started H enc _ => traceOthers_lifted os started H enc)
theorem traceOthers_holds : Rows.TraceOthersCardSaid :=
  Claim7.holds_tied_plain_at .later [] [.data, .data, .data, .data, .data] true (true, "6f0f3357f88b1d4df29a4da7c3d1656b3860e53e437ffb203e9206a4a6d36724") false
    traceOthers_said (fun _ h => by cases h) (by kernel_rfl) (fun _ h => by cases h) traceOthers_row_tie rfl ⟨rfl, rfl⟩ (by kernel_rfl) rfl
    (fun f fn hf hfn => by
      obtain rfl : f = 8 := Option.some.inj ((show Tryz.prog.funcNamed "paydesk/paydesklaw21.TraceOthers" = some 8 by kernel_rfl).symm.trans hf) |>.symm
      obtain rfl : fn = Tryz.f8 := (Option.some.inj (Tryz.func8.symm.trans hfn)).symm
      exact ⟨by kernel_rfl, fun j t ht => by
        rw [Tryz.params8] at ht
        rcases j with _ | _ | _ | _ | _ | j
        · obtain rfl : 43 = t := by simpa using ht
          exact (show Tryz.prog.wantsStandIn 43 = false by kernel_rfl)
        · obtain rfl : 43 = t := by simpa using ht
          exact (show Tryz.prog.wantsStandIn 43 = false by kernel_rfl)
        · obtain rfl : 79 = t := by simpa using ht
          exact (show Tryz.prog.wantsStandIn 79 = false by kernel_rfl)
        · obtain rfl : 29 = t := by simpa using ht
          exact (show Tryz.prog.wantsStandIn 29 = false by kernel_rfl)
        · obtain rfl : 5 = t := by simpa using ht
          exact (show Tryz.prog.wantsStandIn 5 = false by kernel_rfl)
        · simp at ht⟩)
    (by kernel_rfl)
end Go.Proofs.YtakcggldilbilaaGreatDoor

