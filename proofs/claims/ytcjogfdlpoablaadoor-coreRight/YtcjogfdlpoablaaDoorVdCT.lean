/- Proved: for every input paydesklaw12.CoreRight returns true, without a panic, and its input reads behind the call as it read before. No condition. -/
import Derived.Test.YtcjogfdlpoablaaDoorRows
import Derived.Test.YtcjogfdlpoablaaDoorCards
import Derived.Test.YtcjogfdlpoablaaDoorTie
import Derived.Test.YtcjogfdlpoablaaDoorVdCA
import Derived.Test.YtcjogfdlpoablaaDoorVdDoorK
import Derived.Test.YtcjogfdlpoablaaDoorVdWf2
set_option linter.unusedVariables false
set_option maxRecDepth 100000
namespace Go.Proofs.YtcjogfdlpoablaaDoor
open Go.ChangeShapes Go.WideShapes Go.ChangeAt Go.ChangeMaps Go.RowKit Go.Joins

theorem Tryd.cellsEn : Tryd.prog.cellsOf 64 = 8 := by kernel_rfl
theorem Tryd.cellsEv : Tryd.prog.cellsOf 83 = 7 := by kernel_rfl
set_option maxRecDepth 100000 in
theorem coreRight_lifted (os : Os) (started : os.Started) (H : Type) (enc : TypeId × Value → H) :
    ReturnsInHanded {} Tryd.checked os 11 .any (fun w args => (Rows.coreRightSpec.pre enc Tryd.prog Tryd.f11 [] false w args ∧ laidMetH Tryd.prog laidL w) ∧ sizedMet enc Tryd.prog Tryd.f11 (OpenSpec.ofChange Rows.coreRightSpec) false w args)
      (Rows.coreRightSpec.post enc Tryd.prog Tryd.f11 false true false false) := by
  refine returnsInHanded_of_change_and (C := Tryd.checked) (X := fun w _ => laidMetH Tryd.prog laidL w) (fun _ _ _ hh h => h.of_heap hh) Tryd.own started (by kernel_rfl) Tryd.func11
    (ChangeSpec.witness_shaped (enc := enc) (C := Tryd.checked) (os := os) (X := fun w _ => laidMetH Tryd.prog laidL w) false (World.doorLaid Tryd.prog 2000 os) #[.agg #[.int .u32 0, .string ⟨#[]⟩, .int .i64 0, .string ⟨#[]⟩, .int .u64 0, .string ⟨#[]⟩, .int .i64 0, .int .i64 0], .agg #[.int .i64 0, .int .i64 0, .string ⟨#[]⟩, .int .u64 0, .int .u32 0, .string ⟨#[]⟩, .string ⟨#[]⟩], .int .i64 0, .int .i64 0] 8 rfl (World.shaped_of_RefB (by kernel_rfl) (by kernel_rfl)) (by kernel_rfl) (by kernel_rfl) (by kernel_rfl) (door_met os _)) ?_
  intro W base args ds gs before hval0 hW _ _ hL _
  have hval : ∀ (j : Nat) t v, Tryd.f11.params[j]? = some t → args[j]? = some v → Value.okWide Tryd.prog W .any base t v := hval0
  have hW' := hW
  obtain ⟨p, q, hA0, hV, rfl, hfz, hnd⟩ := hW
  have hA : DataW.TrodAll enc Tryd.prog W 0 (fun _ => true) true Tryd.f11.params.toList args.toList ds p := hA0
  rw [Tryd.params11] at hA hval
  obtain ⟨v0, v1, v2, v3, d0, d1, d2, d3, p0, p1, p2, p3, rfl, rfl, rfl, h0, h1, h2, h3⟩ := trodAll_four hA
  obtain ⟨rfl, rfl⟩ := trodVars_none hV
  obtain ⟨c0, c1, c2, c3, c4, c5, c6, c7, y00, y01, y1, y2, y3, y4, y5, y6, n, m0, rfl, rfl, rfl, hy0, hy1, hy2, hy3, hy4, hy5, hy6, hy7⟩ := Vd.open_entry Tryd.underlying64 Tryd.cellsEn rfl (by kernel_rfl) rfl (by kernel_rfl) rfl (by kernel_rfl) rfl (by kernel_rfl) rfl (by kernel_rfl) rfl (by kernel_rfl) rfl (by kernel_rfl) Tryd.underlying62 (by kernel_rfl) (hval 0 64 v0 rfl rfl) h0
  obtain ⟨xs0, e0, rfl, wxs0⟩ := DataW.trod_int Tryd.underlying46 hy0
  obtain ⟨xr0, e1, rfl, wxr0⟩ := DataW.trod_string Tryd.underlying9 hy1
  obtain ⟨xt0, e2, rfl, wxt0⟩ := DataW.trod_int Tryd.underlying3 hy2
  obtain ⟨xp0, e3, rfl, wxp0⟩ := DataW.trod_string Tryd.underlying9 hy3
  obtain ⟨xa0, e4, rfl, wxa0⟩ := DataW.trod_int Tryd.underlying45 hy4
  obtain ⟨xc0, e5, rfl, wxc0⟩ := DataW.trod_string Tryd.underlying9 hy5
  obtain ⟨xy0, e6, rfl, wxy0⟩ := DataW.trod_int Tryd.underlying3 hy6
  obtain ⟨xz0, e7, rfl, wxz0⟩ := DataW.trod_int Tryd.underlying3 hy7
  simp at e0 e1 e2 e3 e4 e5 e6 e7
  subst e0 e1 e2 e3 e4 e5 e6 e7
  obtain ⟨c0, c1, c2, c3, c4, c5, c6, y0, y10, y11, y12, y13, y14, y15, n, m1, rfl, rfl, rfl, hy0, hy1, hy2, hy3, hy4, hy5, hy6⟩ := Vd.open_event Tryd.underlying83 Tryd.cellsEv rfl (by kernel_rfl) rfl (by kernel_rfl) Tryd.underlying48 (by kernel_rfl) (hval 1 83 v1 rfl rfl) h1
  obtain ⟨vk1, e0, rfl, wvk1⟩ := DataW.trod_int Tryd.underlying3 hy0
  obtain ⟨dk1, e1, rfl, wdk1⟩ := DataW.trod_int Tryd.underlying3 hy1
  obtain ⟨dp1, e2, rfl, wdp1⟩ := DataW.trod_string Tryd.underlying9 hy2
  obtain ⟨da1, e3, rfl, wda1⟩ := DataW.trod_int Tryd.underlying45 hy3
  obtain ⟨ds1, e4, rfl, wds1⟩ := DataW.trod_int Tryd.underlying46 hy4
  obtain ⟨dr1, e5, rfl, wdr1⟩ := DataW.trod_string Tryd.underlying9 hy5
  obtain ⟨dc1, e6, rfl, wdc1⟩ := DataW.trod_string Tryd.underlying9 hy6
  simp at e0 e1 e2 e3 e4 e5 e6
  subst e0 e1 e2 e3 e4 e5 e6
  obtain ⟨n2, rfl, rfl, rfl, w2⟩ := open_int Tryd.underlying3 (hval 2 3 v2 rfl rfl) h2
  obtain ⟨n3, rfl, rfl, rfl, w3⟩ := open_int Tryd.underlying3 (hval 3 3 v3 rfl rfl) h3
  clear hA0 hval0
  refine (Vd.good_bool (Vd.good_CoreRight xs0 xt0 xa0 xy0 xz0 vk1 dk1 da1 ds1 n2 n3 xr0.data.toList xp0.data.toList xc0.data.toList dp1.data.toList dr1.data.toList dc1.data.toList) (w := W) (vs := [.agg #[.int .u32 xs0, .string xr0, .int .i64 xt0, .string xp0, .int .u64 xa0, .string xc0, .int .i64 xy0, .int .i64 xz0], .agg #[.int .i64 vk1, .int .i64 dk1, .string dp1, .int .u64 da1, .int .u32 ds1, .string dr1, .string dc1], .int .i64 n2, .int .i64 n3]) (Vd.gl0_kt (laid_known hL)) ⟨Vd.rel_agg8 rfl rfl rfl rfl rfl rfl rfl rfl (.int _ _) (.str _) (.int _ _) (.str _) (.int _ _) (.str _) (.int _ _) (.int _ _), Vd.rel_agg7 rfl rfl rfl rfl rfl rfl rfl (.int _ _) (.int _ _) (.str _) (.int _ _) (.int _ _) (.str _) (.str _), .int _ _, .int _ _, trivial⟩).mono fun e W' he => ?_
  obtain ⟨rfl, hb⟩ := he
  refine ⟨_, rfl, Vd.post_below Tryd.laidOut ?_ rfl hW' (fun _ _ _ => trodAll_mk1 (shut_bool Tryd.underlying4 _)) rfl rfl hb.below⟩
  rw [Tryd.params11]
  intro t ht
  simp at ht
  rcases ht with rfl | rfl | rfl <;> exact ⟨by kernel_rfl, of_decide_eq_true (by kernel_rfl)⟩

theorem coreRight_said : Rows.CoreRightSaid :=
  OpenClaim.holds_of_wide 11 Tryd.f11 rfl rfl rfl rfl rfl rfl rfl ⟨rfl, rfl, rfl, rfl, rfl⟩ rfl rfl rfl rfl rfl (by kernel_rfl) Tryd.func11 (by kernel_rfl)
    (of_decide_eq_true (by kernel_rfl)) (by unfold Func.isWrapper; first | (rw [if_pos (by decide +kernel)]; kernel_rfl) | (rw [if_neg (by decide +kernel)]; exact ⟨rfl, rfl⟩))
    (fun os started H enc _ => coreRight_lifted os started H enc)
theorem coreRight_holds : Rows.CoreRightCardSaid :=
  Claim7.holds_tied_plain_at .later [] [.data, .data] true (true, "b9e6a41e3522b12ad6ecc3fe3e453b671602aa98c03c3738fad5db72d8614bc4") false
    coreRight_said (fun _ h => by cases h) (by kernel_rfl) (fun _ h => by cases h) coreRight_row_tie rfl ⟨rfl, rfl⟩ (by kernel_rfl) rfl
    (fun f fn hf hfn => by
      obtain rfl : f = 11 := Option.some.inj ((show Tryd.prog.funcNamed "paydesk/paydesklaw12.CoreRight" = some 11 by kernel_rfl).symm.trans hf) |>.symm
      obtain rfl : fn = Tryd.f11 := (Option.some.inj (Tryd.func11.symm.trans hfn)).symm
      exact ⟨by kernel_rfl, fun j t ht => by
        rw [Tryd.params11] at ht
        rcases j with _ | _ | _ | _ | j
        · obtain rfl : 64 = t := by simpa using ht
          exact (show Tryd.prog.wantsStandIn 64 = false by kernel_rfl)
        · obtain rfl : 83 = t := by simpa using ht
          exact (show Tryd.prog.wantsStandIn 83 = false by kernel_rfl)
        · obtain rfl : 3 = t := by simpa using ht
          exact (show Tryd.prog.wantsStandIn 3 = false by kernel_rfl)
        · obtain rfl : 3 = t := by simpa using ht
          exact (show Tryd.prog.wantsStandIn 3 = false by kernel_rfl)
        · simp at ht⟩)
    (by kernel_rfl)
end Go.Proofs.YtcjogfdlpoablaaDoor
