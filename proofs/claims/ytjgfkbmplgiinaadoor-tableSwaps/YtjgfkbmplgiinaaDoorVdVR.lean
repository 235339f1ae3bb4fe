/- Proved: for every input paydesklaw11.TableSwaps returns true, without a panic, and its input reads behind the call as it read before. No condition. -/
import Derived.Test.YtjgfkbmplgiinaaDoorRows
import Derived.Test.YtjgfkbmplgiinaaDoorCards
import Derived.Test.YtjgfkbmplgiinaaDoorTie
import Derived.Test.YtjgfkbmplgiinaaDoorVdWf9
set_option linter.unusedVariables false
set_option maxRecDepth 100000
namespace Go.Proofs.YtjgfkbmplgiinaaDoor
open Go.ChangeShapes Go.WideShapes Go.ChangeAt Go.ChangeMaps Go.RowKit Go.Joins

theorem Tryd.cellsK : Tryd.prog.cellsOf 34 = 2 := by kernel_rfl
theorem Tryd.cellsEn : Tryd.prog.cellsOf 37 = 8 := by kernel_rfl
theorem Tryd.cellsTb : Tryd.prog.cellsOf 27 = 2 := by kernel_rfl
theorem Tryd.cellsEs : Tryd.prog.cellsOf 22 = 1 := by kernel_rfl
set_option maxRecDepth 100000 in
theorem tableSwaps_lifted (os : Os) (started : os.Started) (H : Type) (enc : TypeId × Value → H) :
    ReturnsInHanded {} Tryd.checked os 4 .any (fun w args => (Rows.tableSwapsSpec.pre enc Tryd.prog Tryd.f4 [] false w args ∧ laidMetH Tryd.prog laidL w) ∧ sizedMet enc Tryd.prog Tryd.f4 (OpenSpec.ofChange Rows.tableSwapsSpec) false w args)
      (Rows.tableSwapsSpec.post enc Tryd.prog Tryd.f4 false true false false) := by
  refine returnsInHanded_of_change_and (C := Tryd.checked) (X := fun w _ => laidMetH Tryd.prog laidL w) (fun _ _ _ hh h => h.of_heap hh) Tryd.own started (by kernel_rfl) Tryd.func4
    (ChangeSpec.witness_shaped (enc := enc) (C := Tryd.checked) (os := os) (X := fun w _ => laidMetH Tryd.prog laidL w) false (World.doorLaid Tryd.prog 2000 os) #[.agg #[.int .i64 0, .slice none 0 0], .agg #[.int .u32 0, .string ⟨#[]⟩, .int .i64 0, .string ⟨#[]⟩, .int .u64 0, .string ⟨#[]⟩, .int .i64 0, .int .i64 0], .int .i64 0, .agg #[.int .u32 0, .string ⟨#[]⟩]] 8 rfl (World.shaped_of_RefB (by kernel_rfl) (by kernel_rfl)) (by kernel_rfl) (by kernel_rfl) (by kernel_rfl) (door_met os _)) ?_
  intro W base args ds gs before hval0 hW _ _ hL _
  have hval : ∀ (j : Nat) t v, Tryd.f4.params[j]? = some t → args[j]? = some v → Value.okWide Tryd.prog W .any base t v := hval0
  have hW' := hW
  obtain ⟨p, q, hA0, hV, rfl, hfz, hnd⟩ := hW
  have hA : DataW.TrodAll enc Tryd.prog W 0 (fun _ => true) true Tryd.f4.params.toList args.toList ds p := hA0
  rw [Tryd.params4] at hA hval
  obtain ⟨v0, v1, v2, v3, d0, d1, d2, d3, p0, p1, p2, p3, rfl, rfl, rfl, h0, h1, h2, h3⟩ := trodAll_four hA
  obtain ⟨rfl, rfl⟩ := trodVars_none hV
  obtain ⟨ca0, cb0, ya0, yb0, m0, rfl, rfl, rfl, hya0, hyb0⟩ := open_agg2 Tryd.underlying27 (by kernel_rfl) Tryd.cellsTb (hval 0 27 v0 rfl rfl) h0
  obtain ⟨q0, e0, rfl, _⟩ := DataW.trod_int Tryd.underlying3 hya0
  simp at e0
  subst e0
  obtain ⟨L0, hL0, hB0, hone0, hr0⟩ := Vd.open_tbs_trod Tryd.underlying25 Tryd.underlying22 Tryd.cellsEs Tryd.underlying37 Tryd.cellsEn rfl (by kernel_rfl) Tryd.underlying34 (by kernel_rfl) rfl (by kernel_rfl) rfl (by kernel_rfl) rfl (by kernel_rfl) rfl (by kernel_rfl) rfl (by kernel_rfl) rfl (by kernel_rfl) Tryd.underlying32 Tryd.underlying9 Tryd.underlying3 Tryd.underlying9 Tryd.underlying35 Tryd.underlying9 Tryd.underlying3 Tryd.underlying3 hyb0
  obtain ⟨c0, c1, c2, c3, c4, c5, c6, c7, y00, y01, y1, y2, y3, y4, y5, y6, n, m0, rfl, rfl, rfl, hy0, hy1, hy2, hy3, hy4, hy5, hy6, hy7⟩ := Vd.open_entry Tryd.underlying37 Tryd.cellsEn rfl (by kernel_rfl) rfl (by kernel_rfl) rfl (by kernel_rfl) rfl (by kernel_rfl) rfl (by kernel_rfl) rfl (by kernel_rfl) rfl (by kernel_rfl) Tryd.underlying34 (by kernel_rfl) (hval 1 37 v1 rfl rfl) h1
  obtain ⟨xs1, e0, rfl, wxs1⟩ := DataW.trod_int Tryd.underlying32 hy0
  obtain ⟨xr1, e1, rfl, wxr1⟩ := DataW.trod_string Tryd.underlying9 hy1
  obtain ⟨xt1, e2, rfl, wxt1⟩ := DataW.trod_int Tryd.underlying3 hy2
  obtain ⟨xp1, e3, rfl, wxp1⟩ := DataW.trod_string Tryd.underlying9 hy3
  obtain ⟨xa1, e4, rfl, wxa1⟩ := DataW.trod_int Tryd.underlying35 hy4
  obtain ⟨xc1, e5, rfl, wxc1⟩ := DataW.trod_string Tryd.underlying9 hy5
  obtain ⟨xy1, e6, rfl, wxy1⟩ := DataW.trod_int Tryd.underlying3 hy6
  obtain ⟨xz1, e7, rfl, wxz1⟩ := DataW.trod_int Tryd.underlying3 hy7
  simp at e0 e1 e2 e3 e4 e5 e6 e7
  subst e0 e1 e2 e3 e4 e5 e6 e7
  obtain ⟨n2, rfl, rfl, rfl, w2⟩ := open_int Tryd.underlying3 (hval 2 3 v2 rfl rfl) h2
  obtain ⟨c0, c1, y0, y1, m, rfl, rfl, rfl, hy0, hy1⟩ := open_agg2 Tryd.underlying34 (by kernel_rfl) Tryd.cellsK (hval 3 34 v3 rfl rfl) h3
  obtain ⟨ks3, e0, rfl, wk3⟩ := DataW.trod_int Tryd.underlying32 hy0
  obtain ⟨kr3, e1, rfl, _⟩ := DataW.trod_string Tryd.underlying9 hy1
  simp at e0 e1
  subst e0 e1
  clear hA0 hval0
  refine (Vd.good_bool (Vd.good_TableSwaps q0 n2 xs1 xt1 xa1 xy1 xz1 ks3 L0 xr1.data.toList xp1.data.toList xc1.data.toList kr3.data.toList hL0 (fun i => (hB0 i).1) (fun i => (hB0 i).2) (Vd.u32_wf wxs1) (Vd.u32_wf wk3)) (w := W) (vs := [.agg #[.int .i64 q0, cb0], .agg #[.int .u32 xs1, .string xr1, .int .i64 xt1, .string xp1, .int .u64 xa1, .string xc1, .int .i64 xy1, .int .i64 xz1], .int .i64 n2, .agg #[.int .u32 ks3, .string kr3]]) (Vd.gl0_kn (laid_known hL)) ⟨Vd.rel_agg2 rfl hone0 (.int _ _) hr0.rel, Vd.rel_agg8 rfl rfl rfl rfl rfl rfl rfl rfl (.int _ _) (.str _) (.int _ _) (.str _) (.int _ _) (.str _) (.int _ _) (.int _ _), .int _ _, Vd.rel_agg2 rfl rfl (.int _ _) (.str _), trivial⟩).mono fun e W' he => ?_
  obtain ⟨rfl, hb⟩ := he
  refine ⟨_, rfl, Vd.post_below Tryd.laidOut ?_ rfl hW' (fun _ _ _ => trodAll_mk1 (shut_bool Tryd.underlying4 _)) rfl rfl hb.below⟩
  rw [Tryd.params4]
  intro t ht
  simp at ht
  rcases ht with rfl | rfl | rfl | rfl <;> exact ⟨by kernel_rfl, of_decide_eq_true (by kernel_rfl)⟩

theorem tableSwaps_said : Rows.TableSwapsSaid :=
  OpenClaim.holds_of_wide 4 Tryd.f4 rfl rfl rfl rfl rfl rfl rfl ⟨rfl, rfl, rfl, rfl, rfl⟩ rfl rfl rfl rfl rfl (by kernel_rfl) Tryd.func4 (by kernel_rfl)
    (of_decide_eq_true (by kernel_rfl)) (by unfold Func.isWrapper; first | (rw [if_pos (by decide +kernel)]; kernel_rfl) | (rw [if_neg (by decide +kernel)]; exact ⟨rfl, rfl⟩))
    (fun os started H enc _ => tableSwaps_lifted os started H enc)
theorem tableSwaps_holds : Rows.TableSwapsCardSaid :=
  Claim7.holds_tied_plain_at .later [] [.data] true (true, "92f280533f269d87fad0de0451cbff12a484154fc4803c923810e686e9b9f098") false
    tableSwaps_said (fun _ h => by cases h) (by kernel_rfl) (fun _ h => by cases h) tableSwaps_row_tie rfl ⟨rfl, rfl⟩ (by kernel_rfl) rfl
    (fun f fn hf hfn => by
      obtain rfl : f = 4 := Option.some.inj ((show Tryd.prog.funcNamed "paydesk/paydesklaw11.TableSwaps" = some 4 by kernel_rfl).symm.trans hf) |>.symm
      obtain rfl : fn = Tryd.f4 := (Option.some.inj (Tryd.func4.symm.trans hfn)).symm
      exact ⟨by kernel_rfl, fun j t ht => by
        rw [Tryd.params4] at ht
        rcases j with _ | _ | _ | _ | j
        · obtain rfl : 27 = t := by simpa using ht
          exact (show Tryd.prog.wantsStandIn 27 = false by kernel_rfl)
        · obtain rfl : 37 = t := by simpa using ht
          exact (show Tryd.prog.wantsStandIn 37 = false by kernel_rfl)
        · obtain rfl : 3 = t := by simpa using ht
          exact (show Tryd.prog.wantsStandIn 3 = false by kernel_rfl)
        · obtain rfl : 34 = t := by simpa using ht
          exact (show Tryd.prog.wantsStandIn 34 = false by kernel_rfl)
        · simp at ht⟩)
    (by kernel_rfl)
end Go.Proofs.YtjgfkbmplgiinaaDoor

