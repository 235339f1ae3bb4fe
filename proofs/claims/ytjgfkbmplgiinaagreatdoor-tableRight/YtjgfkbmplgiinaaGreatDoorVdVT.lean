/- Proved: for every input paydesklaw11.TableRight returns true, without a panic, and its input reads behind the call as it read before. No condition. -/
import Derived.Test.YtjgfkbmplgiinaaGreatDoorRows
import Derived.Test.YtjgfkbmplgiinaaGreatDoorCards
import Derived.Test.YtjgfkbmplgiinaaGreatDoorTie
import Derived.Test.YtjgfkbmplgiinaaGreatDoorVdWf9
set_option linter.unusedVariables false
set_option maxRecDepth 100000
namespace Go.Proofs.YtjgfkbmplgiinaaGreatDoor
open Go.ChangeShapes Go.WideShapes Go.ChangeAt Go.ChangeMaps Go.RowKit Go.Joins

theorem Tryz.cellsK : Tryz.prog.cellsOf 27 = 2 := by kernel_rfl
theorem Tryz.cellsEn : Tryz.prog.cellsOf 30 = 8 := by kernel_rfl
theorem Tryz.cellsTb : Tryz.prog.cellsOf 24 = 2 := by kernel_rfl
theorem Tryz.cellsEs : Tryz.prog.cellsOf 40 = 1 := by kernel_rfl
set_option maxRecDepth 100000 in
theorem tableRight_lifted (os : Os) (started : os.Started) (H : Type) (enc : TypeId × Value → H) :
    ReturnsInHanded {} Tryz.checked os 3 .any (fun w args => (Rows.tableRightSpec.pre enc Tryz.prog Tryz.f3 [] false w args ∧ laidMetH Tryz.prog laidL w) ∧ sizedMet enc Tryz.prog Tryz.f3 (OpenSpec.ofChange Rows.tableRightSpec) false w args)
      (Rows.tableRightSpec.post enc Tryz.prog Tryz.f3 false true false false) := by
  refine returnsInHanded_of_change_and (C := Tryz.checked) (X := fun w _ => laidMetH Tryz.prog laidL w) (fun _ _ _ hh h => h.of_heap hh) Tryz.own started (by kernel_rfl) Tryz.func3
    (ChangeSpec.witness_shaped (enc := enc) (C := Tryz.checked) (os := os) (X := fun w _ => laidMetH Tryz.prog laidL w) false (World.doorLaid Tryz.prog 2000 os) #[.agg #[.int .i64 0, .slice none 0 0], .agg #[.int .u32 0, .string ⟨#[]⟩, .int .i64 0, .string ⟨#[]⟩, .int .u64 0, .string ⟨#[]⟩, .int .i64 0, .int .i64 0], .agg #[.int .u32 0, .string ⟨#[]⟩], .int .i64 0, .int .i64 0] 8 rfl (World.shaped_of_RefB (by kernel_rfl) (by kernel_rfl)) (by kernel_rfl) (by kernel_rfl) (by kernel_rfl) (door_met os _)) ?_
  intro W base args ds gs before hval0 hW _ _ hL _
  have hval : ∀ (j : Nat) t v, Tryz.f3.params[j]? = some t → args[j]? = some v → Value.okWide Tryz.prog W .any base t v := hval0
  have hW' := hW
  obtain ⟨p, q, hA0, hV, rfl, hfz, hnd⟩ := hW
  have hA : DataW.TrodAll enc Tryz.prog W 0 (fun _ => true) true Tryz.f3.params.toList args.toList ds p := hA0
  rw [Tryz.params3] at hA hval
  obtain ⟨v0, v1, v2, v3, v4, d0, d1, d2, d3, d4, p0, p1, p2, p3, p4, rfl, rfl, rfl, h0, h1, h2, h3, h4⟩ := Vd.trodAll_five hA
  obtain ⟨rfl, rfl⟩ := trodVars_none hV
  obtain ⟨ca0, cb0, ya0, yb0, m0, rfl, rfl, rfl, hya0, hyb0⟩ := open_agg2 Tryz.underlying24 (by kernel_rfl) Tryz.cellsTb (hval 0 24 v0 rfl rfl) h0
  obtain ⟨q0, e0, rfl, _⟩ := DataW.trod_int Tryz.underlying3 hya0
  simp at e0
  subst e0
  obtain ⟨L0, hL0, hB0, hone0, hr0⟩ := Vd.open_tbs_trod Tryz.underlying22 Tryz.underlying40 Tryz.cellsEs Tryz.underlying30 Tryz.cellsEn rfl (by kernel_rfl) Tryz.underlying27 (by kernel_rfl) rfl (by kernel_rfl) rfl (by kernel_rfl) rfl (by kernel_rfl) rfl (by kernel_rfl) rfl (by kernel_rfl) rfl (by kernel_rfl) Tryz.underlying25 Tryz.underlying9 Tryz.underlying3 Tryz.underlying9 Tryz.underlying28 Tryz.underlying9 Tryz.underlying3 Tryz.underlying3 hyb0
  obtain ⟨c0, c1, c2, c3, c4, c5, c6, c7, y00, y01, y1, y2, y3, y4, y5, y6, n, m0, rfl, rfl, rfl, hy0, hy1, hy2, hy3, hy4, hy5, hy6, hy7⟩ := Vd.open_entry Tryz.underlying30 Tryz.cellsEn rfl (by kernel_rfl) rfl (by kernel_rfl) rfl (by kernel_rfl) rfl (by kernel_rfl) rfl (by kernel_rfl) rfl (by kernel_rfl) rfl (by kernel_rfl) Tryz.underlying27 (by kernel_rfl) (hval 1 30 v1 rfl rfl) h1
  obtain ⟨xs1, e0, rfl, wxs1⟩ := DataW.trod_int Tryz.underlying25 hy0
  obtain ⟨xr1, e1, rfl, wxr1⟩ := DataW.trod_string Tryz.underlying9 hy1
  obtain ⟨xt1, e2, rfl, wxt1⟩ := DataW.trod_int Tryz.underlying3 hy2
  obtain ⟨xp1, e3, rfl, wxp1⟩ := DataW.trod_string Tryz.underlying9 hy3
  obtain ⟨xa1, e4, rfl, wxa1⟩ := DataW.trod_int Tryz.underlying28 hy4
  obtain ⟨xc1, e5, rfl, wxc1⟩ := DataW.trod_string Tryz.underlying9 hy5
  obtain ⟨xy1, e6, rfl, wxy1⟩ := DataW.trod_int Tryz.underlying3 hy6
  obtain ⟨xz1, e7, rfl, wxz1⟩ := DataW.trod_int Tryz.underlying3 hy7
  simp at e0 e1 e2 e3 e4 e5 e6 e7
  subst e0 e1 e2 e3 e4 e5 e6 e7
  obtain ⟨c0, c1, y0, y1, m, rfl, rfl, rfl, hy0, hy1⟩ := open_agg2 Tryz.underlying27 (by kernel_rfl) Tryz.cellsK (hval 2 27 v2 rfl rfl) h2
  obtain ⟨ks2, e0, rfl, wk2⟩ := DataW.trod_int Tryz.underlying25 hy0
  obtain ⟨kr2, e1, rfl, _⟩ := DataW.trod_string Tryz.underlying9 hy1
  simp at e0 e1
  subst e0 e1
  obtain ⟨n3, rfl, rfl, rfl, w3⟩ := open_int Tryz.underlying3 (hval 3 3 v3 rfl rfl) h3
  obtain ⟨n4, rfl, rfl, rfl, w4⟩ := open_int Tryz.underlying3 (hval 4 3 v4 rfl rfl) h4
  clear hA0 hval0
  refine (Vd.good_bool (Vd.good_TableRight q0 xs1 xt1 xa1 xy1 xz1 ks2 n3 n4 L0 xr1.data.toList xp1.data.toList xc1.data.toList kr2.data.toList hL0 (fun i => (hB0 i).1) (fun i => (hB0 i).2) (Vd.u32_wf wxs1) (Vd.u32_wf wk2)) (w := W) (vs := [.agg #[.int .i64 q0, cb0], .agg #[.int .u32 xs1, .string xr1, .int .i64 xt1, .string xp1, .int .u64 xa1, .string xc1, .int .i64 xy1, .int .i64 xz1], .agg #[.int .u32 ks2, .string kr2], .int .i64 n3, .int .i64 n4]) (Vd.gl0_kn (laid_known hL)) ⟨Vd.rel_agg2 rfl hone0 (.int _ _) hr0.rel, Vd.rel_agg8 rfl rfl rfl rfl rfl rfl rfl rfl (.int _ _) (.str _) (.int _ _) (.str _) (.int _ _) (.str _) (.int _ _) (.int _ _), Vd.rel_agg2 rfl rfl (.int _ _) (.str _), .int _ _, .int _ _, trivial⟩).mono fun e W' he => ?_
  obtain ⟨rfl, hb⟩ := he
  refine ⟨_, rfl, Vd.post_below Tryz.laidOut ?_ rfl hW' (fun _ _ _ => trodAll_mk1 (shut_bool Tryz.underlying4 _)) rfl rfl hb.below⟩
  rw [Tryz.params3]
  intro t ht
  simp at ht
  rcases ht with rfl | rfl | rfl | rfl <;> exact ⟨by kernel_rfl, of_decide_eq_true (by kernel_rfl)⟩

theorem tableRight_said : Rows.TableRightSaid :=
  OpenClaim.holds_of_wide 3 Tryz.f3 rfl rfl rfl rfl rfl rfl rfl ⟨rfl, rfl, rfl, rfl, rfl⟩ rfl rfl rfl rfl rfl (by kernel_rfl) Tryz.func3 (by kernel_rfl)
    (of_decide_eq_true (by kernel_rfl)) (by unfold Func.isWrapper; first | (rw [if_pos (by decide +kernel)]; kernel_rfl) | (rw [if_neg (by decide +kernel)]; exact ⟨rfl, rfl⟩))
    (fun os started H enc _ => tableRight_lifted os started H enc)
theorem tableRight_holds : Rows.TableRightCardSaid :=
  Claim7.holds_tied_plain_at .later [] [.data] true (true, "75e7fb3ad3a39f80147da2aa453a2ac81bd1dd18656936ffc5594c3c0ad5e839") false
    tableRight_said (fun _ h => by cases h) (by kernel_rfl) (fun _ h => by cases h) tableRight_row_tie rfl ⟨rfl, rfl⟩ (by kernel_rfl) rfl
    (fun f fn hf hfn => by
      obtain rfl : f = 3 := Option.some.inj ((show Tryz.prog.funcNamed "paydesk/paydesklaw11.TableRight" = some 3 by kernel_rfl).symm.trans hf) |>.symm
      obtain rfl : fn = Tryz.f3 := (Option.some.inj (Tryz.func3.symm.trans hfn)).symm
      exact ⟨by kernel_rfl, fun j t ht => by
        rw [Tryz.params3] at ht
        rcases j with _ | _ | _ | _ | _ | j
        · obtain rfl : 24 = t := by simpa using ht
          exact (show Tryz.prog.wantsStandIn 24 = false by kernel_rfl)
        · obtain rfl : 30 = t := by simpa using ht
          exact (show Tryz.prog.wantsStandIn 30 = false by kernel_rfl)
        · obtain rfl : 27 = t := by simpa using ht
          exact (show Tryz.prog.wantsStandIn 27 = false by kernel_rfl)
        · obtain rfl : 3 = t := by simpa using ht
          exact (show Tryz.prog.wantsStandIn 3 = false by kernel_rfl)
        · obtain rfl : 3 = t := by simpa using ht
          exact (show Tryz.prog.wantsStandIn 3 = false by kernel_rfl)
        · simp at ht⟩)
    (by kernel_rfl)
end Go.Proofs.YtjgfkbmplgiinaaGreatDoor

