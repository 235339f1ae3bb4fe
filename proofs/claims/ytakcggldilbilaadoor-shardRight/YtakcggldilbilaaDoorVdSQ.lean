/- Proved: for every input paydesklaw10.ShardRight returns true, without a panic, and its input reads behind the call as it read before. No condition. -/
import Derived.Test.YtakcggldilbilaaDoorRows
import Derived.Test.YtakcggldilbilaaDoorCards
import Derived.Test.YtakcggldilbilaaDoorTie
import Derived.Test.YtakcggldilbilaaDoorVdDoorN
import Derived.Test.YtakcggldilbilaaDoorVdWf6
set_option linter.unusedVariables false
set_option maxRecDepth 100000
namespace Go.Proofs.YtakcggldilbilaaDoor
open Go.ChangeShapes Go.WideShapes Go.ChangeAt Go.ChangeMaps Go.RowKit Go.Joins

theorem Tryd.cellsK : Tryd.prog.cellsOf 66 = 2 := by kernel_rfl
theorem Tryd.cellsEn : Tryd.prog.cellsOf 68 = 8 := by kernel_rfl
set_option maxRecDepth 100000 in
theorem shardRight_lifted (os : Os) (started : os.Started) (H : Type) (enc : TypeId × Value → H) :
    ReturnsInHanded {} Tryd.checked os 10 .any (fun w args => (Rows.shardRightSpec.pre enc Tryd.prog Tryd.f10 [] false w args ∧ laidMetH Tryd.prog laidL w) ∧ sizedMet enc Tryd.prog Tryd.f10 (OpenSpec.ofChange Rows.shardRightSpec) false w args)
      (Rows.shardRightSpec.post enc Tryd.prog Tryd.f10 false true false false) := by
  refine returnsInHanded_of_change_and (C := Tryd.checked) (X := fun w _ => laidMetH Tryd.prog laidL w) (fun _ _ _ hh h => h.of_heap hh) Tryd.own started (by kernel_rfl) Tryd.func10
    (ChangeSpec.witness_shaped (enc := enc) (C := Tryd.checked) (os := os) (X := fun w _ => laidMetH Tryd.prog laidL w) false (World.doorLaid Tryd.prog 2000 os) #[.slice none 0 0, .agg #[.int .u32 0, .string ⟨#[]⟩, .int .i64 0, .string ⟨#[]⟩, .int .u64 0, .string ⟨#[]⟩, .int .i64 0, .int .i64 0], .agg #[.int .u32 0, .string ⟨#[]⟩], .int .i64 0] 8 rfl (World.shaped_of_RefB (by kernel_rfl) (by kernel_rfl)) (by kernel_rfl) (by kernel_rfl) (by kernel_rfl) (door_met os _)) ?_
  intro W base args ds gs before hval0 hW _ _ hL _
  have hval : ∀ (j : Nat) t v, Tryd.f10.params[j]? = some t → args[j]? = some v → Value.okWide Tryd.prog W .any base t v := hval0
  have hW' := hW
  obtain ⟨p, q, hA0, hV, rfl, hfz, hnd⟩ := hW
  have hA : DataW.TrodAll enc Tryd.prog W 0 (fun _ => true) true Tryd.f10.params.toList args.toList ds p := hA0
  rw [Tryd.params10] at hA hval
  obtain ⟨v0, v1, v2, v3, d0, d1, d2, d3, p0, p1, p2, p3, rfl, rfl, rfl, h0, h1, h2, h3⟩ := trodAll_four hA
  obtain ⟨rfl, rfl⟩ := trodVars_none hV
  obtain ⟨L0, hL0, hr0⟩ := Vd.open_ens_rel (ρ := fun _ => undef) (N := fun _ => False) Tryd.underlying64 Tryd.underlying68 Tryd.cellsEn rfl (by kernel_rfl) Tryd.underlying66 (by kernel_rfl) rfl (by kernel_rfl) rfl (by kernel_rfl) rfl (by kernel_rfl) rfl (by kernel_rfl) rfl (by kernel_rfl) rfl (by kernel_rfl) Tryd.underlying50 Tryd.underlying9 Tryd.underlying3 Tryd.underlying9 Tryd.underlying49 Tryd.underlying9 Tryd.underlying3 Tryd.underlying3 (hval 0 64 v0 rfl rfl) h0
  obtain ⟨c0, c1, c2, c3, c4, c5, c6, c7, y00, y01, y1, y2, y3, y4, y5, y6, n, m0, rfl, rfl, rfl, hy0, hy1, hy2, hy3, hy4, hy5, hy6, hy7⟩ := Vd.open_entry Tryd.underlying68 Tryd.cellsEn rfl (by kernel_rfl) rfl (by kernel_rfl) rfl (by kernel_rfl) rfl (by kernel_rfl) rfl (by kernel_rfl) rfl (by kernel_rfl) rfl (by kernel_rfl) Tryd.underlying66 (by kernel_rfl) (hval 1 68 v1 rfl rfl) h1
  obtain ⟨xs1, e0, rfl, wxs1⟩ := DataW.trod_int Tryd.underlying50 hy0
  obtain ⟨xr1, e1, rfl, wxr1⟩ := DataW.trod_string Tryd.underlying9 hy1
  obtain ⟨xt1, e2, rfl, wxt1⟩ := DataW.trod_int Tryd.underlying3 hy2
  obtain ⟨xp1, e3, rfl, wxp1⟩ := DataW.trod_string Tryd.underlying9 hy3
  obtain ⟨xa1, e4, rfl, wxa1⟩ := DataW.trod_int Tryd.underlying49 hy4
  obtain ⟨xc1, e5, rfl, wxc1⟩ := DataW.trod_string Tryd.underlying9 hy5
  obtain ⟨xy1, e6, rfl, wxy1⟩ := DataW.trod_int Tryd.underlying3 hy6
  obtain ⟨xz1, e7, rfl, wxz1⟩ := DataW.trod_int Tryd.underlying3 hy7
  simp at e0 e1 e2 e3 e4 e5 e6 e7
  subst e0 e1 e2 e3 e4 e5 e6 e7
  obtain ⟨c0, c1, y0, y1, m, rfl, rfl, rfl, hy0, hy1⟩ := open_agg2 Tryd.underlying66 (by kernel_rfl) Tryd.cellsK (hval 2 66 v2 rfl rfl) h2
  obtain ⟨ks2, e0, rfl, wk2⟩ := DataW.trod_int Tryd.underlying50 hy0
  obtain ⟨kr2, e1, rfl, _⟩ := DataW.trod_string Tryd.underlying9 hy1
  simp at e0 e1
  subst e0 e1
  obtain ⟨n3, rfl, rfl, rfl, w3⟩ := open_int Tryd.underlying3 (hval 3 3 v3 rfl rfl) h3
  clear hA0 hval0
  refine (Vd.good_bool (Vd.good_ShardRight L0 xs1 xt1 xa1 xy1 xz1 ks2 n3 xr1.data.toList xp1.data.toList xc1.data.toList kr2.data.toList hL0) (w := W) (vs := [v0, .agg #[.int .u32 xs1, .string xr1, .int .i64 xt1, .string xp1, .int .u64 xa1, .string xc1, .int .i64 xy1, .int .i64 xz1], .agg #[.int .u32 ks2, .string kr2], .int .i64 n3]) (Vd.gl0_kn (laid_known hL)) ⟨hr0, Vd.rel_agg8 rfl rfl rfl rfl rfl rfl rfl rfl (.int _ _) (.str _) (.int _ _) (.str _) (.int _ _) (.str _) (.int _ _) (.int _ _), Vd.rel_agg2 rfl rfl (.int _ _) (.str _), .int _ _, trivial⟩).mono fun e W' he => ?_
  obtain ⟨rfl, hb⟩ := he
  refine ⟨_, rfl, Vd.post_below Tryd.laidOut ?_ rfl hW' (fun _ _ _ => trodAll_mk1 (shut_bool Tryd.underlying4 _)) rfl rfl hb.below⟩
  rw [Tryd.params10]
  intro t ht
  simp at ht
  rcases ht with rfl | rfl | rfl | rfl <;> exact ⟨by kernel_rfl, of_decide_eq_true (by kernel_rfl)⟩

theorem shardRight_said : Rows.ShardRightSaid :=
  OpenClaim.holds_of_wide 10 Tryd.f10 rfl rfl rfl rfl rfl rfl rfl ⟨rfl, rfl, rfl, rfl, rfl⟩ rfl rfl rfl rfl rfl (by kernel_rfl) Tryd.func10 (by kernel_rfl)
    (of_decide_eq_true (by kernel_rfl)) (by unfold Func.isWrapper; first | (rw [if_pos (by decide +kernel)]; kernel_rfl) | (rw [if_neg (by decide +kernel)]; exact ⟨rfl, rfl⟩))
    (fun os started H enc _ => shardRight_lifted os started H enc)
theorem shardRight_holds : Rows.ShardRightCardSaid :=
  Claim7.holds_tied_plain_at .later [] [.data] true (true, "dc0431b15012b6d50bf50cbd94f188abb9b55426d05de18bf82d675e7cb67dbd") false
    shardRight_said (fun _ h => by cases h) (by kernel_rfl) (fun _ h => by cases h) shardRight_row_tie rfl ⟨rfl, rfl⟩ (by kernel_rfl) rfl
    (fun f fn hf hfn => by
      obtain rfl : f = 10 := Option.some.inj ((show Tryd.prog.funcNamed "paydesk/paydesklaw10.ShardRight" = some 10 by kernel_rfl).symm.trans hf) |>.symm
      obtain rfl : fn = Tryd.f10 := (Option.some.inj (Tryd.func10.symm.trans hfn)).symm
      exact ⟨by kernel_rfl, fun j t ht => by
        rw [Tryd.params10] at ht
        rcases j with _ | _ | _ | _ | j
        · obtain rfl : 64 = t := by simpa using ht
          exact (show Tryd.prog.wantsStandIn 64 = false by kernel_rfl)
        · obtain rfl : 68 = t := by simpa using ht
          exact (show Tryd.prog.wantsStandIn 68 = false by kernel_rfl)
        · obtain rfl : 66 = t := by simpa using ht
          exact (show Tryd.prog.wantsStandIn 66 = false by kernel_rfl)
        · obtain rfl : 3 = t := by simpa using ht
          exact (show Tryd.prog.wantsStandIn 3 = false by kernel_rfl)
        · simp at ht⟩)
    (by kernel_rfl)
end Go.Proofs.YtakcggldilbilaaDoor

