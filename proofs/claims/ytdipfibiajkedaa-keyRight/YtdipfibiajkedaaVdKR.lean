/- Proved: for every input paydesklaw07.KeyRight returns true, without a panic, and its input reads behind the call as it read before. No condition. -/
import Derived.Test.YtdipfibiajkedaaRows
import Derived.Test.YtdipfibiajkedaaVdK5
import Derived.Test.YtdipfibiajkedaaVdRow4
set_option linter.unusedVariables false
namespace Go.Proofs.Ytdipfibiajkedaa
open Go.ChangeShapes Go.WideShapes Go.ChangeAt Go.RowKit Go.Joins

theorem Try.own : ownKnob Try.prog.godebug = none := by kernel_rfl
theorem Try.cellsD : Try.prog.cellsOf 45 = 6 := by kernel_rfl
theorem Try.cellsK : Try.prog.cellsOf 47 = 2 := by kernel_rfl
theorem Try.laidOut : laidOutB Try.prog = true := by kernel_rfl

set_option maxRecDepth 100000 in
theorem keyRight_lifted (os : Os) (started : os.Started) (H : Type) (enc : TypeId × Value → H) :
    ReturnsInHanded {} Try.checked os 6 .any (Rows.keyRightSpec.pre6 enc Try.prog Try.f6 Rows.keyRightRow.domain false) (Rows.keyRightSpec.post enc Try.prog Try.f6 false true false false) := by
  refine returnsInHanded_of_change (C := Try.checked) Try.own started (by kernel_rfl) Try.func6
    (ChangeSpec.witness6 (enc := enc) (C := Try.checked) false ⟨#[], #[.agg #[.int .i64 0, .string ⟨#[]⟩, .int .u64 0, .int .u32 0, .string ⟨#[]⟩, .string ⟨#[]⟩], .agg #[.int .u32 0, .string ⟨#[]⟩], .agg #[.int .u32 0, .string ⟨#[]⟩], .int .i64 0], []⟩ 8 (by kernel_rfl) (by kernel_rfl) (by kernel_rfl) (by kernel_rfl)) ?_
  intro W base args ds gs before hval0 hW hcnd _
  have hval : ∀ (j : Nat) t v, Try.f6.params[j]? = some t → args[j]? = some v → Value.okWide Try.prog W .any base t v := hval0
  have hW' := hW
  obtain ⟨p, q, hA0, hV, rfl, hfz, hnd⟩ := hW
  have hA : DataW.TrodAll enc Try.prog W 0 (fun _ => true) true Try.f6.params.toList args.toList ds p := hA0
  rw [Try.params6] at hA hval
  obtain ⟨v0, v1, v2, v3, d0, d1, d2, d3, p0, p1, p2, p3, rfl, rfl, rfl, h0, h1, h2, h3⟩ := trodAll_four hA
  obtain ⟨rfl, rfl⟩ := trodVars_none hV
  obtain ⟨c0, c1, c2, c3, c4, c5, y0, y1, y2, y3, y4, y5, m, rfl, rfl, rfl, hy0, hy1, hy2, hy3, hy4, hy5⟩ := Vd.open_agg6 Try.underlying45 (by kernel_rfl) Try.cellsD (hval 0 45 v0 rfl rfl) h0
  obtain ⟨a, e0, rfl, _⟩ := DataW.trod_int Try.underlying3 hy0
  obtain ⟨pn, e1, rfl, _⟩ := DataW.trod_string Try.underlying9 hy1
  obtain ⟨c, e2, rfl, _⟩ := DataW.trod_int Try.underlying42 hy2
  obtain ⟨s, e3, rfl, _⟩ := DataW.trod_int Try.underlying43 hy3
  obtain ⟨rn, e4, rfl, _⟩ := DataW.trod_string Try.underlying9 hy4
  obtain ⟨cd, e5, rfl, _⟩ := DataW.trod_string Try.underlying9 hy5
  simp at e0 e1 e2 e3 e4 e5
  subst e0 e1 e2 e3 e4 e5
  obtain ⟨c0, c1, y0, y1, m, rfl, rfl, rfl, hy0, hy1⟩ := open_agg2 Try.underlying47 (by kernel_rfl) Try.cellsK (hval 1 47 v1 rfl rfl) h1
  obtain ⟨k1, e0, rfl, wk1⟩ := DataW.trod_int Try.underlying43 hy0
  obtain ⟨t1, e1, rfl, _⟩ := DataW.trod_string Try.underlying9 hy1
  simp at e0 e1
  subst e0 e1
  obtain ⟨c0, c1, y0, y1, m, rfl, rfl, rfl, hy0, hy1⟩ := open_agg2 Try.underlying47 (by kernel_rfl) Try.cellsK (hval 2 47 v2 rfl rfl) h2
  obtain ⟨k2, e0, rfl, wk2⟩ := DataW.trod_int Try.underlying43 hy0
  obtain ⟨t2, e1, rfl, _⟩ := DataW.trod_string Try.underlying9 hy1
  simp at e0 e1
  subst e0 e1
  obtain ⟨n3, rfl, rfl, rfl, w3⟩ := open_int Try.underlying3 (hval 3 3 v3 rfl rfl) h3
  clear hA0 hval0
  refine (Vd.good_bool (Vd.good_KeyRight a c s k1 k2 n3 pn.data.toList rn.data.toList cd.data.toList t1.data.toList t2.data.toList (Vd.u32_wf wk1)) (w := W) (vs := [.agg #[.int .i64 a, .string pn, .int .u64 c, .int .u32 s, .string rn, .string cd], .agg #[.int .u32 k1, .string t1], .agg #[.int .u32 k2, .string t2], .int .i64 n3]) (Vd.gl0_ok W _)
    ⟨Vd.rel_agg6 rfl rfl rfl rfl rfl rfl (.int _ _) (.str _) (.int _ _) (.int _ _) (.str _) (.str _), Vd.rel_agg2 rfl rfl (.int _ _) (.str _), Vd.rel_agg2 rfl rfl (.int _ _) (.str _), .int _ _, trivial⟩).mono fun e W' he => ?_
  obtain ⟨rfl, hb⟩ := he
  refine ⟨_, rfl, Vd.post_below Try.laidOut ?_ rfl hW' (fun _ _ _ => trodAll_mk1 (shut_bool Try.underlying4 _)) rfl rfl hb.below⟩
  rw [Try.params6]
  intro t ht
  simp at ht
  rcases ht with rfl | rfl | rfl <;> exact ⟨by kernel_rfl, of_decide_eq_true (by kernel_rfl)⟩

theorem keyRight_holds : Rows.KeyRightSaid :=
  OpenClaim.holds_of_wide 6 Try.f6 rfl rfl rfl rfl rfl rfl rfl ⟨rfl, rfl, rfl, rfl, rfl⟩ rfl rfl rfl rfl rfl (by kernel_rfl) Try.func6 (by kernel_rfl)
    (of_decide_eq_true (by kernel_rfl)) (by unfold Func.isWrapper; first | (rw [if_pos (by decide +kernel)]; kernel_rfl) | (rw [if_neg (by decide +kernel)]; exact ⟨rfl, rfl⟩))
    (fun os started H enc _ => keyRight_lifted os started H enc)
end Go.Proofs.Ytdipfibiajkedaa
