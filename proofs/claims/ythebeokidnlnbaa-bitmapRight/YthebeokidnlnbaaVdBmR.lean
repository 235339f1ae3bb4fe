/- Proved: for every input paydesklaw02.BitmapRight returns true, without a panic, and its input reads behind the call as it read before. No condition. -/
import Derived.Test.YthebeokidnlnbaaRows
import Derived.Test.YthebeokidnlnbaaVdBmf
import Derived.Test.YthebeokidnlnbaaVdRow
set_option linter.unusedVariables false
namespace Go.Proofs.Ythebeokidnlnbaa
open Go.ChangeShapes Go.WideShapes Go.ChangeAt Go.RowKit Go.Joins

theorem Try.own : ownKnob Try.prog.godebug = none := by kernel_rfl
theorem Try.cells24 : Try.prog.cellsOf 24 = 2 := by kernel_rfl
theorem Try.cells3 : Try.prog.cellsOf 3 = 1 := by kernel_rfl
theorem Try.cells5 : Try.prog.cellsOf 5 = 1 := by kernel_rfl
theorem Try.laidOut : laidOutB Try.prog = true := by kernel_rfl

theorem relMap (w : World) (a b : Int) : Vd.Rel w (fun _ => undef) (fun _ => False) (fun _ => False) (.agg #[.int .u64 a, .int .u64 b]) (.agg [.int .u64 a, .int .u64 b]) := by
  refine .agg _ _ rfl ?_ ?_
  · intro v hv
    simp at hv
    rcases hv with rfl | rfl <;> rfl
  · intro i v s' hv hs
    match i with
    | 0 => simp at hv hs; subst hv hs; exact .int _ _
    | 1 => simp at hv hs; subst hv hs; exact .int _ _
    | n + 2 => simp at hv

theorem u64_r {a : Int} (h : (Lit.int .u64 a).wf = true) : Vd.r64 a := by
  simp [Lit.wf] at h
  have e1 : IntKind.u64.min = 0 := by decide
  have e2 : IntKind.u64.max = 18446744073709551615 := by decide
  rw [e1, e2] at h
  exact ⟨h.1, by omega⟩
theorem u8_r {a : Int} (h : (Lit.int .u8 a).wf = true) : 0 ≤ a ∧ a < 256 := by
  simp [Lit.wf] at h
  have e1 : IntKind.u8.min = 0 := by decide
  have e2 : IntKind.u8.max = 255 := by decide
  rw [e1, e2] at h
  exact ⟨h.1, by omega⟩

set_option maxRecDepth 100000 in
theorem bitmapRight_lifted (os : Os) (started : os.Started) (H : Type) (enc : TypeId × Value → H) :
    ReturnsInHanded {} Try.checked os 3 .any (Rows.bitmapRightSpec.pre6 enc Try.prog Try.f3 Rows.bitmapRightRow.domain false) (Rows.bitmapRightSpec.post enc Try.prog Try.f3 false true false false) := by
  refine returnsInHanded_of_change (C := Try.checked) Try.own started (by kernel_rfl) Try.func3
    (ChangeSpec.witness6 (enc := enc) (C := Try.checked) false ⟨#[], #[.agg #[.int .u64 0, .int .u64 0], .int .i64 0, .slice none 0 0, .slice none 0 0], []⟩ 8 (by kernel_rfl) (by kernel_rfl) (by kernel_rfl) (by kernel_rfl)) ?_
  intro W base args ds gs before hval0 hW hcnd _
  have hval : ∀ (j : Nat) t v, Try.f3.params[j]? = some t → args[j]? = some v → Value.okWide Try.prog W .any base t v := hval0
  have hW' := hW
  obtain ⟨p, q, hA0, hV, rfl, hfz, hnd⟩ := hW
  have hA : DataW.TrodAll enc Try.prog W 0 (fun _ => true) true Try.f3.params.toList args.toList ds p := hA0
  rw [Try.params3] at hA hval
  obtain ⟨v0, v1, v2, v3, d0, d1, d2, d3, p0, p1, p2, p3, rfl, rfl, rfl, h0, h1, h2, h3⟩ := trodAll_four hA
  obtain ⟨rfl, rfl⟩ := trodVars_none hV
  obtain ⟨c0, c1, y0, y1, m, rfl, rfl, rfl, hy0, hy1⟩ := open_agg2 Try.underlying24 (by kernel_rfl) Try.cells24 (hval 0 24 v0 rfl rfl) h0
  obtain ⟨a0, e0, rfl, wa0⟩ := DataW.trod_int Try.underlying22 hy0
  obtain ⟨s0, e1, rfl, ws0⟩ := DataW.trod_int Try.underlying22 hy1
  simp at e0 e1
  subst e0 e1
  obtain ⟨n1, rfl, rfl, rfl, w1⟩ := open_int Try.underlying3 (hval 1 3 v1 rfl rfl) h1
  obtain ⟨M, hM, hM2, hr2⟩ := Vd.open_ints_rel (ρ := fun _ => undef) (N := fun _ => False) Try.underlying25 Try.underlying3 Try.cells3 (hval 2 25 v2 rfl rfl) h2
  obtain ⟨L, hL, hr3⟩ := Vd.open_bytes_rel (ρ := fun _ => undef) (N := fun _ => False) Try.underlying26 Try.underlying5 Try.cells5 (hval 3 26 v3 rfl rfl) h3
  clear hA0 hval0
  refine (Vd.good_bool (Vd.good3 n1 M L (u64_r wa0) (u64_r ws0) hM hL) (w := W) (vs := [.agg #[.int .u64 a0, .int .u64 s0], .int .i64 n1, v2, v3]) (Vd.gl0_ok W _) ⟨relMap W a0 s0, .int _ _, hr2, hr3, trivial⟩).mono fun e W' he => ?_
  obtain ⟨rfl, hb⟩ := he
  refine ⟨_, rfl, Vd.post_below Try.laidOut ?_ rfl hW' (fun _ _ _ => trodAll_mk1 (shut_bool Try.underlying4 _)) rfl rfl hb.below⟩
  rw [Try.params3]
  intro t ht
  simp at ht
  rcases ht with rfl | rfl | rfl | rfl <;> exact ⟨by kernel_rfl, of_decide_eq_true (by kernel_rfl)⟩

theorem bitmapRight_holds : Rows.BitmapRightSaid :=
  OpenClaim.holds_of_wide 3 Try.f3 rfl rfl rfl rfl rfl rfl rfl ⟨rfl, rfl, rfl, rfl, rfl⟩ rfl rfl rfl rfl rfl (by kernel_rfl) Try.func3 (by kernel_rfl)
    (of_decide_eq_true (by kernel_rfl)) (by unfold Func.isWrapper; first | (rw [if_pos (by decide +kernel)]; kernel_rfl) | (rw [if_neg (by decide +kernel)]; exact ⟨rfl, rfl⟩))
    (fun os started H enc _ => bitmapRight_lifted os started H enc)
end Go.Proofs.Ythebeokidnlnbaa
