/- Numbers that came in lie in their kinds' ranges; five and six parameters. -/
import Derived.Test.YtakcggldilbilaaDoorVdRow4
import Derived.Test.YtakcggldilbilaaDoorRows
import Derived.Test.YtakcggldilbilaaDoorCards
import Derived.Test.YtakcggldilbilaaDoorTie
import Derived.Test.YtakcggldilbilaaDoorVdH3
import Derived.ProofKit
import Derived.LaidMore
import Derived.OpenShut
import Derived.Stop.Joined
import Derived.SevenTiedAt
import Derived.Lib.LaidTab
import Derived.Test.YtakcggldilbilaaDoorVdI1
set_option linter.unusedVariables false
namespace Go.Vd
theorem u64_wf {z : Int} (h : (Lit.int .u64 z).wf = true) : 0 ≤ z ∧ z < 18446744073709551616 := by
  simp [Lit.wf] at h
  have e1 : IntKind.u64.min = 0 := by decide
  have e2 : IntKind.u64.max = 18446744073709551615 := by decide
  rw [e1, e2] at h
  omega
theorem i64_wf {z : Int} (h : (Lit.int .i64 z).wf = true) : -9223372036854775808 ≤ z ∧ z < 9223372036854775808 := by
  simp [Lit.wf] at h
  have e1 : IntKind.i64.min = -9223372036854775808 := by decide
  have e2 : IntKind.i64.max = 9223372036854775807 := by decide
  (try rw [e1] at h)
  (try rw [e2] at h)
  omega
theorem i16_wf {z : Int} (h : (Lit.int .i16 z).wf = true) : -32768 ≤ z ∧ z < 32768 := by
  simp [Lit.wf] at h
  have e1 : IntKind.i16.min = -32768 := by decide
  have e2 : IntKind.i16.max = 32767 := by decide
  (try rw [e1] at h)
  (try rw [e2] at h)
  omega
section
open Go.Proofs Go.ChangeShapes Go.WideShapes Go.ChangeAt Go.RowKit Go.Joins
variable {H : Type} {enc : TypeId × Value → H} {P : Program} {w : World} {base : Nat} {spare : Nat → Bool} {held : Bool}
theorem trodAll_five {t0 t1 t2 t3 t4 : TypeId} {args : Array Value} {ds : List (DataW H)} {ps : List MemPlace} (h : DataW.TrodAll enc P w base spare held [t0, t1, t2, t3, t4] args.toList ds ps) :
    ∃ v0 v1 v2 v3 v4 d0 d1 d2 d3 d4 p0 p1 p2 p3 p4, args = #[v0, v1, v2, v3, v4] ∧ ds = [d0, d1, d2, d3, d4] ∧ ps = p0 ++ p1 ++ p2 ++ p3 ++ p4 ∧ DataW.Trod enc P w base spare held t0 v0 d0 p0 ∧ DataW.Trod enc P w base spare held t1 v1 d1 p1 ∧ DataW.Trod enc P w base spare held t2 v2 d2 p2 ∧ DataW.Trod enc P w base spare held t3 v3 d3 p3 ∧ DataW.Trod enc P w base spare held t4 v4 d4 p4 := by
  obtain ⟨v0, vs0, d0, ds0, p0, q0, hargs, rfl, rfl, hd0, r0⟩ := trodAll_cons h
  obtain ⟨v1, vs1, d1, ds1, p1, q1, rfl, rfl, rfl, hd1, r1⟩ := trodAll_cons r0
  obtain ⟨v2, vs2, d2, ds2, p2, q2, rfl, rfl, rfl, hd2, r2⟩ := trodAll_cons r1
  obtain ⟨v3, vs3, d3, ds3, p3, q3, rfl, rfl, rfl, hd3, r3⟩ := trodAll_cons r2
  obtain ⟨v4, vs4, d4, ds4, p4, q4, rfl, rfl, rfl, hd4, r4⟩ := trodAll_cons r3
  obtain ⟨rfl, rfl, rfl⟩ := trodAll_nil r4
  exact ⟨v0, v1, v2, v3, v4, d0, d1, d2, d3, d4, p0, p1, p2, p3, p4, by cases args; simp_all, rfl, by simp, hd0, hd1, hd2, hd3, hd4⟩
end
end Go.Vd

set_option linter.unusedVariables false
set_option maxRecDepth 100000
namespace Go.Vd
open Go.Proofs Go.ChangeShapes Go.WideShapes Go.ChangeAt Go.RowKit Go.Joins Go.Deep Go.WideElems
section
variable {H : Type} {enc : TypeId × Value → H} {P : Program} {w : World} {base : Nat} {sp : Nat → Bool} {held : Bool}
/-- A struct of three numbers, as it is read. -/
theorem trod3 {fuel : Nat} {e : TypeId} {f0 f1 f2 : Field} {cs : List Value} {a b c : Int} {p : List MemPlace} (hs : P.underlying e = some (.struct #[f0, f1, f2])) (hone : oneCellFields P #[f0, f1, f2] = true)
    (h0 : P.underlying f0.type = some (.int .i64)) (h1 : P.underlying f1.type = some (.int .i64)) (h2 : P.underlying f2.type = some (.int .i64)) (hC : P.cellsOf e = 3)
    (h : DataW.trod enc P w base sp held fuel e cs = some (.agg [.lit (.int .i64 a), .lit (.int .i64 b), .lit (.int .i64 c)], p)) : cs = [.int .i64 a, .int .i64 b, .int .i64 c] := by
  obtain ⟨xs, n, _, hx, hl, hlen, hf⟩ := DataW.trod_struct hs h
  rw [hC] at hl
  match xs, hlen with
  | [y0, y1, y2], _ =>
    match cs, hl with
    | [c0, c1, c2], _ =>
      obtain ⟨o0, k0⟩ := hone_of hone 0 f0 rfl
      have g0 := hf 0 f0 rfl
      obtain ⟨o1, k1⟩ := hone_of hone 1 f1 rfl
      have g1 := hf 1 f1 rfl
      obtain ⟨o2, k2⟩ := hone_of hone 2 f2 rfl
      have g2 := hf 2 f2 rfl
      rw [o0, k0] at g0
      rw [o1, k1] at g1
      rw [o2, k2] at g2
      obtain ⟨z0, e0, i0, _⟩ := DataW.trod_int h0 g0
      obtain ⟨z1, e1, i1, _⟩ := DataW.trod_int h1 g1
      obtain ⟨z2, e2, i2, _⟩ := DataW.trod_int h2 g2
      simp only [Prod.mk.injEq] at hx
      have hx1 := hx.1
      simp at e0 e1 e2
      subst i0 i1 i2
      simp at hx1
      obtain ⟨r0, r1, r2⟩ := hx1
      subst r0 r1 r2 e0 e1 e2
      rfl
/-- A row of such. -/
theorem cells_of_known {fuel n : Nat} {t e : TypeId} {f0 f1 f2 : Field} {cs : List Value} {L : List (Int × Int × Int)} {p : List MemPlace} (ht : P.underlying t = some (.array n e)) (hs : P.underlying e = some (.struct #[f0, f1, f2])) (hone : oneCellFields P #[f0, f1, f2] = true)
    (h0 : P.underlying f0.type = some (.int .i64)) (h1 : P.underlying f1.type = some (.int .i64)) (h2 : P.underlying f2.type = some (.int .i64)) (hC : P.cellsOf e = 3)
    (h : DataW.trod enc P w base sp held fuel t cs = some (.agg (L.map fun x => .agg [.lit (.int .i64 x.1), .lit (.int .i64 x.2.1), .lit (.int .i64 x.2.2)]), p)) :
    cs.length = P.cellsOf t ∧ L.length = n ∧ ∀ i x, L[i]? = some x → (cs.drop (i * 3)).take 3 = [.int .i64 x.1, .int .i64 x.2.1, .int .i64 x.2.2] := by
  obtain ⟨xs, m, _, hx, hl, hlen, hf⟩ := DataW.trod_array ht h
  simp only [Prod.mk.injEq] at hx
  have hx1 : L.map (fun x => (DataW.agg [.lit (.int .i64 x.1), .lit (.int .i64 x.2.1), .lit (.int .i64 x.2.2)] : DataW H)) = xs.map (·.1) := by simpa using hx.1
  have hLl : L.length = n := by
    have := congrArg List.length hx1
    simp at this
    omega
  refine ⟨hl, hLl, fun i x hi => ?_⟩
  have hin : i < n := by
    rw [← hLl]
    exact (List.getElem?_eq_some_iff.1 hi).1
  have g := hf i hin
  rw [hC] at g
  have hxi : xs[i]? = some xs[i] := List.getElem?_eq_getElem (by omega)
  rw [hxi] at g
  have h3 : (DataW.agg [.lit (.int .i64 x.1), .lit (.int .i64 x.2.1), .lit (.int .i64 x.2.2)] : DataW H) = xs[i].1 := by
    have := congrArg (·[i]?) hx1
    simp [hi, hxi] at this
    exact this
  have g' : DataW.trod enc P w base sp held m e ((cs.drop (i * 3)).take 3) = some (.agg [.lit (.int .i64 x.1), .lit (.int .i64 x.2.1), .lit (.int .i64 x.2.2)], xs[i].2) := by
    rw [g, h3]
  exact trod3 hs hone h0 h1 h2 hC g'
end
def knownT : List (Int × Int × Int) := [(2, 3, 19), (3, 1, 6), (4, 1, 12), (7, 1, 10), (11, 1, 6), (12, 1, 6), (37, 2, 12), (38, 2, 6), (39, 2, 2), (41, 2, 8), (44, 4, 25), (48, 5, 999), (49, 1, 3), (90, 1, 42), (120, 5, 999)]
theorem gKnown : Tryd.prog.globalNamed "paydesk/field.known" = some 1 := by kernel_rfl
/-- What is known of the fields' own variable. -/
def KnownIs (w : World) : Prop := ∃ cs, w.var? Tryd.prog "paydesk/field.known" = some cs ∧ cs.size = 45 ∧ ∀ j, j < 45 → cs[j]? = some (.int .i64 (knownL.getD j 0))
theorem known_at : ∀ j, j < 45 → ∃ x, knownT[j / 3]? = some x ∧ ([x.1, x.2.1, x.2.2] : List Int)[j % 3]? = some (knownL.getD j 0) := by
  intro j hj
  have h : ∀ j : Fin 45, ∃ x : Fin 15, knownT[j.val / 3]? = knownT[x.val]? ∧ ((knownT[x.val]?).bind fun x => ([x.1, x.2.1, x.2.2] : List Int)[j.val % 3]?) = some (knownL.getD j.val 0) := by decide +kernel
  obtain ⟨x, h1, h2⟩ := h ⟨j, hj⟩
  simp only at h1 h2
  rw [← h1] at h2
  obtain ⟨y, h3, h4⟩ := Option.bind_eq_some_iff.1 h2
  exact ⟨y, h3, h4⟩
theorem gTypes : Tryd.prog.globalNamed "paydesk/deal.types" = some 0 := by kernel_rfl
def TypesIs (w : World) : Prop := ∃ cs, w.var? Tryd.prog "paydesk/deal.types" = some cs ∧ cs.size = 7 ∧ ∀ j, j < 7 → cs[j]? = some (.string ⟨(typesL.getD j []).toArray⟩)
section
variable {H : Type} {enc : TypeId × Value → H} {P : Program} {w : World} {base : Nat} {sp : Nat → Bool} {held : Bool}
theorem cells_of_types {fuel n : Nat} {t e : TypeId} {cs : List Value} {L : List (List UInt8)} {p : List MemPlace} (ht : P.underlying t = some (.array n e)) (he : P.underlying e = some .string) (hC : P.cellsOf e = 1)
    (h : DataW.trod enc P w base sp held fuel t cs = some (.agg (L.map fun x => .lit (.string x)), p)) :
    cs.length = P.cellsOf t ∧ L.length = n ∧ ∀ (i : Nat) (x : List UInt8), L[i]? = some x → cs[i]? = some (.string ⟨x.toArray⟩) := by
  obtain ⟨xs, m, _, hx, hl, hlen, hf⟩ := DataW.trod_array ht h
  simp only [Prod.mk.injEq] at hx
  have hx1 : L.map (fun x => (DataW.lit (.string x) : DataW H)) = xs.map (·.1) := by simpa using hx.1
  have hLl : L.length = n := by
    have := congrArg List.length hx1
    simp at this
    omega
  refine ⟨hl, hLl, fun i x hi => ?_⟩
  have hin : i < n := by
    rw [← hLl]
    exact (List.getElem?_eq_some_iff.1 hi).1
  have g := hf i hin
  rw [hC] at g
  have hxi : xs[i]? = some xs[i] := List.getElem?_eq_getElem (by omega)
  rw [hxi] at g
  have h3 : (DataW.lit (.string x) : DataW H) = xs[i].1 := by
    have := congrArg (·[i]?) hx1
    simp [hi, hxi] at this
    exact this
  obtain ⟨s, e1, e2, _⟩ := DataW.trod_string he g
  have e3 : (DataW.lit (.string x) : DataW H) = .lit (.string s.data.toList) := h3.trans (congrArg Prod.fst e2)
  injection e3 with e3
  injection e3 with e3
  have e4 := congrArg (·[0]?) e1
  simp [List.getElem?_drop] at e4
  rw [e4, e3]
end
/-- What the tables give of the package's variables. -/
theorem gl0_kt {w : World} (hh : KnownIs w ∧ TypesIs w) : GlOk gl0 w fun _ => False := by
  obtain ⟨⟨cs0, hv0, hz0, hc0⟩, cs1, hv1, hz1, hc1⟩ := hh
  have hne : ∀ g, g ≠ 1 → g ≠ 0 → gl0 g = .val (.pointer (some ⟨g, 0, none⟩)) := fun g hg hg0 => by
    unfold gl0
    split
    · first | exact absurd rfl hg0 | exact absurd rfl hg
    · first | exact absurd rfl hg | exact absurd rfl hg0
    · rfl
  refine ⟨fun g ρ N => ?_, fun g k f e => ?_⟩
  · by_cases hg : g = 0
    · subst hg
      show Rel w ρ (fun _ => False) N _ (.rop 7 fun j => .str (typesL.getD j []))
      refine .rop ⟨0, 0, none⟩ 7 _ (fun j => .string ⟨(typesL.getD j []).toArray⟩) rfl (fun j hj => ⟨?_, rfl, fun e => e⟩) (fun j _ => by have := RelC.str (w := w) (rw := fun _ => False) ⟨(typesL.getD j []).toArray⟩; simpa using this)
      rw [add_plain, Nat.zero_add, World.var?_cell gTypes hv1]
      exact hc1 j hj
    · by_cases hg0 : g = 1
      · subst hg0
        show Rel w ρ (fun _ => False) N _ (.rop 45 fun j => .int .i64 (knownL.getD j 0))
        refine .rop ⟨1, 0, none⟩ 45 _ (fun j => .int .i64 (knownL.getD j 0)) rfl (fun j hj => ⟨?_, rfl, fun e => e⟩) (fun j _ => .int _ _)
        rw [add_plain, Nat.zero_add, World.var?_cell gKnown hv0]
        exact hc0 j hj
      · rw [hne g hg0 hg]; exact .val _
  · by_cases hg : g = 0
    · subst hg
      have e2 : (SV.rop 7 fun j => .str (typesL.getD j [])) = .rop k f := e
      cases e2
      refine ⟨?_, fun e => e⟩
      unfold World.var? at hv1
      rw [gTypes] at hv1
      simp only [Option.bind_some] at hv1
      split at hv1
      · rename_i cs t b hc
        injection hv1 with hv1
        exact ⟨cs, t, b, hc, by rw [hv1]; exact hz1⟩
      · cases hv1
    · by_cases hg0 : g = 1
      · subst hg0
        have e2 : (SV.rop 45 fun j => .int .i64 (knownL.getD j 0)) = .rop k f := e
        cases e2
        refine ⟨?_, fun e => e⟩
        unfold World.var? at hv0
        rw [gKnown] at hv0
        simp only [Option.bind_some] at hv0
        split at hv0
        · rename_i cs t b hc
          injection hv0 with hv0
          exact ⟨cs, t, b, hc, by rw [hv0]; exact hz0⟩
        · cases hv0
      · rw [hne g hg0 hg] at e; cases e
end Go.Vd
namespace Go.Proofs.YtakcggldilbilaaDoor
open Go.ChangeShapes Go.WideShapes Go.ChangeAt Go.ChangeMaps Go.RowKit Go.Joins
def laidL : List (String × DataW Unit) := [("paydesk/field.known", Rows.laid_paydesk_field_known), ("paydesk/deal.types", Rows.laid_paydesk_deal_types)]
theorem Tryd.own : ownKnob Tryd.prog.godebug = none := by kernel_rfl
theorem Tryd.laidOut : laidOutB Tryd.prog = true := by kernel_rfl
theorem tKn : (Tryd.prog.globals[1]?).map (·.type) = some 219 := by kernel_rfl
theorem cKn : Tryd.prog.cellsOf 219 = 45 := by kernel_rfl
theorem cKnE : Tryd.prog.cellsOf 171 = 3 := by kernel_rfl
theorem dKn : (Rows.laid_paydesk_field_known : DataW Unit) = .agg (Vd.knownT.map fun x => .agg [.lit (.int .i64 x.1), .lit (.int .i64 x.2.1), .lit (.int .i64 x.2.2)]) := by kernel_rfl
theorem tTy : (Tryd.prog.globals[0]?).map (·.type) = some 139 := by kernel_rfl
theorem cTy : Tryd.prog.cellsOf 139 = 7 := by kernel_rfl
theorem cTyE : Tryd.prog.cellsOf 9 = 1 := by kernel_rfl
theorem dTy : (Rows.laid_paydesk_deal_types : DataW Unit) = .agg (Vd.typesL.map fun x => .lit (.string x)) := by kernel_rfl
theorem door_met (os : Os) (args : Array Value) : laidMetH Tryd.prog laidL ((World.doorLaid Tryd.prog 2000 os).forCall (fun _ _ => 0) ⟨#[], args, []⟩).memory :=
  laidMetH_of_parts3 (fuel := 8) (laidMet_of_run' 8 (by kernel_rfl) (by kernel_rfl)) (by kernel_rfl) (by kernel_rfl)
theorem laid_known {W : World} (h : laidMetH Tryd.prog laidL W) : Vd.KnownIs W ∧ Vd.TypesIs W := by
  rw [MakeChecks.laidMetH_plain _ _ _ (by kernel_rfl)] at h
  obtain ⟨ps, ⟨g3, t3, cs3, f3, p3, q3, hg3, ht3, hv3, hd3, ⟨g4, t4, cs4, f4, p4, q4, hg4, ht4, hv4, hd4, _, _⟩, _⟩, _, _⟩ := h
  refine ⟨?_, ?_⟩
  · obtain rfl := Option.some.inj (Vd.gKnown.symm.trans hg3)
    obtain rfl := Option.some.inj (tKn.symm.trans ht3)
    rw [dKn] at hd3
    obtain ⟨hl, hn, hx⟩ := Vd.cells_of_known Tryd.underlying219 Tryd.underlying171 (by kernel_rfl) Tryd.underlying3 Tryd.underlying3 Tryd.underlying3 cKnE hd3
    rw [cKn] at hl
    refine ⟨cs3, hv3, by simpa using hl, fun j hj => ?_⟩
    obtain ⟨x, h1, h2⟩ := Vd.known_at j hj
    have h3 := hx _ x h1
    have h4 := congrArg (·[j % 3]?) h3
    rw [List.getElem?_take_of_lt (by omega), List.getElem?_drop, show j / 3 * 3 + j % 3 = j by omega] at h4
    rw [← Array.getElem?_toList, h4]
    have h5 := congrArg (Option.map (Value.int .i64)) h2
    rw [← List.getElem?_map] at h5
    exact h5
  · obtain rfl := Option.some.inj (Vd.gTypes.symm.trans hg4)
    obtain rfl := Option.some.inj (tTy.symm.trans ht4)
    rw [dTy] at hd4
    obtain ⟨hl, hn, hx⟩ := Vd.cells_of_types Tryd.underlying139 Tryd.underlying9 cTyE hd4
    rw [cTy] at hl
    refine ⟨cs4, hv4, by simpa using hl, fun j hj => ?_⟩
    rw [← Array.getElem?_toList]
    refine hx j _ ?_
    rw [List.getD_eq_getElem?_getD, List.getElem?_eq_getElem (by exact hj)]
    rfl
end Go.Proofs.YtakcggldilbilaaDoor

set_option linter.unusedVariables false
namespace Go.Vd
open Go.Proofs Go.ChangeShapes Go.WideShapes Go.ChangeAt Go.RowKit Go.Joins Go.Deep Go.WideElems
section
variable {H : Type} {enc : TypeId × Value → H} {P : Program}
theorem array7 {α : Type} {cs : Array α} (h : cs.size = 7) : ∃ c0 c1 c2 c3 c4 c5 c6, cs = #[c0, c1, c2, c3, c4, c5, c6] := by
  obtain ⟨l⟩ := cs
  match l, h with
  | [c0, c1, c2, c3, c4, c5, c6], _ => exact ⟨c0, c1, c2, c3, c4, c5, c6, rfl⟩
theorem array8 {α : Type} {cs : Array α} (h : cs.size = 8) : ∃ c0 c1 c2 c3 c4 c5 c6 c7, cs = #[c0, c1, c2, c3, c4, c5, c6, c7] := by
  obtain ⟨l⟩ := cs
  match l, h with
  | [c0, c1, c2, c3, c4, c5, c6, c7], _ => exact ⟨c0, c1, c2, c3, c4, c5, c6, c7, rfl⟩
theorem rel_agg7 {w : World} {ρ : Nat → Value} {rw N : Nat → Prop} {u0 u1 u2 u3 u4 u5 u6 : Value} {s0 s1 s2 s3 s4 s5 s6 : SV} (h0 : one u0) (h1 : one u1) (h2 : one u2) (h3 : one u3) (h4 : one u4) (h5 : one u5) (h6 : one u6) (r0 : Rel w ρ rw N u0 s0) (r1 : Rel w ρ rw N u1 s1) (r2 : Rel w ρ rw N u2 s2) (r3 : Rel w ρ rw N u3 s3) (r4 : Rel w ρ rw N u4 s4) (r5 : Rel w ρ rw N u5 s5) (r6 : Rel w ρ rw N u6 s6) : Rel w ρ rw N (.agg #[u0, u1, u2, u3, u4, u5, u6]) (.agg [s0, s1, s2, s3, s4, s5, s6]) := by
  refine .agg _ _ rfl ?_ ?_
  · intro v hv
    simp at hv
    rcases hv with rfl | rfl | rfl | rfl | rfl | rfl | rfl <;> assumption
  · intro i v s hv hs
    match i with
    | 0 => simp at hv hs; subst hv hs; exact r0
    | 1 => simp at hv hs; subst hv hs; exact r1
    | 2 => simp at hv hs; subst hv hs; exact r2
    | 3 => simp at hv hs; subst hv hs; exact r3
    | 4 => simp at hv hs; subst hv hs; exact r4
    | 5 => simp at hv hs; subst hv hs; exact r5
    | 6 => simp at hv hs; subst hv hs; exact r6
    | n + 7 => simp at hv
theorem rel_agg8 {w : World} {ρ : Nat → Value} {rw N : Nat → Prop} {u0 u1 u2 u3 u4 u5 u6 u7 : Value} {s0 s1 s2 s3 s4 s5 s6 s7 : SV} (h0 : one u0) (h1 : one u1) (h2 : one u2) (h3 : one u3) (h4 : one u4) (h5 : one u5) (h6 : one u6) (h7 : one u7) (r0 : Rel w ρ rw N u0 s0) (r1 : Rel w ρ rw N u1 s1) (r2 : Rel w ρ rw N u2 s2) (r3 : Rel w ρ rw N u3 s3) (r4 : Rel w ρ rw N u4 s4) (r5 : Rel w ρ rw N u5 s5) (r6 : Rel w ρ rw N u6 s6) (r7 : Rel w ρ rw N u7 s7) : Rel w ρ rw N (.agg #[u0, u1, u2, u3, u4, u5, u6, u7]) (.agg [s0, s1, s2, s3, s4, s5, s6, s7]) := by
  refine .agg _ _ rfl ?_ ?_
  · intro v hv
    simp at hv
    rcases hv with rfl | rfl | rfl | rfl | rfl | rfl | rfl | rfl <;> assumption
  · intro i v s hv hs
    match i with
    | 0 => simp at hv hs; subst hv hs; exact r0
    | 1 => simp at hv hs; subst hv hs; exact r1
    | 2 => simp at hv hs; subst hv hs; exact r2
    | 3 => simp at hv hs; subst hv hs; exact r3
    | 4 => simp at hv hs; subst hv hs; exact r4
    | 5 => simp at hv hs; subst hv hs; exact r5
    | 6 => simp at hv hs; subst hv hs; exact r6
    | 7 => simp at hv hs; subst hv hs; exact r7
    | n + 8 => simp at hv
theorem open_entry {W : World} {b0 base : Nat} {spare : Nat → Bool} {held : Bool} {r : Reach} {t : TypeId} {f0 f1 f2 f3 f4 f5 f6 : Field} {g00 g01 : Field} {v : Value} {d : DataW H} {p : List MemPlace} (hs : P.underlying t = some (.struct #[f0, f1, f2, f3, f4, f5, f6])) (hC : P.cellsOf t = 8)
    (o0 : f0.offset = 0) (k0 : P.cellsOf f0.type = 2) (o1 : f1.offset = 2) (k1 : P.cellsOf f1.type = 1) (o2 : f2.offset = 3) (k2 : P.cellsOf f2.type = 1) (o3 : f3.offset = 4) (k3 : P.cellsOf f3.type = 1) (o4 : f4.offset = 5) (k4 : P.cellsOf f4.type = 1) (o5 : f5.offset = 6) (k5 : P.cellsOf f5.type = 1) (o6 : f6.offset = 7) (k6 : P.cellsOf f6.type = 1) (hs0 : P.underlying f0.type = some (.struct #[g00, g01])) (hone0 : oneCellFields P #[g00, g01] = true) 
    (hv : Value.okWide P W r b0 t v) (h : DataW.Trod enc P W base spare held t v d p) :
    ∃ (c0 c1 c2 c3 c4 c5 c6 c7 : Value) (y00 y01 y1 y2 y3 y4 y5 y6 : DataW H × List MemPlace) (n m0 : Nat), v = .agg #[c0, c1, c2, c3, c4, c5, c6, c7] ∧ d = .agg [.agg [y00.1, y01.1], y1.1, y2.1, y3.1, y4.1, y5.1, y6.1] ∧ p = (y00.2 ++ (y01.2)) ++ (y1.2 ++ (y2.2 ++ (y3.2 ++ (y4.2 ++ (y5.2 ++ (y6.2)))))) ∧
      DataW.trod enc P W base spare held m0 g00.type [c0] = some y00 ∧ DataW.trod enc P W base spare held m0 g01.type [c1] = some y01 ∧ DataW.trod enc P W base spare held n f1.type [c2] = some y1 ∧ DataW.trod enc P W base spare held n f2.type [c3] = some y2 ∧ DataW.trod enc P W base spare held n f3.type [c4] = some y3 ∧ DataW.trod enc P W base spare held n f4.type [c5] = some y4 ∧ DataW.trod enc P W base spare held n f5.type [c6] = some y5 ∧ DataW.trod enc P W base spare held n f6.type [c7] = some y6 := by
  obtain ⟨cs, rfl, hsz⟩ := okWide_struct hs hv
  obtain ⟨c0, c1, c2, c3, c4, c5, c6, c7, rfl⟩ := array8 (hsz.trans hC)
  obtain ⟨fuel, hf⟩ := h
  obtain ⟨xs, n, _, hx, hl, hlen, hf⟩ := DataW.trod_struct hs hf
  match xs, hlen with
  | [w0, w1, w2, w3, w4, w5, w6], _ =>
    simp only [Prod.mk.injEq] at hx
    have q0 := hf 0 f0 rfl
    rw [o0, k0] at q0
    have q1 := hf 1 f1 rfl
    rw [o1, k1] at q1
    have q2 := hf 2 f2 rfl
    rw [o2, k2] at q2
    have q3 := hf 3 f3 rfl
    rw [o3, k3] at q3
    have q4 := hf 4 f4 rfl
    rw [o4, k4] at q4
    have q5 := hf 5 f5 rfl
    rw [o5, k5] at q5
    have q6 := hf 6 f6 rfl
    rw [o6, k6] at q6
    have q0 : DataW.trod enc P W base spare held n f0.type [c0, c1] = some w0 := by simpa [Value.cells] using q0
    obtain ⟨xs0, m0, _, hx0, _, hlen0, hf0⟩ := DataW.trod_struct hs0 q0
    match xs0, hlen0 with
    | [y00, y01], _ =>
    obtain ⟨oo00, kk00⟩ := hone_of hone0 0 g00 rfl
    have qq00 := hf0 0 g00 rfl
    rw [oo00, kk00] at qq00
    obtain ⟨oo01, kk01⟩ := hone_of hone0 1 g01 rfl
    have qq01 := hf0 1 g01 rfl
    rw [oo01, kk01] at qq01
    subst hx0
    refine ⟨c0, c1, c2, c3, c4, c5, c6, c7, y00, y01, w1, w2, w3, w4, w5, w6, n, m0, rfl, by simpa using hx.1, by simpa using hx.2, by simpa [Value.cells] using qq00, by simpa [Value.cells] using qq01, by simpa [Value.cells] using q1, by simpa [Value.cells] using q2, by simpa [Value.cells] using q3, by simpa [Value.cells] using q4, by simpa [Value.cells] using q5, by simpa [Value.cells] using q6⟩
theorem open_event {W : World} {b0 base : Nat} {spare : Nat → Bool} {held : Bool} {r : Reach} {t : TypeId} {f0 f1 : Field} {g10 g11 g12 g13 g14 g15 : Field} {v : Value} {d : DataW H} {p : List MemPlace} (hs : P.underlying t = some (.struct #[f0, f1])) (hC : P.cellsOf t = 7)
    (o0 : f0.offset = 0) (k0 : P.cellsOf f0.type = 1) (o1 : f1.offset = 1) (k1 : P.cellsOf f1.type = 6) (hs1 : P.underlying f1.type = some (.struct #[g10, g11, g12, g13, g14, g15])) (hone1 : oneCellFields P #[g10, g11, g12, g13, g14, g15] = true) 
    (hv : Value.okWide P W r b0 t v) (h : DataW.Trod enc P W base spare held t v d p) :
    ∃ (c0 c1 c2 c3 c4 c5 c6 : Value) (y0 y10 y11 y12 y13 y14 y15 : DataW H × List MemPlace) (n m1 : Nat), v = .agg #[c0, c1, c2, c3, c4, c5, c6] ∧ d = .agg [y0.1, .agg [y10.1, y11.1, y12.1, y13.1, y14.1, y15.1]] ∧ p = y0.2 ++ ((y10.2 ++ (y11.2 ++ (y12.2 ++ (y13.2 ++ (y14.2 ++ (y15.2))))))) ∧
      DataW.trod enc P W base spare held n f0.type [c0] = some y0 ∧ DataW.trod enc P W base spare held m1 g10.type [c1] = some y10 ∧ DataW.trod enc P W base spare held m1 g11.type [c2] = some y11 ∧ DataW.trod enc P W base spare held m1 g12.type [c3] = some y12 ∧ DataW.trod enc P W base spare held m1 g13.type [c4] = some y13 ∧ DataW.trod enc P W base spare held m1 g14.type [c5] = some y14 ∧ DataW.trod enc P W base spare held m1 g15.type [c6] = some y15 := by
  obtain ⟨cs, rfl, hsz⟩ := okWide_struct hs hv
  obtain ⟨c0, c1, c2, c3, c4, c5, c6, rfl⟩ := array7 (hsz.trans hC)
  obtain ⟨fuel, hf⟩ := h
  obtain ⟨xs, n, _, hx, hl, hlen, hf⟩ := DataW.trod_struct hs hf
  match xs, hlen with
  | [w0, w1], _ =>
    simp only [Prod.mk.injEq] at hx
    have q0 := hf 0 f0 rfl
    rw [o0, k0] at q0
    have q1 := hf 1 f1 rfl
    rw [o1, k1] at q1
    have q1 : DataW.trod enc P W base spare held n f1.type [c1, c2, c3, c4, c5, c6] = some w1 := by simpa [Value.cells] using q1
    obtain ⟨xs1, m1, _, hx1, _, hlen1, hf1⟩ := DataW.trod_struct hs1 q1
    match xs1, hlen1 with
    | [y10, y11, y12, y13, y14, y15], _ =>
    obtain ⟨oo10, kk10⟩ := hone_of hone1 0 g10 rfl
    have qq10 := hf1 0 g10 rfl
    rw [oo10, kk10] at qq10
    obtain ⟨oo11, kk11⟩ := hone_of hone1 1 g11 rfl
    have qq11 := hf1 1 g11 rfl
    rw [oo11, kk11] at qq11
    obtain ⟨oo12, kk12⟩ := hone_of hone1 2 g12 rfl
    have qq12 := hf1 2 g12 rfl
    rw [oo12, kk12] at qq12
    obtain ⟨oo13, kk13⟩ := hone_of hone1 3 g13 rfl
    have qq13 := hf1 3 g13 rfl
    rw [oo13, kk13] at qq13
    obtain ⟨oo14, kk14⟩ := hone_of hone1 4 g14 rfl
    have qq14 := hf1 4 g14 rfl
    rw [oo14, kk14] at qq14
    obtain ⟨oo15, kk15⟩ := hone_of hone1 5 g15 rfl
    have qq15 := hf1 5 g15 rfl
    rw [oo15, kk15] at qq15
    subst hx1
    refine ⟨c0, c1, c2, c3, c4, c5, c6, w0, y10, y11, y12, y13, y14, y15, n, m1, rfl, by simpa using hx.1, by simpa using hx.2, by simpa [Value.cells] using q0, by simpa [Value.cells] using qq10, by simpa [Value.cells] using qq11, by simpa [Value.cells] using qq12, by simpa [Value.cells] using qq13, by simpa [Value.cells] using qq14, by simpa [Value.cells] using qq15⟩
end
end Go.Vd

set_option linter.unusedVariables false
namespace Go.Vd
open Go.Proofs Go.ChangeShapes Go.WideShapes Go.ChangeAt Go.RowKit Go.Joins Go.Deep Go.WideElems
def dB (d : Dl) : Prop := (0 ≤ d.am ∧ d.am < 18446744073709551616) ∧ (0 ≤ d.s ∧ d.s < 4294967296)
theorem dB_0 : dB D0 := ⟨by decide, by decide⟩
section
variable {H : Type} {enc : TypeId × Value → H} {P : Program}
theorem dls_list {α : Type} {cs : List α} (h : cs.length = 6) : ∃ c0 c1 c2 c3 c4 c5, cs = [c0, c1, c2, c3, c4, c5] := by
  match cs, h with
  | [c0, c1, c2, c3, c4, c5], _ => exact ⟨c0, c1, c2, c3, c4, c5, rfl⟩
theorem dls_one {W : World} {ad : Addr} {n : Nat} {el : DataW H × List MemPlace} {e : TypeId} {f0 f1 f2 f3 f4 f5 : Field} (hs : P.underlying e = some (.struct #[f0, f1, f2, f3, f4, f5])) (hC : P.cellsOf e = 6)
    (o0 : f0.offset = 0) (k0 : P.cellsOf f0.type = 1) (o1 : f1.offset = 1) (k1 : P.cellsOf f1.type = 1) (o2 : f2.offset = 2) (k2 : P.cellsOf f2.type = 1) (o3 : f3.offset = 3) (k3 : P.cellsOf f3.type = 1) (o4 : f4.offset = 4) (k4 : P.cellsOf f4.type = 1) (o5 : f5.offset = 5) (k5 : P.cellsOf f5.type = 1) 
    (u0 : P.underlying f0.type = some (.int .i64)) (u1 : P.underlying f1.type = some (.string)) (u2 : P.underlying f2.type = some (.int .u64)) (u3 : P.underlying f3.type = some (.int .u32)) (u4 : P.underlying f4.type = some (.string)) (u5 : P.underlying f5.type = some (.string)) 
    (h : (W.cells? 0 ad 6).bind (DataW.trod enc P W 0 (fun _ => true) true n e) = some el) :
    ∃ x : Dl, dB x ∧ ∀ j, j < 6 → ∃ v, W.cell? (ad.add j) = some v ∧ Vd.one v ∧ RelC W (fun _ => False) v (getAt (eD std fun _ => x) j) := by
  obtain ⟨cs, hcs, hf⟩ := Option.bind_eq_some_iff.1 h
  obtain ⟨_, hlen, hcell⟩ := World.cells?_some hcs
  obtain ⟨c0, c1, c2, c3, c4, c5, rfl⟩ := dls_list hlen
  obtain ⟨xs, n', _, hx, hl, hlen2, hf⟩ := DataW.trod_struct hs hf
  match xs, hlen2 with
  | [w0, w1, w2, w3, w4, w5], _ =>
    have q0 := hf 0 f0 rfl
    rw [o0, k0] at q0
    have q0 : DataW.trod enc P W 0 (fun _ => true) true n' f0.type [c0] = some w0 := by simpa using q0
    have q1 := hf 1 f1 rfl
    rw [o1, k1] at q1
    have q1 : DataW.trod enc P W 0 (fun _ => true) true n' f1.type [c1] = some w1 := by simpa using q1
    have q2 := hf 2 f2 rfl
    rw [o2, k2] at q2
    have q2 : DataW.trod enc P W 0 (fun _ => true) true n' f2.type [c2] = some w2 := by simpa using q2
    have q3 := hf 3 f3 rfl
    rw [o3, k3] at q3
    have q3 : DataW.trod enc P W 0 (fun _ => true) true n' f3.type [c3] = some w3 := by simpa using q3
    have q4 := hf 4 f4 rfl
    rw [o4, k4] at q4
    have q4 : DataW.trod enc P W 0 (fun _ => true) true n' f4.type [c4] = some w4 := by simpa using q4
    have q5 := hf 5 f5 rfl
    rw [o5, k5] at q5
    have q5 : DataW.trod enc P W 0 (fun _ => true) true n' f5.type [c5] = some w5 := by simpa using q5
    obtain ⟨z0, e0, _, wf0⟩ := DataW.trod_int (cs := [c0]) u0 q0
    obtain ⟨s1, e1, _, _⟩ := DataW.trod_string (cs := [c1]) u1 q1
    obtain ⟨z2, e2, _, wf2⟩ := DataW.trod_int (cs := [c2]) u2 q2
    obtain ⟨z3, e3, _, wf3⟩ := DataW.trod_int (cs := [c3]) u3 q3
    obtain ⟨s4, e4, _, _⟩ := DataW.trod_string (cs := [c4]) u4 q4
    obtain ⟨s5, e5, _, _⟩ := DataW.trod_string (cs := [c5]) u5 q5
    simp only [List.cons.injEq, and_true] at e0 e1 e2 e3 e4 e5
    subst e0 e1 e2 e3 e4 e5
    refine ⟨⟨z0, s1.data.toList, z2, z3, s4.data.toList, s5.data.toList⟩, ⟨u64_wf wf2, u32_wf wf3⟩, fun j hj => ?_⟩
    have hcj := hcell j (by omega)
    match j, hj with
    | 0, _ => exact ⟨.int .i64 z0, by simpa using hcj, rfl, .int _ _⟩
    | 1, _ => exact ⟨.string s1, by simpa using hcj, rfl, .str _⟩
    | 2, _ => exact ⟨.int .u64 z2, by simpa using hcj, rfl, .int _ _⟩
    | 3, _ => exact ⟨.int .u32 z3, by simpa using hcj, rfl, .int _ _⟩
    | 4, _ => exact ⟨.string s4, by simpa using hcj, rfl, .str _⟩
    | 5, _ => exact ⟨.string s5, by simpa using hcj, rfl, .str _⟩
theorem open_dls_trod {W : World} {t e : TypeId} {v : Value} {fuel : Nat} {x : DataW H × List MemPlace} (ht : P.underlying t = some (.slice e)) {f0 f1 f2 f3 f4 f5 : Field} (hs : P.underlying e = some (.struct #[f0, f1, f2, f3, f4, f5])) (hC : P.cellsOf e = 6)
    (o0 : f0.offset = 0) (k0 : P.cellsOf f0.type = 1) (o1 : f1.offset = 1) (k1 : P.cellsOf f1.type = 1) (o2 : f2.offset = 2) (k2 : P.cellsOf f2.type = 1) (o3 : f3.offset = 3) (k3 : P.cellsOf f3.type = 1) (o4 : f4.offset = 4) (k4 : P.cellsOf f4.type = 1) (o5 : f5.offset = 5) (k5 : P.cellsOf f5.type = 1) 
    (u0 : P.underlying f0.type = some (.int .i64)) (u1 : P.underlying f1.type = some (.string)) (u2 : P.underlying f2.type = some (.int .u64)) (u3 : P.underlying f3.type = some (.int .u32)) (u4 : P.underlying f4.type = some (.string)) (u5 : P.underlying f5.type = some (.string)) 
    (h : DataW.trod enc P W 0 (fun _ => true) true fuel t [v] = some x) :
    ∃ L : List (Dl), L.length ≤ maxLen ∧ (∀ i, dB (L.getD i D0)) ∧ Vd.one v ∧ RelC W (fun _ => False) v (rowS eD D0 6 std fun _ => L) := by
  rcases DataW.trod_slice ht h with ⟨hcs, _⟩ | ⟨a, len, cap, elems, rest, n, _, hcs, _, _, hl, hm, hel, hx, _, _⟩
  · simp only [List.cons.injEq, and_true] at hcs
    subst hcs
    exact ⟨[], Nat.zero_le _, fun i => dB_0, rfl, .slc none 0 0 6 _ (fun _ _ => undef) (Nat.le_refl _) (fun i j hi => absurd hi (by omega)) (fun h => absurd h (by omega)) (fun i j hi => absurd hi (by omega))⟩
  · simp only [List.cons.injEq, and_true] at hcs
    subst hcs
    rw [hC] at hx
    have each : ∀ i, i < len → ∃ x : Dl, dB x ∧ ∀ j, j < 6 → ∃ v, W.cell? ((a.add (i * 6)).add j) = some v ∧ Vd.one v ∧ RelC W (fun _ => False) v (getAt (eD std fun _ => x) j) := by
      intro i hi
      have h1 := hx i hi
      rw [List.getElem?_eq_getElem (by omega)] at h1
      exact dls_one hs hC o0 k0 o1 k1 o2 k2 o3 k3 o4 k4 o5 k5 u0 u1 u2 u3 u4 u5 h1
    obtain ⟨F, hF⟩ : ∃ F : Nat → Dl, ∀ i, i < len → dB (F i) ∧ ∀ j, j < 6 → ∃ v, W.cell? ((a.add (i * 6)).add j) = some v ∧ Vd.one v ∧ RelC W (fun _ => False) v (getAt (eD std fun _ => F i) j) :=
      ⟨fun i => if h : i < len then Classical.choose (each i h) else D0, fun i h => by simp only [dif_pos h]; exact Classical.choose_spec (each i h)⟩
    have hadd : ∀ i j, a.add (i * 6 + j) = (a.add (i * 6)).add j := fun i j => by
      unfold Addr.add
      by_cases h1 : i = 0
      · subst h1
        simp
      · by_cases h2 : j = 0
        · subst h2
          simp
        · rw [if_neg (by omega), if_neg h2, if_neg (show ¬ i * 6 = 0 by omega)]
          simp [Nat.add_assoc]
    let L : List (Dl) := (List.range len).map F
    have hlen : L.length = len := by simp [L]
    refine ⟨L, by rw [hlen]; omega, fun i => ?_, rfl, ?_⟩
    · by_cases hi : i < len
      · have e : L.getD i D0 = F i := by simp [L, List.getD_eq_getElem?_getD, hi]
        rw [e]; exact (hF i hi).1
      · have e : L.getD i D0 = D0 := by rw [List.getD_eq_getElem?_getD, List.getElem?_eq_none (by rw [hlen]; omega)]; rfl
        rw [e]; exact dB_0
    show RelC W (fun _ => False) _ (.slc L.length 6 (rowF eD D0 std fun _ => L))
    rw [hlen]
    have hget : ∀ i, i < len → L.getD i D0 = F i := fun i hi => by simp [L, List.getD_eq_getElem?_getD, hi]
    refine .slc (some a) len cap 6 _ (fun i j => (W.cell? (a.add (i * 6 + j))).getD undef) hl (fun i j hi hj => ?_) (fun h0 => ⟨a, rfl, ?_⟩) (fun i j hi hj => ?_)
    · obtain ⟨v, h1, h2, _⟩ := (hF i hi).2 j hj
      rw [hadd, h1]
      exact ⟨a, rfl, (hadd i j).symm ▸ h1, h2, fun h => h⟩
    · obtain ⟨v, h1, _⟩ := (hF 0 h0).2 0 (by omega)
      simpa [Addr.add] using World.cell?_spot h1
    · obtain ⟨v, h1, _, h3⟩ := (hF i hi).2 j hj
      simp only [hadd, h1, Option.getD_some]
      show RelC W _ v (getAt (eD std fun _ => L.getD i D0) j)
      rw [hget i hi]
      exact h3
theorem open_dls_rel {W : World} {base : Nat} {t e : TypeId} {v : Value} {d : DataW H} {p : List MemPlace} {ρ : Nat → Value} {N : Nat → Prop} (ht : P.underlying t = some (.slice e)) {f0 f1 f2 f3 f4 f5 : Field} (hs : P.underlying e = some (.struct #[f0, f1, f2, f3, f4, f5])) (hC : P.cellsOf e = 6)
    (o0 : f0.offset = 0) (k0 : P.cellsOf f0.type = 1) (o1 : f1.offset = 1) (k1 : P.cellsOf f1.type = 1) (o2 : f2.offset = 2) (k2 : P.cellsOf f2.type = 1) (o3 : f3.offset = 3) (k3 : P.cellsOf f3.type = 1) (o4 : f4.offset = 4) (k4 : P.cellsOf f4.type = 1) (o5 : f5.offset = 5) (k5 : P.cellsOf f5.type = 1) 
    (u0 : P.underlying f0.type = some (.int .i64)) (u1 : P.underlying f1.type = some (.string)) (u2 : P.underlying f2.type = some (.int .u64)) (u3 : P.underlying f3.type = some (.int .u32)) (u4 : P.underlying f4.type = some (.string)) (u5 : P.underlying f5.type = some (.string)) 
    (hval : Value.okWide P W .any base t v) (h : DataW.Trod enc P W 0 (fun _ => true) true t v d p) :
    ∃ L : List (Dl), L.length ≤ maxLen ∧ (∀ i, dB (L.getD i D0)) ∧ Rel W ρ (fun _ => False) N v (rowS eD D0 6 std fun _ => L) := by
  obtain ⟨a1, len, cap, rfl⟩ := okWide_slice ht hval
  obtain ⟨fuel, hf⟩ := h
  simp only [Value.cells] at hf
  obtain ⟨L, hL, hB, _, hr⟩ := open_dls_trod ht hs hC o0 k0 o1 k1 o2 k2 o3 k3 o4 k4 o5 k5 u0 u1 u2 u3 u4 u5 (by simpa using hf)
  exact ⟨L, hL, hB, hr.rel⟩
theorem bos_list {α : Type} {cs : List α} (h : cs.length = 1) : ∃ c0, cs = [c0] := by
  match cs, h with
  | [c0], _ => exact ⟨c0, rfl⟩
theorem bos_one {W : World} {ad : Addr} {n : Nat} {el : DataW H × List MemPlace} {e : TypeId} (hs : P.underlying e = some .bool) (hC : P.cellsOf e = 1)
    (h : (W.cells? 0 ad 1).bind (DataW.trod enc P W 0 (fun _ => true) true n e) = some el) :
    ∃ x : Bool, ∀ j, j < 1 → ∃ v, W.cell? (ad.add j) = some v ∧ Vd.one v ∧ RelC W (fun _ => False) v (getAt (eO std fun _ => x) j) := by
  obtain ⟨cs, hcs, hf⟩ := Option.bind_eq_some_iff.1 h
  obtain ⟨_, hlen, hcell⟩ := World.cells?_some hcs
  obtain ⟨c0, rfl⟩ := bos_list hlen
  obtain ⟨b0, e0, _⟩ := DataW.trod_bool (cs := [c0]) hs hf
  simp only [List.cons.injEq, and_true] at e0
  subst e0
  refine ⟨b0, fun j hj => ?_⟩
  have hcj := hcell j (by omega)
  match j, hj with
  | 0, _ => exact ⟨.bool b0, by simpa using hcj, rfl, .bool _⟩
theorem open_bos_trod {W : World} {t e : TypeId} {v : Value} {fuel : Nat} {x : DataW H × List MemPlace} (ht : P.underlying t = some (.slice e)) (hs : P.underlying e = some .bool) (hC : P.cellsOf e = 1)
    (h : DataW.trod enc P W 0 (fun _ => true) true fuel t [v] = some x) :
    ∃ L : List (Bool), L.length ≤ maxLen ∧ Vd.one v ∧ RelC W (fun _ => False) v (rowS eO false 1 std fun _ => L) := by
  rcases DataW.trod_slice ht h with ⟨hcs, _⟩ | ⟨a, len, cap, elems, rest, n, _, hcs, _, _, hl, hm, hel, hx, _, _⟩
  · simp only [List.cons.injEq, and_true] at hcs
    subst hcs
    exact ⟨[], Nat.zero_le _, rfl, .slc none 0 0 1 _ (fun _ _ => undef) (Nat.le_refl _) (fun i j hi => absurd hi (by omega)) (fun h => absurd h (by omega)) (fun i j hi => absurd hi (by omega))⟩
  · simp only [List.cons.injEq, and_true] at hcs
    subst hcs
    rw [hC] at hx
    have each : ∀ i, i < len → ∃ x : Bool, ∀ j, j < 1 → ∃ v, W.cell? ((a.add (i * 1)).add j) = some v ∧ Vd.one v ∧ RelC W (fun _ => False) v (getAt (eO std fun _ => x) j) := by
      intro i hi
      have h1 := hx i hi
      rw [List.getElem?_eq_getElem (by omega)] at h1
      exact bos_one hs hC h1
    obtain ⟨F, hF⟩ : ∃ F : Nat → Bool, ∀ i, i < len → ∀ j, j < 1 → ∃ v, W.cell? ((a.add (i * 1)).add j) = some v ∧ Vd.one v ∧ RelC W (fun _ => False) v (getAt (eO std fun _ => F i) j) :=
      ⟨fun i => if h : i < len then Classical.choose (each i h) else false, fun i h => by simp only [dif_pos h]; exact Classical.choose_spec (each i h)⟩
    have hadd : ∀ i j, a.add (i * 1 + j) = (a.add (i * 1)).add j := fun i j => by
      unfold Addr.add
      by_cases h1 : i = 0
      · subst h1
        simp
      · by_cases h2 : j = 0
        · subst h2
          simp
        · rw [if_neg (by omega), if_neg h2, if_neg (show ¬ i * 1 = 0 by omega)]
          simp [Nat.add_assoc]
    let L : List (Bool) := (List.range len).map F
    have hlen : L.length = len := by simp [L]
    refine ⟨L, by rw [hlen]; omega, rfl, ?_⟩
    show RelC W (fun _ => False) _ (.slc L.length 1 (rowF eO false std fun _ => L))
    rw [hlen]
    have hget : ∀ i, i < len → L.getD i false = F i := fun i hi => by simp [L, List.getD_eq_getElem?_getD, hi]
    refine .slc (some a) len cap 1 _ (fun i j => (W.cell? (a.add (i * 1 + j))).getD undef) hl (fun i j hi hj => ?_) (fun h0 => ⟨a, rfl, ?_⟩) (fun i j hi hj => ?_)
    · obtain ⟨v, h1, h2, _⟩ := hF i hi j hj
      rw [hadd, h1]
      exact ⟨a, rfl, (hadd i j).symm ▸ h1, h2, fun h => h⟩
    · obtain ⟨v, h1, _⟩ := hF 0 h0 0 (by omega)
      simpa [Addr.add] using World.cell?_spot h1
    · obtain ⟨v, h1, _, h3⟩ := hF i hi j hj
      simp only [hadd, h1, Option.getD_some]
      show RelC W _ v (getAt (eO std fun _ => L.getD i false) j)
      rw [hget i hi]
      exact h3
theorem open_bos_rel {W : World} {base : Nat} {t e : TypeId} {v : Value} {d : DataW H} {p : List MemPlace} {ρ : Nat → Value} {N : Nat → Prop} (ht : P.underlying t = some (.slice e)) (hs : P.underlying e = some .bool) (hC : P.cellsOf e = 1)
    (hval : Value.okWide P W .any base t v) (h : DataW.Trod enc P W 0 (fun _ => true) true t v d p) :
    ∃ L : List (Bool), L.length ≤ maxLen ∧ Rel W ρ (fun _ => False) N v (rowS eO false 1 std fun _ => L) := by
  obtain ⟨a1, len, cap, rfl⟩ := okWide_slice ht hval
  obtain ⟨fuel, hf⟩ := h
  simp only [Value.cells] at hf
  obtain ⟨L, hL, _, hr⟩ := open_bos_trod ht hs hC (by simpa using hf)
  exact ⟨L, hL, hr.rel⟩
end
end Go.Vd

set_option linter.unusedVariables false
namespace Go.Vd
open Go.Proofs Go.ChangeShapes Go.WideShapes Go.ChangeAt Go.RowKit Go.Joins Go.Deep Go.WideElems
def hB (e : Hld) : Prop := 0 ≤ e.am
theorem hB_0 : hB H0 := (by decide : (0 : Int) ≤ 0)
section
variable {H : Type} {enc : TypeId × Value → H} {P : Program}
theorem hds_list {α : Type} {cs : List α} (h : cs.length = 4) : ∃ c0 c1 c2 c3, cs = [c0, c1, c2, c3] := by
  match cs, h with
  | [c0, c1, c2, c3], _ => exact ⟨c0, c1, c2, c3, rfl⟩
theorem hds_one {W : World} {ad : Addr} {n : Nat} {el : DataW H × List MemPlace} {e : TypeId} {f0 f1 f2 g00 g01 : Field} (hs : P.underlying e = some (.struct #[f0, f1, f2])) (hC : P.cellsOf e = 4)
    (o0 : f0.offset = 0) (k0 : P.cellsOf f0.type = 2) (hs0 : P.underlying f0.type = some (.struct #[g00, g01])) (hone0 : oneCellFields P #[g00, g01] = true) (o1 : f1.offset = 2) (k1 : P.cellsOf f1.type = 1) (o2 : f2.offset = 3) (k2 : P.cellsOf f2.type = 1) 
    (u0 : P.underlying g00.type = some (.int .u32)) (u1 : P.underlying g01.type = some (.string)) (u2 : P.underlying f1.type = some (.int .u64)) (u3 : P.underlying f2.type = some (.int .i64)) 
    (h : (W.cells? 0 ad 4).bind (DataW.trod enc P W 0 (fun _ => true) true n e) = some el) :
    ∃ x : Hld, hB x ∧ ∀ j, j < 4 → ∃ v, W.cell? (ad.add j) = some v ∧ Vd.one v ∧ RelC W (fun _ => False) v (getAt (eH std fun _ => x) j) := by
  obtain ⟨cs, hcs, hf⟩ := Option.bind_eq_some_iff.1 h
  obtain ⟨_, hlen, hcell⟩ := World.cells?_some hcs
  obtain ⟨c0, c1, c2, c3, rfl⟩ := hds_list hlen
  obtain ⟨xs, n', _, hx, hl, hlen2, hf⟩ := DataW.trod_struct hs hf
  match xs, hlen2 with
  | [w0, w1, w2], _ =>
    have q0 := hf 0 f0 rfl
    rw [o0, k0] at q0
    have q0 : DataW.trod enc P W 0 (fun _ => true) true n' f0.type [c0, c1] = some w0 := by simpa using q0
    obtain ⟨xs0, m0, _, hx0, _, hlen0, hf0⟩ := DataW.trod_struct hs0 q0
    match xs0, hlen0 with
    | [y00, y01], _ =>
    obtain ⟨oo00, kk00⟩ := hone_of hone0 0 g00 rfl
    have qq00 := hf0 0 g00 rfl
    rw [oo00, kk00] at qq00
    obtain ⟨oo01, kk01⟩ := hone_of hone0 1 g01 rfl
    have qq01 := hf0 1 g01 rfl
    rw [oo01, kk01] at qq01
    have q1 := hf 1 f1 rfl
    rw [o1, k1] at q1
    have q1 : DataW.trod enc P W 0 (fun _ => true) true n' f1.type [c2] = some w1 := by simpa using q1
    have q2 := hf 2 f2 rfl
    rw [o2, k2] at q2
    have q2 : DataW.trod enc P W 0 (fun _ => true) true n' f2.type [c3] = some w2 := by simpa using q2
    obtain ⟨z0, e0, _, wf0⟩ := DataW.trod_int (cs := [c0]) u0 (by simpa using qq00)
    obtain ⟨s1, e1, _, _⟩ := DataW.trod_string (cs := [c1]) u1 (by simpa using qq01)
    obtain ⟨z2, e2, _, wf2⟩ := DataW.trod_int (cs := [c2]) u2 q1
    obtain ⟨z3, e3, _, wf3⟩ := DataW.trod_int (cs := [c3]) u3 q2
    simp only [List.cons.injEq, and_true] at e0 e1 e2 e3
    subst e0 e1 e2 e3
    refine ⟨⟨z0, s1.data.toList, z2, z3⟩, (u64_wf wf2).1, fun j hj => ?_⟩
    have hcj := hcell j (by omega)
    match j, hj with
    | 0, _ => exact ⟨.int .u32 z0, by simpa using hcj, rfl, .int _ _⟩
    | 1, _ => exact ⟨.string s1, by simpa using hcj, rfl, .str _⟩
    | 2, _ => exact ⟨.int .u64 z2, by simpa using hcj, rfl, .int _ _⟩
    | 3, _ => exact ⟨.int .i64 z3, by simpa using hcj, rfl, .int _ _⟩
theorem open_hds_trod {W : World} {t e : TypeId} {v : Value} {fuel : Nat} {x : DataW H × List MemPlace} (ht : P.underlying t = some (.slice e)) {f0 f1 f2 g00 g01 : Field} (hs : P.underlying e = some (.struct #[f0, f1, f2])) (hC : P.cellsOf e = 4)
    (o0 : f0.offset = 0) (k0 : P.cellsOf f0.type = 2) (hs0 : P.underlying f0.type = some (.struct #[g00, g01])) (hone0 : oneCellFields P #[g00, g01] = true) (o1 : f1.offset = 2) (k1 : P.cellsOf f1.type = 1) (o2 : f2.offset = 3) (k2 : P.cellsOf f2.type = 1) 
    (u0 : P.underlying g00.type = some (.int .u32)) (u1 : P.underlying g01.type = some (.string)) (u2 : P.underlying f1.type = some (.int .u64)) (u3 : P.underlying f2.type = some (.int .i64)) 
    (h : DataW.trod enc P W 0 (fun _ => true) true fuel t [v] = some x) :
    ∃ L : List (Hld), L.length ≤ maxLen ∧ (∀ i, hB (L.getD i H0)) ∧ Vd.one v ∧ RelC W (fun _ => False) v (rowS eH H0 4 std fun _ => L) := by
  rcases DataW.trod_slice ht h with ⟨hcs, _⟩ | ⟨a, len, cap, elems, rest, n, _, hcs, _, _, hl, hm, hel, hx, _, _⟩
  · simp only [List.cons.injEq, and_true] at hcs
    subst hcs
    exact ⟨[], Nat.zero_le _, fun i => hB_0, rfl, .slc none 0 0 4 _ (fun _ _ => undef) (Nat.le_refl _) (fun i j hi => absurd hi (by omega)) (fun h => absurd h (by omega)) (fun i j hi => absurd hi (by omega))⟩
  · simp only [List.cons.injEq, and_true] at hcs
    subst hcs
    rw [hC] at hx
    have each : ∀ i, i < len → ∃ x : Hld, hB x ∧ ∀ j, j < 4 → ∃ v, W.cell? ((a.add (i * 4)).add j) = some v ∧ Vd.one v ∧ RelC W (fun _ => False) v (getAt (eH std fun _ => x) j) := by
      intro i hi
      have h1 := hx i hi
      rw [List.getElem?_eq_getElem (by omega)] at h1
      exact hds_one hs hC o0 k0 hs0 hone0 o1 k1 o2 k2 u0 u1 u2 u3 h1
    obtain ⟨F, hF⟩ : ∃ F : Nat → Hld, ∀ i, i < len → hB (F i) ∧ ∀ j, j < 4 → ∃ v, W.cell? ((a.add (i * 4)).add j) = some v ∧ Vd.one v ∧ RelC W (fun _ => False) v (getAt (eH std fun _ => F i) j) :=
      ⟨fun i => if h : i < len then Classical.choose (each i h) else H0, fun i h => by simp only [dif_pos h]; exact Classical.choose_spec (each i h)⟩
    have hadd : ∀ i j, a.add (i * 4 + j) = (a.add (i * 4)).add j := fun i j => by
      unfold Addr.add
      by_cases h1 : i = 0
      · subst h1
        simp
      · by_cases h2 : j = 0
        · subst h2
          simp
        · rw [if_neg (by omega), if_neg h2, if_neg (show ¬ i * 4 = 0 by omega)]
          simp [Nat.add_assoc]
    let L : List (Hld) := (List.range len).map F
    have hlen : L.length = len := by simp [L]
    refine ⟨L, by rw [hlen]; omega, fun i => ?_, rfl, ?_⟩
    · by_cases hi : i < len
      · have e : L.getD i H0 = F i := by simp [L, List.getD_eq_getElem?_getD, hi]
        rw [e]; exact (hF i hi).1
      · have e : L.getD i H0 = H0 := by rw [List.getD_eq_getElem?_getD, List.getElem?_eq_none (by rw [hlen]; omega)]; rfl
        rw [e]; exact hB_0
    show RelC W (fun _ => False) _ (.slc L.length 4 (rowF eH H0 std fun _ => L))
    rw [hlen]
    have hget : ∀ i, i < len → L.getD i H0 = F i := fun i hi => by simp [L, List.getD_eq_getElem?_getD, hi]
    refine .slc (some a) len cap 4 _ (fun i j => (W.cell? (a.add (i * 4 + j))).getD undef) hl (fun i j hi hj => ?_) (fun h0 => ⟨a, rfl, ?_⟩) (fun i j hi hj => ?_)
    · obtain ⟨v, h1, h2, _⟩ := (hF i hi).2 j hj
      rw [hadd, h1]
      exact ⟨a, rfl, (hadd i j).symm ▸ h1, h2, fun h => h⟩
    · obtain ⟨v, h1, _⟩ := (hF 0 h0).2 0 (by omega)
      simpa [Addr.add] using World.cell?_spot h1
    · obtain ⟨v, h1, _, h3⟩ := (hF i hi).2 j hj
      simp only [hadd, h1, Option.getD_some]
      show RelC W _ v (getAt (eH std fun _ => L.getD i H0) j)
      rw [hget i hi]
      exact h3
theorem open_hds_rel {W : World} {base : Nat} {t e : TypeId} {v : Value} {d : DataW H} {p : List MemPlace} {ρ : Nat → Value} {N : Nat → Prop} (ht : P.underlying t = some (.slice e)) {f0 f1 f2 g00 g01 : Field} (hs : P.underlying e = some (.struct #[f0, f1, f2])) (hC : P.cellsOf e = 4)
    (o0 : f0.offset = 0) (k0 : P.cellsOf f0.type = 2) (hs0 : P.underlying f0.type = some (.struct #[g00, g01])) (hone0 : oneCellFields P #[g00, g01] = true) (o1 : f1.offset = 2) (k1 : P.cellsOf f1.type = 1) (o2 : f2.offset = 3) (k2 : P.cellsOf f2.type = 1) 
    (u0 : P.underlying g00.type = some (.int .u32)) (u1 : P.underlying g01.type = some (.string)) (u2 : P.underlying f1.type = some (.int .u64)) (u3 : P.underlying f2.type = some (.int .i64)) 
    (hval : Value.okWide P W .any base t v) (h : DataW.Trod enc P W 0 (fun _ => true) true t v d p) :
    ∃ L : List (Hld), L.length ≤ maxLen ∧ (∀ i, hB (L.getD i H0)) ∧ Rel W ρ (fun _ => False) N v (rowS eH H0 4 std fun _ => L) := by
  obtain ⟨a1, len, cap, rfl⟩ := okWide_slice ht hval
  obtain ⟨fuel, hf⟩ := h
  simp only [Value.cells] at hf
  obtain ⟨L, hL, hB, _, hr⟩ := open_hds_trod ht hs hC o0 k0 hs0 hone0 o1 k1 o2 k2 u0 u1 u2 u3 (by simpa using hf)
  exact ⟨L, hL, hB, hr.rel⟩
theorem open_agg1 {W : World} {b0 : Nat} {t : TypeId} {f0 : Field} {v : Value} {d : DataW H} {p : List MemPlace} (hs : P.underlying t = some (.struct #[f0])) (hone : oneCellFields P #[f0] = true) (hC : P.cellsOf t = 1)
    (hv : Value.okWide P W .any b0 t v) (h : DataW.Trod enc P W 0 (fun _ => true) true t v d p) :
    ∃ (v0 : Value) (y0 : DataW H × List MemPlace) (n : Nat), v = .agg #[v0] ∧ d = .agg [y0.1] ∧ p = y0.2 ∧ DataW.trod enc P W 0 (fun _ => true) true n f0.type [v0] = some y0 := by
  obtain ⟨cs, rfl, hsz⟩ := okWide_struct hs hv
  obtain ⟨c0, rfl⟩ : ∃ c0, cs = #[c0] := by
    obtain ⟨l⟩ := cs
    match l, (hsz.trans hC : (Array.mk l).size = 1) with
    | [c0], _ => exact ⟨c0, rfl⟩
  obtain ⟨fuel, hf⟩ := h
  obtain ⟨xs, n, _, hx, hl, hlen, hf⟩ := DataW.trod_struct hs hf
  match xs, hlen with
  | [y0], _ =>
    obtain ⟨o0, k0⟩ := hone_of hone 0 f0 rfl
    have q0 := hf 0 f0 rfl
    rw [o0, k0] at q0
    simp only [Prod.mk.injEq] at hx
    exact ⟨c0, y0, n, rfl, by simpa using hx.1, by simpa using hx.2, by simpa [Value.cells] using q0⟩
end
end Go.Vd

