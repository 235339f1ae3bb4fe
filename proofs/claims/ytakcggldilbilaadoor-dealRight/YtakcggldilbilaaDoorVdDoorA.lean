/- What a door's rows say of the package's variables: the deals' laws. -/
import Derived.Test.YtakcggldilbilaaDoorRows
import Derived.Test.YtakcggldilbilaaDoorCards
import Derived.Test.YtakcggldilbilaaDoorTie
import Derived.Test.YtakcggldilbilaaDoorVdG7
import Derived.Test.YtakcggldilbilaaDoorVdH7
import Derived.Test.YtakcggldilbilaaDoorVdWf4
import Derived.ProofKit
import Derived.LaidMore
import Derived.OpenShut
import Derived.Stop.Joined
import Derived.SevenTiedAt
import Derived.Lib.LaidTab
set_option linter.unusedVariables false
set_option maxRecDepth 100000
namespace Go.Vd
open Go.Proofs Go.ChangeShapes Go.WideShapes Go.ChangeAt Go.RowKit Go.Joins Go.Deep Go.WideElems
section
variable {H : Type} {enc : TypeId × Value → H} {P : Program} {w : World} {base : Nat} {sp : Nat → Bool} {held : Bool}
/-- A struct of three numbers, as it is read. -/
theorem trod3 {fuel : Nat} {e : TypeId} {f0 f1 f2 : Field} {cs : List Value} {a b c : Int} {p : List MemPlace} (hs : P.underlying e = some (.struct #[f0, f1, f2])) (hone : oneCellFields P #[f0, f1, f2] = true)
    (h0 : P.underlying f0.type = some (.int .i64)) (h1 : P.underlying f1.type = some (.int .i64)) (h2 : P.underlying f2.type = some (.int .i64)) (hC : P.cellsOf e = 3)
    (h : DataW.trod enc P w base sp held fuel e cs = some (.agg [.lit (.int .i64 a), .lit (.int .i64 b), .lit (.int .i64 c)], p)) : cs = [.int .i64 a, .int .i64 b, .int .i64 c] := by
  obtain ⟨xs, n, _, hx, hl, hlen, hf⟩ := DataW.trod_struct hs h
  rw [hC] at hl
  match xs, hlen with
  | [y0, y1, y2], _ =>
    match cs, hl with
    | [c0, c1, c2], _ =>
      obtain ⟨o0, k0⟩ := hone_of hone 0 f0 rfl
      have g0 := hf 0 f0 rfl
      obtain ⟨o1, k1⟩ := hone_of hone 1 f1 rfl
      have g1 := hf 1 f1 rfl
      obtain ⟨o2, k2⟩ := hone_of hone 2 f2 rfl
      have g2 := hf 2 f2 rfl
      rw [o0, k0] at g0
      rw [o1, k1] at g1
      rw [o2, k2] at g2
      obtain ⟨z0, e0, i0, _⟩ := DataW.trod_int h0 g0
      obtain ⟨z1, e1, i1, _⟩ := DataW.trod_int h1 g1
      obtain ⟨z2, e2, i2, _⟩ := DataW.trod_int h2 g2
      simp only [Prod.mk.injEq] at hx
      have hx1 := hx.1
      simp at e0 e1 e2
      subst i0 i1 i2
      simp at hx1
      obtain ⟨r0, r1, r2⟩ := hx1
      subst r0 r1 r2 e0 e1 e2
      rfl
/-- A row of such. -/
theorem cells_of_known {fuel n : Nat} {t e : TypeId} {f0 f1 f2 : Field} {cs : List Value} {L : List (Int × Int × Int)} {p : List MemPlace} (ht : P.underlying t = some (.array n e)) (hs : P.underlying e = some (.struct #[f0, f1, f2])) (hone : oneCellFields P #[f0, f1, f2] = true)
    (h0 : P.underlying f0.type = some (.int .i64)) (h1 : P.underlying f1.type = some (.int .i64)) (h2 : P.underlying f2.type = some (.int .i64)) (hC : P.cellsOf e = 3)
    (h : DataW.trod enc P w base sp held fuel t cs = some (.agg (L.map fun x => .agg [.lit (.int .i64 x.1), .lit (.int .i64 x.2.1), .lit (.int .i64 x.2.2)]), p)) :
    cs.length = P.cellsOf t ∧ L.length = n ∧ ∀ i x, L[i]? = some x → (cs.drop (i * 3)).take 3 = [.int .i64 x.1, .int .i64 x.2.1, .int .i64 x.2.2] := by
  obtain ⟨xs, m, _, hx, hl, hlen, hf⟩ := DataW.trod_array ht h
  simp only [Prod.mk.injEq] at hx
  have hx1 : L.map (fun x => (DataW.agg [.lit (.int .i64 x.1), .lit (.int .i64 x.2.1), .lit (.int .i64 x.2.2)] : DataW H)) = xs.map (·.1) := by simpa using hx.1
  have hLl : L.length = n := by
    have := congrArg List.length hx1
    simp at this
    omega
  refine ⟨hl, hLl, fun i x hi => ?_⟩
  have hin : i < n := by
    rw [← hLl]
    exact (List.getElem?_eq_some_iff.1 hi).1
  have g := hf i hin
  rw [hC] at g
  have hxi : xs[i]? = some xs[i] := List.getElem?_eq_getElem (by omega)
  rw [hxi] at g
  have h3 : (DataW.agg [.lit (.int .i64 x.1), .lit (.int .i64 x.2.1), .lit (.int .i64 x.2.2)] : DataW H) = xs[i].1 := by
    have := congrArg (·[i]?) hx1
    simp [hi, hxi] at this
    exact this
  have g' : DataW.trod enc P w base sp held m e ((cs.drop (i * 3)).take 3) = some (.agg [.lit (.int .i64 x.1), .lit (.int .i64 x.2.1), .lit (.int .i64 x.2.2)], xs[i].2) := by
    rw [g, h3]
  exact trod3 hs hone h0 h1 h2 hC g'
end
def knownT : List (Int × Int × Int) := [(2, 3, 19), (3, 1, 6), (4, 1, 12), (7, 1, 10), (11, 1, 6), (12, 1, 6), (37, 2, 12), (38, 2, 6), (39, 2, 2), (41, 2, 8), (44, 4, 25), (48, 5, 999), (49, 1, 3), (90, 1, 42), (120, 5, 999)]
theorem gKnown : Tryd.prog.globalNamed "paydesk/field.known" = some 1 := by kernel_rfl
/-- What is known of the fields' own variable. -/
def KnownIs (w : World) : Prop := ∃ cs, w.var? Tryd.prog "paydesk/field.known" = some cs ∧ cs.size = 45 ∧ ∀ j, j < 45 → cs[j]? = some (.int .i64 (knownL.getD j 0))
theorem known_at : ∀ j, j < 45 → ∃ x, knownT[j / 3]? = some x ∧ ([x.1, x.2.1, x.2.2] : List Int)[j % 3]? = some (knownL.getD j 0) := by
  intro j hj
  have h : ∀ j : Fin 45, ∃ x : Fin 15, knownT[j.val / 3]? = knownT[x.val]? ∧ ((knownT[x.val]?).bind fun x => ([x.1, x.2.1, x.2.2] : List Int)[j.val % 3]?) = some (knownL.getD j.val 0) := by decide +kernel
  obtain ⟨x, h1, h2⟩ := h ⟨j, hj⟩
  simp only at h1 h2
  rw [← h1] at h2
  obtain ⟨y, h3, h4⟩ := Option.bind_eq_some_iff.1 h2
  exact ⟨y, h3, h4⟩
theorem gTypes : Tryd.prog.globalNamed "paydesk/deal.types" = some 0 := by kernel_rfl
def TypesIs (w : World) : Prop := ∃ cs, w.var? Tryd.prog "paydesk/deal.types" = some cs ∧ cs.size = 7 ∧ ∀ j, j < 7 → cs[j]? = some (.string ⟨(typesL.getD j []).toArray⟩)
section
variable {H : Type} {enc : TypeId × Value → H} {P : Program} {w : World} {base : Nat} {sp : Nat → Bool} {held : Bool}
theorem cells_of_types {fuel n : Nat} {t e : TypeId} {cs : List Value} {L : List (List UInt8)} {p : List MemPlace} (ht : P.underlying t = some (.array n e)) (he : P.underlying e = some .string) (hC : P.cellsOf e = 1)
    (h : DataW.trod enc P w base sp held fuel t cs = some (.agg (L.map fun x => .lit (.string x)), p)) :
    cs.length = P.cellsOf t ∧ L.length = n ∧ ∀ (i : Nat) (x : List UInt8), L[i]? = some x → cs[i]? = some (.string ⟨x.toArray⟩) := by
  obtain ⟨xs, m, _, hx, hl, hlen, hf⟩ := DataW.trod_array ht h
  simp only [Prod.mk.injEq] at hx
  have hx1 : L.map (fun x => (DataW.lit (.string x) : DataW H)) = xs.map (·.1) := by simpa using hx.1
  have hLl : L.length = n := by
    have := congrArg List.length hx1
    simp at this
    omega
  refine ⟨hl, hLl, fun i x hi => ?_⟩
  have hin : i < n := by
    rw [← hLl]
    exact (List.getElem?_eq_some_iff.1 hi).1
  have g := hf i hin
  rw [hC] at g
  have hxi : xs[i]? = some xs[i] := List.getElem?_eq_getElem (by omega)
  rw [hxi] at g
  have h3 : (DataW.lit (.string x) : DataW H) = xs[i].1 := by
    have := congrArg (·[i]?) hx1
    simp [hi, hxi] at this
    exact this
  obtain ⟨s, e1, e2, _⟩ := DataW.trod_string he g
  have e3 : (DataW.lit (.string x) : DataW H) = .lit (.string s.data.toList) := h3.trans (congrArg Prod.fst e2)
  injection e3 with e3
  injection e3 with e3
  have e4 := congrArg (·[0]?) e1
  simp [List.getElem?_drop] at e4
  rw [e4, e3]
end
/-- What the tables give of the package's variables. -/
theorem gl0_all {w : World} (hh : Lib.TabIs Tryd.prog w "internal/strconv.uint64pow10" .u64 Lib.pow10Tab ∧ KnownIs w ∧ TypesIs w) : GlOk gl0 w fun _ => False := by
  obtain ⟨h, ⟨cs0, hv0, hz0, hc0⟩, cs1, hv1, hz1, hc1⟩ := hh
  have hne : ∀ g, g ≠ 1 → g ≠ 0 → g ≠ 2 → gl0 g = .val (.pointer (some ⟨g, 0, none⟩)) := fun g hg hg0 hg1 => by
    unfold gl0
    split
    · first | exact absurd rfl hg0 | exact absurd rfl hg | exact absurd rfl hg1
    · first | exact absurd rfl hg0 | exact absurd rfl hg | exact absurd rfl hg1
    · first | exact absurd rfl hg0 | exact absurd rfl hg | exact absurd rfl hg1
    · rfl
  refine ⟨fun g ρ N => ?_, fun g k f e => ?_⟩
  · by_cases hg : g = 0
    · subst hg
      show Rel w ρ (fun _ => False) N _ (.rop 7 fun j => .str (typesL.getD j []))
      refine .rop ⟨0, 0, none⟩ 7 _ (fun j => .string ⟨(typesL.getD j []).toArray⟩) rfl (fun j hj => ⟨?_, rfl, fun e => e⟩) (fun j _ => by have := RelC.str (w := w) (rw := fun _ => False) ⟨(typesL.getD j []).toArray⟩; simpa using this)
      rw [Lib.add_plain, Nat.zero_add, World.var?_cell gTypes hv1]
      exact hc1 j hj
    · by_cases hg0 : g = 1
      · subst hg0
        show Rel w ρ (fun _ => False) N _ (.rop 45 fun j => .int .i64 (knownL.getD j 0))
        refine .rop ⟨1, 0, none⟩ 45 _ (fun j => .int .i64 (knownL.getD j 0)) rfl (fun j hj => ⟨?_, rfl, fun e => e⟩) (fun j _ => .int _ _)
        rw [Lib.add_plain, Nat.zero_add, World.var?_cell gKnown hv0]
        exact hc0 j hj
      · by_cases hg1 : g = 2
        · subst hg1
          show Rel w ρ (fun _ => False) N _ (.rop 20 fun j => .int .u64 (Lib.pow10Tab.getD j 0))
          refine .rop ⟨2, 0, none⟩ 20 _ (fun j => .int .u64 (Lib.pow10Tab.getD j 0)) rfl (fun j hj => ⟨?_, rfl, fun e => e⟩) (fun j _ => .int _ _)
          rw [Lib.add_plain, Nat.zero_add]
          exact h.cell gTab j (by rw [Lib.pow10Tab_length]; exact hj)
        · rw [hne g hg0 hg hg1]; exact .val _
  · by_cases hg : g = 0
    · subst hg
      have e2 : (SV.rop 7 fun j => .str (typesL.getD j [])) = .rop k f := e
      cases e2
      refine ⟨?_, fun e => e⟩
      unfold World.var? at hv1
      rw [gTypes] at hv1
      simp only [Option.bind_some] at hv1
      split at hv1
      · rename_i cs t b hc
        injection hv1 with hv1
        exact ⟨cs, t, b, hc, by rw [hv1]; exact hz1⟩
      · cases hv1
    · by_cases hg0 : g = 1
      · subst hg0
        have e2 : (SV.rop 45 fun j => .int .i64 (knownL.getD j 0)) = .rop k f := e
        cases e2
        refine ⟨?_, fun e => e⟩
        unfold World.var? at hv0
        rw [gKnown] at hv0
        simp only [Option.bind_some] at hv0
        split at hv0
        · rename_i cs t b hc
          injection hv0 with hv0
          exact ⟨cs, t, b, hc, by rw [hv0]; exact hz0⟩
        · cases hv0
      · by_cases hg1 : g = 2
        · subst hg1
          have e2 : (SV.rop 20 fun j => .int .u64 (Lib.pow10Tab.getD j 0)) = .rop k f := e
          cases e2
          refine ⟨?_, fun e => e⟩
          unfold Lib.TabIs World.var? at h
          rw [gTab] at h
          simp only [Option.bind_some] at h
          split at h
          · rename_i cs t b hc
            injection h with h
            exact ⟨cs, t, b, hc, by rw [h]; simp [Lib.pow10Tab_length]⟩
          · cases h
        · rw [hne g hg0 hg hg1] at e; cases e
end Go.Vd
namespace Go.Proofs.YtakcggldilbilaaDoor
open Go.ChangeShapes Go.WideShapes Go.ChangeAt Go.ChangeMaps Go.RowKit Go.Joins
def laidL : List (String × DataW Unit) := [("math/bits.deBruijn32tab", Rows.laid_math_bits_deBruijn32tab), ("math/bits.deBruijn64tab", Rows.laid_math_bits_deBruijn64tab), ("internal/strconv.uint64pow10", Rows.laid_internal_strconv_uint64pow10), ("paydesk/field.known", Rows.laid_paydesk_field_known), ("paydesk/deal.types", Rows.laid_paydesk_deal_types)]
theorem Tryd.own : ownKnob Tryd.prog.godebug = none := by kernel_rfl
theorem Tryd.laidOut : laidOutB Tryd.prog = true := by kernel_rfl
theorem tTab : (Tryd.prog.globals[2]?).map (·.type) = some 248 := by kernel_rfl
theorem cTab : Tryd.prog.cellsOf 248 = 20 := by kernel_rfl
theorem cTabE : Tryd.prog.cellsOf 49 = 1 := by kernel_rfl
theorem dTab : (Rows.laid_internal_strconv_uint64pow10 : DataW Unit) = Lib.tabData .u64 Lib.pow10Tab := by kernel_rfl
theorem tKn : (Tryd.prog.globals[1]?).map (·.type) = some 219 := by kernel_rfl
theorem cKn : Tryd.prog.cellsOf 219 = 45 := by kernel_rfl
theorem cKnE : Tryd.prog.cellsOf 171 = 3 := by kernel_rfl
theorem dKn : (Rows.laid_paydesk_field_known : DataW Unit) = .agg (Vd.knownT.map fun x => .agg [.lit (.int .i64 x.1), .lit (.int .i64 x.2.1), .lit (.int .i64 x.2.2)]) := by kernel_rfl
theorem tTy : (Tryd.prog.globals[0]?).map (·.type) = some 139 := by kernel_rfl
theorem cTy : Tryd.prog.cellsOf 139 = 7 := by kernel_rfl
theorem cTyE : Tryd.prog.cellsOf 9 = 1 := by kernel_rfl
theorem dTy : (Rows.laid_paydesk_deal_types : DataW Unit) = .agg (Vd.typesL.map fun x => .lit (.string x)) := by kernel_rfl
theorem door_met (os : Os) (args : Array Value) : laidMetH Tryd.prog laidL ((World.doorLaid Tryd.prog 2000 os).forCall (fun _ _ => 0) ⟨#[], args, []⟩).memory :=
  laidMetH_of_parts3 (fuel := 8) (laidMet_of_run' 8 (by kernel_rfl) (by kernel_rfl)) (by kernel_rfl) (by kernel_rfl)
theorem laid_known {W : World} (h : laidMetH Tryd.prog laidL W) : Lib.TabIs Tryd.prog W "internal/strconv.uint64pow10" .u64 Lib.pow10Tab ∧ Vd.KnownIs W ∧ Vd.TypesIs W := by
  rw [MakeChecks.laidMetH_plain _ _ _ (by kernel_rfl)] at h
  obtain ⟨ps, ⟨_, _, _, _, _, _, _, _, _, _, ⟨_, _, _, _, _, _, _, _, _, _, ⟨g2, t2, cs2, f2, p2, q2, hg2, ht2, hv2, hd2, ⟨g3, t3, cs3, f3, p3, q3, hg3, ht3, hv3, hd3, ⟨g4, t4, cs4, f4, p4, q4, hg4, ht4, hv4, hd4, _, _⟩, _⟩, _⟩, _⟩, _⟩, _, _⟩ := h
  refine ⟨?_, ?_, ?_⟩
  · obtain rfl := Option.some.inj (Vd.gTab.symm.trans hg2)
    obtain rfl := Option.some.inj (tTab.symm.trans ht2)
    unfold Lib.TabIs
    rw [dTab] at hd2
    rw [hv2, ← Lib.cells_of_tab Tryd.underlying248 Tryd.underlying49 cTabE cTab hd2]
  · obtain rfl := Option.some.inj (Vd.gKnown.symm.trans hg3)
    obtain rfl := Option.some.inj (tKn.symm.trans ht3)
    rw [dKn] at hd3
    obtain ⟨hl, hn, hx⟩ := Vd.cells_of_known Tryd.underlying219 Tryd.underlying171 (by kernel_rfl) Tryd.underlying3 Tryd.underlying3 Tryd.underlying3 cKnE hd3
    rw [cKn] at hl
    refine ⟨cs3, hv3, by simpa using hl, fun j hj => ?_⟩
    obtain ⟨x, h1, h2⟩ := Vd.known_at j hj
    have h3 := hx _ x h1
    have h4 := congrArg (·[j % 3]?) h3

    rw [List.getElem?_take_of_lt (by omega), List.getElem?_drop, show j / 3 * 3 + j % 3 = j by omega] at h4
    rw [← Array.getElem?_toList, h4]
    have h5 := congrArg (Option.map (Value.int .i64)) h2
    rw [← List.getElem?_map] at h5
    exact h5
  · obtain rfl := Option.some.inj (Vd.gTypes.symm.trans hg4)
    obtain rfl := Option.some.inj (tTy.symm.trans ht4)
    rw [dTy] at hd4
    obtain ⟨hl, hn, hx⟩ := Vd.cells_of_types Tryd.underlying139 Tryd.underlying9 cTyE hd4
    rw [cTy] at hl
    refine ⟨cs4, hv4, by simpa using hl, fun j hj => ?_⟩
    rw [← Array.getElem?_toList]
    refine hx j _ ?_
    rw [List.getD_eq_getElem?_getD, List.getElem?_eq_getElem (by exact hj)]
    rfl
end Go.Proofs.YtakcggldilbilaaDoor
