/- Opening inputs: bytes within a struct. -/
import Derived.Test.YtakcggldilbilaaDoorVdRow2
import Derived.Lib.SmallJoins
import Derived.Test.YtakcggldilbilaaDoorRows
import Derived.Test.YtakcggldilbilaaDoorCards
import Derived.Test.YtakcggldilbilaaDoorTie
import Derived.Test.YtakcggldilbilaaDoorVdH3
import Derived.ProofKit
import Derived.LaidMore
import Derived.OpenShut
import Derived.Stop.Joined
import Derived.SevenTiedAt
import Derived.Lib.LaidTab
import Derived.Test.YtakcggldilbilaaDoorVdI1
set_option linter.unusedVariables false
namespace Go.Vd
open Go.Proofs Go.ChangeShapes Go.WideShapes Go.ChangeAt Go.RowKit Go.Joins Go.Deep Go.WideElems
theorem u16_wf {z : Int} (h : (Lit.int .u16 z).wf = true) : 0 ≤ z ∧ z < 65536 := by
  simp [Lit.wf] at h
  have e1 : IntKind.u16.min = 0 := by decide
  have e2 : IntKind.u16.max = 65535 := by decide
  rw [e1, e2] at h
  exact ⟨h.1, by omega⟩
section
variable {H : Type} {enc : TypeId × Value → H} {P : Program}
theorem open_eB_trod {W : World} {t e : TypeId} {v : Value} {fuel : Nat} {x : DataW H × List MemPlace} (ht : P.underlying t = some (.slice e)) (he : P.underlying e = some (.int .u8)) (hc : P.cellsOf e = 1)
    (h : DataW.trod enc P W 0 (fun _ => true) true fuel t [v] = some x) : ∃ L : List UInt8, L.length ≤ maxLen ∧ one v ∧ RelC W (fun _ => False) v (rowS eB 0 1 std fun _ => L) := by
  rcases open_ints ht he hc h with ⟨hcs, hx⟩ | ⟨a, len, cap, zs, hcs, _, hl, hm, hz, hx, hcell, hwz⟩
  · simp only [List.cons.injEq, and_true] at hcs
    subst hcs
    exact ⟨[], Nat.zero_le _, rfl, .slc none 0 0 1 _ (fun _ _ => undef) (Nat.le_refl _) (fun i j hi => absurd hi (by omega)) (fun h => absurd h (by omega)) (fun i j hi => absurd hi (by omega))⟩
  · simp only [List.cons.injEq, and_true] at hcs
    subst hcs
    simp only [if_true] at hz
    have hlen : ((zs.take len).map fun n => UInt8.ofNat n.toNat).length = len := by simp; omega
    refine ⟨(zs.take len).map fun n => UInt8.ofNat n.toNat, by rw [hlen]; omega, rfl, ?_⟩
    show RelC W (fun _ => False) _ (.slc ((zs.take len).map fun n => UInt8.ofNat n.toNat).length 1 (rowF eB 0 std fun _ => (zs.take len).map fun n => UInt8.ofNat n.toNat))
    rw [hlen]
    refine .slc (some a) len cap 1 _ (fun i _ => .int .u8 (zs.getD i 0)) hl (fun i j hi hj => ⟨a, rfl, ?_, rfl, fun h => h⟩) (fun h => ⟨a, rfl, ?_⟩) (fun i j hi hj => ?_)
    · rw [show i * 1 + j = i by omega]
      exact hcell i (by omega)
    · simpa [Addr.add] using World.cell?_spot (hcell 0 (by omega))
    · obtain rfl : j = 0 := by omega
      have hw := u8_wf (hwz (zs.getD i 0) (by rw [List.getD_eq_getElem?_getD, List.getElem?_eq_getElem (by omega)]; simp))
      have : (zs.getD i 0) = (((zs.take len).map fun n => UInt8.ofNat n.toNat).getD i 0).toNat := by
        rw [List.getD_eq_getElem?_getD, List.getD_eq_getElem?_getD, List.getElem?_map, List.getElem?_take_of_lt hi]
        rw [List.getD_eq_getElem?_getD] at hw
        rw [List.getElem?_eq_getElem (by omega)] at hw ⊢
        simp at hw ⊢
        omega
      show RelC W _ _ (SV.int .u8 _)
      rw [this]
      exact .int _ _
theorem array6 {α : Type} {cs : Array α} (h : cs.size = 6) : ∃ c0 c1 c2 c3 c4 c5, cs = #[c0, c1, c2, c3, c4, c5] := by
  obtain ⟨l⟩ := cs
  match l, h with
  | [c0, c1, c2, c3, c4, c5], _ => exact ⟨c0, c1, c2, c3, c4, c5, rfl⟩
theorem open_agg6 {W : World} {b0 base : Nat} {spare : Nat → Bool} {held : Bool} {r : Reach} {t : TypeId} {f0 f1 f2 f3 f4 f5 : Field} {v : Value} {d : DataW H} {p : List MemPlace} (hs : P.underlying t = some (.struct #[f0, f1, f2, f3, f4, f5])) (hone : oneCellFields P #[f0, f1, f2, f3, f4, f5] = true) (hC : P.cellsOf t = 6)
    (hv : Value.okWide P W r b0 t v) (h : DataW.Trod enc P W base spare held t v d p) :
    ∃ (v0 v1 v2 v3 v4 v5 : Value) (y0 y1 y2 y3 y4 y5 : DataW H × List MemPlace) (n : Nat), v = .agg #[v0, v1, v2, v3, v4, v5] ∧ d = .agg [y0.1, y1.1, y2.1, y3.1, y4.1, y5.1] ∧ p = y0.2 ++ (y1.2 ++ (y2.2 ++ (y3.2 ++ (y4.2 ++ y5.2)))) ∧
      DataW.trod enc P W base spare held n f0.type [v0] = some y0 ∧ DataW.trod enc P W base spare held n f1.type [v1] = some y1 ∧ DataW.trod enc P W base spare held n f2.type [v2] = some y2 ∧ DataW.trod enc P W base spare held n f3.type [v3] = some y3 ∧ DataW.trod enc P W base spare held n f4.type [v4] = some y4 ∧ DataW.trod enc P W base spare held n f5.type [v5] = some y5 := by
  obtain ⟨cs, rfl, hsz⟩ := okWide_struct hs hv
  obtain ⟨c0, c1, c2, c3, c4, c5, rfl⟩ := array6 (hsz.trans hC)
  obtain ⟨fuel, hf⟩ := h
  obtain ⟨xs, n, _, hx, hl, hlen, hf⟩ := DataW.trod_struct hs hf
  match xs, hlen with
  | [y0, y1, y2, y3, y4, y5], _ =>
    obtain ⟨o0, k0⟩ := hone_of hone 0 f0 rfl
    have h0 := hf 0 f0 rfl
    obtain ⟨o1, k1⟩ := hone_of hone 1 f1 rfl
    have h1 := hf 1 f1 rfl
    obtain ⟨o2, k2⟩ := hone_of hone 2 f2 rfl
    have h2 := hf 2 f2 rfl
    obtain ⟨o3, k3⟩ := hone_of hone 3 f3 rfl
    have h3 := hf 3 f3 rfl
    obtain ⟨o4, k4⟩ := hone_of hone 4 f4 rfl
    have h4 := hf 4 f4 rfl
    obtain ⟨o5, k5⟩ := hone_of hone 5 f5 rfl
    have h5 := hf 5 f5 rfl
    simp only [Prod.mk.injEq] at hx
    exact ⟨c0, c1, c2, c3, c4, c5, y0, y1, y2, y3, y4, y5, n, rfl, by simpa using hx.1, by simpa using hx.2, by simpa [Value.cells, o0, k0] using h0, by simpa [Value.cells, o1, k1] using h1, by simpa [Value.cells, o2, k2] using h2, by simpa [Value.cells, o3, k3] using h3, by simpa [Value.cells, o4, k4] using h4, by simpa [Value.cells, o5, k5] using h5⟩
theorem rel_agg6 {w : World} {ρ : Nat → Value} {rw N : Nat → Prop} {u0 u1 u2 u3 u4 u5 : Value} {s0 s1 s2 s3 s4 s5 : SV} (h0 : one u0) (h1 : one u1) (h2 : one u2) (h3 : one u3) (h4 : one u4) (h5 : one u5)
    (r0 : Rel w ρ rw N u0 s0) (r1 : Rel w ρ rw N u1 s1) (r2 : Rel w ρ rw N u2 s2) (r3 : Rel w ρ rw N u3 s3) (r4 : Rel w ρ rw N u4 s4) (r5 : Rel w ρ rw N u5 s5) : Rel w ρ rw N (.agg #[u0, u1, u2, u3, u4, u5]) (.agg [s0, s1, s2, s3, s4, s5]) := by
  refine .agg _ _ rfl ?_ ?_
  · intro v hv
    simp at hv
    rcases hv with rfl | rfl | rfl | rfl | rfl | rfl <;> assumption
  · intro i v s hv hs
    match i with
    | 0 => simp at hv hs; subst hv hs; exact r0
    | 1 => simp at hv hs; subst hv hs; exact r1
    | 2 => simp at hv hs; subst hv hs; exact r2
    | 3 => simp at hv hs; subst hv hs; exact r3
    | 4 => simp at hv hs; subst hv hs; exact r4
    | 5 => simp at hv hs; subst hv hs; exact r5
    | n + 6 => simp at hv
theorem u32_wf {z : Int} (h : (Lit.int .u32 z).wf = true) : 0 ≤ z ∧ z < 4294967296 := by
  simp [Lit.wf] at h
  have e1 : IntKind.u32.min = 0 := by decide
  have e2 : IntKind.u32.max = 4294967295 := by decide
  rw [e1, e2] at h
  exact ⟨h.1, by omega⟩
end
end Go.Vd

set_option linter.unusedVariables false
namespace Go.Vd
theorem u64_wf {z : Int} (h : (Lit.int .u64 z).wf = true) : 0 ≤ z ∧ z < 18446744073709551616 := by
  simp [Lit.wf] at h
  have e1 : IntKind.u64.min = 0 := by decide
  have e2 : IntKind.u64.max = 18446744073709551615 := by decide
  rw [e1, e2] at h
  omega
theorem i64_wf {z : Int} (h : (Lit.int .i64 z).wf = true) : -9223372036854775808 ≤ z ∧ z < 9223372036854775808 := by
  simp [Lit.wf] at h
  have e1 : IntKind.i64.min = -9223372036854775808 := by decide
  have e2 : IntKind.i64.max = 9223372036854775807 := by decide
  (try rw [e1] at h)
  (try rw [e2] at h)
  omega
theorem i16_wf {z : Int} (h : (Lit.int .i16 z).wf = true) : -32768 ≤ z ∧ z < 32768 := by
  simp [Lit.wf] at h
  have e1 : IntKind.i16.min = -32768 := by decide
  have e2 : IntKind.i16.max = 32767 := by decide
  (try rw [e1] at h)
  (try rw [e2] at h)
  omega
section
open Go.Proofs Go.ChangeShapes Go.WideShapes Go.ChangeAt Go.RowKit Go.Joins
variable {H : Type} {enc : TypeId × Value → H} {P : Program} {w : World} {base : Nat} {spare : Nat → Bool} {held : Bool}
theorem trodAll_five {t0 t1 t2 t3 t4 : TypeId} {args : Array Value} {ds : List (DataW H)} {ps : List MemPlace} (h : DataW.TrodAll enc P w base spare held [t0, t1, t2, t3, t4] args.toList ds ps) :
    ∃ v0 v1 v2 v3 v4 d0 d1 d2 d3 d4 p0 p1 p2 p3 p4, args = #[v0, v1, v2, v3, v4] ∧ ds = [d0, d1, d2, d3, d4] ∧ ps = p0 ++ p1 ++ p2 ++ p3 ++ p4 ∧ DataW.Trod enc P w base spare held t0 v0 d0 p0 ∧ DataW.Trod enc P w base spare held t1 v1 d1 p1 ∧ DataW.Trod enc P w base spare held t2 v2 d2 p2 ∧ DataW.Trod enc P w base spare held t3 v3 d3 p3 ∧ DataW.Trod enc P w base spare held t4 v4 d4 p4 := by
  obtain ⟨v0, vs0, d0, ds0, p0, q0, hargs, rfl, rfl, hd0, r0⟩ := trodAll_cons h
  obtain ⟨v1, vs1, d1, ds1, p1, q1, rfl, rfl, rfl, hd1, r1⟩ := trodAll_cons r0
  obtain ⟨v2, vs2, d2, ds2, p2, q2, rfl, rfl, rfl, hd2, r2⟩ := trodAll_cons r1
  obtain ⟨v3, vs3, d3, ds3, p3, q3, rfl, rfl, rfl, hd3, r3⟩ := trodAll_cons r2
  obtain ⟨v4, vs4, d4, ds4, p4, q4, rfl, rfl, rfl, hd4, r4⟩ := trodAll_cons r3
  obtain ⟨rfl, rfl, rfl⟩ := trodAll_nil r4
  exact ⟨v0, v1, v2, v3, v4, d0, d1, d2, d3, d4, p0, p1, p2, p3, p4, by cases args; simp_all, rfl, by simp, hd0, hd1, hd2, hd3, hd4⟩
end
end Go.Vd

set_option linter.unusedVariables false
set_option maxRecDepth 100000
namespace Go.Vd
open Go.Proofs Go.ChangeShapes Go.WideShapes Go.ChangeAt Go.RowKit Go.Joins Go.Deep Go.WideElems
section
variable {H : Type} {enc : TypeId × Value → H} {P : Program} {w : World} {base : Nat} {sp : Nat → Bool} {held : Bool}
/-- A struct of three numbers, as it is read. -/
theorem trod3 {fuel : Nat} {e : TypeId} {f0 f1 f2 : Field} {cs : List Value} {a b c : Int} {p : List MemPlace} (hs : P.underlying e = some (.struct #[f0, f1, f2])) (hone : oneCellFields P #[f0, f1, f2] = true)
    (h0 : P.underlying f0.type = some (.int .i64)) (h1 : P.underlying f1.type = some (.int .i64)) (h2 : P.underlying f2.type = some (.int .i64)) (hC : P.cellsOf e = 3)
    (h : DataW.trod enc P w base sp held fuel e cs = some (.agg [.lit (.int .i64 a), .lit (.int .i64 b), .lit (.int .i64 c)], p)) : cs = [.int .i64 a, .int .i64 b, .int .i64 c] := by
  obtain ⟨xs, n, _, hx, hl, hlen, hf⟩ := DataW.trod_struct hs h
  rw [hC] at hl
  match xs, hlen with
  | [y0, y1, y2], _ =>
    match cs, hl with
    | [c0, c1, c2], _ =>
      obtain ⟨o0, k0⟩ := hone_of hone 0 f0 rfl
      have g0 := hf 0 f0 rfl
      obtain ⟨o1, k1⟩ := hone_of hone 1 f1 rfl
      have g1 := hf 1 f1 rfl
      obtain ⟨o2, k2⟩ := hone_of hone 2 f2 rfl
      have g2 := hf 2 f2 rfl
      rw [o0, k0] at g0
      rw [o1, k1] at g1
      rw [o2, k2] at g2
      obtain ⟨z0, e0, i0, _⟩ := DataW.trod_int h0 g0
      obtain ⟨z1, e1, i1, _⟩ := DataW.trod_int h1 g1
      obtain ⟨z2, e2, i2, _⟩ := DataW.trod_int h2 g2
      simp only [Prod.mk.injEq] at hx
      have hx1 := hx.1
      simp at e0 e1 e2
      subst i0 i1 i2
      simp at hx1
      obtain ⟨r0, r1, r2⟩ := hx1
      subst r0 r1 r2 e0 e1 e2
      rfl
/-- A row of such. -/
theorem cells_of_known {fuel n : Nat} {t e : TypeId} {f0 f1 f2 : Field} {cs : List Value} {L : List (Int × Int × Int)} {p : List MemPlace} (ht : P.underlying t = some (.array n e)) (hs : P.underlying e = some (.struct #[f0, f1, f2])) (hone : oneCellFields P #[f0, f1, f2] = true)
    (h0 : P.underlying f0.type = some (.int .i64)) (h1 : P.underlying f1.type = some (.int .i64)) (h2 : P.underlying f2.type = some (.int .i64)) (hC : P.cellsOf e = 3)
    (h : DataW.trod enc P w base sp held fuel t cs = some (.agg (L.map fun x => .agg [.lit (.int .i64 x.1), .lit (.int .i64 x.2.1), .lit (.int .i64 x.2.2)]), p)) :
    cs.length = P.cellsOf t ∧ L.length = n ∧ ∀ i x, L[i]? = some x → (cs.drop (i * 3)).take 3 = [.int .i64 x.1, .int .i64 x.2.1, .int .i64 x.2.2] := by
  obtain ⟨xs, m, _, hx, hl, hlen, hf⟩ := DataW.trod_array ht h
  simp only [Prod.mk.injEq] at hx
  have hx1 : L.map (fun x => (DataW.agg [.lit (.int .i64 x.1), .lit (.int .i64 x.2.1), .lit (.int .i64 x.2.2)] : DataW H)) = xs.map (·.1) := by simpa using hx.1
  have hLl : L.length = n := by
    have := congrArg List.length hx1
    simp at this
    omega
  refine ⟨hl, hLl, fun i x hi => ?_⟩
  have hin : i < n := by
    rw [← hLl]
    exact (List.getElem?_eq_some_iff.1 hi).1
  have g := hf i hin
  rw [hC] at g
  have hxi : xs[i]? = some xs[i] := List.getElem?_eq_getElem (by omega)
  rw [hxi] at g
  have h3 : (DataW.agg [.lit (.int .i64 x.1), .lit (.int .i64 x.2.1), .lit (.int .i64 x.2.2)] : DataW H) = xs[i].1 := by
    have := congrArg (·[i]?) hx1
    simp [hi, hxi] at this
    exact this
  have g' : DataW.trod enc P w base sp held m e ((cs.drop (i * 3)).take 3) = some (.agg [.lit (.int .i64 x.1), .lit (.int .i64 x.2.1), .lit (.int .i64 x.2.2)], xs[i].2) := by
    rw [g, h3]
  exact trod3 hs hone h0 h1 h2 hC g'
end
def knownT : List (Int × Int × Int) := [(2, 3, 19), (3, 1, 6), (4, 1, 12), (7, 1, 10), (11, 1, 6), (12, 1, 6), (37, 2, 12), (38, 2, 6), (39, 2, 2), (41, 2, 8), (44, 4, 25), (48, 5, 999), (49, 1, 3), (90, 1, 42), (120, 5, 999)]
theorem gKnown : Tryd.prog.globalNamed "paydesk/field.known" = some 1 := by kernel_rfl
/-- What is known of the fields' own variable. -/
def KnownIs (w : World) : Prop := ∃ cs, w.var? Tryd.prog "paydesk/field.known" = some cs ∧ cs.size = 45 ∧ ∀ j, j < 45 → cs[j]? = some (.int .i64 (knownL.getD j 0))
theorem known_at : ∀ j, j < 45 → ∃ x, knownT[j / 3]? = some x ∧ ([x.1, x.2.1, x.2.2] : List Int)[j % 3]? = some (knownL.getD j 0) := by
  intro j hj
  have h : ∀ j : Fin 45, ∃ x : Fin 15, knownT[j.val / 3]? = knownT[x.val]? ∧ ((knownT[x.val]?).bind fun x => ([x.1, x.2.1, x.2.2] : List Int)[j.val % 3]?) = some (knownL.getD j.val 0) := by decide +kernel
  obtain ⟨x, h1, h2⟩ := h ⟨j, hj⟩
  simp only at h1 h2
  rw [← h1] at h2
  obtain ⟨y, h3, h4⟩ := Option.bind_eq_some_iff.1 h2
  exact ⟨y, h3, h4⟩
/-- What the tables give of the package's variables. -/
theorem gl0_kn {w : World} (hh : KnownIs w) : GlOk gl0 w fun _ => False := by
  obtain ⟨cs0, hv0, hz0, hc0⟩ := hh
  have hne : ∀ g, g ≠ 1 → gl0 g = .val (.pointer (some ⟨g, 0, none⟩)) := fun g hg => by
    unfold gl0
    split
    · exact absurd rfl hg
    · rfl
  refine ⟨fun g ρ N => ?_, fun g k f e => ?_⟩
  · by_cases hg0 : g = 1
    · subst hg0
      show Rel w ρ (fun _ => False) N _ (.rop 45 fun j => .int .i64 (knownL.getD j 0))
      refine .rop ⟨1, 0, none⟩ 45 _ (fun j => .int .i64 (knownL.getD j 0)) rfl (fun j hj => ⟨?_, rfl, fun e => e⟩) (fun j _ => .int _ _)
      rw [add_plain, Nat.zero_add, World.var?_cell gKnown hv0]
      exact hc0 j hj
    · rw [hne g hg0]; exact .val _
  · by_cases hg0 : g = 1
    · subst hg0
      have e2 : (SV.rop 45 fun j => .int .i64 (knownL.getD j 0)) = .rop k f := e
      cases e2
      refine ⟨?_, fun e => e⟩
      unfold World.var? at hv0
      rw [gKnown] at hv0
      simp only [Option.bind_some] at hv0
      split at hv0
      · rename_i cs t b hc
        injection hv0 with hv0
        exact ⟨cs, t, b, hc, by rw [hv0]; exact hz0⟩
      · cases hv0
    · rw [hne g hg0] at e; cases e
end Go.Vd
namespace Go.Proofs.YtakcggldilbilaaDoor
open Go.ChangeShapes Go.WideShapes Go.ChangeAt Go.ChangeMaps Go.RowKit Go.Joins
def laidL : List (String × DataW Unit) := [("paydesk/field.known", Rows.laid_paydesk_field_known)]
theorem Tryd.own : ownKnob Tryd.prog.godebug = none := by kernel_rfl
theorem Tryd.laidOut : laidOutB Tryd.prog = true := by kernel_rfl
theorem tKn : (Tryd.prog.globals[1]?).map (·.type) = some 219 := by kernel_rfl
theorem cKn : Tryd.prog.cellsOf 219 = 45 := by kernel_rfl
theorem cKnE : Tryd.prog.cellsOf 171 = 3 := by kernel_rfl
theorem dKn : (Rows.laid_paydesk_field_known : DataW Unit) = .agg (Vd.knownT.map fun x => .agg [.lit (.int .i64 x.1), .lit (.int .i64 x.2.1), .lit (.int .i64 x.2.2)]) := by kernel_rfl
theorem door_met (os : Os) (args : Array Value) : laidMetH Tryd.prog laidL ((World.doorLaid Tryd.prog 2000 os).forCall (fun _ _ => 0) ⟨#[], args, []⟩).memory :=
  laidMetH_of_parts3 (fuel := 8) (laidMet_of_run' 8 (by kernel_rfl) (by kernel_rfl)) (by kernel_rfl) (by kernel_rfl)
theorem laid_known {W : World} (h : laidMetH Tryd.prog laidL W) : Vd.KnownIs W := by
  rw [MakeChecks.laidMetH_plain _ _ _ (by kernel_rfl)] at h
  obtain ⟨ps, ⟨g3, t3, cs3, f3, p3, q3, hg3, ht3, hv3, hd3, _, _⟩, _, _⟩ := h
  obtain rfl := Option.some.inj (Vd.gKnown.symm.trans hg3)
  obtain rfl := Option.some.inj (tKn.symm.trans ht3)
  rw [dKn] at hd3
  obtain ⟨hl, hn, hx⟩ := Vd.cells_of_known Tryd.underlying219 Tryd.underlying171 (by kernel_rfl) Tryd.underlying3 Tryd.underlying3 Tryd.underlying3 cKnE hd3
  rw [cKn] at hl
  refine ⟨cs3, hv3, by simpa using hl, fun j hj => ?_⟩
  obtain ⟨x, h1, h2⟩ := Vd.known_at j hj
  have h3 := hx _ x h1
  have h4 := congrArg (·[j % 3]?) h3
  rw [List.getElem?_take_of_lt (by omega), List.getElem?_drop, show j / 3 * 3 + j % 3 = j by omega] at h4
  rw [← Array.getElem?_toList, h4]
  have h5 := congrArg (Option.map (Value.int .i64)) h2
  rw [← List.getElem?_map] at h5
  exact h5
end Go.Proofs.YtakcggldilbilaaDoor

set_option linter.unusedVariables false
namespace Go.Vd
open Go.Proofs Go.ChangeShapes Go.WideShapes Go.ChangeAt Go.RowKit Go.Joins Go.Deep Go.WideElems
section
variable {H : Type} {enc : TypeId × Value → H} {P : Program}
theorem array7 {α : Type} {cs : Array α} (h : cs.size = 7) : ∃ c0 c1 c2 c3 c4 c5 c6, cs = #[c0, c1, c2, c3, c4, c5, c6] := by
  obtain ⟨l⟩ := cs
  match l, h with
  | [c0, c1, c2, c3, c4, c5, c6], _ => exact ⟨c0, c1, c2, c3, c4, c5, c6, rfl⟩
theorem array8 {α : Type} {cs : Array α} (h : cs.size = 8) : ∃ c0 c1 c2 c3 c4 c5 c6 c7, cs = #[c0, c1, c2, c3, c4, c5, c6, c7] := by
  obtain ⟨l⟩ := cs
  match l, h with
  | [c0, c1, c2, c3, c4, c5, c6, c7], _ => exact ⟨c0, c1, c2, c3, c4, c5, c6, c7, rfl⟩
theorem rel_agg7 {w : World} {ρ : Nat → Value} {rw N : Nat → Prop} {u0 u1 u2 u3 u4 u5 u6 : Value} {s0 s1 s2 s3 s4 s5 s6 : SV} (h0 : one u0) (h1 : one u1) (h2 : one u2) (h3 : one u3) (h4 : one u4) (h5 : one u5) (h6 : one u6) (r0 : Rel w ρ rw N u0 s0) (r1 : Rel w ρ rw N u1 s1) (r2 : Rel w ρ rw N u2 s2) (r3 : Rel w ρ rw N u3 s3) (r4 : Rel w ρ rw N u4 s4) (r5 : Rel w ρ rw N u5 s5) (r6 : Rel w ρ rw N u6 s6) : Rel w ρ rw N (.agg #[u0, u1, u2, u3, u4, u5, u6]) (.agg [s0, s1, s2, s3, s4, s5, s6]) := by
  refine .agg _ _ rfl ?_ ?_
  · intro v hv
    simp at hv
    rcases hv with rfl | rfl | rfl | rfl | rfl | rfl | rfl <;> assumption
  · intro i v s hv hs
    match i with
    | 0 => simp at hv hs; subst hv hs; exact r0
    | 1 => simp at hv hs; subst hv hs; exact r1
    | 2 => simp at hv hs; subst hv hs; exact r2
    | 3 => simp at hv hs; subst hv hs; exact r3
    | 4 => simp at hv hs; subst hv hs; exact r4
    | 5 => simp at hv hs; subst hv hs; exact r5
    | 6 => simp at hv hs; subst hv hs; exact r6
    | n + 7 => simp at hv
theorem rel_agg8 {w : World} {ρ : Nat → Value} {rw N : Nat → Prop} {u0 u1 u2 u3 u4 u5 u6 u7 : Value} {s0 s1 s2 s3 s4 s5 s6 s7 : SV} (h0 : one u0) (h1 : one u1) (h2 : one u2) (h3 : one u3) (h4 : one u4) (h5 : one u5) (h6 : one u6) (h7 : one u7) (r0 : Rel w ρ rw N u0 s0) (r1 : Rel w ρ rw N u1 s1) (r2 : Rel w ρ rw N u2 s2) (r3 : Rel w ρ rw N u3 s3) (r4 : Rel w ρ rw N u4 s4) (r5 : Rel w ρ rw N u5 s5) (r6 : Rel w ρ rw N u6 s6) (r7 : Rel w ρ rw N u7 s7) : Rel w ρ rw N (.agg #[u0, u1, u2, u3, u4, u5, u6, u7]) (.agg [s0, s1, s2, s3, s4, s5, s6, s7]) := by
  refine .agg _ _ rfl ?_ ?_
  · intro v hv
    simp at hv
    rcases hv with rfl | rfl | rfl | rfl | rfl | rfl | rfl | rfl <;> assumption
  · intro i v s hv hs
    match i with
    | 0 => simp at hv hs; subst hv hs; exact r0
    | 1 => simp at hv hs; subst hv hs; exact r1
    | 2 => simp at hv hs; subst hv hs; exact r2
    | 3 => simp at hv hs; subst hv hs; exact r3
    | 4 => simp at hv hs; subst hv hs; exact r4
    | 5 => simp at hv hs; subst hv hs; exact r5
    | 6 => simp at hv hs; subst hv hs; exact r6
    | 7 => simp at hv hs; subst hv hs; exact r7
    | n + 8 => simp at hv
theorem open_entry {W : World} {b0 base : Nat} {spare : Nat → Bool} {held : Bool} {r : Reach} {t : TypeId} {f0 f1 f2 f3 f4 f5 f6 : Field} {g00 g01 : Field} {v : Value} {d : DataW H} {p : List MemPlace} (hs : P.underlying t = some (.struct #[f0, f1, f2, f3, f4, f5, f6])) (hC : P.cellsOf t = 8)
    (o0 : f0.offset = 0) (k0 : P.cellsOf f0.type = 2) (o1 : f1.offset = 2) (k1 : P.cellsOf f1.type = 1) (o2 : f2.offset = 3) (k2 : P.cellsOf f2.type = 1) (o3 : f3.offset = 4) (k3 : P.cellsOf f3.type = 1) (o4 : f4.offset = 5) (k4 : P.cellsOf f4.type = 1) (o5 : f5.offset = 6) (k5 : P.cellsOf f5.type = 1) (o6 : f6.offset = 7) (k6 : P.cellsOf f6.type = 1) (hs0 : P.underlying f0.type = some (.struct #[g00, g01])) (hone0 : oneCellFields P #[g00, g01] = true) 
    (hv : Value.okWide P W r b0 t v) (h : DataW.Trod enc P W base spare held t v d p) :
    ∃ (c0 c1 c2 c3 c4 c5 c6 c7 : Value) (y00 y01 y1 y2 y3 y4 y5 y6 : DataW H × List MemPlace) (n m0 : Nat), v = .agg #[c0, c1, c2, c3, c4, c5, c6, c7] ∧ d = .agg [.agg [y00.1, y01.1], y1.1, y2.1, y3.1, y4.1, y5.1, y6.1] ∧ p = (y00.2 ++ (y01.2)) ++ (y1.2 ++ (y2.2 ++ (y3.2 ++ (y4.2 ++ (y5.2 ++ (y6.2)))))) ∧
      DataW.trod enc P W base spare held m0 g00.type [c0] = some y00 ∧ DataW.trod enc P W base spare held m0 g01.type [c1] = some y01 ∧ DataW.trod enc P W base spare held n f1.type [c2] = some y1 ∧ DataW.trod enc P W base spare held n f2.type [c3] = some y2 ∧ DataW.trod enc P W base spare held n f3.type [c4] = some y3 ∧ DataW.trod enc P W base spare held n f4.type [c5] = some y4 ∧ DataW.trod enc P W base spare held n f5.type [c6] = some y5 ∧ DataW.trod enc P W base spare held n f6.type [c7] = some y6 := by
  obtain ⟨cs, rfl, hsz⟩ := okWide_struct hs hv
  obtain ⟨c0, c1, c2, c3, c4, c5, c6, c7, rfl⟩ := array8 (hsz.trans hC)
  obtain ⟨fuel, hf⟩ := h
  obtain ⟨xs, n, _, hx, hl, hlen, hf⟩ := DataW.trod_struct hs hf
  match xs, hlen with
  | [w0, w1, w2, w3, w4, w5, w6], _ =>
    simp only [Prod.mk.injEq] at hx
    have q0 := hf 0 f0 rfl
    rw [o0, k0] at q0
    have q1 := hf 1 f1 rfl
    rw [o1, k1] at q1
    have q2 := hf 2 f2 rfl
    rw [o2, k2] at q2
    have q3 := hf 3 f3 rfl
    rw [o3, k3] at q3
    have q4 := hf 4 f4 rfl
    rw [o4, k4] at q4
    have q5 := hf 5 f5 rfl
    rw [o5, k5] at q5
    have q6 := hf 6 f6 rfl
    rw [o6, k6] at q6
    have q0 : DataW.trod enc P W base spare held n f0.type [c0, c1] = some w0 := by simpa [Value.cells] using q0
    obtain ⟨xs0, m0, _, hx0, _, hlen0, hf0⟩ := DataW.trod_struct hs0 q0
    match xs0, hlen0 with
    | [y00, y01], _ =>
    obtain ⟨oo00, kk00⟩ := hone_of hone0 0 g00 rfl
    have qq00 := hf0 0 g00 rfl
    rw [oo00, kk00] at qq00
    obtain ⟨oo01, kk01⟩ := hone_of hone0 1 g01 rfl
    have qq01 := hf0 1 g01 rfl
    rw [oo01, kk01] at qq01
    subst hx0
    refine ⟨c0, c1, c2, c3, c4, c5, c6, c7, y00, y01, w1, w2, w3, w4, w5, w6, n, m0, rfl, by simpa using hx.1, by simpa using hx.2, by simpa [Value.cells] using qq00, by simpa [Value.cells] using qq01, by simpa [Value.cells] using q1, by simpa [Value.cells] using q2, by simpa [Value.cells] using q3, by simpa [Value.cells] using q4, by simpa [Value.cells] using q5, by simpa [Value.cells] using q6⟩
theorem open_event {W : World} {b0 base : Nat} {spare : Nat → Bool} {held : Bool} {r : Reach} {t : TypeId} {f0 f1 : Field} {g10 g11 g12 g13 g14 g15 : Field} {v : Value} {d : DataW H} {p : List MemPlace} (hs : P.underlying t = some (.struct #[f0, f1])) (hC : P.cellsOf t = 7)
    (o0 : f0.offset = 0) (k0 : P.cellsOf f0.type = 1) (o1 : f1.offset = 1) (k1 : P.cellsOf f1.type = 6) (hs1 : P.underlying f1.type = some (.struct #[g10, g11, g12, g13, g14, g15])) (hone1 : oneCellFields P #[g10, g11, g12, g13, g14, g15] = true) 
    (hv : Value.okWide P W r b0 t v) (h : DataW.Trod enc P W base spare held t v d p) :
    ∃ (c0 c1 c2 c3 c4 c5 c6 : Value) (y0 y10 y11 y12 y13 y14 y15 : DataW H × List MemPlace) (n m1 : Nat), v = .agg #[c0, c1, c2, c3, c4, c5, c6] ∧ d = .agg [y0.1, .agg [y10.1, y11.1, y12.1, y13.1, y14.1, y15.1]] ∧ p = y0.2 ++ ((y10.2 ++ (y11.2 ++ (y12.2 ++ (y13.2 ++ (y14.2 ++ (y15.2))))))) ∧
      DataW.trod enc P W base spare held n f0.type [c0] = some y0 ∧ DataW.trod enc P W base spare held m1 g10.type [c1] = some y10 ∧ DataW.trod enc P W base spare held m1 g11.type [c2] = some y11 ∧ DataW.trod enc P W base spare held m1 g12.type [c3] = some y12 ∧ DataW.trod enc P W base spare held m1 g13.type [c4] = some y13 ∧ DataW.trod enc P W base spare held m1 g14.type [c5] = some y14 ∧ DataW.trod enc P W base spare held m1 g15.type [c6] = some y15 := by
  obtain ⟨cs, rfl, hsz⟩ := okWide_struct hs hv
  obtain ⟨c0, c1, c2, c3, c4, c5, c6, rfl⟩ := array7 (hsz.trans hC)
  obtain ⟨fuel, hf⟩ := h
  obtain ⟨xs, n, _, hx, hl, hlen, hf⟩ := DataW.trod_struct hs hf
  match xs, hlen with
  | [w0, w1], _ =>
    simp only [Prod.mk.injEq] at hx
    have q0 := hf 0 f0 rfl
    rw [o0, k0] at q0
    have q1 := hf 1 f1 rfl
    rw [o1, k1] at q1
    have q1 : DataW.trod enc P W base spare held n f1.type [c1, c2, c3, c4, c5, c6] = some w1 := by simpa [Value.cells] using q1
    obtain ⟨xs1, m1, _, hx1, _, hlen1, hf1⟩ := DataW.trod_struct hs1 q1
    match xs1, hlen1 with
    | [y10, y11, y12, y13, y14, y15], _ =>
    obtain ⟨oo10, kk10⟩ := hone_of hone1 0 g10 rfl
    have qq10 := hf1 0 g10 rfl
    rw [oo10, kk10] at qq10
    obtain ⟨oo11, kk11⟩ := hone_of hone1 1 g11 rfl
    have qq11 := hf1 1 g11 rfl
    rw [oo11, kk11] at qq11
    obtain ⟨oo12, kk12⟩ := hone_of hone1 2 g12 rfl
    have qq12 := hf1 2 g12 rfl
    rw [oo12, kk12] at qq12
    obtain ⟨oo13, kk13⟩ := hone_of hone1 3 g13 rfl
    have qq13 := hf1 3 g13 rfl
    rw [oo13, kk13] at qq13
    obtain ⟨oo14, kk14⟩ := hone_of hone1 4 g14 rfl
    have qq14 := hf1 4 g14 rfl
    rw [oo14, kk14] at qq14
    obtain ⟨oo15, kk15⟩ := hone_of hone1 5 g15 rfl
    have qq15 := hf1 5 g15 rfl
    rw [oo15, kk15] at qq15
    subst hx1
    refine ⟨c0, c1, c2, c3, c4, c5, c6, w0, y10, y11, y12, y13, y14, y15, n, m1, rfl, by simpa using hx.1, by simpa using hx.2, by simpa [Value.cells] using q0, by simpa [Value.cells] using qq10, by simpa [Value.cells] using qq11, by simpa [Value.cells] using qq12, by simpa [Value.cells] using qq13, by simpa [Value.cells] using qq14, by simpa [Value.cells] using qq15⟩
end
end Go.Vd

set_option linter.unusedVariables false
namespace Go.Vd
open Go.Proofs Go.ChangeShapes Go.WideShapes Go.ChangeAt Go.RowKit Go.Joins Go.Deep Go.WideElems
section
variable {H : Type} {enc : TypeId × Value → H} {P : Program}
theorem ens_list {α : Type} {cs : List α} (h : cs.length = 8) : ∃ c0 c1 c2 c3 c4 c5 c6 c7, cs = [c0, c1, c2, c3, c4, c5, c6, c7] := by
  match cs, h with
  | [c0, c1, c2, c3, c4, c5, c6, c7], _ => exact ⟨c0, c1, c2, c3, c4, c5, c6, c7, rfl⟩
theorem ens_one {W : World} {ad : Addr} {n : Nat} {el : DataW H × List MemPlace} {e : TypeId} {f0 f1 f2 f3 f4 f5 f6 g00 g01 : Field} (hs : P.underlying e = some (.struct #[f0, f1, f2, f3, f4, f5, f6])) (hC : P.cellsOf e = 8)
    (o0 : f0.offset = 0) (k0 : P.cellsOf f0.type = 2) (hs0 : P.underlying f0.type = some (.struct #[g00, g01])) (hone0 : oneCellFields P #[g00, g01] = true) (o1 : f1.offset = 2) (k1 : P.cellsOf f1.type = 1) (o2 : f2.offset = 3) (k2 : P.cellsOf f2.type = 1) (o3 : f3.offset = 4) (k3 : P.cellsOf f3.type = 1) (o4 : f4.offset = 5) (k4 : P.cellsOf f4.type = 1) (o5 : f5.offset = 6) (k5 : P.cellsOf f5.type = 1) (o6 : f6.offset = 7) (k6 : P.cellsOf f6.type = 1) 
    (u0 : P.underlying g00.type = some (.int .u32)) (u1 : P.underlying g01.type = some (.string)) (u2 : P.underlying f1.type = some (.int .i64)) (u3 : P.underlying f2.type = some (.string)) (u4 : P.underlying f3.type = some (.int .u64)) (u5 : P.underlying f4.type = some (.string)) (u6 : P.underlying f5.type = some (.int .i64)) (u7 : P.underlying f6.type = some (.int .i64)) 
    (h : (W.cells? 0 ad 8).bind (DataW.trod enc P W 0 (fun _ => true) true n e) = some el) :
    ∃ x : Ent, ∀ j, j < 8 → ∃ v, W.cell? (ad.add j) = some v ∧ Vd.one v ∧ RelC W (fun _ => False) v (getAt (eE std fun _ => x) j) := by
  obtain ⟨cs, hcs, hf⟩ := Option.bind_eq_some_iff.1 h
  obtain ⟨_, hlen, hcell⟩ := World.cells?_some hcs
  obtain ⟨c0, c1, c2, c3, c4, c5, c6, c7, rfl⟩ := ens_list hlen
  obtain ⟨xs, n', _, hx, hl, hlen2, hf⟩ := DataW.trod_struct hs hf
  match xs, hlen2 with
  | [w0, w1, w2, w3, w4, w5, w6], _ =>
    have q0 := hf 0 f0 rfl
    rw [o0, k0] at q0
    have q0 : DataW.trod enc P W 0 (fun _ => true) true n' f0.type [c0, c1] = some w0 := by simpa using q0
    obtain ⟨xs0, m0, _, hx0, _, hlen0, hf0⟩ := DataW.trod_struct hs0 q0
    match xs0, hlen0 with
    | [y00, y01], _ =>
    obtain ⟨oo00, kk00⟩ := hone_of hone0 0 g00 rfl
    have qq00 := hf0 0 g00 rfl
    rw [oo00, kk00] at qq00
    obtain ⟨oo01, kk01⟩ := hone_of hone0 1 g01 rfl
    have qq01 := hf0 1 g01 rfl
    rw [oo01, kk01] at qq01
    have q1 := hf 1 f1 rfl
    rw [o1, k1] at q1
    have q1 : DataW.trod enc P W 0 (fun _ => true) true n' f1.type [c2] = some w1 := by simpa using q1
    have q2 := hf 2 f2 rfl
    rw [o2, k2] at q2
    have q2 : DataW.trod enc P W 0 (fun _ => true) true n' f2.type [c3] = some w2 := by simpa using q2
    have q3 := hf 3 f3 rfl
    rw [o3, k3] at q3
    have q3 : DataW.trod enc P W 0 (fun _ => true) true n' f3.type [c4] = some w3 := by simpa using q3
    have q4 := hf 4 f4 rfl
    rw [o4, k4] at q4
    have q4 : DataW.trod enc P W 0 (fun _ => true) true n' f4.type [c5] = some w4 := by simpa using q4
    have q5 := hf 5 f5 rfl
    rw [o5, k5] at q5
    have q5 : DataW.trod enc P W 0 (fun _ => true) true n' f5.type [c6] = some w5 := by simpa using q5
    have q6 := hf 6 f6 rfl
    rw [o6, k6] at q6
    have q6 : DataW.trod enc P W 0 (fun _ => true) true n' f6.type [c7] = some w6 := by simpa using q6
    obtain ⟨z0, e0, _, wf0⟩ := DataW.trod_int (cs := [c0]) u0 (by simpa using qq00)
    obtain ⟨s1, e1, _, _⟩ := DataW.trod_string (cs := [c1]) u1 (by simpa using qq01)
    obtain ⟨z2, e2, _, wf2⟩ := DataW.trod_int (cs := [c2]) u2 q1
    obtain ⟨s3, e3, _, _⟩ := DataW.trod_string (cs := [c3]) u3 q2
    obtain ⟨z4, e4, _, wf4⟩ := DataW.trod_int (cs := [c4]) u4 q3
    obtain ⟨s5, e5, _, _⟩ := DataW.trod_string (cs := [c5]) u5 q4
    obtain ⟨z6, e6, _, wf6⟩ := DataW.trod_int (cs := [c6]) u6 q5
    obtain ⟨z7, e7, _, wf7⟩ := DataW.trod_int (cs := [c7]) u7 q6
    simp only [List.cons.injEq, and_true] at e0 e1 e2 e3 e4 e5 e6 e7
    subst e0 e1 e2 e3 e4 e5 e6 e7
    refine ⟨⟨z0, s1.data.toList, z2, s3.data.toList, z4, s5.data.toList, z6, z7⟩, fun j hj => ?_⟩
    have hcj := hcell j (by omega)
    match j, hj with
    | 0, _ => exact ⟨.int .u32 z0, by simpa using hcj, rfl, .int _ _⟩
    | 1, _ => exact ⟨.string s1, by simpa using hcj, rfl, .str _⟩
    | 2, _ => exact ⟨.int .i64 z2, by simpa using hcj, rfl, .int _ _⟩
    | 3, _ => exact ⟨.string s3, by simpa using hcj, rfl, .str _⟩
    | 4, _ => exact ⟨.int .u64 z4, by simpa using hcj, rfl, .int _ _⟩
    | 5, _ => exact ⟨.string s5, by simpa using hcj, rfl, .str _⟩
    | 6, _ => exact ⟨.int .i64 z6, by simpa using hcj, rfl, .int _ _⟩
    | 7, _ => exact ⟨.int .i64 z7, by simpa using hcj, rfl, .int _ _⟩
theorem open_ens_trod {W : World} {t e : TypeId} {v : Value} {fuel : Nat} {x : DataW H × List MemPlace} (ht : P.underlying t = some (.slice e)) {f0 f1 f2 f3 f4 f5 f6 g00 g01 : Field} (hs : P.underlying e = some (.struct #[f0, f1, f2, f3, f4, f5, f6])) (hC : P.cellsOf e = 8)
    (o0 : f0.offset = 0) (k0 : P.cellsOf f0.type = 2) (hs0 : P.underlying f0.type = some (.struct #[g00, g01])) (hone0 : oneCellFields P #[g00, g01] = true) (o1 : f1.offset = 2) (k1 : P.cellsOf f1.type = 1) (o2 : f2.offset = 3) (k2 : P.cellsOf f2.type = 1) (o3 : f3.offset = 4) (k3 : P.cellsOf f3.type = 1) (o4 : f4.offset = 5) (k4 : P.cellsOf f4.type = 1) (o5 : f5.offset = 6) (k5 : P.cellsOf f5.type = 1) (o6 : f6.offset = 7) (k6 : P.cellsOf f6.type = 1) 
    (u0 : P.underlying g00.type = some (.int .u32)) (u1 : P.underlying g01.type = some (.string)) (u2 : P.underlying f1.type = some (.int .i64)) (u3 : P.underlying f2.type = some (.string)) (u4 : P.underlying f3.type = some (.int .u64)) (u5 : P.underlying f4.type = some (.string)) (u6 : P.underlying f5.type = some (.int .i64)) (u7 : P.underlying f6.type = some (.int .i64)) 
    (h : DataW.trod enc P W 0 (fun _ => true) true fuel t [v] = some x) :
    ∃ L : List (Ent), L.length ≤ maxLen ∧ Vd.one v ∧ RelC W (fun _ => False) v (rowS eE E0 8 std fun _ => L) := by
  rcases DataW.trod_slice ht h with ⟨hcs, _⟩ | ⟨a, len, cap, elems, rest, n, _, hcs, _, _, hl, hm, hel, hx, _, _⟩
  · simp only [List.cons.injEq, and_true] at hcs
    subst hcs
    exact ⟨[], Nat.zero_le _, rfl, .slc none 0 0 8 _ (fun _ _ => undef) (Nat.le_refl _) (fun i j hi => absurd hi (by omega)) (fun h => absurd h (by omega)) (fun i j hi => absurd hi (by omega))⟩
  · simp only [List.cons.injEq, and_true] at hcs
    subst hcs
    rw [hC] at hx
    have each : ∀ i, i < len → ∃ x : Ent, ∀ j, j < 8 → ∃ v, W.cell? ((a.add (i * 8)).add j) = some v ∧ Vd.one v ∧ RelC W (fun _ => False) v (getAt (eE std fun _ => x) j) := by
      intro i hi
      have h1 := hx i hi
      rw [List.getElem?_eq_getElem (by omega)] at h1
      exact ens_one hs hC o0 k0 hs0 hone0 o1 k1 o2 k2 o3 k3 o4 k4 o5 k5 o6 k6 u0 u1 u2 u3 u4 u5 u6 u7 h1
    obtain ⟨F, hF⟩ : ∃ F : Nat → Ent, ∀ i, i < len → ∀ j, j < 8 → ∃ v, W.cell? ((a.add (i * 8)).add j) = some v ∧ Vd.one v ∧ RelC W (fun _ => False) v (getAt (eE std fun _ => F i) j) :=
      ⟨fun i => if h : i < len then Classical.choose (each i h) else E0, fun i h => by simp only [dif_pos h]; exact Classical.choose_spec (each i h)⟩
    have hadd : ∀ i j, a.add (i * 8 + j) = (a.add (i * 8)).add j := fun i j => by
      unfold Addr.add
      by_cases h1 : i = 0
      · subst h1
        simp
      · by_cases h2 : j = 0
        · subst h2
          simp
        · rw [if_neg (by omega), if_neg h2, if_neg (show ¬ i * 8 = 0 by omega)]
          simp [Nat.add_assoc]
    let L : List (Ent) := (List.range len).map F
    have hlen : L.length = len := by simp [L]
    refine ⟨L, by rw [hlen]; omega, rfl, ?_⟩
    show RelC W (fun _ => False) _ (.slc L.length 8 (rowF eE E0 std fun _ => L))
    rw [hlen]
    have hget : ∀ i, i < len → L.getD i E0 = F i := fun i hi => by simp [L, List.getD_eq_getElem?_getD, hi]
    refine .slc (some a) len cap 8 _ (fun i j => (W.cell? (a.add (i * 8 + j))).getD undef) hl (fun i j hi hj => ?_) (fun h0 => ⟨a, rfl, ?_⟩) (fun i j hi hj => ?_)
    · obtain ⟨v, h1, h2, _⟩ := hF i hi j hj
      rw [hadd, h1]
      exact ⟨a, rfl, (hadd i j).symm ▸ h1, h2, fun h => h⟩
    · obtain ⟨v, h1, _⟩ := hF 0 h0 0 (by omega)
      simpa [Addr.add] using World.cell?_spot h1
    · obtain ⟨v, h1, _, h3⟩ := hF i hi j hj
      simp only [hadd, h1, Option.getD_some]
      show RelC W _ v (getAt (eE std fun _ => L.getD i E0) j)
      rw [hget i hi]
      exact h3
theorem open_ens_rel {W : World} {base : Nat} {t e : TypeId} {v : Value} {d : DataW H} {p : List MemPlace} {ρ : Nat → Value} {N : Nat → Prop} (ht : P.underlying t = some (.slice e)) {f0 f1 f2 f3 f4 f5 f6 g00 g01 : Field} (hs : P.underlying e = some (.struct #[f0, f1, f2, f3, f4, f5, f6])) (hC : P.cellsOf e = 8)
    (o0 : f0.offset = 0) (k0 : P.cellsOf f0.type = 2) (hs0 : P.underlying f0.type = some (.struct #[g00, g01])) (hone0 : oneCellFields P #[g00, g01] = true) (o1 : f1.offset = 2) (k1 : P.cellsOf f1.type = 1) (o2 : f2.offset = 3) (k2 : P.cellsOf f2.type = 1) (o3 : f3.offset = 4) (k3 : P.cellsOf f3.type = 1) (o4 : f4.offset = 5) (k4 : P.cellsOf f4.type = 1) (o5 : f5.offset = 6) (k5 : P.cellsOf f5.type = 1) (o6 : f6.offset = 7) (k6 : P.cellsOf f6.type = 1) 
    (u0 : P.underlying g00.type = some (.int .u32)) (u1 : P.underlying g01.type = some (.string)) (u2 : P.underlying f1.type = some (.int .i64)) (u3 : P.underlying f2.type = some (.string)) (u4 : P.underlying f3.type = some (.int .u64)) (u5 : P.underlying f4.type = some (.string)) (u6 : P.underlying f5.type = some (.int .i64)) (u7 : P.underlying f6.type = some (.int .i64)) 
    (hval : Value.okWide P W .any base t v) (h : DataW.Trod enc P W 0 (fun _ => true) true t v d p) :
    ∃ L : List (Ent), L.length ≤ maxLen ∧ Rel W ρ (fun _ => False) N v (rowS eE E0 8 std fun _ => L) := by
  obtain ⟨a1, len, cap, rfl⟩ := okWide_slice ht hval
  obtain ⟨fuel, hf⟩ := h
  simp only [Value.cells] at hf
  obtain ⟨L, hL, _, hr⟩ := open_ens_trod ht hs hC o0 k0 hs0 hone0 o1 k1 o2 k2 o3 k3 o4 k4 o5 k5 o6 k6 u0 u1 u2 u3 u4 u5 u6 u7 (by simpa using hf)
  exact ⟨L, hL, hr.rel⟩
end
end Go.Vd

